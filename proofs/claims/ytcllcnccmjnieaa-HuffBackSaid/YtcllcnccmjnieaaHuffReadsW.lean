/- Walks over layer 3: the law of reading. -/
import Derived.Test.YtcllcnccmjnieaaHuffNext
namespace Go.Proofs.Ytcllcnccmjnieaa
open Go.RowKit Huff Bit
set_option linter.unusedVariables false
set_option maxRecDepth 100000

theorem BookV.size {w : World} {base : Nat} {l : List Nat} {bv : Value} (h : BookV w base l bv) : ∃ T : Array Value, bv = .agg T ∧ T.size = 32 ∧ T.all (·.oneCell') = true ∧ (Try.prog.info? 44).map (·.size) = some T.size := by
  obtain ⟨v, h1, h9, h2⟩ := h
  exact ⟨_, h1, rfl, h9, by kernel_rfl⟩
theorem own_vals {w : World} {base n c : Nat} {e : TypeId} {a : Option Addr} {xs : List Value} (h : w.ownsRow base e 1 (.slice a n c) n xs) : Vals w w.heap.size 1 a n xs := by
  obtain ⟨a2, c2, e, _, _, h2⟩ := Vals.of_own h
  injection e with e1 _ _
  subst e1
  exact h2
theorem Only.beyond {w w' : World} {gr : Nat} {B : Nat} (h : Only (fun b => b = gr) w w') (hg : B ≤ gr) (hB : B ≤ w.heap.size) : Below B w w' := h.below (fun b hb e => by subst e; omega) hB

set_option maxHeartbeats 16000000 in
theorem huffReads_walk (zs : List Int) (A : Option Addr) (c : Nat) (bs : List Nat) (A2 : Option Addr) (c2 : Nat) (w : World) (hr : ∀ x ∈ zs, -9223372036854775808 ≤ x ∧ x < 9223372036854775808) (hlc : zs.length ≤ c) (hcm : c ≤ maxLen) (hN : Ints w w.heap.size A zs)
    (hbd : ∀ x ∈ bs, x < 256) (hlc2 : bs.length ≤ c2) (hcm2 : c2 ≤ maxLen) (hN2 : Nums .u8 w w.heap.size A2 bs) (hz2 : A2 = none → c2 = 0) :
    Calls Try.prog 4 #[.slice A zs.length c, .slice A2 bs.length c2] w fun e w' => e = .returned (.bool true) ∧ Below w.heap.size w w' := by
  have Hl := Lib.hid live03_any
  clear hr hlc hcm hcm2
  by_cases hbig : 40 < zs.length
  · have d1 : decide ((40 : Int) < (zs.length : Int)) = true := decide_eq_true (by omega)
    have d2 : decide (40 < zs.length) = true := decide_eq_true hbig
    clear hN hbig hbd hlc2 hN2 hz2
    go_enter Try.func4, Try.ntmps4
    go_wp2_with fail
    refine (Hl.out _).mono ?_
    rintro e X ⟨rfl, hX⟩
    have HX := Lib.hid hX
    clear hX
    go_wp2_with fail
    go_ret
    exact ⟨rfl, HX.out⟩
  have d1 : decide ((40 : Int) < (zs.length : Int)) = false := decide_eq_false (by omega)
  have d2 : decide (40 < zs.length) = false := decide_eq_false hbig
  by_cases hbig2 : 40 < bs.length
  · have d3 : decide ((40 : Int) < (bs.length : Int)) = true := decide_eq_true (by omega)
    have d4 : decide (40 < bs.length) = true := decide_eq_true hbig2
    clear hN hbig hbd hlc2 hN2 hz2 hbig2
    go_enter Try.func4, Try.ntmps4
    go_wp2_with fail
    refine (Hl.out _).mono ?_
    rintro e X ⟨rfl, hX⟩
    have HX := Lib.hid hX
    clear hX
    go_wp2_with fail
    go_ret
    exact ⟨rfl, HX.out⟩
  have d3 : decide ((40 : Int) < (bs.length : Int)) = false := decide_eq_false (by omega)
  have d4 : decide (40 < bs.length) = false := decide_eq_false hbig2
  obtain ⟨E, hE⟩ : ∃ E, errOf zs true = E := ⟨_, rfl⟩
  have HRr := Lib.hid fun W (hI : Ints W W.heap.size A zs) => refRight03_any A c zs true W hI (by omega) E hE
  have HN := Lib.hid hN
  have Hcode := Lib.hid code03_any
  by_cases hE0 : E = 0
  · subst hE0
    have hok : okL zs = true := by
      unfold errOf at hE
      by_cases h : okL zs = false
      · rw [if_pos h] at hE; omega
      · simpa using h
    obtain ⟨b0, b1, b2⟩ := okL_bounds hok
    have hkr : kr (nats zs) ≤ 32768 := by
      unfold errOf at hE
      rw [if_neg (by simp [hok])] at hE
      by_cases h1 : 32768 < kr (nats zs)
      · rw [if_pos h1] at hE; omega
      · omega
    have Hnew := Lib.hid fun W (hI : Ints W W.heap.size A zs) => new_yes A c zs true W hI (by omega) hE
    have hln : (nats zs).length = zs.length := by simp [nats]
    have Hcs := Lib.hid fun W (hI : Ints W W.heap.size A zs) => codes_any A c (nats zs) W (hI.to_nums b1) (by omega) b2
    have Hmk := Lib.hid fun W (hI : Ints W W.heap.size A zs) => make_any A c (nats zs) W (hI.to_nums b1) (by omega) b2
    unfold CodesPost at Hcs
    unfold MakePost at Hmk
    rw [hln] at Hcs Hmk
    have Hnr := Lib.hid fun W (h : Nums .u8 W W.heap.size A2 bs) => newReader_any A2 c2 bs W h (by omega) (fun e => by have := hz2 e; exact ⟨this, List.eq_nil_of_length_eq_zero (by omega)⟩)
    have Hbits := Lib.hid fun W (h : Nums .u8 W W.heap.size A2 bs) => refBits_any A2 c2 bs W h (by omega) hbd
    have HN2 := Lib.hid hN2
    have Hrd := Lib.hid fun B g gr p ca a W (hK : KeptC B W g (nats zs)) (hgr : B ≤ gr) (hRd : Rd W gr a ca bs p) (hp : p ≤ 8 * bs.length) R hR => read_any B g gr p ca a bs (nats zs) W hK hgr hRd (by omega) hbd (by omega) hp R hR
    have Hrr := Lib.hid fun gs p cb ab W (hW : Whole W gs 9 (strs (texts (nats zs))).toArray) (hV : Vals W W.heap.size 1 ab (8 * bs.length) (bools (bitsFrom bs 0 (8 * bs.length)))) (hp : p ≤ 8 * bs.length) R hR => refRead_any gs p (8 * bs.length) cb ab (nats zs) bs W hW hV (by omega) b2 hkr (by omega) hp R hR
    have Hnx := Lib.hid fun base bv p cb ab W (hB : BookV W base (nats zs) bv) (hV : Vals W W.heap.size 1 ab (8 * bs.length) (bools (bitsFrom bs 0 (8 * bs.length)))) (hp : p ≤ 8 * bs.length) R hR => refNext_any base bv p (8 * bs.length) cb ab (nats zs) bs W hB hV (by omega) (by omega) hp R hR
    rw [hln] at Hrr
    unfold ReadPost at Hrd
    unfold Rd3 at Hrr
    unfold Rd3B at Hnx
    obtain ⟨L, hL⟩ : ∃ L, L = zs.length := ⟨_, rfl⟩
    obtain ⟨M, hM⟩ : ∃ M, M = bs.length := ⟨_, rfl⟩
    obtain ⟨N, hNN⟩ : ∃ N, N = 8 * M := ⟨_, rfl⟩
    rw [← hL] at HRr Hnew Hcs Hmk Hrr d1 d2 ⊢
    rw [← hM] at Hnr Hbits Hrd Hrr Hnx d3 d4 ⊢
    rw [← hNN] at Hbits Hrd Hrr Hnx
    have hN320 : N ≤ 320 := by omega
    generalize hll : nats zs = l at *
    clear hll hok b0 b1 b2 hkr hln hL hE hN hN2 hbig hbig2 hz2 hbd hlc2 hM hNN
    go_enter Try.func4, Try.ntmps4
    go_wp2_with fail
    refine (Hnew.out _ HN.out).mono ?_
    rintro e X1 ⟨g, rfl, hC, hB⟩
    have HK1 := Lib.hid (KeptC.start hC)
    have HB1 := Lib.hid hB
    have HN1 := Lib.hid ((HN.out.below hB).more hB.size)
    have HNN1 := Lib.hid ((HN2.out.below hB).more hB.size)
    clear hC hB HN HN2 Hnew
    obtain ⟨B, hBB⟩ : ∃ B, B = X1.heap.size := ⟨_, rfl⟩
    rw [← hBB] at HK1
    have HwB : Hid (w.heap.size ≤ B) := by rw [hBB]; exact HB1.out.size
    go_wp2_with fail
    refine (HRr.out _ HN1.out).mono ?_
    rintro e X ⟨rfl, rfl⟩
    go_wp2_with fail
    refine (Hnr.out _ HNN1.out).mono ?_
    rintro e X2 ⟨gr, a', c', rfl, hR, hgr, hB⟩
    have Hgr : Hid (B ≤ gr) := by rw [hBB]; exact hgr
    have HR2 := Lib.hid hR
    have HK2 := Lib.hid (HK1.out.more (by rw [hBB]; exact hB))
    have HB2 := Lib.hid (below_thenH HB1.out hB HB1.out.size)
    have HN2 := Lib.hid ((HN1.out.below hB).more hB.size)
    have HNN2 := Lib.hid ((HNN1.out.below hB).more hB.size)
    have hgr2 : gr < X2.heap.size := hR.1.lt
    clear hR hgr hB HK1 HB1 HN1 HNN1 Hnr HRr hBB
    go_wp2_with fail
    refine (Hcs.out _ HN2.out).mono ?_
    rintro e X3 ⟨gs, rfl, hW, hB, hgs⟩
    have HW3 := Lib.hid hW
    have Hgs : Hid (gr ≠ gs) := by show _ ≠ _; omega
    have HR3 := Lib.hid (HR2.out.below hB)
    have HK3 := Lib.hid (HK2.out.more (hB.mono HK2.out.le))
    have HB3 := Lib.hid (below_thenH HB2.out hB HB2.out.size)
    have HN3 := Lib.hid ((HN2.out.below hB).more hB.size)
    have HNN3 := Lib.hid ((HNN2.out.below hB).more hB.size)
    have hgr3 : gr < X3.heap.size := Nat.lt_of_lt_of_le hgr2 hB.size
    clear hW hB hgs HR2 HK2 HB2 HN2 HNN2 Hcs hgr2
    go_wp2_with fail
    refine (Hmk.out _ HN3.out).mono ?_
    rintro e X4 ⟨bv, rfl, hV, hB⟩
    have HV4 := Lib.hid hV
    have HW4 := Lib.hid (HW3.out.below hB HW3.out.lt)
    have HR4 := Lib.hid (HR3.out.below hB)
    have HK4 := Lib.hid (HK3.out.more (hB.mono HK3.out.le))
    have HB4 := Lib.hid (below_thenH HB3.out hB HB3.out.size)
    have HNN4 := Lib.hid ((HNN3.out.below hB).more hB.size)
    have hgr4 : gr < X4.heap.size := Nat.lt_of_lt_of_le hgr3 hB.size
    obtain ⟨base, hbase⟩ : ∃ b, b = X3.heap.size := ⟨_, rfl⟩
    rw [← hbase] at HV4
    have Hbase : Hid (gr < base) := by rw [hbase]; exact hgr3
    clear hV hB HW3 HR3 HK3 HB3 HN3 HNN3 Hmk hgr3 hbase
    go_wp2_with fail
    refine (Hbits.out _ HNN4.out).mono ?_
    rintro e X5 ⟨vb, rfl, hO, hB⟩
    obtain ⟨ab, cb, rfl, _, _, hVs⟩ := Vals.of_own hO
    have HO5 := Lib.hid hO
    have HV5 := Lib.hid (HV4.out.below hB)
    have HW5 := Lib.hid (HW4.out.below hB HW4.out.lt)
    have HR5 := Lib.hid (HR4.out.below hB)
    have HK5 := Lib.hid (HK4.out.more (hB.mono HK4.out.le))
    have HB5 := Lib.hid (below_thenH HB4.out hB HB4.out.size)
    have hgr5 : gr < X5.heap.size := Nat.lt_of_lt_of_le hgr4 hB.size
    obtain ⟨base2, hbase2⟩ : ∃ b, b = X4.heap.size := ⟨_, rfl⟩
    rw [← hbase2] at HO5
    have Hbase2 : Hid (gr < base2) := by rw [hbase2]; exact hgr4
    obtain ⟨T, rfl, hT1, hT2, hT3⟩ := HV5.out.size
    have HT1 := Lib.hid hT1
    have HT2 := Lib.hid hT2
    have HT3 := Lib.hid hT3
    clear hO hVs hB HV4 HW4 HR4 HK4 HB4 HNN4 Hbits hgr4 hbase2 hT1 hT2 hT3
    have Hold : Hid ((#[.int .i64 0, .int .i64 0, .int .i64 0, .int .i64 0, .int .i64 0, .int .i64 0, .int .i64 0, .int .i64 0, .int .i64 0, .int .i64 0, .int .i64 0, .int .i64 0, .int .i64 0, .int .i64 0, .int .i64 0, .int .i64 0, .slice none 0 0, .slice none 0 0, .slice none 0 0, .slice none 0 0, .slice none 0 0, .slice none 0 0, .slice none 0 0, .slice none 0 0, .slice none 0 0, .slice none 0 0, .slice none 0 0, .slice none 0 0, .slice none 0 0, .slice none 0 0, .slice none 0 0, .slice none 0 0] : Array Value).size = T.size) := by show _ = _; rw [HT1.out]; rfl
    go_wp2_with (refine wpList_store_row rfl 44 (.tmp 9) (.tmp 44) rfl X5.heap.size T rfl rfl 44 _ (heap_alloc_new X5 _) HT3.out Hold.out HT2.out ?_)
    obtain ⟨g9, hg9⟩ : ∃ g, g = X5.heap.size := ⟨_, rfl⟩
    obtain ⟨Y0, hY0⟩ : ∃ Y, Y = X5.alloc (.cells #[.int .i64 0, .int .i64 0, .int .i64 0, .int .i64 0, .int .i64 0, .int .i64 0, .int .i64 0, .int .i64 0, .int .i64 0, .int .i64 0, .int .i64 0, .int .i64 0, .int .i64 0, .int .i64 0, .int .i64 0, .int .i64 0, .slice none 0 0, .slice none 0 0, .slice none 0 0, .slice none 0 0, .slice none 0 0, .slice none 0 0, .slice none 0 0, .slice none 0 0, .slice none 0 0, .slice none 0 0, .slice none 0 0, .slice none 0 0, .slice none 0 0, .slice none 0 0, .slice none 0 0, .slice none 0 0] 44) := ⟨_, rfl⟩
    obtain ⟨Y, hY⟩ : ∃ Y, Y = Y0.setRow g9 T := ⟨_, rfl⟩
    have hB : Below X5.heap.size X5 Y := by rw [hY, hY0]; exact below_setRow ((Below.refl _ _).alloc (Nat.le_refl _) _) (by rw [hg9]; exact Nat.le_refl _) _
    have HW9 : Hid (Whole Y g9 44 T) := by rw [hY, hY0, hg9]; exact Whole.row (heap_alloc_new X5 _) _
    have Hg9 : Hid (gr ≠ g9) := by show _ ≠ _; omega
    rw [← hg9, ← hY0, ← hY]
    have HO6 := Lib.hid (own_only HO5.out (Only.of_below hB (fun _ => False)) (fun _ _ h => h))
    have HV6 := Lib.hid (HV5.out.below hB)
    have HW6 := Lib.hid (HW5.out.below hB HW5.out.lt)
    have HR6 := Lib.hid (HR5.out.below hB)
    have HK6 := Lib.hid (HK5.out.more (hB.mono HK5.out.le))
    have HB6 := Lib.hid (below_thenH HB5.out hB HB5.out.size)
    have HKle := Lib.hid HK6.out.le
    have hle : ∀ p, p + 0 ≤ N → (scan l (bitOf bs) N p 15 0 0).2.1 ≤ N := fun p h => (scan_at l (bitOf bs) N p 15 0 0 h).2
    have Hle := Lib.hid hle
    clear hB hY hY0 hg9 HO5 HV5 HW5 HR5 HK5 HB5 hgr5 Hold HT1 HT2 hle
    go_loopw [11, 12] (fun x y W => ∃ (i p : Nat), i ≤ 100 ∧ p ≤ N ∧ y = .int .i64 (i : Int) ∧ x = .int .i64 (p : Int) ∧ Hid (Rd W gr a' c' bs p) ∧ Hid (Only (fun b => b = gr) Y W)) (fun _ y _ => 100 - (intOf y).toNat)
    case atStart => exact ⟨0, 0, by omega, by omega, rfl, rfl, HR6, Only.refl _ _⟩
    case round =>
      obtain ⟨i, p, hi, hp, rfl, rfl, HR, HO⟩ := hrel
      clear HR6
      by_cases hlt : i < 100
      · have f1 : decide ((i : Int) < 100) = true := decide_eq_true (by omega)
        have f2 : decide (i < 100) = true := decide_eq_true hlt
        obtain ⟨⟨r1, r2, r3⟩, hR⟩ : ∃ R, scan l (bitOf bs) N p 15 0 0 = R := ⟨_, rfl⟩
        have hr2 := Hle.out p (by omega)
        rw [hR] at hr2
        simp only at hr2
        have HKw := HK6.out.more (HO.out.beyond Hgr.out HKle.out)
        have Hq := Lib.hid (Hrd.out B g gr p c' a' wr HKw Hgr.out HR.out hp _ hR)
        have hRR := Lib.hid hR
        simp only at Hq
        have e1 : ((r1 : Int) != (r1 : Int)) = false := by simp
        have e2 : ((r2 : Int) != (r2 : Int)) = false := by simp
        have e3 : ((r3 : Int) != (r3 : Int)) = false := by simp
        have Hi : Hid (i < 100) := hlt
        clear HKw hR hlt
        go_wp2_with fail
        refine Hq.out.mono ?_
        rintro e X7 ⟨rfl, hR, hO⟩
        have HR7 := Lib.hid hR
        have HO7 : Hid (Only (fun b => b = gr) Y X7) := HO.out.trans hO (fun _ _ h => h)
        have HW7 := HW6.out.only HO7.out (fun e => Hgs.out e.symm)
        have HV7 := HV6.out.only HO7.out (fun b hb e => by have := Hbase.out; omega)
        have HO77 := own_only HO6.out HO7.out (fun b hb e => by have := (HO6.out.lt b hb).1; have := Hbase2.out; omega)
        have HV77 := own_vals HO77
        have Hq2 := Lib.hid (Hrr.out gs p cb ab X7 HW7 HV77 hp _ hRR.out)
        have Hq3 := Lib.hid (Hnx.out base _ p cb ab X7 HV7 HV77 hp _ hRR.out)
        simp only at Hq2 Hq3
        have HW97 := Lib.hid (HW9.out.only HO7.out (fun e => Hg9.out e.symm))
        clear hR hO HW7 HV7 HO77 HV77 Hq HR HO
        go_wp2_with fail
        refine Hq2.out.mono ?_
        rintro e X ⟨rfl, rfl⟩
        go_wp2_with (refine wpList_load_row rfl 44 (.tmp 9) rfl g9 rfl 44 T (0, 0) _ HW97.out Try.underlying44 rfl HT3.out ?_)
        refine Hq3.out.mono ?_
        rintro e X8 ⟨rfl, hB⟩
        have HR8 := Lib.hid (HR7.out.below hB)
        have HO8 : Hid (Only (fun b => b = gr) Y X8) := HO7.out.trans (Only.of_below hB _) (fun _ _ h => h)
        have Hat := Lib.hid (at_any gr a' c' bs r2 X8 HR8.out)
        clear hB Hq2 Hq3 HW97 HR7 HO7
        go_wp2_with fail
        refine (Hcode.out _ _).mono ?_
        rintro e X ⟨rfl, rfl⟩
        go_wp2_with fail
        refine Hat.out.mono ?_
        rintro e X ⟨rfl, rfl⟩
        by_cases hr3 : r3 = 0
        · subst hr3
          clear hRR
          go_wp2_with fail
          go_roundw
          case rel => exact ⟨i + 1, r2, by have := Hi.out; omega, hr2, by go_num, rfl, HR8, HO8⟩
          case measure => have := Hi.out; simp [intOf]; omega
        · have f3 : ((r3 : Int) != 0) = true := by simp [bne]; omega
          have HBf : Hid (Below w.heap.size w X8) := HB6.out.trans (HO8.out.below (fun b hb e => by have := Hgr.out; have := HwB.out; omega) HB6.out.size)
          clear hr3 hRR
          go_wp2_with fail
          refine (Hl.out _).mono ?_
          rintro e X9 ⟨rfl, hB⟩
          have HB9 := Lib.hid (below_thenH HBf.out hB HBf.out.size)
          clear hB
          go_wp2_with fail
          go_ret
          exact ⟨rfl, HB9.out⟩
      · have f1 : decide ((i : Int) < 100) = false := decide_eq_false (by omega)
        have f2 : decide (i < 100) = false := decide_eq_false hlt
        have HBf : Hid (Below w.heap.size w wr) := HB6.out.trans (HO.out.below (fun b hb e => by have := Hgr.out; have := HwB.out; omega) HB6.out.size)
        clear hlt
        go_wp2_with fail
        refine (Hl.out _).mono ?_
        rintro e X9 ⟨rfl, hB⟩
        have HB9 := Lib.hid (below_thenH HBf.out hB HBf.out.size)
        clear hB
        go_wp2_with fail
        go_ret
        exact ⟨rfl, HB9.out⟩
  · have Hnew := Lib.hid fun W (hI : Ints W W.heap.size A zs) => new_no A c zs true W hI (by omega) (by rw [hE]; exact hE0)
    unfold NewNo at Hnew
    rw [hE] at Hnew
    obtain ⟨L, hL⟩ : ∃ L, L = zs.length := ⟨_, rfl⟩
    obtain ⟨M, hM⟩ : ∃ M, M = bs.length := ⟨_, rfl⟩
    rw [← hL] at HRr Hnew d1 d2 ⊢
    rw [← hM] at d3 d4 ⊢
    have hE1 : ((E : Int) != 0) = true := by simp [bne]; omega
    clear hL hE hN hN2 hbig hbig2 hE0 hM hlc2 hz2 hbd
    go_enter Try.func4, Try.ntmps4
    go_wp2_with fail
    refine (Hnew.out _ HN.out).mono ?_
    rintro e X ⟨rfl, rfl⟩
    go_wp2_with fail
    refine (HRr.out _ HN.out).mono ?_
    rintro e X ⟨rfl, rfl⟩
    go_wp2_with fail
    refine (Hl.out _).mono ?_
    rintro e X9 ⟨rfl, hB⟩
    have HB9 := Lib.hid hB
    clear hB
    go_wp2_with fail
    go_ret
    exact ⟨rfl, HB9.out⟩
end Go.Proofs.Ytcllcnccmjnieaa
