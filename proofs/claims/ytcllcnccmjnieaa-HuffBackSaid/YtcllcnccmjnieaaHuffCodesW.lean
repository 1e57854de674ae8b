/- Walks over layer 3: the law of codes. -/
import Derived.Test.YtcllcnccmjnieaaHuffRef3
import Derived.Test.YtcllcnccmjnieaaHuff4
namespace Go.Proofs.Ytcllcnccmjnieaa
open Go.RowKit Huff Bit
set_option linter.unusedVariables false
set_option maxRecDepth 100000

theorem below_thenH {B : Nat} {w X Y : World} (h : Below B w X) (h2 : Below X.heap.size X Y) (hB : B ≤ X.heap.size) : Below B w Y := h.trans (h2.mono hB)
theorem digs_get (v : Nat) : ∀ n i, i < n → (digs v n)[i]? = some (48 + v / 2 ^ (n - 1 - i) % 2)
  | 0, i, h => by omega
  | n + 1, 0, h => by
    show ([48 + v / 2 ^ n % 2] ++ digs v n)[0]? = _
    simp
  | n + 1, i + 1, h => by
    show ([48 + v / 2 ^ n % 2] ++ digs v n)[i + 1]? = _
    rw [List.getElem?_append_right (by simp)]
    show (digs v n)[i + 1 - 1]? = _
    rw [show i + 1 - 1 = i by omega, digs_get v n i (by omega), show n + 1 - 1 - (i + 1) = n - 1 - i by omega]
theorem digs_byte (v n i : Nat) (h : i < n) (hs : i < (strOf (digs v n)).size) : ((strOf (digs v n))[i]'hs).toNat = 48 + v / 2 ^ (n - 1 - i) % 2 := by
  have h1 := digs_get v n i h
  have h2 : i < (digs v n).length := by rw [digs_length]; exact h
  have h3 : (digs v n)[i] = 48 + v / 2 ^ (n - 1 - i) % 2 := by rw [List.getElem?_eq_getElem h2] at h1; injection h1
  have h4 : (strOf (digs v n)).data[i]? = some (UInt8.ofNat (48 + v / 2 ^ (n - 1 - i) % 2)) := by
    rw [show (strOf (digs v n)).data = (List.map UInt8.ofNat (digs v n)).toArray from rfl, List.getElem?_toArray, List.getElem?_map, h1]
    rfl
  have h5 : (strOf (digs v n))[i]'hs = UInt8.ofNat (48 + v / 2 ^ (n - 1 - i) % 2) := (Array.getElem?_eq_some_iff.1 h4).2
  rw [h5]
  have : 48 + v / 2 ^ (n - 1 - i) % 2 < 256 := by omega
  simp; omega
theorem val_step (V n i : Nat) (h : i < n) : 2 * (V / 2 ^ (n - i)) + V / 2 ^ (n - 1 - i) % 2 = V / 2 ^ (n - (i + 1)) := by
  obtain ⟨m, hm⟩ : ∃ m, n - i = m + 1 := ⟨n - i - 1, by omega⟩
  rw [hm, show n - 1 - i = m by omega, show n - (i + 1) = m by omega, Nat.pow_succ, ← Nat.div_div_eq_div_mul]
  omega

set_option maxHeartbeats 16000000 in
theorem huffCodes_walk (zs : List Int) (A : Option Addr) (c : Nat) (short : Bool) (n : Int) (w : World) (hr : ∀ x ∈ zs, -9223372036854775808 ≤ x ∧ x < 9223372036854775808) (hlc : zs.length ≤ c) (hcm : c ≤ maxLen) (hN : Ints w w.heap.size A zs)
    (hn : -9223372036854775808 ≤ n ∧ n < 9223372036854775808) :
    Calls Try.prog 3 #[.slice A zs.length c, .bool short, .int .i64 n] w fun e w' => e = .returned (.bool true) ∧ Below w.heap.size w w' := by
  have Hl := Lib.hid live03_any
  clear hr hlc
  by_cases hbig : 400 < zs.length
  · have d1 : decide ((400 : Int) < (zs.length : Int)) = true := decide_eq_true (by omega)
    have d2 : decide (400 < zs.length) = true := decide_eq_true hbig
    clear hN hbig hn hcm
    go_enter Try.func3, Try.ntmps3
    go_wp2_with fail
    refine (Hl.out _).mono ?_
    rintro e X ⟨rfl, hX⟩
    have HX := Lib.hid hX
    clear hX
    go_wp2_with fail
    go_ret
    exact ⟨rfl, HX.out⟩
  · have d1 : decide ((400 : Int) < (zs.length : Int)) = false := decide_eq_false (by omega)
    have d2 : decide (400 < zs.length) = false := decide_eq_false hbig
    have HK := Lib.hid fun W (hI : Ints W W.heap.size A zs) => kraft_any A c zs W hI (by omega)
    have HRK := Lib.hid fun W (hI : Ints W W.heap.size A zs) => refKraft_any A c zs W hI (by omega)
    obtain ⟨E, hE⟩ : ∃ E, errOf zs short = E := ⟨_, rfl⟩
    have HRr := Lib.hid fun W (hI : Ints W W.heap.size A zs) => refRight03_any A c zs short W hI (by omega) E hE
    have HN := Lib.hid hN
    have Hcode := Lib.hid code03_any
    have Hofn := Lib.hid of_nil
    by_cases hE0 : E = 0
    · subst hE0
      have hok : okL zs = true := by
        unfold errOf at hE
        by_cases h : okL zs = false
        · rw [if_pos h] at hE; omega
        · simpa using h
      obtain ⟨b0, b1, b2⟩ := okL_bounds hok
      have hkr : kr (nats zs) ≤ 32768 := by
        unfold errOf at hE
        rw [if_neg (by simp [hok])] at hE
        by_cases h1 : 32768 < kr (nats zs)
        · rw [if_pos h1] at hE; omega
        · omega
      have Hnew := Lib.hid fun W (hI : Ints W W.heap.size A zs) => new_yes A c zs short W hI (by omega) hE
      have hln : (nats zs).length = zs.length := by simp [nats]
      have Hcs := Lib.hid fun W (hI : Ints W W.heap.size A zs) => codes_any A c (nats zs) W (hI.to_nums b1) (by omega) b2
      unfold CodesPost at Hcs
      rw [hln] at Hcs
      obtain ⟨L, hL⟩ : ∃ L, L = zs.length := ⟨_, rfl⟩
      rw [← hL] at HK HRK HRr Hnew Hcs d1 d2 ⊢
      have hkk : (((kraft zs).1 : Int) != ((kraft zs).1 : Int)) = false := by simp
      have hkb : ((kraft zs).2 != (kraft zs).2) = false := by simp
      obtain ⟨⟨K, B⟩, hKB⟩ : ∃ p, kraft zs = p := ⟨_, rfl⟩
      rw [hKB] at HK HRK hkk hkb
      simp only at HK HRK hkk hkb
      have hLn : L = (nats zs).length := by omega
      generalize hll : nats zs = l at *
      have HLn := Lib.hid hLn
      have hl288 : L ≤ 288 := by omega
      have Hb2 := Lib.hid b2
      have Hkr := Lib.hid hkr
      clear hKB hll hok b0 b1 b2 hkr hln hL hE hN hbig hLn
      go_enter Try.func3, Try.ntmps3
      go_wp2_with fail
      refine (HK.out _ HN.out).mono ?_
      rintro e X ⟨rfl, rfl⟩
      go_wp2_with fail
      refine (HRK.out _ HN.out).mono ?_
      rintro e X ⟨rfl, rfl⟩
      go_wp2_with fail
      refine (Hnew.out _ HN.out).mono ?_
      rintro e X1 ⟨g, rfl, hC, hB⟩
      have HC := Lib.hid hC
      have HB := Lib.hid hB
      have HN1 := Lib.hid ((HN.out.below hB).more hB.size)
      clear hC hB
      go_wp2_with fail
      refine (HRr.out _ HN1.out).mono ?_
      rintro e X ⟨rfl, rfl⟩
      go_wp2_with fail
      refine (Hcode.out _ _).mono ?_
      rintro e X ⟨rfl, rfl⟩
      by_cases hin : 0 ≤ n ∧ n < (L : Int)
      · obtain ⟨i, rfl⟩ : ∃ i : Nat, n = i := ⟨n.toNat, by omega⟩
        have hi : i < l.length := by have := HLn.out; omega
        have hof : ofA l (i : Int) = wordOf l i := by unfold ofA; rw [if_pos (by have := HLn.out; omega), Int.toNat_natCast]
        have Hof := Lib.hid (of_any g (g + 1) l (i : Int) _ HC.out _ hof)
        have hwl := word_lt Hb2.out Hkr.out hi
        have hws := word_size hi
        have hs15 : (wordOf l i).2 ≤ 15 := by
          rw [hws]
          have hd : l.getD i 99 = l[i] := by simp [hi]
          rw [hd]; exact Hb2.out _ (List.getElem_mem hi)
        have htx : textOf l i = digs (wordOf l i).1 (wordOf l i).2 := rfl
        have htg : (texts l)[i]? = some (textOf l i) := by simp [texts, hi]
        rw [htx] at htg
        obtain ⟨⟨V, m⟩, hVm⟩ : ∃ p, wordOf l i = p := ⟨_, rfl⟩
        rw [hVm] at Hof hwl hs15 htg
        simp only at Hof hwl hs15 htg
        have Htg := Lib.hid htg
        have e1 : decide ((0 : Int) ≤ (i : Int)) = true := decide_eq_true (by omega)
        have e2 : decide ((i : Int) < (L : Int)) = true := decide_eq_true hin.2
        have e3 : decide (i < L) = true := decide_eq_true (by omega)
        have i0 : (0 : Int) ≤ (i : Int) := by omega
        have i1 : (i : Int) < (L : Int) := hin.2
        clear hof hws htx htg hVm hin hi
        go_wp2_with fail
        refine Hof.out.mono ?_
        rintro e X ⟨rfl, kd, rfl⟩
        have HB2 : Hid (Below w.heap.size w (X1.drewN kd)) := below_drawn HB.out kd
        have HN2 : Hid (Ints (X1.drewN kd) (X1.drewN kd).heap.size A zs) := HN1.out.below (below_drawn (Below.refl _ _) kd)
        go_wp2_with fail
        refine (Hcs.out _ HN2.out).mono ?_
        rintro e X2 ⟨g2, rfl, hW, hB, _⟩
        have HB3 := Lib.hid (below_thenH HB2.out hB HB2.out.size)
        have c0 : X2.cell? ⟨g2, i, none⟩ = some (.string (strOf (digs V m))) := by rw [hW.cell]; simp [strs, Htg.out]
        have hsz : (strOf (digs V m)).size = m := by rw [strOf_size, digs_length]
        have hby := digs_byte V m
        have Hby : Hid (∀ j (h : j < m) (hs : j < (strOf (digs V m)).size), ((strOf (digs V m))[j]'hs).toNat = 48 + V / 2 ^ (m - 1 - j) % 2) := fun j h hs => hby j h hs
        have Hsz := Lib.hid hsz
        generalize strOf (digs V m) = O at *
        have hV : V < 40000 := by
          have : 2 ^ m ≤ 2 ^ 15 := Nat.pow_le_pow_right (by omega) hs15
          omega
        have H0 : Hid (V / 2 ^ m = 0) := Nat.div_eq_of_lt hwl
        have hVV : ((V : Int) == (V : Int)) = true := by simp
        have hmm : ((m : Int) == (m : Int)) = true := by simp
        clear hW hB hsz hby hwl
        go_wp2_with fail
        go_loop [17, 18] (fun x y => ∃ j : Nat, j ≤ m ∧ y = .int .i64 (j : Int) ∧ x = .int .u32 ((V / 2 ^ (m - j) : Nat) : Int)) (fun _ y => m - (intOf y).toNat)
        case atStart => exact ⟨0, by omega, rfl, by rw [Nat.sub_zero, H0.out]; rfl⟩
        case round =>
          obtain ⟨j, hj, rfl, rfl⟩ := hrel
          by_cases hjm : j < m
          · have hjs : j < O.size := by rw [Hsz.out]; exact hjm
            have hb := Hby.out j hjm hjs
            have hst := val_step V m j hjm
            have hle : V / 2 ^ (m - j) < 40000 := Nat.lt_of_le_of_lt (Nat.div_le_self _ _) hV
            generalize hT : V / 2 ^ (m - (j + 1)) = T at *
            generalize V / 2 ^ (m - j) = U at *
            obtain ⟨d, hd⟩ : ∃ d, V / 2 ^ (m - 1 - j) % 2 = d := ⟨_, rfl⟩
            rw [hd] at hst hb
            have hd2 : d < 2 := by omega
            have hTT := Lib.hid hT
            have Hst := Lib.hid hst
            have hjsz : (j : Int) < (O.size : Int) := by omega
            have f1 : decide ((j : Int) < (O.size : Int)) = true := decide_eq_true hjsz
            have f2 : decide (j < O.size) = true := decide_eq_true hjs
            clear hd hT hst
            go_wp2_with fail
            go_round
            case rel => exact ⟨j + 1, by omega, by go_num, by rw [hTT.out, ← Hst.out]; congr 1; omega⟩
            case measure => simp [intOf]; omega
          · obtain rfl : m = j := by omega
            have hge : decide ((m : Int) < (O.size : Int)) = false := decide_eq_false (by have := Hsz.out; omega)
            have hge2 : decide (m < O.size) = false := decide_eq_false (by have := Hsz.out; omega)
            have hmO : ((m : Int) == (O.size : Int)) = true := by have := Hsz.out; simp; omega
            have hV1 : V / 2 ^ (m - m) = V := by simp
            rw [hV1]
            clear hjm hV1
            go_wp2_with fail
            refine (Hl.out _).mono ?_
            rintro e X3 ⟨rfl, hB⟩
            have HB4 := Lib.hid (below_thenH HB3.out hB HB3.out.size)
            clear hB
            go_wp2_with fail
            go_ret
            exact ⟨rfl, HB4.out⟩
      · have hof : ofA l n = (0, 0) := by unfold ofA; rw [if_neg (by have := HLn.out; omega)]
        have Hof := Lib.hid (of_any g (g + 1) l n _ HC.out _ hof)
        simp only at Hof
        by_cases h0 : 0 ≤ n
        · have e1 : decide ((0 : Int) ≤ n) = true := decide_eq_true h0
          have e2 : decide (n < (L : Int)) = false := decide_eq_false (by omega)
          clear hof hin h0
          go_wp2_with fail
          refine Hof.out.mono ?_
          rintro e X ⟨rfl, kd, rfl⟩
          have HB2 : Hid (Below w.heap.size w (X1.drewN kd)) := below_drawn HB.out kd
          go_wp2_with fail
          go_loop [17, 18] (fun x y => x = .int .u32 0 ∧ y = .int .i64 0) (fun _ _ => 0)
          case atStart => exact ⟨rfl, rfl⟩
          case round =>
            obtain ⟨rfl, rfl⟩ := hrel
            go_wp2_with fail
            refine (Hl.out _).mono ?_
            rintro e X3 ⟨rfl, hB⟩
            have HB4 := Lib.hid (below_thenH HB2.out hB HB2.out.size)
            clear hB
            go_wp2_with fail
            go_ret
            exact ⟨rfl, HB4.out⟩
        · have e1 : decide ((0 : Int) ≤ n) = false := decide_eq_false h0
          have e9 : ¬ 0 ≤ n := h0
          clear hof hin h0
          go_wp2_with fail
          refine Hof.out.mono ?_
          rintro e X ⟨rfl, kd, rfl⟩
          have HB2 : Hid (Below w.heap.size w (X1.drewN kd)) := below_drawn HB.out kd
          go_wp2_with fail
          go_loop [17, 18] (fun x y => x = .int .u32 0 ∧ y = .int .i64 0) (fun _ _ => 0)
          case atStart => exact ⟨rfl, rfl⟩
          case round =>
            obtain ⟨rfl, rfl⟩ := hrel
            go_wp2_with fail
            refine (Hl.out _).mono ?_
            rintro e X3 ⟨rfl, hB⟩
            have HB4 := Lib.hid (below_thenH HB2.out hB HB2.out.size)
            clear hB
            go_wp2_with fail
            go_ret
            exact ⟨rfl, HB4.out⟩
    · have Hnew := Lib.hid fun W (hI : Ints W W.heap.size A zs) => new_no A c zs short W hI (by omega) (by rw [hE]; exact hE0)
      unfold NewNo at Hnew
      rw [hE] at Hnew
      obtain ⟨L, hL⟩ : ∃ L, L = zs.length := ⟨_, rfl⟩
      rw [← hL] at HK HRK HRr Hnew d1 d2 ⊢
      have hkk : (((kraft zs).1 : Int) != ((kraft zs).1 : Int)) = false := by simp
      have hkb : ((kraft zs).2 != (kraft zs).2) = false := by simp
      obtain ⟨⟨K, B⟩, hKB⟩ : ∃ p, kraft zs = p := ⟨_, rfl⟩
      rw [hKB] at HK HRK hkk hkb
      simp only at HK HRK hkk hkb
      have hEE : ((E : Int) != (E : Int)) = false := by simp
      have hE1 : ((E : Int) != 0) = true := by simp [bne]; omega
      have hE2 : ((E : Int) == 0) = false := beq_eq_false_iff_ne.mpr (by omega)
      clear hKB hL hE hN hbig hE0
      go_enter Try.func3, Try.ntmps3
      go_wp2_with fail
      refine (HK.out _ HN.out).mono ?_
      rintro e X ⟨rfl, rfl⟩
      go_wp2_with fail
      refine (HRK.out _ HN.out).mono ?_
      rintro e X ⟨rfl, rfl⟩
      go_wp2_with fail
      refine (Hnew.out _ HN.out).mono ?_
      rintro e X ⟨rfl, rfl⟩
      go_wp2_with fail
      refine (HRr.out _ HN.out).mono ?_
      rintro e X ⟨rfl, rfl⟩
      go_wp2_with fail
      refine (Hcode.out _ _).mono ?_
      rintro e X ⟨rfl, rfl⟩
      go_wp2_with fail
      refine (Hofn.out _ _).mono ?_
      rintro e X ⟨rfl, rfl⟩
      go_wp2_with fail
      go_loop [17, 18] (fun x y => x = .int .u32 0 ∧ y = .int .i64 0) (fun _ _ => 0)
      case atStart => exact ⟨rfl, rfl⟩
      case round =>
        obtain ⟨rfl, rfl⟩ := hrel
        go_wp2_with fail
        refine (Hl.out _).mono ?_
        rintro e X3 ⟨rfl, hB⟩
        have HB4 := Lib.hid (hB)
        clear hB
        go_wp2_with fail
        go_ret
        exact ⟨rfl, HB4.out⟩
end Go.Proofs.Ytcllcnccmjnieaa
