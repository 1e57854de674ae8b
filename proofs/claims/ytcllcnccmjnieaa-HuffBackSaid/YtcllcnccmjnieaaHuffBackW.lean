/- Walks over layer 3: the law of writing and reading back. -/
import Derived.Test.YtcllcnccmjnieaaHuffWr
import Derived.Test.YtcllcnccmjnieaaHuffRef1
import Derived.Test.YtcllcnccmjnieaaHuffReadsW
namespace Go.Proofs.Ytcllcnccmjnieaa
open Go.RowKit Huff Bit
set_option linter.unusedVariables false
set_option maxRecDepth 100000

/-- Has z a word? -/
def hasW (l : List Nat) (z : Int) : Bool := decide (0 ≤ z ∧ z < l.length) && decide (0 < l.getD z.toNat 0)
def sentW (l : List Nat) (zs : List Int) : List Nat := (zs.filter (hasW l)).map Int.toNat
theorem sentW_take (l : List Nat) (zs : List Int) (k : Nat) (h : k < zs.length) : sentW l (zs.take (k + 1)) = sentW l (zs.take k) ++ if hasW l zs[k] then [zs[k].toNat] else [] := by
  unfold sentW
  rw [List.take_succ_eq_append_getElem h, List.filter_append, List.map_append]
  by_cases hh : hasW l zs[k] = true
  · rw [if_pos hh]; simp [hh]
  · rw [if_neg hh]; simp [hh]
theorem sentW_len (l : List Nat) (zs : List Int) : (sentW l zs).length ≤ zs.length := by unfold sentW; rw [List.length_map]; exact List.length_filter_le _ _
theorem sentW_ok {l : List Nat} {zs : List Int} {s : Nat} (h : s ∈ sentW l zs) : s < l.length ∧ 0 < l.getD s 0 := by
  obtain ⟨z, hz, rfl⟩ := List.mem_map.1 h
  have h2 := (List.mem_filter.1 hz).2
  unfold hasW at h2
  rw [Bool.and_eq_true] at h2
  have h3 := of_decide_eq_true h2.1
  exact ⟨by omega, of_decide_eq_true h2.2⟩
theorem has_word {l : List Nat} (hb : ∀ x ∈ l, x ≤ 15) {i : Nat} (hi : i < l.length) : (wordOf l i).2 = l.getD i 0 ∧ (wordOf l i).2 ≤ 15 := by
  rw [word_size hi]
  have h1 : l.getD i 99 = l[i] := by simp [hi]
  have h2 : l.getD i 0 = l[i] := by simp [hi]
  rw [h1, h2]
  exact ⟨rfl, hb _ (List.getElem_mem hi)⟩
theorem accW_small {l : List Nat} (xs : List Nat) (h : ∀ s ∈ xs, (wordOf l s).2 ≤ 15) : (accW l xs).2 ≤ 15 * xs.length := by
  suffices hh : ∀ (ys : List Nat) (a : Nat × Nat), (∀ s ∈ ys, (wordOf l s).2 ≤ 15) → (ys.foldl (addW l) a).2 ≤ a.2 + 15 * ys.length by simpa [accW] using hh xs (0, 0) h
  intro ys
  induction ys with
  | nil => intro a _; simp
  | cons s ys ih =>
    intro a h2
    rw [List.foldl_cons]
    have h3 := ih (addW l a s) (fun t ht => h2 t (List.mem_cons_of_mem _ ht))
    have h4 := h2 s (List.mem_cons_self ..)
    have h5 : (addW l a s).2 = a.2 + (wordOf l s).2 := rfl
    rw [h5] at h3
    simp only [List.length_cons]
    omega
theorem of_no {l : List Nat} {z : Int} (h : hasW l z = false) : ofA l z = (0, 0) := by
  unfold ofA
  by_cases h1 : 0 ≤ z ∧ z < l.length
  · rw [if_pos h1]
    unfold hasW at h
    rw [decide_eq_true h1, Bool.true_and] at h
    have h2 := of_decide_eq_false h
    have hd : l.getD z.toNat 99 = l.getD z.toNat 0 := by
      have : z.toNat < l.length := by omega
      simp [this]
    unfold wordOf
    rw [if_pos (by omega)]
  · rw [if_neg h1]
theorem Wr.only {S : Nat → Prop} {w w' : World} {g N n : Nat} {v : Value} (h : Wr w g v N n) (ho : Only S w w') (hg : ¬ S g) (hv : ∀ b, v.ownBlock = some b → ¬ S b) : Wr w' g v N n :=
  ⟨h.1.only ho hg, own_only h.2.1 ho hv, h.2.2.1, h.2.2.2⟩

/-- What stands where while words are written. -/
structure BackSt (w : World) (B B2 g gw : Nat) (l xs : List Nat) (v vw : Value) (W : World) : Prop where
  wr : Wr W gw vw (accW l xs).1 (accW l xs).2
  own : Own64 W B2 v xs
  vlo : ∀ b, vw.ownBlock = some b → B2 ≤ b
  apart : ∀ b, vw.ownBlock = some b → v.ownBlock ≠ some b
  kept : KeptC B W g l
  below : Below w.heap.size w W
theorem BackSt.drawn {w W : World} {B B2 g gw : Nat} {l xs : List Nat} {v vw : Value} (h : BackSt w B B2 g gw l xs v vw W) (k : Nat) : BackSt w B B2 g gw l xs v vw (W.drewN k) :=
  ⟨h.wr, h.own, h.vlo, h.apart, h.kept.drawn, below_drawn h.below k⟩
/-- A word is written. -/
theorem BackSt.write {w W W' : World} {B B2 g gw s : Nat} {l xs : List Nat} {v vw : Value} (h : BackSt w B B2 g gw l xs v vw W) (hB : B ≤ gw) (hB2 : gw < B2) (hw : w.heap.size ≤ B) (hW : B2 ≤ W.heap.size)
    (hg : Grew W gw vw (addW l (accW l xs) s).1 (addW l (accW l xs) s).2 W') :
    ∃ vw', Wr W' gw vw' (accW l (xs ++ [s])).1 (accW l (xs ++ [s])).2 ∧ Own64 W' B2 v xs ∧ (∀ b, vw'.ownBlock = some b → B2 ≤ b) ∧ (∀ b, vw'.ownBlock = some b → v.ownBlock ≠ some b) ∧ KeptC B W' g l ∧ Below w.heap.size w W' ∧ B2 ≤ W'.heap.size := by
  obtain ⟨vw', h1, h2, h3⟩ := hg
  rw [accW_snoc]
  have hS : ∀ b, touch gw vw b → B ≤ b := fun b hb => by
    rcases hb with e | e
    · omega
    · have := h.vlo b e; omega
  have hBl : Below B W W' := h2.below (fun b hb e => by have := hS b e; omega) h.kept.le
  refine ⟨vw', h1, ?_, ?_, ?_, h.kept.more hBl, h.below.trans (hBl.mono hw), Nat.le_trans hW h2.size⟩
  · refine h.own.only h2 (fun b hb e => ?_)
    rcases e with e | e
    · have := (h.own.lt b hb).1; omega
    · exact h.apart b e hb
  · intro b hb
    rcases h3 with e | ⟨k, e, hk⟩
    · rw [e] at hb; exact h.vlo b hb
    · rw [e] at hb; injection hb with hb; omega
  · intro b hb e9
    rcases h3 with e | ⟨k, e, hk⟩
    · rw [e] at hb; exact h.apart b hb e9
    · rw [e] at hb; injection hb with hb; have := (h.own.lt b e9).2; omega
/-- It is put down among those that were sent. -/
theorem BackSt.append {w W W' : World} {B B2 g gw : Nat} {l xs ys : List Nat} {v v' vw : Value} {N n : Nat} (hwr : Wr W gw vw N n) (hown : Own64 W B2 v xs) (hvw : ∀ b, vw.ownBlock = some b → B2 ≤ b) (hap : ∀ b, vw.ownBlock = some b → v.ownBlock ≠ some b) (hk : KeptC B W g l) (hb : Below w.heap.size w W)
    (hB : B ≤ gw) (hB2 : gw < B2) (hw : w.heap.size ≤ B) (he : (N, n) = accW l ys) (hg : Gone64 W B2 v ys v' W') : BackSt w B B2 g gw l ys v' vw W' := by
  have hS : ∀ b, v.ownBlock = some b → B2 ≤ b := fun b h => (hown.lt b h).1
  have hBl : Below B W W' := hg.only.below (fun b hb e => by have := hS b e; omega) hk.le
  have hlt : ∀ b, vw.ownBlock = some b → b < W.heap.size := fun b h => (World.ownsRow.lt hwr.2.1 b h).2
  refine ⟨?_, hg.own, hvw, ?_, hk.more hBl, hb.trans (hBl.mono hw)⟩
  · rw [← he]
    exact hwr.only hg.only (fun e => by have := hS _ e; omega) (fun b h e => hap b h e)
  · intro b h1 h2
    rcases hg.at_ with e | ⟨k, e, hk⟩
    · rw [e] at h2; exact hap b h1 h2
    · rw [e] at h2; injection h2 with h2; have := hlt b h1; omega

set_option maxHeartbeats 16000000 in
theorem huffBack_walk (zs : List Int) (A : Option Addr) (c : Nat) (ys : List Int) (A2 : Option Addr) (c2 : Nat) (w : World) (hr : ∀ x ∈ zs, -9223372036854775808 ≤ x ∧ x < 9223372036854775808) (hlc : zs.length ≤ c) (hcm : c ≤ maxLen) (hN : Ints w w.heap.size A zs)
    (hr2 : ∀ x ∈ ys, -9223372036854775808 ≤ x ∧ x < 9223372036854775808) (hlc2 : ys.length ≤ c2) (hcm2 : c2 ≤ maxLen) (hN2 : Ints w w.heap.size A2 ys) :
    Calls Try.prog 5 #[.slice A zs.length c, .slice A2 ys.length c2] w fun e w' => e = .returned (.bool true) ∧ Below w.heap.size w w' := by
  have Hl := Lib.hid live03_any
  clear hr hlc hcm hcm2 hlc2
  by_cases hbig : 300 < zs.length
  · have d1 : decide ((300 : Int) < (zs.length : Int)) = true := decide_eq_true (by omega)
    have d2 : decide (300 < zs.length) = true := decide_eq_true hbig
    clear hN hbig hN2 hr2
    go_enter Try.func5, Try.ntmps5
    go_wp2_with fail
    refine (Hl.out _).mono ?_
    rintro e X ⟨rfl, hX⟩
    have HX := Lib.hid hX
    clear hX
    go_wp2_with fail
    go_ret
    exact ⟨rfl, HX.out⟩
  have d1 : decide ((300 : Int) < (zs.length : Int)) = false := decide_eq_false (by omega)
  have d2 : decide (300 < zs.length) = false := decide_eq_false hbig
  by_cases hbig2 : 100 < ys.length
  · have d3 : decide ((100 : Int) < (ys.length : Int)) = true := decide_eq_true (by omega)
    have d4 : decide (100 < ys.length) = true := decide_eq_true hbig2
    clear hN hbig hN2 hr2 hbig2
    go_enter Try.func5, Try.ntmps5
    go_wp2_with fail
    refine (Hl.out _).mono ?_
    rintro e X ⟨rfl, hX⟩
    have HX := Lib.hid hX
    clear hX
    go_wp2_with fail
    go_ret
    exact ⟨rfl, HX.out⟩
  have d3 : decide ((100 : Int) < (ys.length : Int)) = false := decide_eq_false (by omega)
  have d4 : decide (100 < ys.length) = false := decide_eq_false hbig2
  obtain ⟨E, hE⟩ : ∃ E, errOf zs false = E := ⟨_, rfl⟩
  have HRr := Lib.hid fun W (hI : Ints W W.heap.size A zs) => refRight03_any A c zs false W hI (by omega) E hE
  have HN := Lib.hid hN
  have Hcode := Lib.hid code03_any
  by_cases hE0 : E = 0
  · subst hE0
    have hok : okL zs = true := by
      unfold errOf at hE
      by_cases h : okL zs = false
      · rw [if_pos h] at hE; omega
      · simpa using h
    obtain ⟨b0, b1, b2⟩ := okL_bounds hok
    have hkr : kr (nats zs) ≤ 32768 := by
      unfold errOf at hE
      rw [if_neg (by simp [hok])] at hE
      by_cases h1 : 32768 < kr (nats zs)
      · rw [if_pos h1] at hE; omega
      · omega
    have Hnew := Lib.hid fun W (hI : Ints W W.heap.size A zs) => new_yes A c zs false W hI (by omega) hE
    have hln : (nats zs).length = zs.length := by simp [nats]
    have Hlz : Hid (∀ i (h : i < zs.length), zs[i] = (((nats zs).getD i 0 : Nat) : Int)) := fun i h => by
      have := b1 _ (List.getElem_mem h)
      simp [nats, h, Int.toNat_of_nonneg this]
    have Hwl := Lib.hid fun i (hi : i < (nats zs).length) => word_lt b2 hkr hi
    have Hww := Lib.hid fun i (hi : i < (nats zs).length) => has_word b2 hi
    have HNN := Lib.hid hN2
    have Hr2 := Lib.hid hr2
    obtain ⟨L, hL⟩ : ∃ L, L = zs.length := ⟨_, rfl⟩
    obtain ⟨M, hM⟩ : ∃ M, M = ys.length := ⟨_, rfl⟩
    rw [← hL] at HRr Hnew d1 d2 ⊢
    rw [← hM] at d3 d4 ⊢
    have hl288 : L ≤ 288 := by omega
    have hM100 : M ≤ 100 := by omega
    have hLn : L = (nats zs).length := by omega
    generalize hll : nats zs = l at *
    have HLn := Lib.hid hLn
    have HL := Lib.hid hL
    have HM := Lib.hid hM
    obtain ⟨i0, hi0, hz0, hz1, hz2⟩ := info_parts i64info
    clear hll hok b0 b1 b2 hkr hln hL hE hN hN2 hbig hbig2 hM hLn hr2
    go_enter Try.func5, Try.ntmps5
    go_wp2_with fail
    refine (HRr.out _ HN.out).mono ?_
    rintro e X ⟨rfl, rfl⟩
    go_wp2_with fail
    refine (Hnew.out _ HN.out).mono ?_
    rintro e X1 ⟨g, rfl, hC, hB⟩
    have HK1 := Lib.hid (KeptC.start hC)
    have HB1 := Lib.hid hB
    clear hC hB Hnew HRr
    go_wp2_with fail
    refine (newWriter_any _).mono ?_
    rintro e X2 ⟨rfl, hW, hB⟩
    obtain ⟨B, hBB⟩ : ∃ B, B = X1.heap.size := ⟨_, rfl⟩
    rw [← hBB] at HK1 hW ⊢
    have hwB : w.heap.size ≤ B := by rw [hBB]; exact HB1.out.size
    have HS0 : Hid (BackSt w B (B + 1) g B l (sentW l (ys.take 0)) (.slice none 0 0) (.slice none 0 0) X2) :=
      ⟨hW, Own64.nil_ _ _, (fun b e => by cases e), (fun b e => by cases e), HK1.out.more (by rw [hBB]; exact hB), below_thenH HB1.out hB HB1.out.size⟩
    have HX2 : Hid (B + 1 ≤ X2.heap.size) := by have := hW.1.lt; show _ ≤ _; omega
    have HwB := Lib.hid hwB
    clear hW hB HK1 HB1 hBB
    go_wp2_with fail
    refine (Hcode.out _ _).mono ?_
    rintro e X ⟨rfl, rfl⟩
    go_wp2_with fail
    go_loopw [8, 9] (fun x y W => ∃ (i : Nat) (v vw : Value), i ≤ M ∧ y = .int .i64 (i : Int) ∧ x = v ∧ Hid (BackSt w B (B + 1) g B l (sentW l (ys.take i)) v vw W) ∧ Hid (B + 1 ≤ W.heap.size)) (fun _ y _ => M - (intOf y).toNat)
    case atStart => exact ⟨0, _, _, Nat.zero_le _, rfl, rfl, HS0, HX2⟩
    case round =>
      obtain ⟨i, v, vw, hi, rfl, rfl, HS, HX⟩ := hrel
      clear HS0 HX2
      by_cases hlt : i < M
      · have hil : i < ys.length := by have := HM.out; omega
        have HNw : Hid (Ints wr w.heap.size A2 ys) := HNN.out.below HS.out.below
        obtain ⟨b3, o3, rfl, hb3, p0⟩ := HNw.out.at i hil
        have hst := sentW_take l ys i hil
        have hz := Hr2.out _ (List.getElem_mem hil)
        generalize ys[i]'hil = z at *
        have i0' : (0 : Int) ≤ (i : Int) := by omega
        have i1' : (i : Int) < (M : Int) := by omega
        have f1 : decide ((i : Int) < (M : Int)) = true := decide_eq_true i1'
        have f2 : decide (i < M) = true := decide_eq_true hlt
        by_cases hh : hasW l z = true
        · rw [if_pos hh] at hst
          have hjx : ∃ j : Nat, z = j ∧ j < l.length ∧ 0 < l.getD j 0 := by
            unfold hasW at hh
            rw [Bool.and_eq_true] at hh
            have h1 := of_decide_eq_true hh.1
            exact ⟨z.toNat, by omega, by omega, of_decide_eq_true hh.2⟩
          obtain ⟨j, rfl, hj, hj0⟩ := hjx
          rw [Int.toNat_natCast] at hst
          obtain ⟨hw1, hw2⟩ := Hww.out j hj
          have hw3 := Hwl.out j hj
          have hxs : ∀ s ∈ sentW l (ys.take i), (wordOf l s).2 ≤ 15 := fun s hs => (Hww.out s (sentW_ok hs).1).2
          have hacc := accW_small (sentW l (ys.take i)) hxs
          have hsl : (sentW l (ys.take i)).length ≤ 100 := Nat.le_trans (sentW_len _ _) (by rw [List.length_take]; omega)
          obtain ⟨⟨V, m⟩, hVm⟩ : ∃ p, wordOf l j = p := ⟨_, rfl⟩
          have haw : addW l (accW l (sentW l (ys.take i))) j = ((accW l (sentW l (ys.take i))).1 + turned V m m * 2 ^ (accW l (sentW l (ys.take i))).2, (accW l (sentW l (ys.take i))).2 + m) := by unfold addW; rw [hVm]
          rw [hVm] at hw1 hw2 hw3
          simp only at hw1 hw2 hw3
          have hV : V < 100000 := by
            have : 2 ^ m ≤ 2 ^ 15 := Nat.pow_le_pow_right (by omega) hw2
            omega
          have Hq := Lib.hid (write_yes B g B j V m _ _ vw l wr HS.out.kept HS.out.wr (by omega) hj hVm (by omega) hw2 hV)
          unfold WrYes at Hq
          have Hst := Lib.hid hst
          have Haw := Lib.hid haw
          have hjL : j < L := by have := HLn.out; omega
          have hjz : j < zs.length := by have := HL.out; omega
          have hm0 : 0 < m := by omega
          have hjm : l.getD j 0 = m := hw1.symm
          have g1 : decide ((0 : Int) ≤ (j : Int)) = true := decide_eq_true (by omega)
          have g2 : decide ((j : Int) < (L : Int)) = true := decide_eq_true (by omega)
          have g3 : decide (j < L) = true := decide_eq_true hjL
          have g4 : decide ((0 : Int) < (m : Int)) = true := decide_eq_true (by omega)
          have g5 : decide (0 < m) = true := decide_eq_true hm0
          have j0 : (0 : Int) ≤ (j : Int) := by omega
          have j1 : (j : Int) < (L : Int) := by omega
          have Hsl := Lib.hid hsl
          clear hh hst haw hw1 hw2 hw3 hxs hacc hsl hVm hV hj hj0 hz hlt
          go_wp2_with fail
          refine Hq.out.mono ?_
          rintro e W1 ⟨rfl, hG⟩
          have hG2 : Grew wr B vw (addW l (accW l (sentW l (ys.take i))) j).1 (addW l (accW l (sentW l (ys.take i))) j).2 W1 := by rw [Haw.out]; exact hG
          obtain ⟨vw1, hwr1, hown1, hlo1, hap1, hk1, hbl1, hx1⟩ := HS.out.write (s := j) (Nat.le_refl _) (Nat.lt_succ_self _) HwB.out HX.out hG2
          have p2 : W1.cell? ⟨b3, o3 + i, none⟩ = some (.int .i64 (j : Int)) := by
            obtain ⟨b9, o9, e9, _, q9⟩ := (show Ints W1 w.heap.size (some ⟨b3, o3, none⟩) ys from HNN.out.below hbl1).at i (by have := HM.out; omega)
            injection e9 with e9
            injection e9 with e91 e92
            subst e91 e92
            rw [q9]
            have := (show Ints wr w.heap.size (some ⟨b3, o3, none⟩) ys from HNN.out.below HS.out.below).at i (by have := HM.out; omega)
            obtain ⟨b8, o8, e8, _, q8⟩ := this
            injection e8 with e8
            injection e8 with e81 e82
            subst e81 e82
            rw [← q8, p0]
          obtain ⟨b4, o4, rfl, hb4, s0⟩ := (show Ints W1 w.heap.size A zs from HN.out.below hbl1).at j hjz
          rw [Hlz.out j hjz, hjm] at s0
          have Hwr1 := Lib.hid hwr1
          have Hown1 := Lib.hid hown1
          have Hlo1 := Lib.hid hlo1
          have Hap1 := Lib.hid hap1
          have Hk1 := Lib.hid hk1
          have Hbl1 := Lib.hid hbl1
          have Hx1 := Lib.hid hx1
          clear hG hG2 hwr1 hown1 hlo1 hap1 hk1 hbl1 hx1 p0 HS HX hjm hjz
          have hown : W1.ownsRow (B + 1) 3 1 u8 (sentW l (ys.take i)).length (i64s (sentW l (ys.take i))) := Hown1.out
          have Hl1 : Hid ((sentW l (ys.take i)).length + 1 ≤ maxLen) := by have := Hsl.out; unfold Hid maxLen; omega
          have Hl2 : Hid (((sentW l (ys.take i)).length + 1) * 8 ≤ 140737488355328) := by have := Hsl.out; unfold Hid; omega
          have hbs : B + 1 ≤ W1.heap.size := Hx1.out
          go_wp2_with fail
          refine (Hcode.out _ _).mono ?_
          rintro e Y ⟨rfl, rfl⟩
          go_wp2_with (at_builtin; refine app_one rfl (.tmp 99) (.tmp 104) 22 rfl (B + 1) 3 i0 _ 8 Try.underlying22 hi0 hz0 hz1 hz2 rfl _ _ _ rfl hown (.int .i64 (j : Int)) 1 rfl rfl Hl1.out Hl2.out hbs ?_)
          intro v1 w2 h2 h3 h5
          have hg : Gone64 W1 (B + 1) u8 (sentW l (ys.take i) ++ [j]) v1 w2 := Gone64.grown h2 (by simp) (by rw [i64s_append]; rfl) h3 h5
          have HS2 := Lib.hid (BackSt.append Hwr1.out Hown1.out Hlo1.out Hap1.out Hk1.out Hbl1.out (Nat.le_refl _) (Nat.lt_succ_self _) HwB.out (ys := sentW l (ys.take i) ++ [j]) (by rfl) hg)
          have HX2 : Hid (B + 1 ≤ w2.heap.size) := Nat.le_trans Hx1.out hg.only.size
          have hiM : i < M := by omega
          clear h2 h3 h5 hg hown p2 s0 hbs
          go_wp2
          go_roundw
          case rel => exact ⟨i + 1, v1, vw1, by omega, by go_num, rfl, by rw [Hst.out]; exact HS2, HX2⟩
          case measure => simp [intOf]; omega
        · have hh0 : hasW l z = false := by simpa using hh
          rw [if_neg hh, List.append_nil] at hst
          have Hq := Lib.hid (write_no B g (.pointer (some ⟨B, 0, none⟩)) z l wr HS.out.kept (of_no hh0))
          unfold WrNo at Hq
          have Hst := Lib.hid hst
          have hcs : z < 0 ∨ (0 ≤ z ∧ (L : Int) ≤ z) ∨ ∃ j : Nat, z = j ∧ j < L ∧ l.getD j 0 = 0 := by
            unfold hasW at hh0
            by_cases h0 : z < 0
            · exact .inl h0
            · by_cases h1 : (L : Int) ≤ z
              · exact .inr (.inl ⟨by omega, h1⟩)
              · refine .inr (.inr ⟨z.toNat, by omega, by omega, ?_⟩)
                rw [decide_eq_true (by have := HLn.out; omega), Bool.true_and] at hh0
                have := of_decide_eq_false hh0
                omega
          have p1 : ∀ k, (wr.drewN k).cell? ⟨b3, o3 + i, none⟩ = some (.int .i64 z) := fun k => p0
          clear hh hh0 hst hlt
          rcases hcs with h0 | ⟨h0, h1⟩ | ⟨j, rfl, hj, hj0⟩
          · have g1 : decide ((0 : Int) ≤ z) = false := decide_eq_false (by omega)
            have g2 : ¬ 0 ≤ z := by omega
            have hiM : i < M := by omega
            go_wp2_with fail
            refine Hq.out.mono ?_
            rintro e Y ⟨rfl, k, rfl⟩
            have p2 := p1 k
            have HS2 := Lib.hid (HS.out.drawn k)
            have HX2 : Hid (B + 1 ≤ (wr.drewN k).heap.size) := HX
            clear p1 p0 HS HX
            go_wp2_with fail
            refine (Hcode.out _ _).mono ?_
            rintro e Y ⟨rfl, rfl⟩
            go_wp2_with fail
            refine (Hcode.out _ _).mono ?_
            rintro e Y ⟨rfl, rfl⟩
            go_wp2_with fail
            go_roundw
            case rel => exact ⟨i + 1, _, vw, by omega, by go_num, rfl, by rw [Hst.out]; exact HS2, HX2⟩
            case measure => simp [intOf]; omega
          · have g1 : decide ((0 : Int) ≤ z) = true := decide_eq_true h0
            have g2 : decide (z < (L : Int)) = false := decide_eq_false (by omega)
            have hiM : i < M := by omega
            clear h1
            go_wp2_with fail
            refine Hq.out.mono ?_
            rintro e Y ⟨rfl, k, rfl⟩
            have p2 := p1 k
            have HS2 := Lib.hid (HS.out.drawn k)
            have HX2 : Hid (B + 1 ≤ (wr.drewN k).heap.size) := HX
            clear p1 p0 HS HX
            go_wp2_with fail
            refine (Hcode.out _ _).mono ?_
            rintro e Y ⟨rfl, rfl⟩
            go_wp2_with fail
            refine (Hcode.out _ _).mono ?_
            rintro e Y ⟨rfl, rfl⟩
            go_wp2_with fail
            go_roundw
            case rel => exact ⟨i + 1, _, vw, by omega, by go_num, rfl, by rw [Hst.out]; exact HS2, HX2⟩
            case measure => simp [intOf]; omega
          · have g1 : decide ((0 : Int) ≤ (j : Int)) = true := decide_eq_true (by omega)
            have g2 : decide ((j : Int) < (L : Int)) = true := decide_eq_true (by omega)
            have g3 : decide (j < L) = true := decide_eq_true hj
            have hjz : j < zs.length := by have := HL.out; omega
            have HNz : Hid (Ints wr w.heap.size A zs) := (show Ints w w.heap.size A zs from HN.out).below HS.out.below
            obtain ⟨b4, o4, rfl, hb4, s0⟩ := HNz.out.at j hjz
            rw [Hlz.out j hjz, hj0] at s0
            have s1 : ∀ k, (wr.drewN k).cell? ⟨b4, o4 + j, none⟩ = some (.int .i64 ((0 : Nat) : Int)) := fun k => s0
            have hiM : i < M := by omega
            have j0 : (0 : Int) ≤ (j : Int) := by omega
            have j1 : (j : Int) < (L : Int) := by omega
            clear hj0 hjz
            go_wp2_with fail
            refine Hq.out.mono ?_
            rintro e Y ⟨rfl, k, rfl⟩
            have p2 := p1 k
            have s2 := s1 k
            clear s1 s0
            have HS2 := Lib.hid (HS.out.drawn k)
            have HX2 : Hid (B + 1 ≤ (wr.drewN k).heap.size) := HX
            clear p1 p0 HS HX
            go_wp2_with fail
            refine (Hcode.out _ _).mono ?_
            rintro e Y ⟨rfl, rfl⟩
            go_wp2_with fail
            refine (Hcode.out _ _).mono ?_
            rintro e Y ⟨rfl, rfl⟩
            go_wp2_with fail
            go_roundw
            case rel => exact ⟨i + 1, _, vw, by omega, by go_num, rfl, by rw [Hst.out]; exact HS2, HX2⟩
            case measure => simp [intOf]; omega
      · obtain rfl : M = i := by omega
        have hty : ys.take M = ys := List.take_of_length_le (by have := HM.out; omega)
        rw [hty] at HS
        obtain ⟨xs, hxs⟩ : ∃ xs, sentW l ys = xs := ⟨_, rfl⟩
        have Hok : Hid (∀ s ∈ xs, s < l.length ∧ 0 < l.getD s 0) := fun s hs => sentW_ok (by rw [hxs]; exact hs)
        have hxl : xs.length ≤ 100 := by rw [← hxs]; exact Nat.le_trans (sentW_len _ _) (by have := HM.out; omega)
        rw [hxs] at HS
        have hacc := accW_small xs (fun s hs => (Hww.out s (Hok.out s hs).1).2)
        obtain ⟨av, cv, rfl, _, _, _, _⟩ := HS.out.own.nums
        have Hby := Lib.hid (wbytes2_any B _ _ vw wr HS.out.wr (by omega))
        have Hwl0 : Hid (Whole wr B 85 #[vw, .int .i64 (((accW l xs).2 : Nat) : Int)]) := HS.out.wr.1
        obtain ⟨bl, hbl⟩ : ∃ b, bytesOf (accW l xs).1 (accW l xs).2 = b := ⟨_, rfl⟩
        have Hbl : Hid (bl.length = ((accW l xs).2 + 7) / 8 ∧ (∀ x ∈ bl, x < 256) ∧ ∀ p, p < 8 * (((accW l xs).2 + 7) / 8) → bitOf bl p = (accW l xs).1 / 2 ^ p % 2) := by
          rw [← hbl]
          exact ⟨bytesTo_length _ _, bytesTo_lt _ _, fun p hp => bitOf_bytes _ _ _ hp⟩
        rw [hbl] at Hby
        unfold ClonePost at Hby
        have hbll : bl.length ≤ 1000 := by rw [Hbl.out.1]; omega
        have Hacc := Lib.hid hacc
        have Hhi := Lib.hid HS.out.below
        clear hty hxs hlt hbl hacc hi
        go_wp2_with fail
        refine Hby.out.mono ?_
        rintro e Y1 ⟨a1, c1, rfl, hn, hnil, hB⟩
        have HS1 : Hid (KeptC B Y1 g l ∧ Own64 Y1 (B + 1) (.slice av xs.length cv) xs ∧ Below w.heap.size w Y1) := ⟨HS.out.kept.more (hB.mono HS.out.kept.le), HS.out.own.below hB, below_thenH HS.out.below hB HS.out.below.size⟩
        have Hwl1 := Lib.hid (Hwl0.out.below hB Hwl0.out.lt)
        have Hnr := Lib.hid (newReader_any a1 c1 bl Y1 hn (by omega) hnil)
        clear hn hnil hB HS Hby Hwl0 Hhi
        go_wp2_with fail
        refine Hnr.out.mono ?_
        rintro e Y ⟨gr, a', c', rfl, hR, hgr, hB⟩
        have HS2 : Hid (KeptC B Y g l ∧ Own64 Y (B + 1) (.slice av xs.length cv) xs ∧ Below w.heap.size w Y) := ⟨HS1.out.1.more (hB.mono HS1.out.1.le), HS1.out.2.1.below hB, below_thenH HS1.out.2.2 hB HS1.out.2.2.size⟩
        have Hwl2 := Lib.hid (Hwl1.out.below hB Hwl1.out.lt)
        have Hgr : Hid (B < gr ∧ w.heap.size ≤ gr ∧ ∀ b, (Value.slice av xs.length cv).ownBlock = some b → b < gr) := by
          have h1 := Hwl1.out.lt
          have h2 := HS1.out.2.2.size
          exact ⟨by omega, by omega, fun b hb => by have := (HS1.out.2.1.lt b hb).2; omega⟩
        have HR0 : Hid (Rd Y gr a' c' bl (accW l (xs.take 0)).2) := hR
        have HKle := Lib.hid HS2.out.1.le
        obtain ⟨K, hK⟩ : ∃ K, K = xs.length := ⟨_, rfl⟩
        rw [← hK] at HS2 Hgr hxl ⊢
        have HK := Lib.hid hK
        clear hR hgr hB Hnr Hwl1 HS1 hK HX
        go_wp2_with fail
        go_loopw [13] (fun x W => ∃ (i : Nat), i ≤ K ∧ x = .int .i64 (i : Int) ∧ Hid (Rd W gr a' c' bl (accW l (xs.take i)).2) ∧ Hid (Only (fun b => b = gr) Y W)) (fun x _ => K - (intOf x).toNat)
        case atStart => exact ⟨0, by omega, rfl, HR0, Only.refl _ _⟩
        case round =>
          obtain ⟨i, hi, rfl, HR, HO⟩ := hrel
          clear HR0
          by_cases hlt : i < K
          · have hix : i < xs.length := by have := HK.out; omega
            have f1 : decide ((i : Int) < (K : Int)) = true := decide_eq_true (by omega)
            have f2 : decide (i < K) = true := decide_eq_true hlt
            have hspl : xs = xs.take i ++ xs[i] :: xs.drop (i + 1) := by rw [← List.drop_eq_getElem_cons hix, List.take_append_drop]
            have hok := Hok.out _ (List.getElem_mem hix)
            have hsn : accW l (xs.take (i + 1)) = addW l (accW l (xs.take i)) xs[i] := by rw [List.take_succ_eq_append_getElem hix, accW_snoc]
            have hgi : xs.getD i 0 = xs[i] := by simp [hix]
            have hbt := fun j (hj : j < (wordOf l (xs[i]'hix)).2) => accW_bits l (xs.take i) (xs.drop (i + 1)) (xs[i]'hix) j hj
            rw [← hspl] at hbt
            generalize xs[i]'hix = s at *
            obtain ⟨hs, hs0⟩ := hok
            obtain ⟨hw1, hw2⟩ := Hww.out s hs
            have hw3 := Hwl.out s hs
            obtain ⟨⟨V, m⟩, hVm⟩ : ∃ p, wordOf l s = p := ⟨_, rfl⟩
            have hsn2 : (accW l (xs.take (i + 1))).2 = (accW l (xs.take i)).2 + m := by rw [hsn]; unfold addW; rw [hVm]
            rw [hVm] at hw1 hw2 hw3 hbt
            simp only at hw1 hw2 hw3 hbt
            have hm0 : 0 < m := by omega
            obtain ⟨hle1, hle2, hle3⟩ := Hbl.out
            have hend := (hbt 0 hm0).2
            have hsc : scan l (bitOf bl) (8 * bl.length) (accW l (xs.take i)).2 15 0 0 = (s, (accW l (xs.take i)).2 + m, 0) := by
              have h0 := scan_word (bt := bitOf bl) (N := 8 * bl.length) (p := (accW l (xs.take i)).2) hs hVm hm0 hw2 hw3 (by rw [hle1]; omega) (fun j hj => by rw [hle3 _ (by omega)]; exact (hbt j hj).1) 15 0 rfl hm0
              rw [Nat.sub_zero, Nat.div_eq_of_lt hw3] at h0
              exact h0
            have HKw := HS2.out.1.more (HO.out.beyond (show B ≤ gr by have := Hgr.out.1; omega) HKle.out)
            have Hq := Lib.hid (read_any B g gr _ c' a' bl l wr HKw (by have := Hgr.out.1; omega) HR.out (by omega) hle2 (by have := HLn.out; omega) (by rw [hle1]; omega) _ hsc)
            unfold ReadPost at Hq
            simp only at Hq
            have Hsn2 := Lib.hid hsn2
            have Hgi := Lib.hid hgi
            have hss : ((s : Int) != (s : Int)) = false := by simp
            have i0 : (0 : Int) ≤ (i : Int) := by omega
            have i1 : (i : Int) < (K : Int) := by omega
            clear hspl hsn hgi hbt hs hs0 hw1 hw2 hw3 hVm hsn2 hm0 hle1 hle2 hle3 hend hsc HKw HR
            go_wp2_with fail
            refine Hq.out.mono ?_
            rintro e X ⟨rfl, hR, hO⟩
            have HR2 := Lib.hid hR
            have HO2 : Hid (Only (fun b => b = gr) Y X) := HO.out.trans hO (fun _ _ h => h)
            have hown := HS2.out.2.1.only HO2.out (fun b hb e => by have := Hgr.out.2.2 b hb; omega)
            obtain ⟨av2, cv2, e9, _, _, _, hNm⟩ := hown.nums
            injection e9 with e91 e92 e93
            subst e91
            clear e92 e93
            obtain ⟨b5, o5, rfl, _, hc5⟩ := hNm (by have := HK.out; omega)
            have q0 := hc5 i hix
            rw [Hgi.out] at q0
            clear hR hO hown hNm hc5 Hq HO hlt hix
            go_wp2_with fail
            refine (Hcode.out _ _).mono ?_
            rintro e Y2 ⟨rfl, rfl⟩
            have hiK : i < K := by omega
            go_wp2_with fail
            go_roundw
            case rel => exact ⟨i + 1, by omega, by go_num, by rw [Hsn2.out]; exact HR2, HO2⟩
            case measure => simp [intOf]; omega
          · obtain rfl : K = i := by omega
            have f1 : decide ((K : Int) < (K : Int)) = false := decide_eq_false (by omega)
            have f2 : decide (K < K) = false := decide_eq_false (by omega)
            have htx : xs.take K = xs := List.take_of_length_le (by have := HK.out; omega)
            rw [htx] at HR
            have Hat := Lib.hid (at_any gr a' c' bl _ wr HR.out)
            have Hln := Lib.hid (wlen_any B vw _ wr (Hwl2.out.only HO.out (fun e => by have := Hgr.out.1; omega)))
            have hnn : ((((accW l xs).2 : Nat) : Int) == (((accW l xs).2 : Nat) : Int)) = true := by simp
            have HBf : Hid (Below w.heap.size w wr) := HS2.out.2.2.trans (HO.out.below (fun b hb e => by have := Hgr.out.2.1; omega) HS2.out.2.2.size)
            generalize (accW l xs).2 = n at *
            clear hlt htx HR HO
            go_wp2_with fail
            refine Hat.out.mono ?_
            rintro e Y2 ⟨rfl, rfl⟩
            go_wp2_with fail
            refine Hln.out.mono ?_
            rintro e Y2 ⟨rfl, rfl⟩
            go_wp2_with fail
            refine (Hl.out _).mono ?_
            rintro e X9 ⟨rfl, hB⟩
            have HB9 := Lib.hid (below_thenH HBf.out hB HBf.out.size)
            clear hB
            go_wp2_with fail
            go_ret
            exact ⟨rfl, HB9.out⟩
  · obtain ⟨L, hL⟩ : ∃ L, L = zs.length := ⟨_, rfl⟩
    obtain ⟨M, hM⟩ : ∃ M, M = ys.length := ⟨_, rfl⟩
    rw [← hL] at HRr d1 d2 ⊢
    rw [← hM] at d3 d4 ⊢
    have hE1 : ((E : Int) != 0) = true := by simp [bne]; omega
    clear hL hE hN hN2 hbig hbig2 hE0 hM hr2
    go_enter Try.func5, Try.ntmps5
    go_wp2_with fail
    refine (HRr.out _ HN.out).mono ?_
    rintro e X ⟨rfl, rfl⟩
    go_wp2_with fail
    refine (Hl.out _).mono ?_
    rintro e X9 ⟨rfl, hB⟩
    have HB9 := Lib.hid hB
    clear hB
    go_wp2_with fail
    go_ret
    exact ⟨rfl, HB9.out⟩
end Go.Proofs.Ytcllcnccmjnieaa
