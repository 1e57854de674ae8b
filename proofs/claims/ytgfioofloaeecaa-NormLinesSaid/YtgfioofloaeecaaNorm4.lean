/- Walks over layer 26: what is inside, and between; Points. -/
import Derived.Test.YtgfioofloaeecaaNorm3
namespace Go.Proofs.Ytgfioofloaeecaa
open Go.RowKit
set_option linter.unusedVariables false
set_option maxRecDepth 100000

def insB (lo hi : Int) (p : P2) : Bool := decide (lo ≤ p.1 ∧ p.1 ≤ hi ∧ lo ≤ p.2 ∧ p.2 ≤ hi)

set_option maxHeartbeats 4000000 in
theorem lin_any (x y lo hi : Int) (w : World) :
    Calls Try.prog 26 #[.agg #[.int .i64 x, .int .i64 y], .int .i64 lo, .int .i64 hi] w fun e w' => e = .returned (.bool (insB lo hi (x, y))) ∧ Below w.heap.size w w' := by
  by_cases h0 : lo ≤ x
  · skip
    by_cases h1 : x ≤ hi
    · skip
      by_cases h2 : lo ≤ y
      · skip
        by_cases h3 : y ≤ hi
        · skip
          have hb : Hid (insB lo hi (x, y) = true) := by show _ = _; unfold insB; exact decide_eq_true ⟨h0, h1, h2, h3⟩
          have d0 : decide (lo ≤ x) = true := decide_eq_true h0
          have d1 : decide (x ≤ hi) = true := decide_eq_true h1
          have d2 : decide (lo ≤ y) = true := decide_eq_true h2
          have d3 : decide (y ≤ hi) = true := decide_eq_true h3
          rw [hb.out]
          clear hb h0 h1 h2 h3
          go_enter Try.func26, Try.ntmps26
          go_wp2_with fail
          go_ret
          exact ⟨rfl, (Below.refl _ _).alloc (Nat.le_refl _) _⟩
        · skip
          have hb : Hid (insB lo hi (x, y) = false) := by show _ = _; unfold insB; exact decide_eq_false (fun h => h3 (by have := h.1; have := h.2.1; have := h.2.2.1; have := h.2.2.2; assumption))
          have d0 : decide (lo ≤ x) = true := decide_eq_true h0
          have d1 : decide (x ≤ hi) = true := decide_eq_true h1
          have d2 : decide (lo ≤ y) = true := decide_eq_true h2
          have d3 : decide (y ≤ hi) = false := decide_eq_false h3
          rw [hb.out]
          clear hb h0 h1 h2 h3
          go_enter Try.func26, Try.ntmps26
          go_wp2_with fail
          go_ret
          exact ⟨rfl, (Below.refl _ _).alloc (Nat.le_refl _) _⟩
      · skip
        have hb : Hid (insB lo hi (x, y) = false) := by show _ = _; unfold insB; exact decide_eq_false (fun h => h2 (by have := h.1; have := h.2.1; have := h.2.2.1; have := h.2.2.2; assumption))
        have d0 : decide (lo ≤ x) = true := decide_eq_true h0
        have d1 : decide (x ≤ hi) = true := decide_eq_true h1
        have d2 : decide (lo ≤ y) = false := decide_eq_false h2
        rw [hb.out]
        clear hb h0 h1 h2
        go_enter Try.func26, Try.ntmps26
        go_wp2_with fail
        go_ret
        exact ⟨rfl, (Below.refl _ _).alloc (Nat.le_refl _) _⟩
    · skip
      have hb : Hid (insB lo hi (x, y) = false) := by show _ = _; unfold insB; exact decide_eq_false (fun h => h1 (by have := h.1; have := h.2.1; have := h.2.2.1; have := h.2.2.2; assumption))
      have d0 : decide (lo ≤ x) = true := decide_eq_true h0
      have d1 : decide (x ≤ hi) = false := decide_eq_false h1
      rw [hb.out]
      clear hb h0 h1
      go_enter Try.func26, Try.ntmps26
      go_wp2_with fail
      go_ret
      exact ⟨rfl, (Below.refl _ _).alloc (Nat.le_refl _) _⟩
  · skip
    have hb : Hid (insB lo hi (x, y) = false) := by show _ = _; unfold insB; exact decide_eq_false (fun h => h0 (by have := h.1; have := h.2.1; have := h.2.2.1; have := h.2.2.2; assumption))
    have d0 : decide (lo ≤ x) = false := decide_eq_false h0
    rw [hb.out]
    clear hb h0
    go_enter Try.func26, Try.ntmps26
    go_wp2_with fail
    go_ret
    exact ⟨rfl, (Below.refl _ _).alloc (Nat.le_refl _) _⟩

set_option maxHeartbeats 4000000 in
theorem rin24_any (x y lo hi : Int) (w : World) :
    Calls Try.prog 7 #[.agg #[.int .i64 x, .int .i64 y], .int .i64 lo, .int .i64 hi] w fun e w' => e = .returned (.bool (insB lo hi (x, y))) ∧ Below w.heap.size w w' := by
  by_cases h0 : lo ≤ x
  · skip
    by_cases h1 : x ≤ hi
    · skip
      by_cases h2 : lo ≤ y
      · skip
        by_cases h3 : y ≤ hi
        · skip
          have hb : Hid (insB lo hi (x, y) = true) := by show _ = _; unfold insB; exact decide_eq_true ⟨h0, h1, h2, h3⟩
          have d0 : decide (lo ≤ x) = true := decide_eq_true h0
          have d1 : decide (x ≤ hi) = true := decide_eq_true h1
          have d2 : decide (lo ≤ y) = true := decide_eq_true h2
          have d3 : decide (y ≤ hi) = true := decide_eq_true h3
          rw [hb.out]
          clear hb h0 h1 h2 h3
          go_enter Try.func7, Try.ntmps7
          go_wp2_with fail
          go_ret
          exact ⟨rfl, (Below.refl _ _).alloc (Nat.le_refl _) _⟩
        · skip
          have hb : Hid (insB lo hi (x, y) = false) := by show _ = _; unfold insB; exact decide_eq_false (fun h => h3 (by have := h.1; have := h.2.1; have := h.2.2.1; have := h.2.2.2; assumption))
          have d0 : decide (lo ≤ x) = true := decide_eq_true h0
          have d1 : decide (x ≤ hi) = true := decide_eq_true h1
          have d2 : decide (lo ≤ y) = true := decide_eq_true h2
          have d3 : decide (y ≤ hi) = false := decide_eq_false h3
          rw [hb.out]
          clear hb h0 h1 h2 h3
          go_enter Try.func7, Try.ntmps7
          go_wp2_with fail
          go_ret
          exact ⟨rfl, (Below.refl _ _).alloc (Nat.le_refl _) _⟩
      · skip
        have hb : Hid (insB lo hi (x, y) = false) := by show _ = _; unfold insB; exact decide_eq_false (fun h => h2 (by have := h.1; have := h.2.1; have := h.2.2.1; have := h.2.2.2; assumption))
        have d0 : decide (lo ≤ x) = true := decide_eq_true h0
        have d1 : decide (x ≤ hi) = true := decide_eq_true h1
        have d2 : decide (lo ≤ y) = false := decide_eq_false h2
        rw [hb.out]
        clear hb h0 h1 h2
        go_enter Try.func7, Try.ntmps7
        go_wp2_with fail
        go_ret
        exact ⟨rfl, (Below.refl _ _).alloc (Nat.le_refl _) _⟩
    · skip
      have hb : Hid (insB lo hi (x, y) = false) := by show _ = _; unfold insB; exact decide_eq_false (fun h => h1 (by have := h.1; have := h.2.1; have := h.2.2.1; have := h.2.2.2; assumption))
      have d0 : decide (lo ≤ x) = true := decide_eq_true h0
      have d1 : decide (x ≤ hi) = false := decide_eq_false h1
      rw [hb.out]
      clear hb h0 h1
      go_enter Try.func7, Try.ntmps7
      go_wp2_with fail
      go_ret
      exact ⟨rfl, (Below.refl _ _).alloc (Nat.le_refl _) _⟩
  · skip
    have hb : Hid (insB lo hi (x, y) = false) := by show _ = _; unfold insB; exact decide_eq_false (fun h => h0 (by have := h.1; have := h.2.1; have := h.2.2.1; have := h.2.2.2; assumption))
    have d0 : decide (lo ≤ x) = false := decide_eq_false h0
    rw [hb.out]
    clear hb h0
    go_enter Try.func7, Try.ntmps7
    go_wp2_with fail
    go_ret
    exact ⟨rfl, (Below.refl _ _).alloc (Nat.le_refl _) _⟩

def farB (n : Int) : Bool := decide (n < -4503599627370496 ∨ 4503599627370496 < n)
set_option maxHeartbeats 2000000 in
theorem far_any (n : Int) (w : World) : Calls Try.prog 27 #[.int .i64 n] w fun e w' => e = .returned (.bool (farB n)) ∧ w = w' := by
  by_cases h0 : n < -4503599627370496
  · have d0 : decide (n < -4503599627370496) = true := decide_eq_true h0
    rw [show farB n = true from decide_eq_true (.inl h0)]
    clear h0
    go_enter Try.func27, Try.ntmps27
    go_wp2_with fail
    go_ret
    exact ⟨rfl, rfl⟩
  · have d0 : decide (n < -4503599627370496) = false := decide_eq_false h0
    by_cases h1 : 4503599627370496 < n
    · have d1 : decide (4503599627370496 < n) = true := decide_eq_true h1
      rw [show farB n = true from decide_eq_true (.inr h1)]
      clear h0 h1
      go_enter Try.func27, Try.ntmps27
      go_wp2_with fail
      go_ret
      exact ⟨rfl, rfl⟩
    · have d1 : decide (4503599627370496 < n) = false := decide_eq_false h1
      rw [show farB n = false from decide_eq_false (fun h => by rcases h with h | h; exact h0 h; exact h1 h)]
      clear h0 h1
      go_enter Try.func27, Try.ntmps27
      go_wp2_with fail
      go_ret
      exact ⟨rfl, rfl⟩
set_option maxHeartbeats 2000000 in
theorem farP_any (x y : Int) (w : World) : Calls Try.prog 18 #[.agg #[.int .i64 x, .int .i64 y]] w fun e w' => e = .returned (.bool (farB x || farB y)) ∧ Below w.heap.size w w' := by
  have hx := Lib.hid fun W => far_any x W
  have hy := Lib.hid fun W => far_any y W
  cases hfx : farB x
  · rw [hfx] at hx
    clear hfx
    generalize farB y = t at *
    cases t
    · go_enter Try.func18, Try.ntmps18
      go_wp2_with fail
      refine (hx.out _).mono ?_
      rintro e W ⟨rfl, rfl⟩
      go_wp2_with fail
      refine (hy.out _).mono ?_
      rintro e W ⟨rfl, rfl⟩
      go_wp2_with fail
      go_ret
      exact ⟨rfl, (Below.refl _ _).alloc (Nat.le_refl _) _⟩
    · go_enter Try.func18, Try.ntmps18
      go_wp2_with fail
      refine (hx.out _).mono ?_
      rintro e W ⟨rfl, rfl⟩
      go_wp2_with fail
      refine (hy.out _).mono ?_
      rintro e W ⟨rfl, rfl⟩
      go_wp2_with fail
      go_ret
      exact ⟨rfl, (Below.refl _ _).alloc (Nat.le_refl _) _⟩
  · rw [hfx] at hx
    clear hfx hy
    go_enter Try.func18, Try.ntmps18
    go_wp2_with fail
    refine (hx.out _).mono ?_
    rintro e W ⟨rfl, rfl⟩
    go_wp2_with fail
    go_ret
    exact ⟨rfl, (Below.refl _ _).alloc (Nat.le_refl _) _⟩

set_option maxHeartbeats 2000000 in
theorem pin_any (v : Value) (x y lo hi : Int) (g0 g1 : Nat) (w : World) (h0 : w.cell? ⟨g0, 0, none⟩ = some (.int .i64 lo)) (h1 : w.cell? ⟨g1, 0, none⟩ = some (.int .i64 hi)) (b0 : g0 < w.heap.size) (b1 : g1 < w.heap.size) :
    Calls Try.prog 25 #[v, .agg #[.int .i64 x, .int .i64 y], .pointer (some ⟨g0, 0, none⟩), .pointer (some ⟨g1, 0, none⟩)] w fun e w' => e = .returned (.bool (insB lo hi (x, y))) ∧ Below w.heap.size w w' := by
  have hl := Lib.hid fun W => lin_any x y lo hi W
  have hA : Below w.heap.size w (w.alloc (.cells #[.int .i64 x, .int .i64 y] 27)) := (Below.refl _ _).alloc (Nat.le_refl _) _
  have c0 := (hA.cell (p := ⟨g0, 0, none⟩) b0).trans h0
  have c1 := (hA.cell (p := ⟨g1, 0, none⟩) b1).trans h1
  have HA := Lib.hid hA
  clear hA h0 h1 b0 b1
  go_enter Try.func25, Try.ntmps25
  go_wp2_with fail
  refine (hl.out _).mono ?_
  rintro e W ⟨rfl, hW⟩
  have HW := Lib.hid (below_then HA.out hW HA.out.size)
  clear hW
  go_wp2_with fail
  go_ret
  exact ⟨rfl, HW.out⟩

set_option maxHeartbeats 4000000 in
theorem keptI_any (v : Value) (l : List P2) (lo hi : Int) (g0 g1 : Nat) (w : World) (h0 : w.cell? ⟨g0, 0, none⟩ = some (.int .i64 lo)) (h1 : w.cell? ⟨g1, 0, none⟩ = some (.int .i64 hi)) (b0 : g0 < w.heap.size) (b1 : g1 < w.heap.size) (h : RdP w w.heap.size v l) (hl : l.length ≤ 1000) (R : List P2) (hR : l.filter (insB lo hi) = R) :
    Calls Try.prog 23 #[v, .func (.func 25) #[] #[.pointer (some ⟨g0, 0, none⟩), .pointer (some ⟨g1, 0, none⟩)]] w (PPost w R) := by
  obtain ⟨i0, hi0, hz0, hz1, hz2⟩ := info_parts ptinfo
  obtain ⟨a, c, rfl, _, _, ha⟩ := h
  have H0 := Lib.hid h0
  have H1 := Lib.hid h1
  have B0 := Lib.hid b0
  have B1 := Lib.hid b1
  clear h0 h1 b0 b1
  obtain ⟨L, hL⟩ : ∃ L, L = l.length := ⟨_, rfl⟩
  have HA := Lib.hid ha
  have HL := Lib.hid hL
  have HR := Lib.hid hR
  rw [← hL] at hl ⊢
  clear hL ha hR
  go_enter Try.func23, Try.ntmps23
  go_wp2_with fail
  go_loopw [10, 5] (fun i u W => ∃ (k : Nat) (m : List P2) (v : Value), k ≤ L ∧ i = .int .i64 (k : Int) ∧ v = u ∧ Hid (OwnP W w.heap.size v m) ∧ m.length ≤ k ∧ Hid (Below w.heap.size w W) ∧ Hid (m ++ (l.drop k).filter (insB lo hi) = R)) (fun i _ _ => L - (intOf i).toNat)
  case atStart => exact ⟨0, [], _, Nat.zero_le _, rfl, rfl, OwnP.nil_ _ _, Nat.le_refl _, Below.refl _ _, HR.out⟩
  case round =>
    obtain ⟨k, m, v, hk, rfl, rfl, hO, hm, hbw, hs⟩ := hrel
    by_cases hlt : k < L
    · have hkl : k < l.length := by have := HL.out; omega
      have hdr : l.drop k = l[k] :: l.drop (k + 1) := List.drop_eq_getElem_cons hkl
      obtain ⟨b1, o1, rfl, h1, p0, p1⟩ := (HA.out.below hbw.out).at k hkl
      rw [hdr] at hs
      generalize l[k]'hkl = q at *
      obtain ⟨x, y⟩ := q
      simp only at p0 p1
      have hk0 : (0 : Int) ≤ (k : Int) := by omega
      have hk1 : (k : Int) < (L : Int) := by omega
      have Hm := Lib.hid hm
      have hA1 : Below wr.heap.size wr (wr.alloc (.cells #[.int .i64 x, .int .i64 y] 27)) := (Below.refl _ _).alloc (Nat.le_refl _) _
      have hWW := below_then hbw.out hA1 hbw.out.size
      have hcall := pin_any v x y lo hi g0 g1 (wr.alloc (.cells #[.int .i64 x, .int .i64 y] 27)) ((hWW.cell (p := ⟨g0, 0, none⟩) B0.out).trans H0.out) ((hWW.cell (p := ⟨g1, 0, none⟩) B1.out).trans H1.out) (Nat.lt_of_lt_of_le B0.out hWW.size) (Nat.lt_of_lt_of_le B1.out hWW.size)
      have Hcall := Lib.hid hcall
      have HA1 := Lib.hid hA1
      clear hcall hA1 hm hdr hWW
      go_wp2_with fail
      refine Hcall.out.mono ?_
      rintro e X ⟨rfl, hX⟩
      have hOX : OwnP X w.heap.size v m := (hO.out.alloc _).below hX
      have HOX := Lib.hid hOX
      have c0 : X.cell? ⟨wr.heap.size, 0, none⟩ = some (.int .i64 x) := (hX.cell (by simp)).trans ((Whole.new wr 27 #[.int .i64 x, .int .i64 y]).cell 0)
      have c1 : X.cell? ⟨wr.heap.size, 1, none⟩ = some (.int .i64 y) := (hX.cell (by simp)).trans ((Whole.new wr 27 #[.int .i64 x, .int .i64 y]).cell 1)
      have HBX := Lib.hid (hbw.out.trans ((HA1.out.trans (hX.mono HA1.out.size)).mono hbw.out.size))
      have hown : X.ownsRow w.heap.size 27 2 v m.length (pts m) := hOX
      clear hX Hcall HA1 hO
      have hs2 := hs.out
      rw [List.filter_cons] at hs2
      cases hst : insB lo hi (x, y)
      · rw [hst, if_neg (by decide)] at hs2
        have Hs2 := Lib.hid hs2
        clear hs2 hst hs hown
        go_wp2_with fail
        go_roundw
        case rel => exact ⟨k + 1, m, v, hlt, by go_num, rfl, HOX, by have := Hm.out; omega, HBX, Hs2⟩
        case measure => simp [intOf]; omega
      · rw [hst, if_pos rfl] at hs2
        have Hs2 := Lib.hid (show (m ++ [(x, y)]) ++ (l.drop (k + 1)).filter (insB lo hi) = R by simpa using hs2)
        clear hs2 hst hs
        go_wp2_with (at_builtin; refine app_rec rfl (.tmp 18) (.tmp 20) 23 rfl w.heap.size 27 i0 _ 2 16 Try.underlying23 hi0 hz0 hz1 hz2 rfl (by decide) v _ _ rfl hown [.int .i64 x, .int .i64 y] rfl 1 rfl (pts_one [(x, y)]) (by have := Hm.out; unfold maxLen; omega) (by have := Hm.out; omega) HBX.out.size ?_)
        intro v3 w3 h2 h3 h5
        have hG : GoneP X w.heap.size v (m ++ [(x, y)]) v3 w3 := GoneP.grown h2 (by simp) (by rw [pts_append]; rfl) h3 h5
        have HG := Lib.hid hG
        clear h2 h3 h5 hG hown
        go_wp2_with fail
        go_roundw
        case rel => exact ⟨k + 1, m ++ [(x, y)], v3, hlt, by go_num, rfl, HG.out.own, by have := Hm.out; simp; omega, HBX.out.trans (HG.out.below HOX.out HBX.out.size), Hs2⟩
        case measure => simp [intOf]; omega
    · obtain rfl : k = L := by omega
      rw [List.drop_of_length_le (by have := HL.out; omega)] at hs
      have e : m = R := by have := hs.out; simpa using this
      subst e
      have H9 := Lib.hid hO.out.rd
      have HF := Lib.hid fun b e => (hO.out.lt b e).1
      clear hO
      go_wp2_with fail
      go_ret
      exact ⟨_, rfl, H9.out, hbw.out, HF.out⟩

set_option maxHeartbeats 2000000 in
theorem points_any (v : Value) (l : List P2) (lo hi : Int) (w : World) (h : RdP w w.heap.size v l) (hl : l.length ≤ 1000) (R : List P2) (hR : l.filter (insB lo hi) = R) :
    Calls Try.prog 13 #[v, .int .i64 lo, .int .i64 hi] w (PPost w R) := by
  obtain ⟨X, hX⟩ : ∃ X, X = (w.alloc (.cells #[.int .i64 lo] 3)).alloc (.cells #[.int .i64 hi] 3) := ⟨_, rfl⟩
  have hB1 : Below w.heap.size w (w.alloc (.cells #[.int .i64 lo] 3)) := (Below.refl _ _).alloc (Nat.le_refl _) _
  have hB : Below w.heap.size w X := by rw [hX]; exact hB1.alloc hB1.size _
  have hw0 : Whole X w.heap.size 3 #[.int .i64 lo] := by rw [hX]; exact (Whole.new w _ _).alloc _
  have hw1 : Whole X (w.heap.size + 1) 3 #[.int .i64 hi] := by
    rw [hX]
    have := Whole.new (w.alloc (.cells #[.int .i64 lo] 3)) 3 #[.int .i64 hi]
    simpa using this
  have Hk := Lib.hid (keptI_any v l lo hi w.heap.size (w.heap.size + 1) X (hw0.cell 0) (hw1.cell 0) hw0.lt hw1.lt ((h.below hB).more hB.size) hl R hR)
  have HB := Lib.hid hB
  have HX := Lib.hid hX
  clear hB1 hB hw0 hw1 hX h hR hl
  go_enter Try.func13, Try.ntmps13
  go_wp2_with fail
  rw [← HX.out]
  refine Hk.out.mono ?_
  rintro e W ⟨u, rfl, h1, h2, h3⟩
  have H3 := Lib.hid fun b e => Nat.le_trans HB.out.size (h3 b e)
  have H1 := Lib.hid h1
  have H2 := Lib.hid (below_then HB.out h2 HB.out.size)
  clear h1 h2 h3
  go_wp2_with fail
  go_ret
  exact ⟨_, rfl, H1.out, H2.out, H3.out⟩

/-- Does a right fraction lie between two whole numbers? -/
def btw (q : Int) (r d : Nat) (lo hi : Int) : Bool := okF q r d && (decide (lo ≤ q) && (decide (q < hi) || (decide (q = hi) && decide (r = 0))))
theorem btw_rz {q : Int} {r d : Nat} {lo hi : Int} (h : btw q r d lo hi = true) : lo ≤ rz q r d ∧ rz q r d ≤ hi := by
  unfold btw at h
  simp only [Bool.and_eq_true, Bool.or_eq_true, decide_eq_true_eq] at h
  obtain ⟨h1, h2, h3⟩ := h
  unfold rz
  rw [if_pos h1]
  simp only [okF, Bool.and_eq_true, decide_eq_true_eq] at h1
  unfold rnd
  split <;> omega

set_option maxHeartbeats 4000000 in
theorem between_any (q : Int) (r d : Nat) (lo hi : Int) (w : World) (hr : r < 18446744073709551616) (hd : d < 18446744073709551616) :
    Calls Try.prog 19 #[.agg #[.int .i64 q, .int .u64 (r : Int), .int .u64 (d : Int)], .int .i64 lo, .int .i64 hi] w fun e w' => e = .returned (.bool (btw q r d lo hi)) ∧ Below w.heap.size w w' := by
  have hrt := Lib.hid fun W => rright_any q r d W hr hd
  clear hr hd
  unfold btw
  cases hok : okF q r d
  · rw [hok] at hrt
    clear hok
    go_enter Try.func19, Try.ntmps19
    go_wp2_with fail
    refine (hrt.out _).mono ?_
    rintro e W ⟨rfl, hW⟩
    have HW := Lib.hid hW
    obtain ⟨hA, hB, hS⟩ := one_kept hW
    have HB := Lib.hid hB
    have a0 := hA.cell 0
    have a1 := hA.cell 1
    simp only [List.getElem?_toArray, List.getElem?_cons_zero, List.getElem?_cons_succ] at a0 a1
    clear hW hA hB hS
    go_wp2_with fail
    go_ret
    exact ⟨by first | rfl | simp, HB.out⟩
  · by_cases h1 : lo ≤ q
    · have d1 : decide (lo ≤ q) = true := decide_eq_true h1
      by_cases h2 : q < hi
      · have d2 : decide (q < hi) = true := decide_eq_true h2
        rw [d1, d2]
        clear h1 h2
        rw [hok] at hrt
        clear hok
        go_enter Try.func19, Try.ntmps19
        go_wp2_with fail
        refine (hrt.out _).mono ?_
        rintro e W ⟨rfl, hW⟩
        have HW := Lib.hid hW
        obtain ⟨hA, hB, hS⟩ := one_kept hW
        have HB := Lib.hid hB
        have a0 := hA.cell 0
        have a1 := hA.cell 1
        simp only [List.getElem?_toArray, List.getElem?_cons_zero, List.getElem?_cons_succ] at a0 a1
        clear hW hA hB hS
        go_wp2_with fail
        go_ret
        exact ⟨by first | rfl | simp, HB.out⟩
      · have d2 : decide (q < hi) = false := decide_eq_false h2
        by_cases h3 : q = hi
        · subst h3
          by_cases h4 : r = 0
          · subst h4
            rw [d1, d2, decide_eq_true (rfl : q = q)]
            clear h1 h2
            rw [hok] at hrt
            clear hok
            go_enter Try.func19, Try.ntmps19
            go_wp2_with fail
            refine (hrt.out _).mono ?_
            rintro e W ⟨rfl, hW⟩
            have HW := Lib.hid hW
            obtain ⟨hA, hB, hS⟩ := one_kept hW
            have HB := Lib.hid hB
            have a0 := hA.cell 0
            have a1 := hA.cell 1
            simp only [List.getElem?_toArray, List.getElem?_cons_zero, List.getElem?_cons_succ] at a0 a1
            clear hW hA hB hS
            go_wp2_with fail
            go_ret
            exact ⟨by first | rfl | simp, HB.out⟩
          · have d4 : decide (r = 0) = false := decide_eq_false h4
            have d5 : ((r : Int) == 0) = false := beq_eq_false_iff_ne.mpr (by omega)
            rw [d1, d2, d4, decide_eq_true (rfl : q = q)]
            clear h1 h2 h4
            rw [hok] at hrt
            clear hok
            go_enter Try.func19, Try.ntmps19
            go_wp2_with fail
            refine (hrt.out _).mono ?_
            rintro e W ⟨rfl, hW⟩
            have HW := Lib.hid hW
            obtain ⟨hA, hB, hS⟩ := one_kept hW
            have HB := Lib.hid hB
            have a0 := hA.cell 0
            have a1 := hA.cell 1
            simp only [List.getElem?_toArray, List.getElem?_cons_zero, List.getElem?_cons_succ] at a0 a1
            clear hW hA hB hS
            go_wp2_with fail
            go_ret
            exact ⟨by first | rfl | simp, HB.out⟩
        · have d3 : decide (q = hi) = false := decide_eq_false h3
          have d5 : (q == hi) = false := beq_eq_false_iff_ne.mpr h3
          rw [d1, d2, d3]
          clear h1 h2 h3
          rw [hok] at hrt
          clear hok
          go_enter Try.func19, Try.ntmps19
          go_wp2_with fail
          refine (hrt.out _).mono ?_
          rintro e W ⟨rfl, hW⟩
          have HW := Lib.hid hW
          obtain ⟨hA, hB, hS⟩ := one_kept hW
          have HB := Lib.hid hB
          have a0 := hA.cell 0
          have a1 := hA.cell 1
          simp only [List.getElem?_toArray, List.getElem?_cons_zero, List.getElem?_cons_succ] at a0 a1
          clear hW hA hB hS
          go_wp2_with fail
          go_ret
          exact ⟨by first | rfl | simp, HB.out⟩
    · have d1 : decide (lo ≤ q) = false := decide_eq_false h1
      rw [d1]
      clear h1
      rw [hok] at hrt
      clear hok
      go_enter Try.func19, Try.ntmps19
      go_wp2_with fail
      refine (hrt.out _).mono ?_
      rintro e W ⟨rfl, hW⟩
      have HW := Lib.hid hW
      obtain ⟨hA, hB, hS⟩ := one_kept hW
      have HB := Lib.hid hB
      have a0 := hA.cell 0
      have a1 := hA.cell 1
      simp only [List.getElem?_toArray, List.getElem?_cons_zero, List.getElem?_cons_succ] at a0 a1
      clear hW hA hB hS
      go_wp2_with fail
      go_ret
      exact ⟨by first | rfl | simp, HB.out⟩
end Go.Proofs.Ytgfioofloaeecaa
