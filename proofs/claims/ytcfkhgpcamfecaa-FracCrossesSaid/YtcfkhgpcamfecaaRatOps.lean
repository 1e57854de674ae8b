/- The reference's fractions of big numbers: Whole, Plus, Minus. -/
import Derived.Test.YtcfkhgpcamfecaaRat
namespace Go.Proofs.Ytcfkhgpcamfecaa
open Go.RowKit Big
set_option linter.unusedVariables false
set_option maxRecDepth 100000

/-- No cell of these is a number. -/
def NoInt (cs : Array Value) : Prop := ∀ (k : IntKind) (i : Nat) (m : Int), cs[i]? ≠ some (.int k m)
def NotInt (v : Value) : Prop := ∀ (k : IntKind) (m : Int), v ≠ .int k m
theorem NoInt.set {cs : Array Value} (h : NoInt cs) (i : Nat) {v : Value} (hv : NotInt v) : NoInt (cs.setIfInBounds i v) := by
  intro k j m
  rw [Array.getElem?_setIfInBounds]
  split
  · split
    · intro e; exact hv k m (by simpa using e)
    · simp
  · exact h k j m
theorem IsBig.parts {w : World} {B : Nat} {v : Value} {z : Int} {k : Nat} (h : IsBig w B v z k) : ∃ n a m c, v = .agg #[.bool n, .slice a m c] := by
  obtain ⟨n, a, c, l, rfl, _⟩ := h
  exact ⟨_, _, _, _, rfl⟩
theorem IsBig.not2 {w : World} {B : Nat} {x y : Value} {z : Int} {k : Nat} (h : IsBig w B (.agg #[x, y]) z k) : NotInt x ∧ NotInt y := by
  obtain ⟨n, a, c, l, e, _⟩ := h
  simp at e
  obtain ⟨rfl, rfl⟩ := e
  exact ⟨fun _ _ h => (by cases h), fun _ _ h => (by cases h)⟩
theorem IsBig.putG {w : World} {B g k i : Nat} {t : TypeId} {cs : Array Value} {v : Value} {z : Int} (hW : Whole w g t cs) (hn : NoInt cs) (h : IsBig w B v z k) (u : Value) : IsBig (w.setCell ⟨g, i, none⟩ u) B v z k := by
  obtain ⟨neg, a', c', l, e, hWd, r⟩ := h
  exact ⟨neg, a', c', l, e, ⟨hWd.1.put hW (hn _) i u, hWd.2⟩, r⟩
theorem noInt2 {a b : Value} (ha : NotInt a) (hb : NotInt b) : NoInt #[a, b] := by
  intro k i m
  rcases i with _ | _ | i
  · simpa using ha k m
  · simpa using hb k m
  · simp
theorem noInt4 {a b c d : Value} (ha : NotInt a) (hb : NotInt b) (hc : NotInt c) (hd : NotInt d) : NoInt #[a, b, c, d] := by
  intro k i m
  rcases i with _ | _ | _ | _ | i
  · simpa using ha k m
  · simpa using hb k m
  · simpa using hc k m
  · simpa using hd k m
  · simp
theorem notInt_bool (b : Bool) : NotInt (.bool b) := fun _ _ h => by cases h
theorem notInt_slice (a : Option Addr) (n c : Nat) : NotInt (.slice a n c) := fun _ _ h => by cases h

/-- A block of a fraction takes another one. -/
theorem rat_put {W : World} {g k : Nat} {t : TypeId} {a b c d x1 y1 x2 y2 : Value} {n m : Int} (hW : Whole W g t #[a, b, c, d]) (hn : NoInt #[a, b, c, d]) (h1 : IsBig W W.heap.size (.agg #[x1, y1]) n k) (h2 : IsBig W W.heap.size (.agg #[x2, y2]) m k) :
    IsRat ((((W.setCell ⟨g, 0, none⟩ x1).setCell ⟨g, 1, none⟩ y1).setCell ⟨g, 2, none⟩ x2).setCell ⟨g, 3, none⟩ y2) ((((W.setCell ⟨g, 0, none⟩ x1).setCell ⟨g, 1, none⟩ y1).setCell ⟨g, 2, none⟩ x2).setCell ⟨g, 3, none⟩ y2).heap.size (.agg #[x1, y1, x2, y2]) n m k ∧
    Whole ((((W.setCell ⟨g, 0, none⟩ x1).setCell ⟨g, 1, none⟩ y1).setCell ⟨g, 2, none⟩ x2).setCell ⟨g, 3, none⟩ y2) g t #[x1, y1, x2, y2] := by
  obtain ⟨nx1, ny1⟩ := h1.not2
  obtain ⟨nx2, ny2⟩ := h2.not2
  have A1 : Whole (W.setCell ⟨g, 0, none⟩ x1) g t #[x1, b, c, d] := hW.set 0 x1
  have N1 : NoInt #[x1, b, c, d] := hn.set 0 nx1
  have A2 : Whole ((W.setCell ⟨g, 0, none⟩ x1).setCell ⟨g, 1, none⟩ y1) g t #[x1, y1, c, d] := A1.set 1 y1
  have N2 : NoInt #[x1, y1, c, d] := N1.set 1 ny1
  have A3 : Whole (((W.setCell ⟨g, 0, none⟩ x1).setCell ⟨g, 1, none⟩ y1).setCell ⟨g, 2, none⟩ x2) g t #[x1, y1, x2, d] := A2.set 2 x2
  have N3 : NoInt #[x1, y1, x2, d] := N2.set 2 nx2
  have A4 : Whole ((((W.setCell ⟨g, 0, none⟩ x1).setCell ⟨g, 1, none⟩ y1).setCell ⟨g, 2, none⟩ x2).setCell ⟨g, 3, none⟩ y2) g t #[x1, y1, x2, y2] := A3.set 3 y2
  exact ⟨⟨x1, y1, x2, y2, rfl, ((((h1.putG hW hn x1).putG A1 N1 y1).putG A2 N2 x2).putG A3 N3 y2).more (by simp [World.setCell]) (Nat.le_refl _), ((((h2.putG hW hn x1).putG A1 N1 y1).putG A2 N2 x2).putG A3 N3 y2).more (by simp [World.setCell]) (Nat.le_refl _)⟩, A4⟩
theorem zero4 : NoInt #[.bool false, .slice none 0 0, .bool false, .slice none 0 0] := noInt4 (notInt_bool _) (notInt_slice _ _ _) (notInt_bool _) (notInt_slice _ _ _)
def zeroR : Array Value := #[.bool false, .slice none 0 0, .bool false, .slice none 0 0]

set_option maxHeartbeats 4000000 in
theorem whole_any (z : Int) (w : World) (hz : -9223372036854775808 ≤ z ∧ z < 9223372036854775808) :
    Calls Try.prog 36 #[.int .i64 z] w (RatPost w z 1 5) := by
  have hi := Lib.hid fun W => int_any z W hz
  have ho := Lib.hid fun W => word_any 1 W (by omega)
  have hR := Whole.new w 56 #[.bool false, .slice none 0 0, .bool false, .slice none 0 0]
  have hB : Below w.heap.size w (w.alloc (.cells #[.bool false, .slice none 0 0, .bool false, .slice none 0 0] 56)) := (Below.refl _ _).alloc (Nat.le_refl _) _
  obtain ⟨W0, hW0⟩ : ∃ W0, W0 = w.alloc (.cells #[.bool false, .slice none 0 0, .bool false, .slice none 0 0] 56) := ⟨_, rfl⟩
  have HW0 := Lib.hid hW0
  have HR := Lib.hid hR
  have HB := Lib.hid hB
  clear hW0 hR hB hz
  go_enter Try.func36, Try.ntmps36
  go_wp2_with fail
  rw [← HW0.out] at HR HB ⊢
  refine (hi.out _).mono ?_
  rintro e W1 ⟨v1, rfl, hi1, hb1⟩
  have HI1 := Lib.hid hi1
  have HR1 := Lib.hid (HR.out.below hb1 HR.out.lt)
  have HB1 := Lib.hid (below_then HB.out hb1 HB.out.size)
  clear hi1 hb1
  go_wp2_with fail
  refine (ho.out _).mono ?_
  rintro e W2 ⟨v2, rfl, hi2, hb2⟩
  have hi1 := (HI1.out.keep hb2).more hb2.size (Nat.le_refl _)
  obtain ⟨n1, a1, m1, c1, rfl⟩ := hi1.parts
  obtain ⟨n2, a2, m2, c2, rfl⟩ := hi2.parts
  have hR2 := HR1.out.below hb2 HR1.out.lt
  have hB2 := below_then HB1.out hb2 HB1.out.size
  obtain ⟨k1, k2⟩ := rat_put hR2 zero4 hi1 (hi2.more (Nat.le_refl _) (show 4 ≤ 5 by omega))
  have r0 := hR2.cell 0
  have r1 := hR2.cell 1
  have r2 := hR2.cell 2
  have r3 := hR2.cell 3
  have f0 := hR2.frozen 0
  have f1 := hR2.frozen 1
  have f2 := hR2.frozen 2
  have f3 := hR2.frozen 3
  simp only [List.getElem?_toArray, List.getElem?_cons_zero, List.getElem?_cons_succ] at r0 r1 r2 r3
  have K1 := Lib.hid k1
  have K2 := Lib.hid k2
  have HB2 := Lib.hid hB2
  clear hi1 hi2 hb2 hR2 hB2 k1 k2
  go_wp2_with fail
  exact bodyPost_ret (results_cell_row rfl _ _ w.heap.size 56 _ (0, 0) _ rfl K2.out Try.underlying56 rfl (by kernel_rfl)) rfl ⟨_, rfl, K1.out, (((HB2.out.setCell (Nat.le_refl _) _).setCell (Nat.le_refl _) _).setCell (Nat.le_refl _) _).setCell (Nat.le_refl _) _⟩

/-- Two fractions in their boxes, and the result's box, that is still empty. -/
def ThreeR (w W : World) (g : Nat) (a b c d p q r s : Value) (n1 d1 n2 d2 : Int) (k1 k2 : Nat) : Prop :=
  TwoR w W g (g + 1) a b c d p q r s n1 d1 n2 d2 k1 k2 ∧ Whole W (g + 1 + 1) 56 #[.bool false, .slice none 0 0, .bool false, .slice none 0 0] ∧ w.heap.size ≤ g
section
variable {w W W' : World} {g : Nat} {a b c d p q r s : Value} {n1 d1 n2 d2 : Int} {k1 k2 : Nat}
theorem ThreeR.keep (H : ThreeR w W g a b c d p q r s n1 d1 n2 d2 k1 k2) (hb : Below W.heap.size W W') : ThreeR w W' g a b c d p q r s n1 d1 n2 d2 k1 k2 :=
  ⟨H.1.keep hb, H.2.1.below hb H.2.1.lt, H.2.2⟩
theorem ThreeR.drew (H : ThreeR w W g a b c d p q r s n1 d1 n2 d2 k1 k2) : ThreeR w W.drew g a b c d p q r s n1 d1 n2 d2 k1 k2 := H.keep (Below.refl _ _).drew
theorem ThreeR.res (H : ThreeR w W g a b c d p q r s n1 d1 n2 d2 k1 k2) :
    W.cell? ⟨g + 1 + 1, 0, none⟩ = some (.bool false) ∧ W.cell? ⟨g + 1 + 1, 1, none⟩ = some (.slice none 0 0) ∧ W.cell? ⟨g + 1 + 1, 2, none⟩ = some (.bool false) ∧ W.cell? ⟨g + 1 + 1, 3, none⟩ = some (.slice none 0 0) ∧
    W.frozen? ⟨g + 1 + 1, 0, none⟩ = false ∧ W.frozen? ⟨g + 1 + 1, 1, none⟩ = false ∧ W.frozen? ⟨g + 1 + 1, 2, none⟩ = false ∧ W.frozen? ⟨g + 1 + 1, 3, none⟩ = false :=
  ⟨H.2.1.cell 0, H.2.1.cell 1, H.2.1.cell 2, H.2.1.cell 3, H.2.1.frozen 0, H.2.1.frozen 1, H.2.1.frozen 2, H.2.1.frozen 3⟩
/-- The result's box takes the fraction. -/
theorem ThreeR.fin (H : ThreeR w W g a b c d p q r s n1 d1 n2 d2 k1 k2) {x1 y1 x2 y2 : Value} {n m : Int} {k : Nat} (h1 : IsBig W W.heap.size (.agg #[x1, y1]) n k) (h2 : IsBig W W.heap.size (.agg #[x2, y2]) m k) :
    TwoR w ((((W.setCell ⟨g + 1 + 1, 0, none⟩ x1).setCell ⟨g + 1 + 1, 1, none⟩ y1).setCell ⟨g + 1 + 1, 2, none⟩ x2).setCell ⟨g + 1 + 1, 3, none⟩ y2) g (g + 1) a b c d p q r s n1 d1 n2 d2 k1 k2 ∧
    IsRat ((((W.setCell ⟨g + 1 + 1, 0, none⟩ x1).setCell ⟨g + 1 + 1, 1, none⟩ y1).setCell ⟨g + 1 + 1, 2, none⟩ x2).setCell ⟨g + 1 + 1, 3, none⟩ y2) ((((W.setCell ⟨g + 1 + 1, 0, none⟩ x1).setCell ⟨g + 1 + 1, 1, none⟩ y1).setCell ⟨g + 1 + 1, 2, none⟩ x2).setCell ⟨g + 1 + 1, 3, none⟩ y2).heap.size (.agg #[x1, y1, x2, y2]) n m k ∧
    Whole ((((W.setCell ⟨g + 1 + 1, 0, none⟩ x1).setCell ⟨g + 1 + 1, 1, none⟩ y1).setCell ⟨g + 1 + 1, 2, none⟩ x2).setCell ⟨g + 1 + 1, 3, none⟩ y2) (g + 1 + 1) 56 #[x1, y1, x2, y2] := by
  obtain ⟨⟨A, B, ⟨C1, C2, C3, C4⟩, D⟩, R, hg⟩ := H
  obtain ⟨K1, K2⟩ := rat_put R zero4 h1 h2
  obtain ⟨nx1, ny1⟩ := h1.not2
  obtain ⟨nx2, ny2⟩ := h2.not2
  have A1 : Whole (W.setCell ⟨g + 1 + 1, 0, none⟩ x1) (g + 1 + 1) 56 #[x1, .slice none 0 0, .bool false, .slice none 0 0] := R.set 0 x1
  have N1 : NoInt #[x1, .slice none 0 0, .bool false, .slice none 0 0] := zero4.set 0 nx1
  have A2 : Whole ((W.setCell ⟨g + 1 + 1, 0, none⟩ x1).setCell ⟨g + 1 + 1, 1, none⟩ y1) (g + 1 + 1) 56 #[x1, y1, .bool false, .slice none 0 0] := A1.set 1 y1
  have N2 : NoInt #[x1, y1, .bool false, .slice none 0 0] := N1.set 1 ny1
  have A3 : Whole (((W.setCell ⟨g + 1 + 1, 0, none⟩ x1).setCell ⟨g + 1 + 1, 1, none⟩ y1).setCell ⟨g + 1 + 1, 2, none⟩ x2) (g + 1 + 1) 56 #[x1, y1, x2, .slice none 0 0] := A2.set 2 x2
  have N3 : NoInt #[x1, y1, x2, .slice none 0 0] := N2.set 2 nx2
  have P : ∀ {v : Value} {z : Int} {j : Nat}, IsBig W W.heap.size v z j → IsBig ((((W.setCell ⟨g + 1 + 1, 0, none⟩ x1).setCell ⟨g + 1 + 1, 1, none⟩ y1).setCell ⟨g + 1 + 1, 2, none⟩ x2).setCell ⟨g + 1 + 1, 3, none⟩ y2) ((((W.setCell ⟨g + 1 + 1, 0, none⟩ x1).setCell ⟨g + 1 + 1, 1, none⟩ y1).setCell ⟨g + 1 + 1, 2, none⟩ x2).setCell ⟨g + 1 + 1, 3, none⟩ y2).heap.size v z j :=
    fun h => ((((h.putG R zero4 x1).putG A1 N1 y1).putG A2 N2 x2).putG A3 N3 y2).more (by simp [World.setCell]) (Nat.le_refl _)
  have hn : w.heap.size ≤ g + 1 + 1 := by omega
  refine ⟨⟨(((A.far (p := ⟨g + 1 + 1, 0, none⟩) (by simp; omega) x1).far (p := ⟨g + 1 + 1, 1, none⟩) (by simp; omega) y1).far (p := ⟨g + 1 + 1, 2, none⟩) (by simp; omega) x2).far (p := ⟨g + 1 + 1, 3, none⟩) (by simp; omega) y2,
    (((B.far (p := ⟨g + 1 + 1, 0, none⟩) (by simp) x1).far (p := ⟨g + 1 + 1, 1, none⟩) (by simp) y1).far (p := ⟨g + 1 + 1, 2, none⟩) (by simp) x2).far (p := ⟨g + 1 + 1, 3, none⟩) (by simp) y2,
    ⟨P C1, P C2, P C3, P C4⟩, (((D.setCell hn _).setCell hn _).setCell hn _).setCell hn _⟩, K1, K2⟩
end
theorem ThreeR.new (w : World) {a b c d p q r s : Value} {n1 d1 n2 d2 : Int} {k1 k2 : Nat} (h3 : IsBig w w.heap.size (.agg #[a, b]) n1 k1) (h4 : IsBig w w.heap.size (.agg #[c, d]) d1 k1)
    (h5 : IsBig w w.heap.size (.agg #[p, q]) n2 k2) (h6 : IsBig w w.heap.size (.agg #[r, s]) d2 k2) :
    ThreeR w (((w.alloc (.cells #[a, b, c, d] 56)).alloc (.cells #[p, q, r, s] 56)).alloc (.cells #[.bool false, .slice none 0 0, .bool false, .slice none 0 0] 56)) w.heap.size a b c d p q r s n1 d1 n2 d2 k1 k2 := by
  have h := TwoR.new w h3 h4 h5 h6
  refine ⟨h.keep ((Below.refl _ _).alloc (Nat.le_refl _) _), ?_, Nat.le_refl _⟩
  have := Whole.new ((w.alloc (.cells #[a, b, c, d] 56)).alloc (.cells #[p, q, r, s] 56)) 56 #[.bool false, .slice none 0 0, .bool false, .slice none 0 0]
  simpa using this

set_option maxHeartbeats 8000000 in
theorem plus_rat (v1 v2 : Value) (n1 d1 n2 d2 : Int) (k1 k2 : Nat) (w : World) (h1 : IsRat w w.heap.size v1 n1 d1 k1) (h2 : IsRat w w.heap.size v2 n2 d2 k2) (hk1 : k1 ≤ 300) (hk2 : k2 ≤ 300) :
    Calls Try.prog 56 #[v1, v2] w (RatPost w (n1 * d2 + n2 * d1) (d1 * d2) (k1 + k2 + 1)) := by
  obtain ⟨a, b, c, d, rfl, h3, h4⟩ := h1
  obtain ⟨p, q, r, s, rfl, h5, h6⟩ := h2
  have hst := ThreeR.new w h3 h4 h5 h6
  obtain ⟨W0, hW0⟩ : ∃ W0, W0 = (((w.alloc (.cells #[a, b, c, d] 56)).alloc (.cells #[p, q, r, s] 56)).alloc (.cells #[.bool false, .slice none 0 0, .bool false, .slice none 0 0] 56)) := ⟨_, rfl⟩
  obtain ⟨g, hg⟩ : ∃ g, g = w.heap.size := ⟨_, rfl⟩
  have HW0 := Lib.hid hW0
  have Hg := Lib.hid hg
  clear hW0 hg h3 h4 h5 h6
  go_enter Try.func56, Try.ntmps56
  go_wp2_with fail
  rw [← HW0.out, ← Hg.out] at hst ⊢
  have H0 := Lib.hid hst.drew
  clear hst HW0
  have Hm1 := Lib.hid fun X (H : ThreeR w X g a b c d p q r s n1 d1 n2 d2 k1 k2) => mul_any _ _ _ _ _ _ X H.1.2.2.1.1 H.1.2.2.1.2.2.2 (by omega) (by omega)
  have Hm2 := Lib.hid fun X (H : ThreeR w X g a b c d p q r s n1 d1 n2 d2 k1 k2) => mul_any _ _ _ _ _ _ X H.1.2.2.1.2.2.1 H.1.2.2.1.2.1 (by omega) (by omega)
  have Hm4 := Lib.hid fun X (H : ThreeR w X g a b c d p q r s n1 d1 n2 d2 k1 k2) => mul_any _ _ _ _ _ _ X H.1.2.2.1.2.1 H.1.2.2.1.2.2.2 (by omega) (by omega)
  go_region_held3 (fun W => W.cell? ⟨g, 0, none⟩ = some a ∧ W.cell? ⟨g, 1, none⟩ = some b ∧ W.cell? ⟨g, 2, none⟩ = some c ∧ W.cell? ⟨g, 3, none⟩ = some d ∧
      W.cell? ⟨g + 1, 0, none⟩ = some p ∧ W.cell? ⟨g + 1, 1, none⟩ = some q ∧ W.cell? ⟨g + 1, 2, none⟩ = some r ∧ W.cell? ⟨g + 1, 3, none⟩ = some s)
    (first | exact H0.out.1.cells | exact H1.out.1.cells | exact H2.out.1.cells | exact H3.out.1.cells | exact H4.out.1.cells | exact HF.out.1.cells)
    (first
      | (go_at_call 13; (with_reducible refine (Hm1.out _ H0.out).mono ?_); rintro e X1 ⟨z1, rfl, hi1, hx1⟩; (have H1 := Lib.hid (H0.out.keep hx1)); (have HI1 := Lib.hid hi1); clear hi1 hx1)
      | (go_at_call 13; (with_reducible refine (Hm2.out _ H1.out).mono ?_); rintro e X2 ⟨z2, rfl, hi2, hx2⟩; (have H2 := Lib.hid (H1.out.keep hx2)); (have HC := Lib.hid (add_any z1 z2 _ _ _ _ (k1 + k2) X2 ((HI1.out.keep hx2).more hx2.size (Nat.le_refl _)) hi2 (Nat.le_refl _) (by omega) (by omega))); clear hi2 hx2)
      | (go_at_call 43; (with_reducible refine HC.out.mono ?_); rintro e X3 ⟨z3, rfl, hi3, hx3⟩; (have H3 := Lib.hid (H2.out.keep hx3)); (have HI3 := Lib.hid hi3); clear hi3 hx3)
      | (go_at_call 13; (with_reducible refine (Hm4.out _ H3.out).mono ?_); rintro e X4 ⟨z4, rfl, hi4, hx4⟩; (have H4 := Lib.hid (H3.out.keep hx4)); (have hi3 := (HI3.out.keep hx4).more hx4.size (Nat.le_refl _)); obtain ⟨n5, a5, m5, c5, rfl⟩ := hi3.parts; obtain ⟨n6, a6, m6, c6, rfl⟩ := hi4.parts; (have HF := Lib.hid (H4.out.fin hi3 (hi4.more (Nat.le_refl _) (show k1 + k2 ≤ k1 + k2 + 1 by omega)))); obtain ⟨r0, r1, r2, r3, f0, f1, f2, f3⟩ := H4.out.res; clear hi3 hi4 hx4))
  go_wp2_with fail
  exact bodyPost_ret (results_cell_row rfl _ _ (g + 1 + 1) 56 _ (0, 0) _ rfl HF.out.2.2 Try.underlying56 rfl (by kernel_rfl)) rfl ⟨_, rfl, HF.out.2.1, HF.out.1.2.2.2⟩
end Go.Proofs.Ytcfkhgpcamfecaa
