/- The reference's fractions of big numbers: Whole, Order. -/
import Derived.Test.YtcfkhgpcamfecaaBigInt
import Derived.Deep.RegionHeld3
import Derived.Outline
namespace Go.Proofs.Ytcfkhgpcamfecaa
open Go.RowKit Big
set_option linter.unusedVariables false
set_option maxRecDepth 100000

/-- v is the fraction n by d, each of no more than k words; it lies below block B. -/
def IsRat (w : World) (B : Nat) (v : Value) (n d : Int) (k : Nat) : Prop :=
  ∃ x1 y1 x2 y2 : Value, v = .agg #[x1, y1, x2, y2] ∧ IsBig w B (.agg #[x1, y1]) n k ∧ IsBig w B (.agg #[x2, y2]) d k
theorem IsRat.keep {w w' : World} {B : Nat} {v : Value} {n d : Int} {k : Nat} (h : IsRat w B v n d k) (hb : Below B w w') : IsRat w' B v n d k := by
  obtain ⟨x1, y1, x2, y2, rfl, h1, h2⟩ := h
  exact ⟨x1, y1, x2, y2, rfl, h1.keep hb, h2.keep hb⟩
theorem IsRat.more {w : World} {B B' : Nat} {v : Value} {n d : Int} {k k' : Nat} (h : IsRat w B v n d k) (hB : B ≤ B') (hk : k ≤ k') : IsRat w B' v n d k' := by
  obtain ⟨x1, y1, x2, y2, rfl, h1, h2⟩ := h
  exact ⟨x1, y1, x2, y2, rfl, h1.more hB hk, h2.more hB hk⟩
def RatPost (w : World) (n d : Int) (k : Nat) (e : Ending) (w' : World) : Prop := ∃ v, e = .returned v ∧ IsRat w' w'.heap.size v n d k ∧ Below w.heap.size w w'

/-- Two fractions in their boxes. -/
def TwoR (w W : World) (g h : Nat) (a b c d p q r s : Value) (n1 d1 n2 d2 : Int) (k1 k2 : Nat) : Prop :=
  Whole W g 56 #[a, b, c, d] ∧ Whole W h 56 #[p, q, r, s] ∧
  (IsBig W W.heap.size (.agg #[a, b]) n1 k1 ∧ IsBig W W.heap.size (.agg #[c, d]) d1 k1 ∧ IsBig W W.heap.size (.agg #[p, q]) n2 k2 ∧ IsBig W W.heap.size (.agg #[r, s]) d2 k2) ∧ Below w.heap.size w W
section
variable {w W W' : World} {g h : Nat} {a b c d p q r s : Value} {n1 d1 n2 d2 : Int} {k1 k2 : Nat}
theorem TwoR.keep (H : TwoR w W g h a b c d p q r s n1 d1 n2 d2 k1 k2) (hb : Below W.heap.size W W') : TwoR w W' g h a b c d p q r s n1 d1 n2 d2 k1 k2 := by
  obtain ⟨h1, h2, ⟨h3, h4, h5, h6⟩, h7⟩ := H
  exact ⟨h1.below hb h1.lt, h2.below hb h2.lt, ⟨(h3.keep hb).more hb.size (Nat.le_refl _), (h4.keep hb).more hb.size (Nat.le_refl _), (h5.keep hb).more hb.size (Nat.le_refl _), (h6.keep hb).more hb.size (Nat.le_refl _)⟩, below_then h7 hb h7.size⟩
theorem TwoR.drew (H : TwoR w W g h a b c d p q r s n1 d1 n2 d2 k1 k2) : TwoR w W.drew g h a b c d p q r s n1 d1 n2 d2 k1 k2 := H.keep (Below.refl _ _).drew
theorem TwoR.cells (H : TwoR w W g h a b c d p q r s n1 d1 n2 d2 k1 k2) :
    W.cell? ⟨g, 0, none⟩ = some a ∧ W.cell? ⟨g, 1, none⟩ = some b ∧ W.cell? ⟨g, 2, none⟩ = some c ∧ W.cell? ⟨g, 3, none⟩ = some d ∧
    W.cell? ⟨h, 0, none⟩ = some p ∧ W.cell? ⟨h, 1, none⟩ = some q ∧ W.cell? ⟨h, 2, none⟩ = some r ∧ W.cell? ⟨h, 3, none⟩ = some s :=
  ⟨H.1.cell 0, H.1.cell 1, H.1.cell 2, H.1.cell 3, H.2.1.cell 0, H.2.1.cell 1, H.2.1.cell 2, H.2.1.cell 3⟩
end
theorem TwoR.new (w : World) {a b c d p q r s : Value} {n1 d1 n2 d2 : Int} {k1 k2 : Nat} (h3 : IsBig w w.heap.size (.agg #[a, b]) n1 k1) (h4 : IsBig w w.heap.size (.agg #[c, d]) d1 k1)
    (h5 : IsBig w w.heap.size (.agg #[p, q]) n2 k2) (h6 : IsBig w w.heap.size (.agg #[r, s]) d2 k2) :
    TwoR w ((w.alloc (.cells #[a, b, c, d] 56)).alloc (.cells #[p, q, r, s] 56)) w.heap.size (w.heap.size + 1) a b c d p q r s n1 d1 n2 d2 k1 k2 := by
  have hb : Below w.heap.size w ((w.alloc (.cells #[a, b, c, d] 56)).alloc (.cells #[p, q, r, s] 56)) := ((Below.refl _ _).alloc (Nat.le_refl _) _).alloc (by simp) _
  refine ⟨(Whole.new w _ _).alloc _, ?_, ⟨(h3.keep hb).more hb.size (Nat.le_refl _), (h4.keep hb).more hb.size (Nat.le_refl _), (h5.keep hb).more hb.size (Nat.le_refl _), (h6.keep hb).more hb.size (Nat.le_refl _)⟩, hb⟩
  have := Whole.new (w.alloc (.cells #[a, b, c, d] 56)) 56 #[p, q, r, s]
  simpa using this

set_option maxHeartbeats 4000000 in
theorem order_any (v1 v2 : Value) (n1 d1 n2 d2 : Int) (k1 k2 : Nat) (w : World) (h1 : IsRat w w.heap.size v1 n1 d1 k1) (h2 : IsRat w w.heap.size v2 n2 d2 k2) (hk1 : k1 ≤ 400) (hk2 : k2 ≤ 400) :
    Calls Try.prog 35 #[v1, v2] w fun e w' => e = .returned (.int .i64 (signI (n1 * d2 - n2 * d1))) ∧ Below w.heap.size w w' := by
  obtain ⟨a, b, c, d, rfl, h3, h4⟩ := h1
  obtain ⟨p, q, r, s, rfl, h5, h6⟩ := h2
  have hst := TwoR.new w h3 h4 h5 h6
  obtain ⟨W0, hW0⟩ : ∃ W0, W0 = ((w.alloc (.cells #[a, b, c, d] 56)).alloc (.cells #[p, q, r, s] 56)) := ⟨_, rfl⟩
  obtain ⟨g, hg⟩ : ∃ g, g = w.heap.size := ⟨_, rfl⟩
  have HW0 := Lib.hid hW0
  have Hg := Lib.hid hg
  clear hW0 hg h3 h4 h5 h6
  go_enter Try.func35, Try.ntmps35
  go_wp2_with fail
  rw [← HW0.out, ← Hg.out] at hst ⊢
  have H0 := Lib.hid hst.drew
  clear hst HW0 Hg
  have Hm1 := Lib.hid fun X (H : TwoR w X g (g + 1) a b c d p q r s n1 d1 n2 d2 k1 k2) => mul_any _ _ _ _ _ _ X H.2.2.1.1 H.2.2.1.2.2.2 (by omega) (by omega)
  have Hm2 := Lib.hid fun X (H : TwoR w X g (g + 1) a b c d p q r s n1 d1 n2 d2 k1 k2) => mul_any _ _ _ _ _ _ X H.2.2.1.2.2.1 H.2.2.1.2.1 (by omega) (by omega)
  go_region_held3 (fun W => W.cell? ⟨g, 0, none⟩ = some a ∧ W.cell? ⟨g, 1, none⟩ = some b ∧ W.cell? ⟨g, 2, none⟩ = some c ∧ W.cell? ⟨g, 3, none⟩ = some d ∧
      W.cell? ⟨g + 1, 0, none⟩ = some p ∧ W.cell? ⟨g + 1, 1, none⟩ = some q ∧ W.cell? ⟨g + 1, 2, none⟩ = some r ∧ W.cell? ⟨g + 1, 3, none⟩ = some s)
    (first | exact H0.out.cells | exact H1.out.cells | exact H2.out.cells | exact H3.out.cells)
    (first
      | (go_at_call 13; (with_reducible refine (Hm1.out _ H0.out).mono ?_); rintro e X1 ⟨z1, rfl, hi1, hx1⟩; (have H1 := Lib.hid (H0.out.keep hx1)); (have HI1 := Lib.hid hi1); clear hi1 hx1)
      | (go_at_call 13; (with_reducible refine (Hm2.out _ H1.out).mono ?_); rintro e X2 ⟨z2, rfl, hi2, hx2⟩; (have H2 := Lib.hid (H1.out.keep hx2)); (have HC := Lib.hid (cmp_any z1 z2 _ _ _ _ (k1 + k2) X2 ((HI1.out.keep hx2).more hx2.size (Nat.le_refl _)) hi2 (Nat.le_refl _) (by omega) (by omega))); clear hi2 hx2)
      | (go_at_call 11; (with_reducible refine HC.out.mono ?_); rintro e X3 ⟨rfl, hx3⟩; (have H3 := Lib.hid (H2.out.keep hx3)); clear hx3))
  go_wp2_with fail
  go_ret
  exact ⟨rfl, H3.out.2.2.2⟩
end Go.Proofs.Ytcfkhgpcamfecaa
