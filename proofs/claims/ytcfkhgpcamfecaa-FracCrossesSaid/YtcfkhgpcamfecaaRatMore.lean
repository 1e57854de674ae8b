/- The reference's fractions of big numbers: Minus; layer 23's Rat. -/
import Derived.Test.YtcfkhgpcamfecaaRatOps
namespace Go.Proofs.Ytcfkhgpcamfecaa
open Go.RowKit Big
set_option linter.unusedVariables false
set_option maxRecDepth 100000

theorem IsRat.parts {w : World} {B : Nat} {v : Value} {n d : Int} {k : Nat} (h : IsRat w B v n d k) : ∃ n1 a1 m1 c1 n2 a2 m2 c2, v = .agg #[.bool n1, .slice a1 m1 c1, .bool n2, .slice a2 m2 c2] := by
  obtain ⟨x1, y1, x2, y2, rfl, h1, h2⟩ := h
  obtain ⟨n1, a1, m1, c1, e1⟩ := h1.parts
  obtain ⟨n2, a2, m2, c2, e2⟩ := h2.parts
  simp at e1 e2
  obtain ⟨rfl, rfl⟩ := e1
  obtain ⟨rfl, rfl⟩ := e2
  exact ⟨_, _, _, _, _, _, _, _, rfl⟩
theorem IsRat.bigs {w : World} {B : Nat} {x1 y1 x2 y2 : Value} {n d : Int} {k : Nat} (h : IsRat w B (.agg #[x1, y1, x2, y2]) n d k) : IsBig w B (.agg #[x1, y1]) n k ∧ IsBig w B (.agg #[x2, y2]) d k := by
  obtain ⟨x1', y1', x2', y2', e, h1, h2⟩ := h
  simp at e
  obtain ⟨rfl, rfl, rfl, rfl⟩ := e
  exact ⟨h1, h2⟩

set_option maxHeartbeats 8000000 in
theorem minus_rat (v1 v2 : Value) (n1 d1 n2 d2 : Int) (k1 k2 : Nat) (w : World) (h1 : IsRat w w.heap.size v1 n1 d1 k1) (h2 : IsRat w w.heap.size v2 n2 d2 k2) (hk1 : k1 ≤ 300) (hk2 : k2 ≤ 300) :
    Calls Try.prog 55 #[v1, v2] w (RatPost w (n1 * d2 + -n2 * d1) (d1 * d2) (k1 + k2 + 1)) := by
  obtain ⟨a, b, c, d, rfl, h3, h4⟩ := h1
  obtain ⟨p, q, r, s, rfl, h5, h6⟩ := h2
  have hst := ThreeR.new w h3 h4 h5 h6
  obtain ⟨W0, hW0⟩ : ∃ W0, W0 = (((w.alloc (.cells #[a, b, c, d] 56)).alloc (.cells #[p, q, r, s] 56)).alloc (.cells #[.bool false, .slice none 0 0, .bool false, .slice none 0 0] 56)) := ⟨_, rfl⟩
  obtain ⟨g, hg⟩ : ∃ g, g = w.heap.size := ⟨_, rfl⟩
  have HW0 := Lib.hid hW0
  have Hg := Lib.hid hg
  clear hW0 hg h3 h4 h5 h6
  go_enter Try.func55, Try.ntmps55
  go_wp2_with fail
  rw [← HW0.out, ← Hg.out] at hst ⊢
  have H0 := Lib.hid hst.drew
  clear hst HW0
  have Hn := Lib.hid fun X (H : ThreeR w X g a b c d p q r s n1 d1 n2 d2 k1 k2) => neg_any _ _ _ X H.1.2.2.1.2.2.1
  have Hp := Lib.hid fun X x y (H : ThreeR w X g a b c d p q r s n1 d1 n2 d2 k1 k2) (hI : IsBig X X.heap.size (.agg #[x, y]) (-n2) k2) => plus_rat (.agg #[a, b, c, d]) (.agg #[x, y, r, s]) n1 d1 (-n2) d2 k1 k2 X ⟨a, b, c, d, rfl, H.1.2.2.1.1, H.1.2.2.1.2.1⟩ ⟨x, y, r, s, rfl, hI, H.1.2.2.1.2.2.2⟩ hk1 hk2
  go_region_held3 (fun W => W.cell? ⟨g, 0, none⟩ = some a ∧ W.cell? ⟨g, 1, none⟩ = some b ∧ W.cell? ⟨g, 2, none⟩ = some c ∧ W.cell? ⟨g, 3, none⟩ = some d ∧
      W.cell? ⟨g + 1, 0, none⟩ = some p ∧ W.cell? ⟨g + 1, 1, none⟩ = some q ∧ W.cell? ⟨g + 1, 2, none⟩ = some r ∧ W.cell? ⟨g + 1, 3, none⟩ = some s)
    (first | exact H0.out.1.cells | exact H1.out.1.cells | exact H2.out.1.cells | exact HF.out.1.cells)
    (first
      | (go_at_call 24; (with_reducible refine (Hn.out _ H0.out).mono ?_); rintro e X1 ⟨z1, rfl, hi1, hx1⟩; (have H1 := Lib.hid (H0.out.keep hx1)); obtain ⟨n4, a4, m4, c4, rfl⟩ := hi1.parts; (have HI1 := Lib.hid hi1); clear hi1 hx1)
      | (go_at_call 56; (with_reducible refine (Hp.out _ _ _ H1.out HI1.out).mono ?_); rintro e X2 ⟨z2, rfl, hi2, hx2⟩; (have H2 := Lib.hid (H1.out.keep hx2)); obtain ⟨n5, a5, m5, c5, n6, a6, m6, c6, rfl⟩ := hi2.parts; (have HF := Lib.hid (H2.out.fin hi2.bigs.1 hi2.bigs.2)); obtain ⟨r0, r1, r2, r3, f0, f1, f2, f3⟩ := H2.out.res; clear hi2 hx2))
  go_wp2_with fail
  exact bodyPost_ret (results_cell_row rfl _ _ (g + 1 + 1) 56 _ (0, 0) _ rfl HF.out.2.2 Try.underlying56 rfl (by kernel_rfl)) rfl ⟨_, rfl, HF.out.2.1, HF.out.1.2.2.2⟩
end Go.Proofs.Ytcfkhgpcamfecaa
