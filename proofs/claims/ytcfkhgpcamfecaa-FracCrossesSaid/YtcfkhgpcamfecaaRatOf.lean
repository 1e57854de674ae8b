/- Layer 23's reference: the value of a fraction. -/
import Derived.Test.YtcfkhgpcamfecaaRatMore
import Derived.Deep.DeepCutAuto
namespace Go.Proofs.Ytcfkhgpcamfecaa
open Go.RowKit Big
set_option linter.unusedVariables false
set_option maxRecDepth 100000

/-- The boxes of Rat: the fraction, what is answered, and the denominator. -/
def RatSt (w W : World) (g m : Nat) (q r dd : Int) (x y : Value) : Prop :=
  Whole W g 46 #[.int .i64 q, .int .u64 r, .int .u64 dd] ∧ Whole W (g + 1) 56 #[.bool false, .slice none 0 0, .bool false, .slice none 0 0] ∧ Whole W m 29 #[x, y] ∧ IsBig W W.heap.size (.agg #[x, y]) dd 4 ∧ Below w.heap.size w W ∧ w.heap.size ≤ g ∧ g + 1 < m
section
variable {w W W' : World} {g m : Nat} {q r dd : Int} {x y : Value}
theorem RatSt.keep (H : RatSt w W g m q r dd x y) (hb : Below W.heap.size W W') : RatSt w W' g m q r dd x y :=
  ⟨H.1.below hb H.1.lt, H.2.1.below hb H.2.1.lt, H.2.2.1.below hb H.2.2.1.lt, (H.2.2.2.1.keep hb).more hb.size (Nat.le_refl _), below_then H.2.2.2.2.1 hb H.2.2.2.2.1.size, H.2.2.2.2.2⟩
theorem RatSt.drew (H : RatSt w W g m q r dd x y) : RatSt w W.drew g m q r dd x y := H.keep (Below.refl _ _).drew
theorem RatSt.cells (H : RatSt w W g m q r dd x y) : W.cell? ⟨g, 0, none⟩ = some (.int .i64 q) ∧ W.cell? ⟨g, 1, none⟩ = some (.int .u64 r) ∧ W.cell? ⟨m, 0, none⟩ = some x ∧ W.cell? ⟨m, 1, none⟩ = some y :=
  ⟨H.1.cell 0, H.1.cell 1, H.2.2.1.cell 0, H.2.2.1.cell 1⟩
theorem RatSt.res (H : RatSt w W g m q r dd x y) :
    W.cell? ⟨g + 1, 0, none⟩ = some (.bool false) ∧ W.cell? ⟨g + 1, 1, none⟩ = some (.slice none 0 0) ∧ W.cell? ⟨g + 1, 2, none⟩ = some (.bool false) ∧ W.cell? ⟨g + 1, 3, none⟩ = some (.slice none 0 0) ∧
    W.frozen? ⟨g + 1, 0, none⟩ = false ∧ W.frozen? ⟨g + 1, 1, none⟩ = false ∧ W.frozen? ⟨g + 1, 2, none⟩ = false ∧ W.frozen? ⟨g + 1, 3, none⟩ = false :=
  ⟨H.2.1.cell 0, H.2.1.cell 1, H.2.1.cell 2, H.2.1.cell 3, H.2.1.frozen 0, H.2.1.frozen 1, H.2.1.frozen 2, H.2.1.frozen 3⟩
theorem RatSt.fin (H : RatSt w W g m q r dd x y) {n a : Int} {x1 y1 x2 y2 : Value} {k : Nat} (h1 : IsBig W W.heap.size (.agg #[x1, y1]) n k) (h2 : IsBig W W.heap.size (.agg #[x2, y2]) a k) :
    (((((W.setCell ⟨g + 1, 0, none⟩ x1).setCell ⟨g + 1, 1, none⟩ y1).setCell ⟨g + 1, 2, none⟩ x2).setCell ⟨g + 1, 3, none⟩ y2).cell? ⟨g, 0, none⟩ = some (.int .i64 q) ∧ ((((W.setCell ⟨g + 1, 0, none⟩ x1).setCell ⟨g + 1, 1, none⟩ y1).setCell ⟨g + 1, 2, none⟩ x2).setCell ⟨g + 1, 3, none⟩ y2).cell? ⟨g, 1, none⟩ = some (.int .u64 r) ∧
      ((((W.setCell ⟨g + 1, 0, none⟩ x1).setCell ⟨g + 1, 1, none⟩ y1).setCell ⟨g + 1, 2, none⟩ x2).setCell ⟨g + 1, 3, none⟩ y2).cell? ⟨m, 0, none⟩ = some x ∧ ((((W.setCell ⟨g + 1, 0, none⟩ x1).setCell ⟨g + 1, 1, none⟩ y1).setCell ⟨g + 1, 2, none⟩ x2).setCell ⟨g + 1, 3, none⟩ y2).cell? ⟨m, 1, none⟩ = some y) ∧
    (IsRat ((((W.setCell ⟨g + 1, 0, none⟩ x1).setCell ⟨g + 1, 1, none⟩ y1).setCell ⟨g + 1, 2, none⟩ x2).setCell ⟨g + 1, 3, none⟩ y2) ((((W.setCell ⟨g + 1, 0, none⟩ x1).setCell ⟨g + 1, 1, none⟩ y1).setCell ⟨g + 1, 2, none⟩ x2).setCell ⟨g + 1, 3, none⟩ y2).heap.size (.agg #[x1, y1, x2, y2]) n a k ∧
    Whole ((((W.setCell ⟨g + 1, 0, none⟩ x1).setCell ⟨g + 1, 1, none⟩ y1).setCell ⟨g + 1, 2, none⟩ x2).setCell ⟨g + 1, 3, none⟩ y2) (g + 1) 56 #[x1, y1, x2, y2]) ∧
    Below w.heap.size w ((((W.setCell ⟨g + 1, 0, none⟩ x1).setCell ⟨g + 1, 1, none⟩ y1).setCell ⟨g + 1, 2, none⟩ x2).setCell ⟨g + 1, 3, none⟩ y2) := by
  obtain ⟨A, R, B, _, D, hg, hm⟩ := H
  have hn : w.heap.size ≤ g + 1 := by omega
  have A' := (((A.far (p := ⟨g + 1, 0, none⟩) (by simp) x1).far (p := ⟨g + 1, 1, none⟩) (by simp) y1).far (p := ⟨g + 1, 2, none⟩) (by simp) x2).far (p := ⟨g + 1, 3, none⟩) (by simp) y2
  have hmg : m ≠ g + 1 := by omega
  have B' := (((B.far (p := ⟨g + 1, 0, none⟩) hmg x1).far (p := ⟨g + 1, 1, none⟩) hmg y1).far (p := ⟨g + 1, 2, none⟩) hmg x2).far (p := ⟨g + 1, 3, none⟩) hmg y2
  exact ⟨⟨A'.cell 0, A'.cell 1, B'.cell 0, B'.cell 1⟩, rat_put R zero4 h1 h2, (((D.setCell hn _).setCell hn _).setCell hn _).setCell hn _⟩
end

set_option maxHeartbeats 8000000 in
theorem ratOf_any (q : Int) (r d : Nat) (w : World) (hq : -9223372036854775808 ≤ q ∧ q < 9223372036854775808) (hr : r < 18446744073709551616) (hd : d < 18446744073709551616) :
    Calls Try.prog 34 #[.agg #[.int .i64 q, .int .u64 (r : Int), .int .u64 (d : Int)]] w (RatPost w (q * (d : Int) + (r : Int)) (d : Int) 10) := by
  have hi := Lib.hid fun W => int_any q W hq
  have hwr := Lib.hid fun W => word_any r W hr
  have hwd := Lib.hid fun W => word_any d W hd
  have hA := Whole.new w 46 #[.int .i64 q, .int .u64 (r : Int), .int .u64 (d : Int)]
  have hA' := hA.alloc (.cells #[.bool false, .slice none 0 0, .bool false, .slice none 0 0] 56)
  have hR := Whole.new (w.alloc (.cells #[.int .i64 q, .int .u64 (r : Int), .int .u64 (d : Int)] 46)) 56 #[.bool false, .slice none 0 0, .bool false, .slice none 0 0]
  have hB : Below w.heap.size w ((w.alloc (.cells #[.int .i64 q, .int .u64 (r : Int), .int .u64 (d : Int)] 46)).alloc (.cells #[.bool false, .slice none 0 0, .bool false, .slice none 0 0] 56)) := ((Below.refl _ _).alloc (Nat.le_refl _) _).alloc (by simp) _
  have hs : (w.alloc (.cells #[.int .i64 q, .int .u64 (r : Int), .int .u64 (d : Int)] 46)).heap.size = w.heap.size + 1 := by simp
  have hs2 : ((w.alloc (.cells #[.int .i64 q, .int .u64 (r : Int), .int .u64 (d : Int)] 46)).alloc (.cells #[.bool false, .slice none 0 0, .bool false, .slice none 0 0] 56)).heap.size = w.heap.size + 2 := by simp
  rw [hs] at hR
  obtain ⟨W0, hW0⟩ : ∃ W0, W0 = ((w.alloc (.cells #[.int .i64 q, .int .u64 (r : Int), .int .u64 (d : Int)] 46)).alloc (.cells #[.bool false, .slice none 0 0, .bool false, .slice none 0 0] 56)) := ⟨_, rfl⟩
  rw [← hW0] at hA' hR hB hs2
  have HW0 := Lib.hid hW0
  have HA := Lib.hid hA'
  have HR := Lib.hid hR
  have HB := Lib.hid hB
  have Hs2 := Lib.hid hs2
  have c2 : W0.cell? ⟨w.heap.size, 2, none⟩ = some (.int .u64 (d : Int)) := hA'.cell 2
  clear hW0 hR hB hA hA' hs hs2 hq hr hd
  go_enter Try.func34, Try.ntmps34
  go_wp2_with fail
  rw [← HW0.out]
  obtain ⟨g, hg⟩ : ∃ g, g = w.heap.size := ⟨_, rfl⟩
  rw [← hg] at HA HR Hs2 c2 ⊢
  have Hg := Lib.hid hg
  clear hg HW0
  refine (hwd.out _).mono ?_
  rintro e W1 ⟨v1, rfl, hi1, hb1⟩
  obtain ⟨n1, a1, m1, c1, rfl⟩ := hi1.parts
  have hst : RatSt w (W1.alloc (.cells #[.bool n1, .slice a1 m1 c1] 29)) g W1.heap.size q (r : Int) (d : Int) (.bool n1) (.slice a1 m1 c1) := by
    have hA1 := HA.out.below hb1 HA.out.lt
    have hR1 := HR.out.below hb1 HR.out.lt
    have hba : Below W1.heap.size W1 (W1.alloc (.cells #[.bool n1, .slice a1 m1 c1] 29)) := (Below.refl _ _).alloc (Nat.le_refl _) _
    refine ⟨hA1.alloc _, hR1.alloc _, Whole.new _ _ _, (hi1.keep hba).more hba.size (Nat.le_refl _), below_then (below_then HB.out hb1 HB.out.size) hba (Nat.le_trans HB.out.size hb1.size), Nat.le_of_eq Hg.out.symm, ?_⟩
    have h1 := hb1.size
    have h2 := Hs2.out
    rw [h2] at h1
    omega
  obtain ⟨W2, hW2⟩ : ∃ W2, W2 = W1.alloc (.cells #[.bool n1, .slice a1 m1 c1] 29) := ⟨_, rfl⟩
  obtain ⟨m, hm⟩ : ∃ m, m = W1.heap.size := ⟨_, rfl⟩
  go_upto_region 2 with (fail)
  rw [← hW2, ← hm] at hst ⊢
  have H0 := Lib.hid hst.drew
  clear hst hW2 hm hb1 hi1 HA HR HB Hs2 c2
  have Hm := Lib.hid fun X v (hv : IsBig X X.heap.size v q 5) (H : RatSt w X g m q (r : Int) (d : Int) (.bool n1) (.slice a1 m1 c1)) => mul_any _ _ _ _ _ _ X hv H.2.2.2.1 (by omega) (by omega)
  go_region_held3 (fun W => W.cell? ⟨g, 0, none⟩ = some (.int .i64 q) ∧ W.cell? ⟨g, 1, none⟩ = some (.int .u64 (r : Int)) ∧ W.cell? ⟨m, 0, none⟩ = some (.bool n1) ∧ W.cell? ⟨m, 1, none⟩ = some (.slice a1 m1 c1))
    (first | exact H0.out.cells | exact H1.out.cells | exact H2.out.cells | exact H3.out.cells | exact H4.out.cells | exact HF.out.1)
    (first
      | (go_at_call 17; refine (hi.out _).mono ?_; rintro e X1 ⟨z1, rfl, hi1, hx1⟩; (have H1 := Lib.hid (H0.out.keep hx1)); (have HI1 := Lib.hid hi1); clear hi1 hx1)
      | (go_at_call 13; (with_reducible refine (Hm.out _ _ HI1.out H1.out).mono ?_); rintro e X2 ⟨z2, rfl, hi2, hx2⟩; (have H2 := Lib.hid (H1.out.keep hx2)); (have HI2 := Lib.hid hi2); clear hi2 hx2)
      | (go_at_call 14; refine (hwr.out _).mono ?_; rintro e X3 ⟨z3, rfl, hi3, hx3⟩; (have H3 := Lib.hid (H2.out.keep hx3)); (have HC := Lib.hid (add_any z2 z3 _ _ _ _ 9 X3 ((HI2.out.keep hx3).more hx3.size (Nat.le_refl _)) hi3 (by omega) (by omega) (by omega))); clear hi3 hx3)
      | (go_at_call 43; (with_reducible refine HC.out.mono ?_); rintro e X4 ⟨z4, rfl, hi4, hx4⟩; (have H4 := Lib.hid (H3.out.keep hx4)); obtain ⟨n6, a6, m6, c6, rfl⟩ := hi4.parts; (have HF := Lib.hid (H4.out.fin hi4 (H4.out.2.2.2.1.more (Nat.le_refl _) (show 4 ≤ 10 by omega)))); obtain ⟨r0, r1, r2, r3, f0, f1, f2, f3⟩ := H4.out.res; clear hi4 hx4))
  go_wp2_with fail
  exact bodyPost_ret (results_cell_row rfl _ _ (g + 1) 56 _ (0, 0) _ rfl HF.out.2.1.2 Try.underlying56 rfl (by kernel_rfl)) rfl ⟨_, rfl, HF.out.2.1.1, HF.out.2.2⟩
end Go.Proofs.Ytcfkhgpcamfecaa
