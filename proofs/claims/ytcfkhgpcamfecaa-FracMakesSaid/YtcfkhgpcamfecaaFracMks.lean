/- Layer 23: the walk over the statement FracMakes. -/
import Derived.Test.YtcfkhgpcamfecaaFracLive
import Derived.Deep.RegionHeld3
namespace Go.Proofs.Ytcfkhgpcamfecaa
open Go.RowKit Big
set_option linter.unusedVariables false
set_option maxRecDepth 100000

/-- The law's two fractions in their boxes. -/
def TwoF (w W : World) (m n : Nat) (x y z a b c : Int) : Prop :=
  Whole W m 46 #[.int .i64 x, .int .u64 y, .int .u64 z] ∧ Whole W n 46 #[.int .i64 a, .int .u64 b, .int .u64 c] ∧ Below w.heap.size w W
theorem TwoF.keep {w W W' : World} {m n : Nat} {x y z a b c : Int} (h : TwoF w W m n x y z a b c) (hb : Below W.heap.size W W') : TwoF w W' m n x y z a b c :=
  ⟨h.1.below hb h.1.lt, h.2.1.below hb h.2.1.lt, below_then h.2.2 hb h.2.2.size⟩
theorem TwoF.drew {w W : World} {m n : Nat} {x y z a b c : Int} (h : TwoF w W m n x y z a b c) : TwoF w W.drew m n x y z a b c := h.keep (Below.refl _ _).drew
theorem TwoF.cells {w W : World} {m n : Nat} {x y z a b c : Int} (h : TwoF w W m n x y z a b c) :
    W.cell? ⟨m, 0, none⟩ = some (.int .i64 x) ∧ W.cell? ⟨m, 1, none⟩ = some (.int .u64 y) ∧ W.cell? ⟨m, 2, none⟩ = some (.int .u64 z) ∧
    W.cell? ⟨n, 0, none⟩ = some (.int .i64 a) ∧ W.cell? ⟨n, 1, none⟩ = some (.int .u64 b) ∧ W.cell? ⟨n, 2, none⟩ = some (.int .u64 c) :=
  ⟨h.1.cell 0, h.1.cell 1, h.1.cell 2, h.2.1.cell 0, h.2.1.cell 1, h.2.1.cell 2⟩
theorem neq_of (q : Int) (W : World) : (binOp .neq 46 (.agg #[.int .i64 q, .int .u64 0, .int .u64 1]) (.agg #[.int .i64 q, .int .u64 0, .int .u64 1])).run Try.prog W = .ok (.bool false) W := by go_simp
theorem two_boxes {w W1 : World} (x y z a b c : Int) (h : Below (w.alloc (.cells #[.int .i64 x, .int .u64 y, .int .u64 z] 46)).heap.size (w.alloc (.cells #[.int .i64 x, .int .u64 y, .int .u64 z] 46)) W1) :
    TwoF w (W1.alloc (.cells #[.int .i64 a, .int .u64 b, .int .u64 c] 46)) w.heap.size W1.heap.size x y z a b c := by
  obtain ⟨h1, h2, h3⟩ := one_kept h
  exact ⟨h1.alloc _, Whole.new _ _ _, h2.alloc h2.size _⟩

set_option maxHeartbeats 8000000 in
theorem fracMakes_arg (q : Int) (r d : Nat) (x : Int) (y z : Nat) (w : World) (hr : r < 18446744073709551616) (hd : d < 18446744073709551616) (hy : y < 18446744073709551616) (hz : z < 18446744073709551616) (h : d ≤ r) :
    Calls Try.prog 6 #[.int .i64 q, .int .u64 (r : Int), .int .u64 (d : Int), .agg #[.int .i64 x, .int .u64 (y : Int), .int .u64 (z : Int)]] w fun e w' => e = .returned (.bool true) ∧ Below w.heap.size w w' := by
  have hmk := Lib.hid fun W => make_arg q r d W h
  have hfr := Lib.hid fun W => fright_any x y z W hy hz
  have hrr := Lib.hid fun W => rright_any x y z W hy hz
  have hsf := Lib.hid fun W => same_any x x (y : Int) z y z W
  have hsg := Lib.hid fun W => same_any x 0 (y : Int) z 0 0 W
  have heq := eq_frac x (y : Int) z 0 0 0
  rw [show (x == x && ((y : Int) == (y : Int) && (z : Int) == (z : Int))) = true by simp] at hsf
  obtain ⟨T, hT⟩ : ∃ T, T = okF x y z := ⟨_, rfl⟩
  rw [← hT] at hfr hrr
  obtain ⟨T2, hT2⟩ : ∃ T2, T2 = (x == 0 && ((y : Int) == 0 && (z : Int) == 0)) := ⟨_, rfl⟩
  rw [← hT2] at hsg heq
  have hof := Lib.hid fun W => of_any q W
  have hnq := neq_of q
  have hlv := Lib.hid fun W => flive_any W
  clear hT hT2 hr hd hy hz
  go_enter Try.func6, Try.ntmps6
  go_wp2_with fail
  refine (hmk.out _).mono ?_
  rintro e W1 ⟨rfl, hb1⟩
  have hst := two_boxes x (y : Int) z 0 0 0 hb1
  obtain ⟨W2, hW2⟩ : ∃ W2, W2 = W1.alloc (.cells #[.int .i64 0, .int .u64 0, .int .u64 0] 46) := ⟨_, rfl⟩
  obtain ⟨m, hm⟩ : ∃ m, m = w.heap.size := ⟨_, rfl⟩
  obtain ⟨n, hn⟩ : ∃ n, n = W1.heap.size := ⟨_, rfl⟩
  have HW2 := Lib.hid hW2
  have Hm := Lib.hid hm
  have Hn := Lib.hid hn
  clear hb1 hW2 hm hn
  go_upto_region 2 with (fail)
  rw [← HW2.out, ← Hm.out, ← Hn.out] at hst ⊢
  clear HW2 Hm Hn
  have H0 := Lib.hid hst.drew
  clear hst
  go_region_held3 (fun W => W.cell? ⟨m, 0, none⟩ = some (.int .i64 x) ∧ W.cell? ⟨m, 1, none⟩ = some (.int .u64 (y : Int)) ∧ W.cell? ⟨m, 2, none⟩ = some (.int .u64 (z : Int)) ∧
      W.cell? ⟨n, 0, none⟩ = some (.int .i64 0) ∧ W.cell? ⟨n, 1, none⟩ = some (.int .u64 0) ∧ W.cell? ⟨n, 2, none⟩ = some (.int .u64 0))
    (first | exact H0.out.cells | exact H1.out.cells | exact H2.out.cells | exact H3.out.cells | exact H4.out.cells | exact H5.out.cells)
    (first
      | (go_at_call 26; refine (hfr.out _).mono ?_; rintro e X1 ⟨rfl, hx1⟩; (have H1 := Lib.hid (H0.out.keep hx1)); clear hx1)
      | (go_at_call 27; refine (hrr.out _).mono ?_; rintro e X2 ⟨rfl, hx2⟩; (have H2 := Lib.hid (H1.out.keep hx2)); clear hx2)
      | (go_at_call 28; (with_reducible refine (hsf.out _).mono ?_); rintro e X3 ⟨rfl, hx3⟩; (have H3 := Lib.hid (H2.out.keep hx3)); clear hx3)
      | (go_at_call 28; (with_reducible refine (hsg.out _).mono ?_); rintro e X4 ⟨rfl, hx4⟩; (have H4 := Lib.hid (H3.out.keep hx4)); clear hx4)
      | (go_at_call 29; refine (hof.out _).mono ?_; rintro e X5 ⟨rfl, hx5⟩; (have H5 := Lib.hid (H4.out.keep hx5)); clear hx5))
  clear hfr hrr hsf hsg hof hnq
  obtain ⟨c0, c1, c2, c3, c4, c5⟩ := H5.out.cells
  have hez := eq_frac 0 0 0 0 0 0
  have hge : (d : Int) ≤ (r : Int) := by omega
  go_wp2_with (first | (go_at_call 30; refine (lcode_any _ _).mono ?_; rintro e w' ⟨rfl, rfl⟩))
  refine (hlv.out _).mono ?_
  rintro e W9 ⟨rfl, hb9⟩
  go_wp2_with fail
  go_ret
  exact ⟨rfl, (H5.out.keep hb9).2.2⟩

set_option maxHeartbeats 8000000 in
theorem fracMakes_range (q : Int) (r d : Nat) (x : Int) (y z : Nat) (w : World) (hr : r < 18446744073709551616) (hd : d < 18446744073709551616) (hy : y < 18446744073709551616) (hz : z < 18446744073709551616) (h : r < d) (hk : okF q (r / Nat.gcd r d) (d / Nat.gcd r d) = false) :
    Calls Try.prog 6 #[.int .i64 q, .int .u64 (r : Int), .int .u64 (d : Int), .agg #[.int .i64 x, .int .u64 (y : Int), .int .u64 (z : Int)]] w fun e w' => e = .returned (.bool true) ∧ Below w.heap.size w w' := by
  have hgc := Lib.hid fun W => rgcd_any d r (d : Int) W hr hd rfl
  have hg0 : 0 < Nat.gcd r d := Nat.gcd_pos_of_pos_right r (by omega)
  have hri := Lib.hid fun W => rright_any q (r / Nat.gcd r d) (d / Nat.gcd r d) W (Nat.lt_of_le_of_lt (Nat.div_le_self _ _) hr) (Nat.lt_of_le_of_lt (Nat.div_le_self _ _) hd)
  have hmk := Lib.hid fun W => make_any q r d W hr hd h
  rw [hk] at hri hmk
  unfold makeV at hmk
  simp only [Bool.false_eq_true, if_false] at hmk
  have q1 := quo_nat r (Nat.gcd r d) hr
  have q2 := quo_nat d (Nat.gcd r d) hd
  clear hk
  generalize Nat.gcd r d = g at *
  generalize r / g = R at *
  generalize d / g = D at *
  have Q1 := Lib.hid q1
  have Q2 := Lib.hid q2
  have hz0 : ¬ g = 0 := by omega
  clear q1 q2 hg0
  have hfr := Lib.hid fun W => fright_any x y z W hy hz
  have hrr := Lib.hid fun W => rright_any x y z W hy hz
  have hsf := Lib.hid fun W => same_any x x (y : Int) z y z W
  have hsg := Lib.hid fun W => same_any x 0 (y : Int) z 0 0 W
  have heq := eq_frac x (y : Int) z 0 0 0
  rw [show (x == x && ((y : Int) == (y : Int) && (z : Int) == (z : Int))) = true by simp] at hsf
  obtain ⟨T, hT⟩ : ∃ T, T = okF x y z := ⟨_, rfl⟩
  rw [← hT] at hfr hrr
  obtain ⟨T2, hT2⟩ : ∃ T2, T2 = (x == 0 && ((y : Int) == 0 && (z : Int) == 0)) := ⟨_, rfl⟩
  rw [← hT2] at hsg heq
  have hof := Lib.hid fun W => of_any q W
  have hnq := neq_of q
  have hlv := Lib.hid fun W => flive_any W
  clear hT hT2 hr hd hy hz
  go_enter Try.func6, Try.ntmps6
  go_wp2_with fail
  refine (hmk.out _).mono ?_
  rintro e W1 ⟨rfl, hb1⟩
  have hst := two_boxes x (y : Int) z 0 0 0 hb1
  obtain ⟨W2, hW2⟩ : ∃ W2, W2 = W1.alloc (.cells #[.int .i64 0, .int .u64 0, .int .u64 0] 46) := ⟨_, rfl⟩
  obtain ⟨m, hm⟩ : ∃ m, m = w.heap.size := ⟨_, rfl⟩
  obtain ⟨n, hn⟩ : ∃ n, n = W1.heap.size := ⟨_, rfl⟩
  have HW2 := Lib.hid hW2
  have Hm := Lib.hid hm
  have Hn := Lib.hid hn
  clear hb1 hW2 hm hn
  go_upto_region 2 with (fail)
  rw [← HW2.out, ← Hm.out, ← Hn.out] at hst ⊢
  clear HW2 Hm Hn
  have H0 := Lib.hid hst.drew
  clear hst
  go_region_held3 (fun W => W.cell? ⟨m, 0, none⟩ = some (.int .i64 x) ∧ W.cell? ⟨m, 1, none⟩ = some (.int .u64 (y : Int)) ∧ W.cell? ⟨m, 2, none⟩ = some (.int .u64 (z : Int)) ∧
      W.cell? ⟨n, 0, none⟩ = some (.int .i64 0) ∧ W.cell? ⟨n, 1, none⟩ = some (.int .u64 0) ∧ W.cell? ⟨n, 2, none⟩ = some (.int .u64 0))
    (first | exact H0.out.cells | exact H1.out.cells | exact H2.out.cells | exact H3.out.cells | exact H4.out.cells | exact H5.out.cells)
    (first
      | (go_at_call 26; refine (hfr.out _).mono ?_; rintro e X1 ⟨rfl, hx1⟩; (have H1 := Lib.hid (H0.out.keep hx1)); clear hx1)
      | (go_at_call 27; refine (hrr.out _).mono ?_; rintro e X2 ⟨rfl, hx2⟩; (have H2 := Lib.hid (H1.out.keep hx2)); clear hx2)
      | (go_at_call 28; (with_reducible refine (hsf.out _).mono ?_); rintro e X3 ⟨rfl, hx3⟩; (have H3 := Lib.hid (H2.out.keep hx3)); clear hx3)
      | (go_at_call 28; (with_reducible refine (hsg.out _).mono ?_); rintro e X4 ⟨rfl, hx4⟩; (have H4 := Lib.hid (H3.out.keep hx4)); clear hx4)
      | (go_at_call 29; refine (hof.out _).mono ?_; rintro e X5 ⟨rfl, hx5⟩; (have H5 := Lib.hid (H4.out.keep hx5)); clear hx5))
  clear hfr hrr hsf hsg hof hnq
  obtain ⟨c0, c1, c2, c3, c4, c5⟩ := H5.out.cells
  have hez := eq_frac 0 0 0 0 0 0
  have q1 := Q1.out
  have q2 := Q2.out
  have hlt : ¬ (d : Int) ≤ (r : Int) := by omega
  go_wp2_with fail
  refine (hgc.out _).mono ?_
  rintro e W6 ⟨rfl, rfl⟩
  obtain ⟨c0, c1, c2, c3, c4, c5⟩ := H5.out.cells
  go_wp2_with fail
  go_region
  clear q1 q2
  have H6 := Lib.hid ((H5.out.keep ((Below.refl _ _).alloc (Nat.le_refl _) (.cells #[.int .i64 q, .int .u64 (R : Int), .int .u64 (D : Int)] 46))).drew)
  have hN := Whole.new X5 46 #[.int .i64 q, .int .u64 (R : Int), .int .u64 (D : Int)]
  go_wp2_with fail
  refine (hri.out _).mono ?_
  rintro e W7 ⟨rfl, hb7⟩
  have H7 := Lib.hid (H6.out.keep hb7)
  have hN7 := hN.drew.below hb7 hN.lt
  obtain ⟨c0, c1, c2, c3, c4, c5⟩ := H7.out.cells
  have n0 := hN7.cell 0
  have n1 := hN7.cell 1
  have n2 := hN7.cell 2
  simp only [List.getElem?_toArray, List.getElem?_cons_zero, List.getElem?_cons_succ] at n0 n1 n2
  clear hN hN7 hb7 H6
  go_wp2_with (first | (go_at_call 30; refine (lcode_any _ _).mono ?_; rintro e w' ⟨rfl, rfl⟩))
  refine (hlv.out _).mono ?_
  rintro e W9 ⟨rfl, hb9⟩
  go_wp2_with fail
  go_ret
  exact ⟨rfl, (H7.out.keep hb9).2.2⟩

set_option maxHeartbeats 8000000 in
theorem fracMakes_ok (q : Int) (r d : Nat) (x : Int) (y z : Nat) (w : World) (hr : r < 18446744073709551616) (hd : d < 18446744073709551616) (hy : y < 18446744073709551616) (hz : z < 18446744073709551616) (h : r < d) (hk : okF q (r / Nat.gcd r d) (d / Nat.gcd r d) = true) :
    Calls Try.prog 6 #[.int .i64 q, .int .u64 (r : Int), .int .u64 (d : Int), .agg #[.int .i64 x, .int .u64 (y : Int), .int .u64 (z : Int)]] w fun e w' => e = .returned (.bool true) ∧ Below w.heap.size w w' := by
  have hgc := Lib.hid fun W => rgcd_any d r (d : Int) W hr hd rfl
  have hg0 : 0 < Nat.gcd r d := Nat.gcd_pos_of_pos_right r (by omega)
  have hri := Lib.hid fun W => rright_any q (r / Nat.gcd r d) (d / Nat.gcd r d) W (Nat.lt_of_le_of_lt (Nat.div_le_self _ _) hr) (Nat.lt_of_le_of_lt (Nat.div_le_self _ _) hd)
  have hmk := Lib.hid fun W => make_any q r d W hr hd h
  rw [hk] at hri hmk
  unfold makeV at hmk
  simp only [if_true] at hmk
  have q1 := quo_nat r (Nat.gcd r d) hr
  have q2 := quo_nat d (Nat.gcd r d) hd
  clear hk
  generalize Nat.gcd r d = g at *
  generalize r / g = R at *
  generalize d / g = D at *
  have Q1 := Lib.hid q1
  have Q2 := Lib.hid q2
  have hz0 : ¬ g = 0 := by omega
  clear q1 q2 hg0
  have hfr := Lib.hid fun W => fright_any x y z W hy hz
  have hrr := Lib.hid fun W => rright_any x y z W hy hz
  have hsf := Lib.hid fun W => same_any x x (y : Int) z y z W
  have hsg := Lib.hid fun W => same_any x q (y : Int) z (R : Int) (D : Int) W
  have heq := eq_frac x (y : Int) z q (R : Int) (D : Int)
  rw [show (x == x && ((y : Int) == (y : Int) && (z : Int) == (z : Int))) = true by simp] at hsf
  obtain ⟨T, hT⟩ : ∃ T, T = okF x y z := ⟨_, rfl⟩
  rw [← hT] at hfr hrr
  obtain ⟨T2, hT2⟩ : ∃ T2, T2 = (x == q && ((y : Int) == (R : Int) && (z : Int) == (D : Int))) := ⟨_, rfl⟩
  rw [← hT2] at hsg heq
  have hof := Lib.hid fun W => of_any q W
  have hnq := neq_of q
  have hlv := Lib.hid fun W => flive_any W
  clear hT hT2 hr hd hy hz
  go_enter Try.func6, Try.ntmps6
  go_wp2_with fail
  refine (hmk.out _).mono ?_
  rintro e W1 ⟨rfl, hb1⟩
  have hst := two_boxes x (y : Int) z q (R : Int) (D : Int) hb1
  obtain ⟨W2, hW2⟩ : ∃ W2, W2 = W1.alloc (.cells #[.int .i64 q, .int .u64 (R : Int), .int .u64 (D : Int)] 46) := ⟨_, rfl⟩
  obtain ⟨m, hm⟩ : ∃ m, m = w.heap.size := ⟨_, rfl⟩
  obtain ⟨n, hn⟩ : ∃ n, n = W1.heap.size := ⟨_, rfl⟩
  have HW2 := Lib.hid hW2
  have Hm := Lib.hid hm
  have Hn := Lib.hid hn
  clear hb1 hW2 hm hn
  go_upto_region 2 with (fail)
  rw [← HW2.out, ← Hm.out, ← Hn.out] at hst ⊢
  clear HW2 Hm Hn
  have H0 := Lib.hid hst.drew
  clear hst
  go_region_held3 (fun W => W.cell? ⟨m, 0, none⟩ = some (.int .i64 x) ∧ W.cell? ⟨m, 1, none⟩ = some (.int .u64 (y : Int)) ∧ W.cell? ⟨m, 2, none⟩ = some (.int .u64 (z : Int)) ∧
      W.cell? ⟨n, 0, none⟩ = some (.int .i64 q) ∧ W.cell? ⟨n, 1, none⟩ = some (.int .u64 (R : Int)) ∧ W.cell? ⟨n, 2, none⟩ = some (.int .u64 (D : Int)))
    (first | exact H0.out.cells | exact H1.out.cells | exact H2.out.cells | exact H3.out.cells | exact H4.out.cells | exact H5.out.cells)
    (first
      | (go_at_call 26; refine (hfr.out _).mono ?_; rintro e X1 ⟨rfl, hx1⟩; (have H1 := Lib.hid (H0.out.keep hx1)); clear hx1)
      | (go_at_call 27; refine (hrr.out _).mono ?_; rintro e X2 ⟨rfl, hx2⟩; (have H2 := Lib.hid (H1.out.keep hx2)); clear hx2)
      | (go_at_call 28; (with_reducible refine (hsf.out _).mono ?_); rintro e X3 ⟨rfl, hx3⟩; (have H3 := Lib.hid (H2.out.keep hx3)); clear hx3)
      | (go_at_call 28; (with_reducible refine (hsg.out _).mono ?_); rintro e X4 ⟨rfl, hx4⟩; (have H4 := Lib.hid (H3.out.keep hx4)); clear hx4)
      | (go_at_call 29; refine (hof.out _).mono ?_; rintro e X5 ⟨rfl, hx5⟩; (have H5 := Lib.hid (H4.out.keep hx5)); clear hx5))
  clear hfr hrr hsf hsg hof hnq
  obtain ⟨c0, c1, c2, c3, c4, c5⟩ := H5.out.cells
  have hez := eq_frac q (R : Int) (D : Int) q (R : Int) (D : Int)
  rw [show (q == q && ((R : Int) == (R : Int) && (D : Int) == (D : Int))) = true by simp] at hez
  have q1 := Q1.out
  have q2 := Q2.out
  have hlt : ¬ (d : Int) ≤ (r : Int) := by omega
  go_wp2_with fail
  refine (hgc.out _).mono ?_
  rintro e W6 ⟨rfl, rfl⟩
  obtain ⟨c0, c1, c2, c3, c4, c5⟩ := H5.out.cells
  go_wp2_with fail
  go_region
  clear q1 q2
  have H6 := Lib.hid ((H5.out.keep ((Below.refl _ _).alloc (Nat.le_refl _) (.cells #[.int .i64 q, .int .u64 (R : Int), .int .u64 (D : Int)] 46))).drew)
  have hN := Whole.new X5 46 #[.int .i64 q, .int .u64 (R : Int), .int .u64 (D : Int)]
  go_wp2_with fail
  refine (hri.out _).mono ?_
  rintro e W7 ⟨rfl, hb7⟩
  have H7 := Lib.hid (H6.out.keep hb7)
  have hN7 := hN.drew.below hb7 hN.lt
  obtain ⟨c0, c1, c2, c3, c4, c5⟩ := H7.out.cells
  have n0 := hN7.cell 0
  have n1 := hN7.cell 1
  have n2 := hN7.cell 2
  simp only [List.getElem?_toArray, List.getElem?_cons_zero, List.getElem?_cons_succ] at n0 n1 n2
  clear hN hN7 hb7 H6
  go_wp2_with (first | (go_at_call 30; refine (lcode_any _ _).mono ?_; rintro e w' ⟨rfl, rfl⟩))
  refine (hlv.out _).mono ?_
  rintro e W9 ⟨rfl, hb9⟩
  go_wp2_with fail
  go_ret
  exact ⟨rfl, (H7.out.keep hb9).2.2⟩

theorem fracMakes_walk (q : Int) (r d : Nat) (x : Int) (y z : Nat) (w : World) (hq : -9223372036854775808 ≤ q ∧ q < 9223372036854775808) (hr : r < 18446744073709551616) (hd : d < 18446744073709551616)
    (hy : y < 18446744073709551616) (hz : z < 18446744073709551616) :
    Calls Try.prog 6 #[.int .i64 q, .int .u64 (r : Int), .int .u64 (d : Int), .agg #[.int .i64 x, .int .u64 (y : Int), .int .u64 (z : Int)]] w fun e w' => e = .returned (.bool true) ∧ Below w.heap.size w w' := by
  by_cases h : d ≤ r
  · exact fracMakes_arg q r d x y z w hr hd hy hz h
  · cases hk : okF q (r / Nat.gcd r d) (d / Nat.gcd r d)
    · exact fracMakes_range q r d x y z w hr hd hy hz (by omega) hk
    · exact fracMakes_ok q r d x y z w hr hd hy hz (by omega) hk
theorem fracMakes_row (q : Int) (r d : Nat) (x : Int) (y z : Nat) (w : World) (hq : -9223372036854775808 ≤ q ∧ q < 9223372036854775808) (hr : r < 18446744073709551616) (hd : d < 18446744073709551616)
    (hf : (-9223372036854775808 ≤ x ∧ x < 9223372036854775808) ∧ y < 18446744073709551616 ∧ z < 18446744073709551616) :
    Calls Try.prog 6 #[.int .i64 q, .int .u64 (r : Int), .int .u64 (d : Int), .agg #[.int .i64 x, .int .u64 (y : Int), .int .u64 (z : Int)]] w fun e w' => e = .returned (.bool true) ∧ Below w.heap.size w w' :=
  fracMakes_walk q r d x y z w hq hr hd hf.2.1 hf.2.2
end Go.Proofs.Ytcfkhgpcamfecaa
