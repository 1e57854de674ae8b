/- Walks over package frac: Cmp. -/
import Derived.Test.YtcfkhgpcamfecaaFracLive
import Derived.Test.YtcfkhgpcamfecaaRat
import Derived.Deep.RegionHeld3
namespace Go.Proofs.Ytcfkhgpcamfecaa
open Go.RowKit Big
set_option linter.unusedVariables false
set_option maxRecDepth 100000

theorem FracCells {W : World} {g : Nat} {q r d : Value} (h : Whole W g 46 #[q, r, d]) : W.cell? ⟨g, 0, none⟩ = some q ∧ W.cell? ⟨g, 1, none⟩ = some r := ⟨h.cell 0, h.cell 1⟩
set_option maxHeartbeats 2000000 in
theorem fcmp_yes (q n : Int) (r d : Nat) (w : World) (hr : r < 18446744073709551616) (hd : d < 18446744073709551616) (hk : okF q r d = true) :
    Calls Try.prog 32 #[.agg #[.int .i64 q, .int .u64 (r : Int), .int .u64 (d : Int)], .int .i64 n] w fun e w' => e = .returned (.int .i64 (orI (cmpI q n) (cmpI (r : Int) 0))) ∧ Below w.heap.size w w' := by
  have hright := Lib.hid fun W => fright_any q r d W hr hd
  rw [hk] at hright
  clear hk hr hd
  go_enter Try.func32, Try.ntmps32
  go_wp2_with fail
  refine (hright.out _).mono ?_
  rintro e W1 ⟨rfl, hb1⟩
  obtain ⟨hA, hB, hS⟩ := one_kept hb1
  have HB := Lib.hid hB.drew
  have HS := Lib.hid hS
  clear hb1 hB hS
  go_wp2_with fail
  go_region_held3 (fun W => W.cell? ⟨w.heap.size, 0, none⟩ = some (.int .i64 q) ∧ W.cell? ⟨w.heap.size, 1, none⟩ = some (.int .u64 (r : Int)))
    (first | exact FracCells hA.drew | exact FracCells (hA.drew.alloc _) | assumption)
    (first
      | (go_at_call 47; refine (compare_int _ _ _).mono ?_; rintro e w' ⟨rfl, rfl⟩)
      | (go_at_call 54; refine (compare_u64 _ _ _).mono ?_; rintro e w' ⟨rfl, rfl⟩)
      | (go_at_call 53; refine (or_any _ _ _ _ _ ((Whole.new W1.drew _ _).cell 0) ((Whole.new W1.drew _ _).cell 1)).mono ?_; rintro e w' ⟨rfl, rfl⟩))
  go_wp2_with fail
  go_ret
  exact ⟨rfl, HB.out.alloc (Nat.le_of_lt HS.out) _⟩
set_option maxHeartbeats 2000000 in
theorem fcmp_no (q n : Int) (r d : Nat) (w : World) (hr : r < 18446744073709551616) (hd : d < 18446744073709551616) (hk : okF q r d = false) :
    Calls Try.prog 32 #[.agg #[.int .i64 q, .int .u64 (r : Int), .int .u64 (d : Int)], .int .i64 n] w fun e w' => e = .returned (.int .i64 0) ∧ Below w.heap.size w w' := by
  have hright := Lib.hid fun W => fright_any q r d W hr hd
  rw [hk] at hright
  clear hk hr hd
  go_enter Try.func32, Try.ntmps32
  go_wp2_with fail
  refine (hright.out _).mono ?_
  rintro e W1 ⟨rfl, hb1⟩
  obtain ⟨hA, hB, hS⟩ := one_kept hb1
  clear hb1 hA
  go_wp2_with fail
  go_ret
  exact ⟨rfl, hB⟩

theorem sign_neg {z : Int} (h : z < 0) : signI z = -1 := by unfold signI; split <;> (try split) <;> omega
theorem sign_pos {z : Int} (h : 0 < z) : signI z = 1 := by unfold signI; split <;> (try split) <;> omega
/-- How a fraction lies to a whole number. -/
theorem cmp_sign (q n : Int) (r d : Nat) (hr : r < d) : signI ((q * (d : Int) + (r : Int)) * 1 - n * (d : Int)) = orI (cmpI q n) (cmpI (r : Int) 0) := by
  have e : (q * (d : Int) + (r : Int)) * 1 - n * (d : Int) = (q - n) * (d : Int) + (r : Int) := by rw [Int.sub_mul]; omega
  rw [e]
  unfold orI cmpI
  rcases Int.lt_trichotomy q n with h | h | h
  · have h1 : (q - n) * (d : Int) ≤ -1 * (d : Int) := Int.mul_le_mul_of_nonneg_right (by omega) (by omega)
    rw [if_pos h, if_neg (by omega : ¬ (-1 : Int) = 0), sign_neg (by omega)]
  · subst h
    rw [Int.sub_self, Int.zero_mul, if_neg (Int.lt_irrefl _), if_neg (Int.lt_irrefl _), if_pos rfl, if_neg (by omega)]
    by_cases h0 : (0 : Int) < (r : Int)
    · rw [if_pos h0, sign_pos (by omega)]
    · rw [if_neg h0, show (0 : Int) + (r : Int) = 0 by omega]
      rfl
  · have h1 : 1 * (d : Int) ≤ (q - n) * (d : Int) := Int.mul_le_mul_of_nonneg_right (by omega) (by omega)
    rw [if_neg (by omega : ¬ q < n), if_pos h, if_neg (by omega : ¬ (1 : Int) = 0), sign_pos (by omega)]
theorem near_low (q : Int) (r d : Nat) (hr : r < d) : (rnd q r d * 2 + -1 * 1) * (d : Int) - (q * (d : Int) + (r : Int)) * (1 * 2) ≤ 0 := by
  have h2 : q * 2 * (d : Int) = q * (d : Int) * 2 := by rw [Int.mul_assoc, Int.mul_comm 2, ← Int.mul_assoc]
  unfold rnd
  split
  · have e : ((q + 1) * 2 + -1 * 1) * (d : Int) = q * 2 * (d : Int) + (d : Int) := by rw [show (q + 1) * 2 + -1 * 1 = q * 2 + 1 by omega, Int.add_mul, Int.one_mul]
    rw [e, h2]
    omega
  · have e : (q * 2 + -1 * 1) * (d : Int) = q * 2 * (d : Int) - (d : Int) := by rw [show q * 2 + -1 * 1 = q * 2 - 1 by omega, Int.sub_mul, Int.one_mul]
    rw [e, h2]
    omega
theorem near_high (q : Int) (r d : Nat) (hr : r < d) : (q * (d : Int) + (r : Int)) * (1 * 2) - (rnd q r d * 2 + 1 * 1) * (d : Int) < 0 := by
  have h2 : q * 2 * (d : Int) = q * (d : Int) * 2 := by rw [Int.mul_assoc, Int.mul_comm 2, ← Int.mul_assoc]
  unfold rnd
  split
  · have e : ((q + 1) * 2 + 1 * 1) * (d : Int) = q * 2 * (d : Int) + 3 * (d : Int) := by rw [show (q + 1) * 2 + 1 * 1 = q * 2 + 3 by omega, Int.add_mul]
    rw [e, h2]
    omega
  · have e : (q * 2 + 1 * 1) * (d : Int) = q * 2 * (d : Int) + (d : Int) := by rw [show q * 2 + 1 * 1 = q * 2 + 1 by omega, Int.add_mul, Int.one_mul]
    rw [e, h2]
    omega
end Go.Proofs.Ytcfkhgpcamfecaa
