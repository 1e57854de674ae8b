/- DefTab -/
import Derived.Test.YtngnhkghpnamoaaGb09
import Derived.Test.YtngnhkghpnamoaaGb03
namespace Go.Proofs.Ytngnhkghpnamoaa
open Go.RowKit
set_option linter.unusedVariables false
set_option maxRecDepth 100000

theorem length_mid (j : Nat) (h8 : 8 ≤ j) (hj : j < 28) (z : Int) (hz : z = 257 + (j : Int)) (w : World) : Calls Try.prog 70 #[.int .i64 z] w fun e w' => e = .returned (.tuple #[.int .i64 (lenB j : Int), .int .i64 (lenX j : Int)]) ∧ w = w' := by
  rcases (show j = 8 ∨ j = 9 ∨ j = 10 ∨ j = 11 ∨ j = 12 ∨ j = 13 ∨ j = 14 ∨ j = 15 ∨ j = 16 ∨ j = 17 ∨ j = 18 ∨ j = 19 ∨ j = 20 ∨ j = 21 ∨ j = 22 ∨ j = 23 ∨ j = 24 ∨ j = 25 ∨ j = 26 ∨ j = 27 by omega) with rfl | rfl | rfl | rfl | rfl | rfl | rfl | rfl | rfl | rfl | rfl | rfl | rfl | rfl | rfl | rfl | rfl | rfl | rfl | rfl <;>
  · obtain rfl := hz
    go_enter Try.func70, Try.ntmps70
    go_wp2_with fail
    go_ret2
    exact ⟨rfl, rfl⟩
theorem length_any (j : Nat) (hj : j ≤ 28) (z : Int) (hz : z = 257 + (j : Int)) (w : World) : Calls Try.prog 70 #[.int .i64 z] w fun e w' => e = .returned (.tuple #[.int .i64 (lenB j : Int), .int .i64 (lenX j : Int)]) ∧ w = w' := by
  by_cases h8 : j < 8
  · have e1 : lenB j = 3 + j := by unfold lenB; rw [if_pos h8]
    have e2 : lenX j = 0 := by unfold lenX; rw [if_pos h8]
    have w1 : IntKind.i64.wrap (z - 257) = (j : Int) := by rw [IntWalk.i64_in _ ⟨by omega, by omega⟩]; omega
    have w2 : z - 257 = (j : Int) := by omega
    have d1 : decide (z < 257) = false := decide_eq_false (by omega)
    have d2 : decide (285 < z) = false := decide_eq_false (by omega)
    have d3 : (z == 285) = false := beq_eq_false_iff_ne.mpr (by omega)
    have d4 : decide ((j : Int) < 8) = true := decide_eq_true (by omega)
    have d5 : decide (j < 8) = true := decide_eq_true h8
    have w3 : wrap64 (3 + (j : Int)) = 3 + (j : Int) := IntWalk.wrap64_in _ ⟨by omega, by omega⟩
    rw [e1, e2]
    have b1 : (j : Int) ≤ 8 := by omega
    clear hz h8 e1 e2
    go_enter Try.func70, Try.ntmps70
    go_wp2_with fail
    go_ret2
    exact ⟨ret_ints (by omega) rfl, rfl⟩
  · by_cases h28 : j < 28
    · exact length_mid j (by omega) h28 z hz w
    · obtain rfl : j = 28 := by omega
      obtain rfl := hz
      go_enter Try.func70, Try.ntmps70
      go_wp2_with fail
      go_ret2
      exact ⟨rfl, rfl⟩
theorem distance_mid (j : Nat) (h8 : 4 ≤ j) (hj : j < 30) (z : Int) (hz : z = (j : Int)) (w : World) : Calls Try.prog 71 #[.int .i64 z] w fun e w' => e = .returned (.tuple #[.int .i64 (farB j : Int), .int .i64 (farX j : Int)]) ∧ w = w' := by
  rcases (show j = 4 ∨ j = 5 ∨ j = 6 ∨ j = 7 ∨ j = 8 ∨ j = 9 ∨ j = 10 ∨ j = 11 ∨ j = 12 ∨ j = 13 ∨ j = 14 ∨ j = 15 ∨ j = 16 ∨ j = 17 ∨ j = 18 ∨ j = 19 ∨ j = 20 ∨ j = 21 ∨ j = 22 ∨ j = 23 ∨ j = 24 ∨ j = 25 ∨ j = 26 ∨ j = 27 ∨ j = 28 ∨ j = 29 by omega) with rfl | rfl | rfl | rfl | rfl | rfl | rfl | rfl | rfl | rfl | rfl | rfl | rfl | rfl | rfl | rfl | rfl | rfl | rfl | rfl | rfl | rfl | rfl | rfl | rfl | rfl <;>
  · obtain rfl := hz
    go_enter Try.func71, Try.ntmps71
    go_wp2_with fail
    go_ret2
    exact ⟨rfl, rfl⟩
theorem distance_any (j : Nat) (hj : j < 30) (z : Int) (hz : z = (j : Int)) (w : World) : Calls Try.prog 71 #[.int .i64 z] w fun e w' => e = .returned (.tuple #[.int .i64 (farB j : Int), .int .i64 (farX j : Int)]) ∧ w = w' := by
  by_cases h8 : j < 4
  · have e1 : farB j = 1 + j := by unfold farB; rw [if_pos h8]
    have e2 : farX j = 0 := by unfold farX; rw [if_pos h8]
    subst hz
    have d1 : decide ((j : Int) < 0) = false := decide_eq_false (by omega)
    have d2 : decide ((29 : Int) < (j : Int)) = false := decide_eq_false (by omega)
    have d4 : decide ((j : Int) < 4) = true := decide_eq_true (by omega)
    have b1 : (j : Int) ≤ 8 := by omega
    rw [e1, e2]
    clear h8 e1 e2
    go_enter Try.func71, Try.ntmps71
    go_wp2_with fail
    go_ret2
    exact ⟨ret_ints (by omega) rfl, rfl⟩
  · exact distance_mid j (by omega) hj z hz w
end Go.Proofs.Ytngnhkghpnamoaa
