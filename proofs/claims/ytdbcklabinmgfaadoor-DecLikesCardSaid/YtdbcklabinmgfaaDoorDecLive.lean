/- Layer 16: the law's live and code. -/
import Derived.Test.YtdbcklabinmgfaaDoorTxt2
namespace Go.Proofs.YtdbcklabinmgfaaDoor
open Go.RowKit Go.Shelf Go.Lib
set_option linter.unusedVariables false
set_option maxRecDepth 100000

theorem code16_any (x : Int) (w : World) : Calls Tryd.prog 11 #[.int .i64 x] w fun e w' => e = .returned (.int .i64 x) ∧ w = w' := by
  go_enter Tryd.func11, Tryd.ntmps11
  go_wp2_with fail
  go_ret
  exact ⟨rfl, rfl⟩
theorem parse_one (w : World) : Calls Tryd.prog 9 #[.string ⟨#[45, 49, 50, 46, 53, 48, 101, 49, 120]⟩] w fun e w' => e = .returned (.tuple #[.agg #[.bool true, .string ⟨#[49, 50, 53]⟩, .int .i64 0], .int .i64 8, .int .i64 0]) ∧ Below w.heap.size w w' := by
  have h := parse_any read_any ⟨#[45, 49, 50, 46, 53, 48, 101, 49, 120]⟩ w (by decide)
  have e : bs ⟨#[45, 49, 50, 46, 53, 48, 101, 49, 120]⟩ = [45, 49, 50, 46, 53, 48, 101, 49, 120] := rfl
  rw [e, parse_ex] at h
  exact h
set_option maxHeartbeats 8000000 in
theorem live16_any (w : World) : Calls Tryd.prog 8 #[] w fun e w' => e = .returned (.bool true) ∧ Below w.heap.size w w' := by
  have HPx := Lib.hid parse_one
  have HC := Lib.hid code16_any
  have HTx := Lib.hid text_21
  go_enter Tryd.func8, Tryd.ntmps8
  go_wp2_with fail
  refine (HPx.out _).mono ?_
  rintro e X ⟨rfl, hb⟩
  have HB := Lib.hid hb
  clear hb
  go_wp2_with fail
  refine (HC.out _ _).mono ?_
  rintro e Y ⟨rfl, rfl⟩
  go_wp2_with fail
  refine (HTx.out _).mono ?_
  rintro e Y ⟨rfl, hb⟩
  have HB2 := Lib.hid hb
  clear hb
  go_wp2_with fail
  go_ret
  exact ⟨rfl, keepBelow HB2.out (HB.out.alloc HB.out.size _)⟩
end Go.Proofs.YtdbcklabinmgfaaDoor
