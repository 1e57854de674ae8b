/- Layer 23: the law's example. -/
import Derived.Test.YtcfkhgpcamfecaaFracCrs
namespace Go.Proofs.Ytcfkhgpcamfecaa
open Go.RowKit Big
set_option linter.unusedVariables false
set_option maxRecDepth 100000

theorem flive_any (w : World) : Calls Try.prog 31 #[] w fun e w' => e = .returned (.bool true) ∧ Below w.heap.size w w' := by
  have hx : crossV 0 0 3 1 1 false = .tuple #[.agg #[.int .i64 0, .int .u64 1, .int .u64 3], .int .i64 0] := by kernel_rfl
  have hc := Lib.hid fun W => cross_any 0 0 3 1 1 false W
  have hr : (if okF 0 1 3 = true then rnd 0 1 3 else 0) = 0 := by decide +kernel
  have hrd := Lib.hid fun W => round_any 0 1 3 W (by omega) (by omega)
  rw [hx] at hc
  rw [hr] at hrd
  have heq := eq_frac 0 1 3 0 1 3
  clear hx hr
  go_enter Try.func31, Try.ntmps31
  go_wp2_with fail
  refine (hc.out _).mono ?_
  rintro e W1 ⟨rfl, hb1⟩
  have hN := Whole.new W1 46 #[.int .i64 0, .int .u64 1, .int .u64 3]
  have hB := Lib.hid (below_then hb1 ((Below.refl _ _).alloc (Nat.le_refl _) (.cells #[.int .i64 0, .int .u64 1, .int .u64 3] 46)) hb1.size)
  clear hb1
  go_wp2_with (first | (go_at_call 30; refine (lcode_any _ _).mono ?_; rintro e w' ⟨rfl, rfl⟩))
  refine (hrd.out _).mono ?_
  rintro e W2 ⟨rfl, hb2⟩
  go_wp2_with fail
  go_ret
  exact ⟨rfl, below_then hB.out hb2 hB.out.size⟩

end Go.Proofs.Ytcfkhgpcamfecaa
