/- Walks over layer 1: the writer's check, Bits, Turned. -/
import Derived.Test.YtfbfflgffibjbaaHPut
namespace Go.Proofs.Ytfbfflgffibjbaa
open Go.RowKit Bit
set_option linter.unusedVariables false

/-- The m low bits of V, the highest of them first, as a number: its first k bits. -/
def turned (V m : Nat) : Nat → Nat
  | 0 => 0
  | k + 1 => turned V m k + V / 2 ^ (m - 1 - k) % 2 * 2 ^ k
theorem turned_step (N n V m k : Nat) : N + turned V m k * 2 ^ n + V / 2 ^ (m - 1 - k) % 2 * 2 ^ (n + k) = N + turned V m (k + 1) * 2 ^ n := by
  simp only [turned]
  rw [Nat.add_mul, Nat.pow_add, Nat.add_assoc, Nat.mul_assoc, Nat.mul_comm (2 ^ n)]

end Go.Proofs.Ytfbfflgffibjbaa
