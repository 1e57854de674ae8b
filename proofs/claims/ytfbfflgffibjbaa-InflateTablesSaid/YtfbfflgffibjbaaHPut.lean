/- Walks over layer 1: the writer's put. -/
import Derived.Test.YtfbfflgffibjbaaU8
import Derived.Test.YtfbfflgffibjbaaRows
import Derived.Test.YtfbfflgffibjbaaOnly
import Derived.Test.YtfbfflgffibjbaaBitMath
import Derived.WalkKit
import Derived.Handy
import Derived.Lib.Hide
import Derived.Deep.RegionHeld3
import Derived.Deep.DrawnRows
import Derived.WalkLawsBesides
import Derived.WalkSpells
import Derived.RegionTactic
import Derived.BigRegion
namespace Go.Proofs.Ytfbfflgffibjbaa
open Go.RowKit Bit
set_option linter.unusedVariables false


/-- What a call on the writer may turn. -/
def touch (g : Nat) (v : Value) : Nat → Prop := fun k => k = g ∨ v.ownBlock = some k

theorem own_set {w : World} {base : Nat} {e : TypeId} {size n : Nat} {v : Value} {xs : List Value} (h : w.ownsRow base e size v n xs) {p : Addr} (hp : v.ownBlock ≠ some p.block) (u : Value) : (w.setCell p u).ownsRow base e size v n xs :=
  own_only h (Only.setCell (S := fun k => k = p.block) (Only.refl _ _) (fun _ => rfl) u) (fun b hb e => hp (by rw [hb, e]))

/-- The bit that is written, as the program reckons it. -/
theorem put_byte (x b r : Nat) (hr : r < 8) (hx : x < 2 ^ r) (hb : b < 4294967296) :
    bits .or .u8 (x : Int) (bits .and .u32 (b : Int) 1 % 256 * 2 ^ r % 256) = ((x + b % 2 * 2 ^ r : Nat) : Int) := by
  have h1 : bits .and .u32 (b : Int) 1 = ((b % 2 : Nat) : Int) := by
    rw [show (1 : Int) = ((1 : Nat) : Int) from rfl, u32_and_nat b 1 hb (by omega), Nat.and_one_is_mod]
  have h2 : 2 ^ r ≤ 128 := by
    have := Nat.pow_le_pow_right (n := 2) (by omega) (show r ≤ 7 by omega)
    simpa using this
  have h3 : b % 2 * 2 ^ r ≤ 1 * 2 ^ r := Nat.mul_le_mul_right _ (by omega)
  have h4 : ((b % 2 : Nat) : Int) % 256 = ((b % 2 : Nat) : Int) := by omega
  have h5 : (((b % 2 : Nat) : Int) * 2 ^ r) = ((b % 2 * 2 ^ r : Nat) : Int) := by rw [Int.natCast_mul, Int.natCast_pow]; rfl
  have ho := or_add x (b % 2) r hx
  rw [h1, h4, h5]
  generalize b % 2 * 2 ^ r = m at *
  rw [show (m : Int) % 256 = (m : Int) by omega, u8_or_nat x m (by omega) (by omega), ho]

end Go.Proofs.Ytfbfflgffibjbaa
