/- Layer 16: the library's functions on strings. -/
import Derived.Test.YtdbcklabinmgfaaDoorDecMath
import Derived.Test.YtdbcklabinmgfaaDoorU8
import Derived.Test.YtdbcklabinmgfaaDoorHeld
import Derived.Ground.NamesProg
import Derived.Shelf.Lay
import Derived.Shelf.Strconv.Clone
import Derived.Shelf.Strings.Trim
import Derived.WalkKit
import Derived.IntWalk
import Derived.Deep.DeepCutAuto
import Derived.Laws.StructEq
namespace Go.Proofs.YtdbcklabinmgfaaDoor
open Go.RowKit Go.Shelf Go.Lib
set_option linter.unusedVariables false
set_option maxRecDepth 100000

shelf_lay LaysM.n316 Nm 316 at Tryd as Tryd.laysClone
shelf_lay Lays.n161 Nm 161 at Tryd as Tryd.laysTrimL
shelf_lay Lays.n162 Nm 162 at Tryd as Tryd.laysTrimR

theorem libIndexByte_any (s : ByteArray) (c : Nat) (hc : c < 256) (w : World) : Calls Tryd.prog 64 #[.string s, .int .u8 (c : Int)] w fun e w' => e = .returned (.int .i64 (optI (firstAt (bs s) c))) ∧ w = w' := by
  have HI := Lib.hid (show Lib.indexByte s.data.toList (UInt8.ofNat c) = optI (firstAt (bs s) c) by
    rw [indexByte_first]
    congr 2
    simp
    omega)
  go_enter Tryd.func64, Tryd.ntmps64
  go_wp2
  rw [run_callFunc_extern Tryd.func80 (by kernel_rfl) (by kernel_rfl) (by kernel_rfl) (e := Extern.BytealgIndexByte.indexByte) (by kernel_rfl), Lib.run_indexByteString]
  simp only [Result.andThen]
  rw [Oper.upon_value]
  go_wp2
  go_ret
  exact ⟨by rw [HI.out]; rfl, rfl⟩
theorem indexByte_any (s : ByteArray) (c : Nat) (hc : c < 256) (w : World) : Calls Tryd.prog 43 #[.string s, .int .u8 (c : Int)] w fun e w' => e = .returned (.int .i64 (optI (firstAt (bs s) c))) ∧ w = w' := by
  have HA := Lib.hid fun W => libIndexByte_any s c hc W
  go_enter Tryd.func43, Tryd.ntmps43
  go_wp2_with fail
  refine (HA.out _).mono ?_
  rintro e X ⟨rfl, rfl⟩
  go_wp2_with fail
  go_ret
  exact ⟨rfl, rfl⟩
theorem clone_any (s : ByteArray) (w : World) (hs : s.size ≤ 281474976710656) : Calls Tryd.prog 26 #[.string s] w fun e w' => e = .returned (.string s) ∧ Below w.heap.size w w' := by
  have HA := Lib.hid fun W => Any.stringslite_Clone Tryd.laysClone s W hs
  go_enter Tryd.func26, Tryd.ntmps26
  go_wp2_with fail
  refine (HA.out _).mono ?_
  rintro e X ⟨rfl, hb⟩
  have HB := Lib.hid hb
  go_wp2_with fail
  go_ret
  exact ⟨rfl, HB.out⟩
end Go.Proofs.YtdbcklabinmgfaaDoor
