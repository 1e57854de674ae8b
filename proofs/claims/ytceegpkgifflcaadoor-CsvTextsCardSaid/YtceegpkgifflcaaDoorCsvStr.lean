/- Layer 18: the library's functions on strings. -/
import Derived.Test.YtceegpkgifflcaaDoorBs
import Derived.Test.YtceegpkgifflcaaDoorU8
import Derived.Ground.NamesProg
import Derived.Shelf.Lay
import Derived.Shelf.Strconv.Clone
import Derived.WalkKit
namespace Go.Proofs.YtceegpkgifflcaaDoor
open Go.RowKit Go.Shelf Go.Lib
set_option linter.unusedVariables false
set_option maxRecDepth 100000

shelf_lay LaysM.n316 Nm 316 at Tryd as Tryd.laysClone

theorem libPrefix_any (s p : ByteArray) (w : World) : Calls Tryd.prog 34 #[.string s, .string p] w fun e w' => e = .returned (.bool (hasP (bs s) (bs p))) ∧ w = w' := by
  have HP := Lib.hid (hasP_of s p)
  by_cases h : p.size ≤ s.size
  · have d1 : decide ((p.size : Int) ≤ (s.size : Int)) = true := decide_eq_true (by omega)
    go_enter Tryd.func34, Tryd.ntmps34
    go_wp2_with fail
    go_ret
    exact ⟨by rw [← HP.out]; simp [h], rfl⟩
  · have d1 : decide ((p.size : Int) ≤ (s.size : Int)) = false := decide_eq_false (by omega)
    go_enter Tryd.func34, Tryd.ntmps34
    go_wp2_with fail
    go_ret
    exact ⟨by rw [← HP.out]; simp [h], rfl⟩
theorem hasPrefix_any (s p : ByteArray) (w : World) : Calls Tryd.prog 21 #[.string s, .string p] w fun e w' => e = .returned (.bool (hasP (bs s) (bs p))) ∧ w = w' := by
  have HA := Lib.hid fun W => libPrefix_any s p W
  go_enter Tryd.func21, Tryd.ntmps21
  go_wp2_with fail
  refine (HA.out _).mono ?_
  rintro e X ⟨rfl, rfl⟩
  go_wp2_with fail
  go_ret
  exact ⟨rfl, rfl⟩
theorem libIndexByte_any (s : ByteArray) (c : Nat) (hc : c < 256) (w : World) : Calls Tryd.prog 46 #[.string s, .int .u8 (c : Int)] w fun e w' => e = .returned (.int .i64 (optI (firstAt (bs s) c))) ∧ w = w' := by
  have HI := Lib.hid (show Lib.indexByte s.data.toList (UInt8.ofNat c) = optI (firstAt (bs s) c) by
    rw [indexByte_first]
    congr 2
    simp
    omega)
  go_enter Tryd.func46, Tryd.ntmps46
  go_wp2
  rw [run_callFunc_extern Tryd.func51 (by kernel_rfl) (by kernel_rfl) (by kernel_rfl) (e := Extern.BytealgIndexByte.indexByte) (by kernel_rfl), Lib.run_indexByteString]
  simp only [Result.andThen]
  rw [Oper.upon_value]
  go_wp2
  go_ret
  exact ⟨by rw [HI.out]; rfl, rfl⟩
theorem indexByte_any (s : ByteArray) (c : Nat) (hc : c < 256) (w : World) : Calls Tryd.prog 35 #[.string s, .int .u8 (c : Int)] w fun e w' => e = .returned (.int .i64 (optI (firstAt (bs s) c))) ∧ w = w' := by
  have HA := Lib.hid fun W => libIndexByte_any s c hc W
  go_enter Tryd.func35, Tryd.ntmps35
  go_wp2_with fail
  refine (HA.out _).mono ?_
  rintro e X ⟨rfl, rfl⟩
  go_wp2_with fail
  go_ret
  exact ⟨rfl, rfl⟩
theorem clone_any (s : ByteArray) (w : World) (hs : s.size ≤ 281474976710656) : Calls Tryd.prog 36 #[.string s] w fun e w' => e = .returned (.string s) ∧ Below w.heap.size w w' := by
  have HA := Lib.hid fun W => Any.stringslite_Clone Tryd.laysClone s W hs
  go_enter Tryd.func36, Tryd.ntmps36
  go_wp2_with fail
  refine (HA.out _).mono ?_
  rintro e X ⟨rfl, hb⟩
  have HB := Lib.hid hb
  go_wp2_with fail
  go_ret
  exact ⟨rfl, HB.out⟩
end Go.Proofs.YtceegpkgifflcaaDoor
