/- Layer 16: a decimal that came in. -/
import Derived.Test.YtdbcklabinmgfaaDoorDecMath
import Derived.Test.YtdbcklabinmgfaaDoorRowNil
import Derived.Lib.SmallJoins
namespace Go.Proofs.YtdbcklabinmgfaaDoor
open Go.ChangeShapes Go.WideShapes Go.ChangeAt Go.RowKit Go.Joins
set_option linter.unusedVariables false
set_option maxRecDepth 100000

def DecArg (v : Value) : Prop := ∃ (ng : Bool) (ds : ByteArray) (x : Int), v = .agg #[.bool ng, .string ds, .int .i64 x] ∧ ds.size ≤ 9223372036854775807 ∧ (-9223372036854775808 ≤ x ∧ x < 9223372036854775808)
theorem open_dec {H : Type} {enc : TypeId × Value → H} {W : World} {base : Nat} {v : Value} {d : DataW H} {p : List MemPlace}
    (hv : Value.okWide Tryd.prog W .any base 24 v) (h : DataW.Trod enc Tryd.prog W 0 (fun _ => true) true 24 v d p) : DecArg v := by
  obtain ⟨c0, c1, c2, y0, y1, y2, m, rfl, rfl, rfl, hy0, hy1, hy2⟩ := open_agg3 Tryd.underlying24 (by kernel_rfl) (by kernel_rfl) hv h
  obtain ⟨a, e0, rfl⟩ := DataW.trod_bool Tryd.underlying4 hy0
  obtain ⟨s, e1, _, hs⟩ := DataW.trod_string Tryd.underlying9 hy1
  obtain ⟨b, e2, rfl, wb⟩ := DataW.trod_int Tryd.underlying3 hy2
  simp at e0 e1 e2
  subst e0 e1 e2
  exact ⟨a, s, b, rfl, hs, int_i64 wb⟩
end Go.Proofs.YtdbcklabinmgfaaDoor
