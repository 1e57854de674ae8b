/- Layer 8: a value that came in. -/
import Derived.Test.YtdifojeghplpeaaDoorVal1
import Derived.Test.YtdifojeghplpeaaDoorRowNil
import Derived.Lib.SmallJoins
namespace Go.Proofs.YtdifojeghplpeaaDoor
open Go.ChangeShapes Go.WideShapes Go.ChangeAt Go.RowKit Go.Joins
set_option linter.unusedVariables false

def ValArg (v : Value) : Prop := ∃ u : V3, v = vv u ∧ u.2.1.size ≤ 9223372036854775807 ∧ (-9223372036854775808 ≤ u.1 ∧ u.1 < 9223372036854775808) ∧ u.2.2 < 18446744073709551616
theorem open_val {H : Type} {enc : TypeId × Value → H} {W : World} {base : Nat} {v : Value} {d : DataW H} {p : List MemPlace}
    (hv : Value.okWide Tryd.prog W .any base 24 v) (h : DataW.Trod enc Tryd.prog W 0 (fun _ => true) true 24 v d p) : ValArg v := by
  obtain ⟨c0, c1, c2, y0, y1, y2, m, rfl, rfl, rfl, hy0, hy1, hy2⟩ := open_agg3 Tryd.underlying24 (by kernel_rfl) (by kernel_rfl) hv h
  obtain ⟨a, e0, rfl, wa⟩ := DataW.trod_int Tryd.underlying3 hy0
  obtain ⟨s, e1, _, hs⟩ := DataW.trod_string Tryd.underlying9 hy1
  obtain ⟨b, e2, rfl, wb⟩ := DataW.trod_int Tryd.underlying22 hy2
  simp at e0 e1 e2
  subst e0 e1 e2
  obtain ⟨n, rfl, hn⟩ := nat_u64 wb
  exact ⟨(a, s, n), rfl, hs, int_i64 wa, hn⟩
theorem valueOrders_shape {u : Value} (h : ValArg u) : ∃ x : V3, u = vv x ∧ x.2.1.size ≤ 9223372036854775807 := by
  obtain ⟨x, h1, h2, _⟩ := h
  exact ⟨x, h1, h2⟩
end Go.Proofs.YtdifojeghplpeaaDoor
