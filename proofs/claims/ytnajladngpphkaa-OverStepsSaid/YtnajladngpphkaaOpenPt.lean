/- Slices of points that came in. -/
import Derived.Test.YtnajladngpphkaaOpenRows
import Derived.Test.YtnajladngpphkaaPts
import Derived.Lib.SmallJoins
namespace Go.Proofs.Ytnajladngpphkaa
open Go.ChangeShapes Go.WideShapes Go.ChangeAt Go.RowKit Go.Deep Go.Joins
set_option linter.unusedVariables false
set_option maxRecDepth 100000

section
variable {H : Type} {enc : TypeId × Value → H} {W : World}
theorem el_pt (n : Nat) (cs : List Value) (x : DataW H × List MemPlace) (h : DataW.trod enc Try.prog W 0 (fun _ => true) true n 41 cs = some x) :
    ∃ s : P2, cs = [.int .i64 s.1, .int .i64 s.2] ∧ ((-9223372036854775808 ≤ s.1 ∧ s.1 < 9223372036854775808) ∧ (-9223372036854775808 ≤ s.2 ∧ s.2 < 9223372036854775808)) := by
  obtain ⟨xs, n', rfl, rfl, hl, hxl, hf⟩ := DataW.trod_struct Try.underlying41 h
  have hc : Try.prog.cellsOf 41 = 2 := by kernel_rfl
  have hi : Try.prog.cellsOf 3 = 1 := by kernel_rfl
  rw [hc] at hl
  obtain ⟨c0, c1, rfl⟩ : ∃ a b, cs = [a, b] := by
    rcases cs with _ | ⟨a, _ | ⟨b, _ | ⟨c, cs⟩⟩⟩ <;> simp at hl
    exact ⟨a, b, rfl⟩
  obtain ⟨y0, y1, rfl⟩ : ∃ a b, xs = [a, b] := by
    rcases xs with _ | ⟨a, _ | ⟨b, _ | ⟨c, xs⟩⟩⟩ <;> simp at hxl
    exact ⟨a, b, rfl⟩
  have h0 : DataW.trod enc Try.prog W 0 (fun _ => true) true n' 3 (([c0, c1].drop 0).take (Try.prog.cellsOf 3)) = some y0 := hf 0 _ rfl
  rw [hi] at h0
  have h1 : DataW.trod enc Try.prog W 0 (fun _ => true) true n' 3 (([c0, c1].drop 1).take (Try.prog.cellsOf 3)) = some y1 := hf 1 _ rfl
  rw [hi] at h1
  obtain ⟨z0, e0, _, w0⟩ := DataW.trod_int Try.underlying3 (show DataW.trod enc Try.prog W 0 (fun _ => true) true n' 3 [c0] = some y0 from h0)
  obtain ⟨z1, e1, _, w1⟩ := DataW.trod_int Try.underlying3 (show DataW.trod enc Try.prog W 0 (fun _ => true) true n' 3 [c1] = some y1 from h1)
  simp at e0 e1
  subst e0 e1
  exact ⟨(z0, z1), rfl, int_i64 w0, int_i64 w1⟩
theorem open_pts {v : Value} {base : Nat} {d : DataW H} {p : List MemPlace} (hv : Value.okWide Try.prog W .any base 22 v) (h : DataW.Trod enc Try.prog W 0 (fun _ => true) true 22 v d p) : ∃ l, RdP W W.heap.size v l := by
  obtain ⟨l, a, c, e, h1, h2, h3, _⟩ := open_rows Try.underlying22 (fun s : P2 => [.int .i64 s.1, .int .i64 s.2]) _ 2 (by omega) (by kernel_rfl) (fun _ => rfl) el_pt hv h
  exact ⟨l, a, c, e, h1, h2, h3⟩
theorem open_pts_in {v : Value} {base : Nat} {d : DataW H} {p : List MemPlace} (hv : Value.okWide Try.prog W .any base 22 v) (h : DataW.Trod enc Try.prog W 0 (fun _ => true) true 22 v d p) :
    ∃ l, RdP W W.heap.size v l ∧ ∀ s ∈ l, (-9223372036854775808 ≤ s.1 ∧ s.1 < 9223372036854775808) ∧ (-9223372036854775808 ≤ s.2 ∧ s.2 < 9223372036854775808) := by
  obtain ⟨l, a, c, e, h1, h2, h3, h4⟩ := open_rows Try.underlying22 (fun s : P2 => [.int .i64 s.1, .int .i64 s.2]) _ 2 (by omega) (by kernel_rfl) (fun _ => rfl) el_pt hv h
  exact ⟨l, ⟨a, c, e, h1, h2, h3⟩, h4⟩
end
end Go.Proofs.Ytnajladngpphkaa
