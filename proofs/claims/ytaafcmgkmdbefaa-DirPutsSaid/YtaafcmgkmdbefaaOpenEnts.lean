/- A slice of entries that came in. -/
import Derived.Test.YtaafcmgkmdbefaaEnts
import Derived.Lib.SmallJoins
namespace Go.Proofs.Ytaafcmgkmdbefaa
open Go.ChangeShapes Go.WideShapes Go.ChangeAt Go.RowKit Go.Deep Go.Joins
set_option linter.unusedVariables false

section
variable {H : Type} {enc : TypeId × Value → H} {W : World}
theorem el_ent (n : Nat) (cs : List Value) (x : DataW H × List MemPlace) (h : DataW.trod enc Try.prog W 0 (fun _ => true) true n 39 cs = some x) : ∃ s : En, cs = s.cs ∧ s.ok := by
  obtain ⟨xs, n', rfl, rfl, hl, hxl, hf⟩ := DataW.trod_struct Try.underlying39 h
  have hc : Try.prog.cellsOf 39 = 4 := by kernel_rfl
  have hu : Try.prog.cellsOf 37 = 1 := by kernel_rfl
  rw [hc] at hl
  obtain ⟨c0, c1, c2, c3, rfl⟩ : ∃ a b c d, cs = [a, b, c, d] := by
    rcases cs with _ | ⟨a, _ | ⟨b, _ | ⟨c, _ | ⟨d, _ | ⟨e, cs⟩⟩⟩⟩⟩ <;> simp at hl
    exact ⟨a, b, c, d, rfl⟩
  obtain ⟨y0, y1, y2, y3, rfl⟩ : ∃ a b c d, xs = [a, b, c, d] := by
    rcases xs with _ | ⟨a, _ | ⟨b, _ | ⟨c, _ | ⟨d, _ | ⟨e, xs⟩⟩⟩⟩⟩ <;> simp at hxl
    exact ⟨a, b, c, d, rfl⟩
  have h0 : DataW.trod enc Try.prog W 0 (fun _ => true) true n' 37 (([c0, c1, c2, c3].drop 0).take (Try.prog.cellsOf 37)) = some y0 := hf 0 _ rfl
  have h1 : DataW.trod enc Try.prog W 0 (fun _ => true) true n' 37 (([c0, c1, c2, c3].drop 1).take (Try.prog.cellsOf 37)) = some y1 := hf 1 _ rfl
  have h2 : DataW.trod enc Try.prog W 0 (fun _ => true) true n' 37 (([c0, c1, c2, c3].drop 2).take (Try.prog.cellsOf 37)) = some y2 := hf 2 _ rfl
  have h3 : DataW.trod enc Try.prog W 0 (fun _ => true) true n' 37 (([c0, c1, c2, c3].drop 3).take (Try.prog.cellsOf 37)) = some y3 := hf 3 _ rfl
  rw [hu] at h0 h1 h2 h3
  obtain ⟨z0, e0, _, w0⟩ := DataW.trod_int Try.underlying37 (show DataW.trod enc Try.prog W 0 (fun _ => true) true n' 37 [c0] = some y0 from h0)
  obtain ⟨z1, e1, _, w1⟩ := DataW.trod_int Try.underlying37 (show DataW.trod enc Try.prog W 0 (fun _ => true) true n' 37 [c1] = some y1 from h1)
  obtain ⟨z2, e2, _, w2⟩ := DataW.trod_int Try.underlying37 (show DataW.trod enc Try.prog W 0 (fun _ => true) true n' 37 [c2] = some y2 from h2)
  obtain ⟨z3, e3, _, w3⟩ := DataW.trod_int Try.underlying37 (show DataW.trod enc Try.prog W 0 (fun _ => true) true n' 37 [c3] = some y3 from h3)
  simp at e0 e1 e2 e3
  subst e0 e1 e2 e3
  obtain ⟨a, rfl, ha⟩ := nat_u64 w0
  obtain ⟨b, rfl, hb⟩ := nat_u64 w1
  obtain ⟨c, rfl, hcc⟩ := nat_u64 w2
  obtain ⟨d, rfl, hd⟩ := nat_u64 w3
  exact ⟨⟨a, b, c, d⟩, rfl, ha, hb, hcc, hd⟩
theorem open_ents {v : Value} {base : Nat} {d : DataW H} {p : List MemPlace} (hv : Value.okWide Try.prog W .any base 22 v) (h : DataW.Trod enc Try.prog W 0 (fun _ => true) true 22 v d p) : ∃ l, RdE W W.heap.size v l := by
  obtain ⟨l, a, c, e, h1, h2, h3, h4⟩ := open_rows Try.underlying22 En.cs En.ok 4 (by omega) (by kernel_rfl) (fun _ => rfl) el_ent hv h
  exact ⟨l, a, c, e, h1, h2, h3, h4⟩
end
end Go.Proofs.Ytaafcmgkmdbefaa
