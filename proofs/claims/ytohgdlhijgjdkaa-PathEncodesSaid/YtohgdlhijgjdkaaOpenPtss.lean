/- Slices of slices of points that came in. -/
import Derived.Test.YtohgdlhijgjdkaaOpenPt
import Derived.Test.YtohgdlhijgjdkaaOpenRowsIn
import Derived.Test.YtohgdlhijgjdkaaPP
namespace Go.Proofs.Ytohgdlhijgjdkaa
open Go.ChangeShapes Go.WideShapes Go.ChangeAt Go.RowKit Go.Deep Go.Joins
set_option linter.unusedVariables false

section
variable {H : Type} {enc : TypeId × Value → H} {W : World}
theorem el_pts (n : Nat) (cs : List Value) (x : DataW H × List MemPlace) (h : DataW.trod enc Try.prog W 0 (fun _ => true) true n 43 cs = some x) : ∃ u : Value, cs = [u] ∧ ∃ l, RdP W W.heap.size u l := by
  obtain ⟨l, a, c, e, h1, h2, h3, _⟩ := open_rows_in Try.underlying43 (fun s : P2 => [.int .i64 s.1, .int .i64 s.2]) _ 2 (by omega) (by kernel_rfl) (fun _ => rfl) el_pt h
  exact ⟨_, e, l, a, c, rfl, h1, h2, h3⟩
theorem open_ptss {v : Value} {base : Nat} {d : DataW H} {p : List MemPlace} (hv : Value.okWide Try.prog W .any base 24 v) (h : DataW.Trod enc Try.prog W 0 (fun _ => true) true 24 v d p) : ∃ ll, RdPP W W.heap.size v ll := by
  obtain ⟨us, a, c, e, h1, h2, h3, h4⟩ := open_rows Try.underlying24 (fun u : Value => [u]) (fun u => ∃ l, RdP W W.heap.size u l) 1 (by omega) (by kernel_rfl) (fun _ => rfl) el_pts hv h
  have hfl : us.flatMap (fun u : Value => [u]) = us := by simp
  rw [hfl] at h3
  have key : ∀ i, ∃ l, ∀ h : i < us.length, RdP W W.heap.size us[i] l := fun i => by
    by_cases hi : i < us.length
    · obtain ⟨l, hl⟩ := h4 _ (List.getElem_mem hi)
      exact ⟨l, fun _ => hl⟩
    · exact ⟨[], fun h => absurd h hi⟩
  have hll : ((List.range us.length).map fun i => (key i).choose).length = us.length := by simp
  refine ⟨(List.range us.length).map fun i => (key i).choose, a, c, us, by rw [hll]; exact e, by omega, h2, by rw [hll]; exact h3, fun i hi => ?_⟩
  have hi' : i < us.length := by omega
  refine ⟨us[i], List.getElem?_eq_getElem hi', ?_⟩
  have := (key i).choose_spec hi'
  simpa using this
end
end Go.Proofs.Ytohgdlhijgjdkaa
