/- A slice of structs that came in, whose elements' cells are told by a list. -/
import Derived.Test.YtceegpkgifflcaaDoorRow
import Derived.Test.YtceegpkgifflcaaDoorOwn
import Derived.Test.YtceegpkgifflcaaDoorStr
import Derived.Deep.Slices
import Derived.Deep.Fields
import Derived.ChangeSame
namespace Go.Proofs.YtceegpkgifflcaaDoor
open Go.ChangeShapes Go.WideShapes Go.ChangeAt Go.RowKit Go.Deep
set_option linter.unusedVariables false

theorem flat_len {α : Type} (f : α → List Value) (size : Nat) (hf : ∀ s, (f s).length = size) : ∀ l : List α, (l.flatMap f).length = l.length * size
  | [] => by simp
  | p :: l => by rw [List.flatMap_cons, List.length_append, flat_len f size hf l, hf, List.length_cons, Nat.succ_mul, Nat.add_comm]
theorem flat_get {α : Type} (f : α → List Value) (size : Nat) (hf : ∀ s, (f s).length = size) : ∀ (l : List α) (i : Nat) (h : i < l.length) (j : Nat), j < size → (l.flatMap f)[i * size + j]? = (f l[i])[j]?
  | [], i, h, _, _ => by simp at h
  | p :: l, 0, h, j, hj => by
    rw [List.flatMap_cons, Nat.zero_mul, Nat.zero_add, List.getElem?_append_left (by rw [hf]; exact hj)]; rfl
  | p :: l, i + 1, h, j, hj => by
    rw [List.flatMap_cons, List.getElem?_append_right (by rw [hf, Nat.succ_mul]; omega), hf, show (i + 1) * size + j - size = i * size + j by rw [Nat.succ_mul]; omega]
    simpa using flat_get f size hf l i (by simpa using h) j hj

section
variable {H : Type} {enc : TypeId × Value → H} {W : World}
theorem open_rows {t e : TypeId} (ht : Tryd.prog.underlying t = some (.slice e)) {α : Type} [Inhabited α] (f : α → List Value) (ok : α → Prop) (size : Nat) (hsz : 0 < size) (hC : Tryd.prog.cellsOf e = size) (hf : ∀ s, (f s).length = size)
    (hel : ∀ n cs x, DataW.trod enc Tryd.prog W 0 (fun _ => true) true n e cs = some x → ∃ s : α, cs = f s ∧ ok s) {v : Value} {base : Nat} {d : DataW H} {p : List MemPlace}
    (hv : Value.okWide Tryd.prog W .any base t v) (h : DataW.Trod enc Tryd.prog W 0 (fun _ => true) true t v d p) :
    ∃ (l : List α) (a : Option Addr) (c : Nat), v = .slice a l.length c ∧ l.length ≤ c ∧ c ≤ maxLen ∧ Vals W W.heap.size size a l.length (l.flatMap f) ∧ ∀ s ∈ l, ok s := by
  obtain ⟨a, L, c, rfl⟩ := okWide_slice ht hv
  obtain ⟨fuel, hfu⟩ := h
  rcases open_slice ht hfu with ⟨hcs, _⟩ | ⟨x, len, cap, m, n, D, Pl, hcs, _, hl, hmx, hm, _, hi⟩
  · simp [Value.cells] at hcs
    obtain ⟨rfl, rfl, rfl⟩ := hcs
    exact ⟨[], none, 0, rfl, Nat.le_refl _, by unfold maxLen; omega, by simpa using Vals.nil_, by simp⟩
  · simp [Value.cells] at hcs
    obtain ⟨rfl, rfl, rfl⟩ := hcs
    simp only [if_true] at hm
    rw [hC] at hi
    have key : ∀ i, ∃ s : α, i < L → ok s ∧ ∀ j, j < size → W.cell? (x.add (i * size + j)) = (f s)[j]? := by
      intro i
      by_cases hlt : i < L
      · obtain ⟨cs', hc, htr⟩ := hi i (by omega)
        obtain ⟨s, rfl, hok⟩ := hel _ _ _ htr
        obtain ⟨_, _, hat⟩ := World.cells?_some hc
        exact ⟨s, fun _ => ⟨hok, fun j hj => by rw [← Go.Deep.add_add, hat j hj]⟩⟩
      · exact ⟨default, fun h => absurd h hlt⟩
    have hll : ((List.range L).map fun i => (key i).choose).length = L := by simp
    refine ⟨(List.range L).map fun i => (key i).choose, some x, c, by rw [hll], by omega, hmx, ⟨by rw [flat_len f size hf], fun hp => ?_⟩, ?_⟩
    · rw [flat_len f size hf, hll] at hp ⊢
      have hL : 0 < L := Nat.pos_of_mul_pos_right hp
      have hat : ∀ i, i < L → ∀ j, j < size → W.cell? (x.add (i * size + j)) = (((List.range L).map fun i => (key i).choose).flatMap f)[i * size + j]? := fun i hi j hj => by
        rw [flat_get f size hf _ i (by omega) j hj, ((key i).choose_spec hi).2 j hj]
        simp
      have h0 := hat 0 hL 0 hsz
      have hs0 : (((List.range L).map fun i => (key i).choose).flatMap f)[0 * size + 0]? ≠ none := by
        rw [ne_eq, List.getElem?_eq_none_iff, flat_len f size hf, hll]; omega
      obtain ⟨b, off, spot⟩ := x
      cases hv0 : (((List.range L).map fun i => (key i).choose).flatMap f)[0 * size + 0]? with
      | none => exact absurd hv0 hs0
      | some u =>
        rw [hv0] at h0
        have hspot : spot = none := by simpa [Addr.add] using World.cell?_spot h0
        subst hspot
        rw [add_none] at h0
        refine ⟨b, off, rfl, block_lt_of_cell h0, fun q hq => ?_⟩
        have hq1 : q / size < L := Nat.div_lt_of_lt_mul (by rw [Nat.mul_comm]; exact hq)
        have hq2 := hat (q / size) hq1 (q % size) (Nat.mod_lt _ hsz)
        rw [show q / size * size + q % size = q by rw [Nat.mul_comm]; exact Nat.div_add_mod q size, add_none] at hq2
        exact hq2
    · intro s hs
      simp only [List.mem_map, List.mem_range] at hs
      obtain ⟨i, hi, rfl⟩ := hs
      exact ((key i).choose_spec hi).1
end
end Go.Proofs.YtceegpkgifflcaaDoor
