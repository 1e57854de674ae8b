/- How a slice of numbers is opened where nil is to be told from empty. -/
import Derived.Test.YtceegpkgifflcaaDoorRow
namespace Go.Proofs.YtceegpkgifflcaaDoor
open Go.ChangeShapes Go.WideShapes Go.ChangeAt Go.RowKit

/-- A slice of small numbers that came in reads as a list of naturals, whether it is nil or not. -/
theorem open_numsn {H : Type} {enc : TypeId × Value → H} {P : Program} {W : World} {k : IntKind} {t e : TypeId} {a : Option Addr} {len cap : Nat} {d : DataW H} {p : List MemPlace}
    (ht : P.underlying t = some (.slice e)) (he : P.underlying e = some (.int k)) (hc : P.cellsOf e = 1) (m : Nat) (hm : ∀ n : Int, (Lit.int k n).wf = true → ∃ j : Nat, n = j ∧ j < m)
    (h : DataW.Trod enc P W 0 (fun _ => true) true t (.slice a len cap) d p) :
    ∃ l : List Nat, l.length = len ∧ len ≤ cap ∧ cap ≤ maxLen ∧ (∀ x ∈ l, x < m) ∧ Nums k W W.heap.size a l ∧ (a = none → cap = 0) := by
  have hlt : ∀ x ∈ p, x.block < W.heap.size := by obtain ⟨f, hf⟩ := h; exact DataW.trod_lt f _ _ _ hf
  obtain ⟨fuel, hf⟩ := h
  rcases open_ints ht he hc hf with ⟨hcs, _⟩ | ⟨x, l, c, zs, hcs, _, hl, hmx, hz, hx, hcell, hwz⟩
  · simp [Value.cells] at hcs
    obtain ⟨rfl, rfl, rfl⟩ := hcs
    exact ⟨[], rfl, Nat.le_refl _, by unfold maxLen; omega, by simp, Nums.nil_, fun _ => rfl⟩
  · simp [Value.cells] at hcs
    obtain ⟨rfl, rfl, rfl⟩ := hcs
    simp only [if_true] at hz
    refine ⟨(zs.take len).map Int.toNat, by simp [hz]; omega, hl, hmx, ?_, ?_, fun e => by cases e⟩
    · intro y hy
      obtain ⟨n, hn, rfl⟩ := List.mem_map.1 hy
      obtain ⟨j, rfl, hj⟩ := hm n (hwz n (List.mem_of_mem_take hn))
      simpa using hj
    · intro hpos
      have hlen : ((zs.take len).map Int.toNat).length = len := by simp [hz]; omega
      rw [hlen] at hpos
      have hc0 := hcell 0 (by omega)
      obtain ⟨b, off, spot⟩ := x
      have hspot : spot = none := by simpa [Addr.add] using World.cell?_spot hc0
      subst hspot
      refine ⟨b, off, rfl, ?_, ?_⟩
      · have := block_lt_of_cell hc0
        rw [add_none] at this
        exact this
      · intro i hi
        rw [hlen] at hi
        have hci := hcell i (by omega)
        rw [add_none] at hci
        rw [hci]
        have hmem : zs.getD i 0 ∈ zs := by
          have : i < zs.length := by omega
          simp [this]
        obtain ⟨j, hj, _⟩ := hm _ (hwz _ hmem)
        have he : (((zs.take len).map Int.toNat).getD i 0 : Nat) = (zs.getD i 0).toNat := by
          have h1 : i < zs.length := by omega
          simp [hi, h1]
        rw [he, hj]
        simp
end Go.Proofs.YtceegpkgifflcaaDoor
