/- Slices of slices of strings that came in, sized. -/
import Derived.Test.YtceegpkgifflcaaDoorOpenRows
import Derived.Test.YtceegpkgifflcaaDoorRowNil
import Derived.Test.YtceegpkgifflcaaDoorTx
import Derived.SizedLaws
namespace Go.Proofs.YtceegpkgifflcaaDoor
open Go.ChangeShapes Go.WideShapes Go.ChangeAt Go.RowKit Go.Deep
set_option linter.unusedVariables false

section
variable {H : Type} {enc : TypeId × Value → H} {W : World}
theorem weights_in_all {P : Program} {e : TypeId} : ∀ {l : List (DataW H)} {d : DataW H}, d ∈ l → ∀ n ∈ d.weights P e, n ∈ DataW.weightsAll P e l
  | d0 :: l, d, h, n, hn => by
    simp only [DataW.weightsAll, List.mem_append]
    rcases List.mem_cons.1 h with rfl | h
    · exact .inl hn
    · exact .inr (weights_in_all h n hn)
  | [], _, h, _, _ => by cases h
theorem el_str_sized (n : Nat) (cs : List Value) (x : DataW H × List MemPlace) (h : DataW.trod enc Tryd.prog W 0 (fun _ => true) true n 9 cs = some x) (hw : ∀ k ∈ x.1.weights Tryd.prog 9, k ≤ reachBytes) :
    ∃ s : ByteArray, cs = [.string s] ∧ s.size ≤ 140737488355328 := by
  obtain ⟨s1, e1, es1, w1⟩ := DataW.trod_string Tryd.underlying9 h
  refine ⟨s1, e1, ?_⟩
  have h1 : s1.size ∈ x.1.weights Tryd.prog 9 := by
    rw [es1]
    simp only [DataW.weights, List.mem_singleton]
    rfl
  have := hw _ h1
  unfold reachBytes at this
  omega
theorem el_strs_sized (n : Nat) (cs : List Value) (x : DataW H × List MemPlace) (h : DataW.trod enc Tryd.prog W 0 (fun _ => true) true n 31 cs = some x) (hw : ∀ k ∈ x.1.weights Tryd.prog 31, k ≤ reachBytes) :
    ∃ u : Value, cs = [u] ∧ ∃ l, RdT W W.heap.size u l ∧ ∀ t ∈ l, t.size ≤ 140737488355328 := by
  rcases open_slice Tryd.underlying31 h with ⟨hcs, _⟩ | ⟨x1, L, c, m, n1, D, Pl, hcs, _, hl, hmx, hm, hx, hi⟩
  · exact ⟨_, hcs, [], ⟨none, 0, rfl, Nat.le_refl _, by unfold maxLen; omega, Vals.nil_⟩, by simp⟩
  · simp only [if_true] at hm
    have hC : Tryd.prog.cellsOf 9 = 1 := by kernel_rfl
    rw [hC] at hi
    have key : ∀ i, ∃ t : ByteArray, i < L → W.cell? (x1.add (i * 1 + 0)) = some (.string t) ∧ t.size ≤ 140737488355328 := by
      intro i
      by_cases hlt : i < L
      · obtain ⟨cs', hc, htr⟩ := hi i (by omega)
        obtain ⟨t, rfl, h1⟩ := el_str_sized _ _ _ htr (fun k hk => hw k (by
          rw [hx]
          simp only [DataW.weights, Tryd.underlying31, List.mem_cons, List.mem_append]
          exact .inr (.inl (weights_in_all (List.mem_map.2 ⟨i, List.mem_range.2 hlt, rfl⟩) k hk))))
        obtain ⟨_, _, hat⟩ := World.cells?_some hc
        exact ⟨t, fun _ => ⟨by have := hat 0 (by omega); rw [Go.Deep.add_add] at this; simpa using this, h1⟩⟩
      · exact ⟨ByteArray.empty, fun h => absurd h hlt⟩
    obtain ⟨F, hF⟩ : ∃ F : Nat → ByteArray, ∀ i, i < L → W.cell? (x1.add (i * 1 + 0)) = some (.string (F i)) ∧ (F i).size ≤ 140737488355328 := ⟨fun i => (key i).choose, fun i => (key i).choose_spec⟩
    clear key
    refine ⟨_, hcs, (List.range L).map F, ⟨some x1, c, by simp, by simpa using hl, hmx, ⟨by rw [txs_length]; simp, fun hp => ?_⟩⟩, ?_⟩
    · have hL : 0 < L := by simpa [txs] using hp
      have h0 := (hF 0 hL).1
      obtain ⟨b, off, spot⟩ := x1
      have hspot : spot = none := by simpa [Addr.add] using World.cell?_spot h0
      subst hspot
      rw [add_none] at h0
      refine ⟨b, off, rfl, block_lt_of_cell h0, fun q hq => ?_⟩
      have hqL : q < L := by simpa [txs] using hq
      have h1 := (hF q hqL).1
      rw [add_none] at h1
      rw [txs_get _ q (by simpa using hqL)]
      simpa using h1
    · intro t ht
      simp only [List.mem_map, List.mem_range] at ht
      obtain ⟨i, hi, rfl⟩ := ht
      exact (hF i hi).2
theorem open_tbl {v : Value} {base : Nat} {d : DataW H} {p : List MemPlace} (hv : Value.okWide Tryd.prog W .any base 22 v) (h : DataW.Trod enc Tryd.prog W 0 (fun _ => true) true 22 v d p)
    (hw : ∀ n ∈ d.weights Tryd.prog 22, n ≤ reachBytes) : ∃ ll, RdTT W W.heap.size v ll ∧ ∀ l ∈ ll, ∀ t ∈ l, t.size ≤ 140737488355328 := by
  obtain ⟨a, L, c, rfl⟩ := okWide_slice Tryd.underlying22 hv
  obtain ⟨fuel, hf⟩ := h
  rcases open_slice Tryd.underlying22 hf with ⟨hcs, _⟩ | ⟨x, len, cap, m, n, D, Pl, hcs, _, hl, hmx, hm, hx, hi⟩
  · simp [Value.cells] at hcs
    obtain ⟨rfl, rfl, rfl⟩ := hcs
    exact ⟨[], ⟨none, 0, [], rfl, Nat.le_refl _, by unfold maxLen; omega, Vals.nil_, by simp⟩, by simp⟩
  · simp [Value.cells] at hcs
    obtain ⟨rfl, rfl, rfl⟩ := hcs
    simp only [if_true] at hm
    have hC : Tryd.prog.cellsOf 31 = 1 := by kernel_rfl
    rw [hC] at hi
    have key : ∀ i, ∃ ul : Value × List ByteArray, i < L → W.cell? (x.add (i * 1 + 0)) = some ul.1 ∧ RdT W W.heap.size ul.1 ul.2 ∧ ∀ t ∈ ul.2, t.size ≤ 140737488355328 := by
      intro i
      by_cases hlt : i < L
      · obtain ⟨cs', hc, htr⟩ := hi i (by omega)
        obtain ⟨u, rfl, l, h1, h2⟩ := el_strs_sized _ _ _ htr (fun k hk => hw k (by
          injection hx with hx1 hx2
          rw [hx1]
          simp only [DataW.weights, Tryd.underlying22, List.mem_cons, List.mem_append]
          exact .inr (.inl (weights_in_all (List.mem_map.2 ⟨i, List.mem_range.2 hlt, rfl⟩) k hk))))
        obtain ⟨_, _, hat⟩ := World.cells?_some hc
        exact ⟨(u, l), fun _ => ⟨by have := hat 0 (by omega); rw [Go.Deep.add_add] at this; simpa using this, h1, h2⟩⟩
      · exact ⟨(.int .i64 0, []), fun h => absurd h hlt⟩
    obtain ⟨F, hF⟩ : ∃ F : Nat → Value × List ByteArray, ∀ i, i < L → W.cell? (x.add (i * 1 + 0)) = some (F i).1 ∧ RdT W W.heap.size (F i).1 (F i).2 ∧ ∀ t ∈ (F i).2, t.size ≤ 140737488355328 := ⟨fun i => (key i).choose, fun i => (key i).choose_spec⟩
    clear key
    obtain ⟨ll, hll⟩ : ∃ ll : List (List ByteArray), ll = (List.range L).map fun i => (F i).2 := ⟨_, rfl⟩
    obtain ⟨xs, hxs⟩ : ∃ xs : List Value, xs = (List.range L).map fun i => (F i).1 := ⟨_, rfl⟩
    have hlL : ll.length = L := by rw [hll]; simp
    have hxL : xs.length = L := by rw [hxs]; simp
    have hxi : ∀ i, i < L → xs[i]? = some (F i).1 := fun i hi => by rw [hxs]; simp [hi]
    refine ⟨ll, ⟨some x, c, xs, by rw [hlL], by omega, hmx, ⟨by rw [hxL, hlL]; omega, fun hp => ?_⟩, fun i hi => ?_⟩, ?_⟩
    · have hL : 0 < L := by omega
      have h0 := (hF 0 hL).1
      obtain ⟨b, off, spot⟩ := x
      have hspot : spot = none := by simpa [Addr.add] using World.cell?_spot h0
      subst hspot
      rw [add_none] at h0
      refine ⟨b, off, rfl, block_lt_of_cell h0, fun q hq => ?_⟩
      have hqL : q < L := by omega
      have h1 := (hF q hqL).1
      rw [add_none] at h1
      rw [hxi q hqL]
      simpa using h1
    · have hiL : i < L := by omega
      refine ⟨_, hxi i hiL, ?_⟩
      have := (hF i hiL).2.1
      have e : ll[i] = (F i).2 := by simp only [hll]; simp
      rw [e]
      exact this
    · intro l hl
      rw [hll] at hl
      simp only [List.mem_map, List.mem_range] at hl
      obtain ⟨i, hi, rfl⟩ := hl
      exact (hF i hi).2.2
end
end Go.Proofs.YtceegpkgifflcaaDoor
