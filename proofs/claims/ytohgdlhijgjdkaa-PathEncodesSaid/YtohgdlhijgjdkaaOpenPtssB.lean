/- Slices of slices of points that came in, sized. -/
import Derived.Test.YtohgdlhijgjdkaaOpenPtss
import Derived.Test.YtohgdlhijgjdkaaPathEncodesW
import Derived.SizedLaws
namespace Go.Proofs.Ytohgdlhijgjdkaa
open Go.ChangeShapes Go.WideShapes Go.ChangeAt Go.RowKit Go.Deep Go.Joins
set_option linter.unusedVariables false

section
variable {H : Type} {enc : TypeId × Value → H} {W : World}
theorem weights_in_all {P : Program} {e : TypeId} : ∀ {l : List (DataW H)} {d : DataW H}, d ∈ l → ∀ n ∈ d.weights P e, n ∈ DataW.weightsAll P e l
  | d0 :: l, d, h, n, hn => by
    simp only [DataW.weightsAll, List.mem_append]
    rcases List.mem_cons.1 h with rfl | h
    · exact .inl hn
    · exact .inr (weights_in_all h n hn)
  | [], _, h, _, _ => by cases h
theorem el_pts_sized (n : Nat) (cs : List Value) (x : DataW H × List MemPlace) (h : DataW.trod enc Try.prog W 0 (fun _ => true) true n 43 cs = some x) (hw : ∀ k ∈ x.1.weights Try.prog 43, k ≤ reachBytes) :
    ∃ u : Value, cs = [u] ∧ ∃ l, RdP W W.heap.size u l ∧ l.length ≤ 140737488351232 := by
  obtain ⟨l, a, c, e, h1, h2, h3, _⟩ := open_rows_in Try.underlying43 (fun s : P2 => [.int .i64 s.1, .int .i64 s.2]) _ 2 (by omega) (by kernel_rfl) (fun _ => rfl) el_pt h
  refine ⟨_, e, l, ⟨a, c, rfl, h1, h2, h3⟩, ?_⟩
  rcases open_slice Try.underlying43 h with ⟨hcs, _⟩ | ⟨x1, L, c1, m, n1, D, Pl, hcs, _, hl, hmx, hm, hx, hi⟩
  · rw [e] at hcs; simp at hcs; omega
  · rw [e] at hcs
    simp at hcs
    simp only [if_true] at hm
    have hb1 : Try.prog.bytesOf 42 = 16 := by kernel_rfl
    have := hw ((((List.range L).map D).length + ((List.range (m - L)).map fun j => D (L + j)).length) * Try.prog.bytesOf 42) (by
      rw [hx]
      simp only [DataW.weights, Try.underlying43, List.mem_cons]
      first | exact .inl rfl | exact .inl trivial)
    rw [hb1] at this
    simp at this
    unfold reachBytes at this
    omega
theorem open_ptss_sized {v : Value} {base : Nat} {d : DataW H} {p : List MemPlace} (hv : Value.okWide Try.prog W .any base 24 v) (h : DataW.Trod enc Try.prog W 0 (fun _ => true) true 24 v d p)
    (hw : ∀ n ∈ d.weights Try.prog 24, n ≤ reachBytes) : ∃ ll, RdPP W W.heap.size v ll ∧ ∀ l ∈ ll, l.length ≤ 140737488351232 := by
  obtain ⟨a, L, c, rfl⟩ := okWide_slice Try.underlying24 hv
  obtain ⟨fuel, hf⟩ := h
  rcases open_slice Try.underlying24 hf with ⟨hcs, _⟩ | ⟨x, len, cap, m, n, D, Pl, hcs, _, hl, hmx, hm, hx, hi⟩
  · simp [Value.cells] at hcs
    obtain ⟨rfl, rfl, rfl⟩ := hcs
    exact ⟨[], ⟨none, 0, [], rfl, Nat.le_refl _, by unfold maxLen; omega, Vals.nil_, by simp⟩, by simp⟩
  · simp [Value.cells] at hcs
    obtain ⟨rfl, rfl, rfl⟩ := hcs
    simp only [if_true] at hm
    have hC : Try.prog.cellsOf 43 = 1 := by kernel_rfl
    rw [hC] at hi
    have key : ∀ i, ∃ ul : Value × List P2, i < L → W.cell? (x.add (i * 1 + 0)) = some ul.1 ∧ RdP W W.heap.size ul.1 ul.2 ∧ ul.2.length ≤ 140737488351232 := by
      intro i
      by_cases hlt : i < L
      · obtain ⟨cs', hc, htr⟩ := hi i (by omega)
        obtain ⟨u, rfl, l, h1, h2⟩ := el_pts_sized _ _ _ htr (fun k hk => hw k (by
          injection hx with hx1 hx2
          rw [hx1]
          simp only [DataW.weights, Try.underlying24, List.mem_cons, List.mem_append]
          exact .inr (.inl (weights_in_all (List.mem_map.2 ⟨i, List.mem_range.2 hlt, rfl⟩) k hk))))
        obtain ⟨_, _, hat⟩ := World.cells?_some hc
        exact ⟨(u, l), fun _ => ⟨by have := hat 0 (by omega); rw [Go.Deep.add_add] at this; simpa using this, h1, h2⟩⟩
      · exact ⟨(.int .i64 0, []), fun h => absurd h hlt⟩
    obtain ⟨F, hF⟩ : ∃ F : Nat → Value × List P2, ∀ i, i < L → W.cell? (x.add (i * 1 + 0)) = some (F i).1 ∧ RdP W W.heap.size (F i).1 (F i).2 ∧ (F i).2.length ≤ 140737488351232 := ⟨fun i => (key i).choose, fun i => (key i).choose_spec⟩
    clear key
    obtain ⟨ll, hll⟩ : ∃ ll : List (List P2), ll = (List.range L).map fun i => (F i).2 := ⟨_, rfl⟩
    obtain ⟨xs, hxs⟩ : ∃ xs : List Value, xs = (List.range L).map fun i => (F i).1 := ⟨_, rfl⟩
    have hlL : ll.length = L := by rw [hll]; simp
    have hxL : xs.length = L := by rw [hxs]; simp
    have hxi : ∀ i, i < L → xs[i]? = some (F i).1 := fun i hi => by rw [hxs]; simp [hi]
    refine ⟨ll, ⟨some x, c, xs, by rw [hlL], by omega, hmx, ⟨by rw [hxL, hlL]; omega, fun hp => ?_⟩, fun i hi => ?_⟩, ?_⟩
    · have hL : 0 < L := by omega
      have h0 := (hF 0 hL).1
      obtain ⟨b, off, spot⟩ := x
      have hspot : spot = none := by simpa [Addr.add] using World.cell?_spot h0
      subst hspot
      rw [add_none] at h0
      refine ⟨b, off, rfl, block_lt_of_cell h0, fun q hq => ?_⟩
      have hqL : q < L := by omega
      have h1 := (hF q hqL).1
      rw [add_none] at h1
      rw [hxi q hqL]
      simpa using h1
    · have hiL : i < L := by omega
      refine ⟨_, hxi i hiL, ?_⟩
      have := (hF i hiL).2.1
      have e : ll[i] = (F i).2 := by simp only [hll]; simp
      rw [e]
      exact this
    · intro l hl
      rw [hll] at hl
      simp only [List.mem_map, List.mem_range] at hl
      obtain ⟨i, hi, rfl⟩ := hl
      exact (hF i hi).2.2
end
theorem pathEncodes_walk2 (K : Int) (u : Value) (w : World) (hKb : -9223372036854775808 ≤ K ∧ K < 9223372036854775808) (h : ∃ ll, RdPP w w.heap.size u ll ∧ ∀ l ∈ ll, l.length ≤ 140737488351232) :
    Calls Try.prog 4 #[.int .i64 K, u] w fun e w' => e = .returned (.bool true) ∧ Below w.heap.size w w' := by
  obtain ⟨ll, h1, h2⟩ := h
  exact pathEncodes_walk K u ll w hKb h1 h2
end Go.Proofs.Ytohgdlhijgjdkaa
