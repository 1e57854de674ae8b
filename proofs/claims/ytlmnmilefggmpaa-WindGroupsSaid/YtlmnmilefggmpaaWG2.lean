/- Layer 27: groups: the mathematics; rings that came in. -/
import Derived.Test.YtlmnmilefggmpaaWG1
import Derived.Test.YtlmnmilefggmpaaPP
import Derived.Test.YtlmnmilefggmpaaOpenPt
import Derived.Test.YtlmnmilefggmpaaOpenRowsIn
import Derived.Test.YtlmnmilefggmpaaWind8
namespace Go.Proofs.Ytlmnmilefggmpaa
open Go.ChangeShapes Go.WideShapes Go.ChangeAt Go.RowKit Go.Deep Go.Joins
set_option linter.unusedVariables false

section
variable {H : Type} {enc : TypeId × Value → H} {W : World}
theorem el_ring (n : Nat) (cs : List Value) (x : DataW H × List MemPlace) (h : DataW.trod enc Try.prog W 0 (fun _ => true) true n 22 cs = some x) : ∃ u : Value, cs = [u] ∧ ∃ l, RdP W W.heap.size u l := by
  obtain ⟨l, a, c, e, h1, h2, h3, h4⟩ := open_rows_in Try.underlying22 (fun s : P2 => [.int .i64 s.1, .int .i64 s.2]) _ 2 (by omega) (by kernel_rfl) (fun _ => rfl) el_pt h
  exact ⟨_, e, l, a, c, rfl, h1, h2, h3⟩
theorem open_rings {v : Value} {base : Nat} {d : DataW H} {p : List MemPlace} (hv : Value.okWide Try.prog W .any base 32 v) (h : DataW.Trod enc Try.prog W 0 (fun _ => true) true 32 v d p) : ∃ ll, RdPP W W.heap.size v ll := by
  obtain ⟨us, a, c, e, h1, h2, h3, h4⟩ := open_rows Try.underlying32 (fun u : Value => [u]) (fun u => ∃ l, RdP W W.heap.size u l) 1 (by omega) (by kernel_rfl) (fun _ => rfl) el_ring hv h
  have hfl : us.flatMap (fun u : Value => [u]) = us := by simp
  rw [hfl] at h3
  have key : ∀ i, ∃ l, ∀ h : i < us.length, RdP W W.heap.size us[i] l := fun i => by
    by_cases hi : i < us.length
    · obtain ⟨l, hl⟩ := h4 _ (List.getElem_mem hi)
      exact ⟨l, fun _ => hl⟩
    · exact ⟨[], fun h => absurd h hi⟩
  have hll : ((List.range us.length).map fun i => (key i).choose).length = us.length := by simp
  refine ⟨(List.range us.length).map fun i => (key i).choose, a, c, us, by rw [hll]; exact e, by omega, h2, by rw [hll]; exact h3, fun i hi => ?_⟩
  have hi' : i < us.length := by omega
  refine ⟨us[i], List.getElem?_eq_getElem hi', ?_⟩
  have := (key i).choose_spec hi'
  simpa using this
end
theorem RdPP.el_ {w : World} {B : Nat} {a : Option Addr} {n c : Nat} {ll : List (List P2)} (h : RdPP w B (.slice a n c) ll) (i : Nat) (hi : i < ll.length) :
    ∃ b off a1 c1, a = some ⟨b, off, none⟩ ∧ b < B ∧ w.cell? ⟨b, off + i, none⟩ = some (.slice a1 ll[i].length c1) ∧ RdP w B (.slice a1 ll[i].length c1) ll[i] := by
  obtain ⟨a', c', xs, e, h3, h4, h5, h6⟩ := h
  injection e with e1 e2 e3
  subst e1
  obtain ⟨u, k1, k2⟩ := h6 i hi
  obtain ⟨b, off, rfl, hb, hc⟩ := h5.2 (by rw [h5.1]; omega)
  have hx := hc i (by rw [h5.1]; omega)
  rw [k1] at hx
  obtain ⟨a1, c1, rfl, q1, q2, q3⟩ := k2
  exact ⟨b, off, a1, c1, rfl, hb, hx, a1, c1, rfl, q1, q2, q3⟩
theorem RdPP.form_ {w : World} {B : Nat} {v : Value} {ll : List (List P2)} (h : RdPP w B v ll) : ∃ a c, v = .slice a ll.length c := by
  obtain ⟨a, c, xs, e, _⟩ := h
  exact ⟨a, c, e⟩
theorem RdG.at {w : World} {B : Nat} {a : Option Addr} {n c : Nat} {ll : List (List Nat)} (h : RdG w B (.slice a n c) ll) (i : Nat) (hi : i < ll.length) :
    ∃ b off a1 c1, a = some ⟨b, off, none⟩ ∧ b < B ∧ w.cell? ⟨b, off + i, none⟩ = some (.slice a1 ll[i].length c1) ∧ Nums .i64 w B a1 ll[i] := by
  obtain ⟨a', c', xs, e, h3, h4, h5, h6⟩ := h
  injection e with e1 e2 e3
  subst e1
  obtain ⟨a1, c1, k1, k2, k3, k4⟩ := h6 i hi
  obtain ⟨b, off, rfl, hb, hc⟩ := h5.2 (by rw [h5.1]; omega)
  have hx := hc i (by rw [h5.1]; omega)
  rw [k1] at hx
  exact ⟨b, off, a1, c1, rfl, hb, hx, k4⟩
/-- The groups behind one ring more. -/
def gs1 (st : List (List Nat) × Int) (k : Nat) (s : Int) : List (List Nat) × Int :=
  (if s = 0 then st.1 else if s = (if st.2 = 0 then s else st.2) then st.1 ++ [[k]] else st.1.set (st.1.length - 1) (st.1.getD (st.1.length - 1) [] ++ [k]), if st.2 = 0 then s else st.2)
def gsTo (l : List Int) : Nat → List (List Nat) × Int
  | 0 => ([], 0)
  | k + 1 => gs1 (gsTo l k) k (l.getD k 0)
theorem gs1_zero {st : List (List Nat) × Int} {k : Nat} {s : Int} (h : s = 0) : gs1 st k s = (st.1, st.2) := by
  unfold gs1; rw [if_pos h]
  by_cases h2 : st.2 = 0
  · rw [if_pos h2, h2, h]
  · rw [if_neg h2]
theorem gs1_first {st : List (List Nat) × Int} {k : Nat} {s : Int} (h : s ≠ 0) (h2 : st.2 = 0) : gs1 st k s = (st.1 ++ [[k]], s) := by
  unfold gs1; rw [if_neg h, if_pos h2, if_pos rfl]
theorem gs1_same {st : List (List Nat) × Int} {k : Nat} {s : Int} (h : s ≠ 0) (h2 : st.2 ≠ 0) (h3 : s = st.2) : gs1 st k s = (st.1 ++ [[k]], st.2) := by
  unfold gs1; rw [if_neg h, if_neg h2, if_pos h3]
theorem gs1_other {st : List (List Nat) × Int} {k : Nat} {s : Int} (h : s ≠ 0) (h2 : st.2 ≠ 0) (h3 : s ≠ st.2) : gs1 st k s = (st.1.set (st.1.length - 1) (st.1.getD (st.1.length - 1) [] ++ [k]), st.2) := by
  unfold gs1; rw [if_neg h, if_neg h2, if_neg h3]
theorem gs_inv (l : List Int) : ∀ k, ((gsTo l k).2 = 0 ↔ (gsTo l k).1.length = 0) ∧ (gsTo l k).1.length ≤ k ∧ ∀ x ∈ (gsTo l k).1, x.length ≤ k
  | 0 => ⟨by simp [gsTo], by simp [gsTo], by simp [gsTo]⟩
  | k + 1 => by
    obtain ⟨h1, h2, h3⟩ := gs_inv l k
    show ((gs1 (gsTo l k) k (l.getD k 0)).2 = 0 ↔ (gs1 (gsTo l k) k (l.getD k 0)).1.length = 0) ∧ (gs1 (gsTo l k) k (l.getD k 0)).1.length ≤ k + 1 ∧ ∀ x ∈ (gs1 (gsTo l k) k (l.getD k 0)).1, x.length ≤ k + 1
    generalize gsTo l k = st at *
    generalize l.getD k 0 = s
    by_cases hs : s = 0
    · rw [gs1_zero hs]
      exact ⟨h1, by simpa using Nat.le_succ_of_le h2, fun x hx => Nat.le_succ_of_le (h3 x hx)⟩
    · by_cases hf : st.2 = 0
      · rw [gs1_first hs hf]
        refine ⟨by simp [hs], by simp; omega, fun x hx => ?_⟩
        simp at hx
        rcases hx with hx | rfl
        · exact Nat.le_succ_of_le (h3 x hx)
        · simp
      · by_cases he : s = st.2
        · rw [gs1_same hs hf he]
          refine ⟨by simp [hf], by simp; omega, fun x hx => ?_⟩
          simp at hx
          rcases hx with hx | rfl
          · exact Nat.le_succ_of_le (h3 x hx)
          · simp
        · rw [gs1_other hs hf he]
          refine ⟨by simpa using h1, by simp; omega, fun x hx => ?_⟩
          rcases List.mem_or_eq_of_mem_set hx with hx | rfl
          · exact Nat.le_succ_of_le (h3 x hx)
          · simp only [List.length_append, List.length_singleton]
            have hlt : st.1.length - 1 < st.1.length := by
              have := fun e => hf (h1.2 e)
              omega
            have hg : st.1.getD (st.1.length - 1) [] = st.1[st.1.length - 1] := by simp [List.getD, hlt]
            rw [hg]
            have := h3 _ (List.getElem_mem hlt)
            omega
def sgs (ll : List (List P2)) : List Int := ll.map fun l => sgn (areaO l).1
theorem sgs_at {ll : List (List P2)} {k : Nat} (h : k < ll.length) : (sgs ll).getD k 0 = sgn (areaO ll[k]).1 := by
  simp [sgs, List.getD, h]
end Go.Proofs.Ytlmnmilefggmpaa
