/- Layer 18: Same, Column, and the reference's Column. -/
import Derived.Test.YtceegpkgifflcaaDoorCsv8
namespace Go.Proofs.YtceegpkgifflcaaDoor
open Go.RowKit
set_option linter.unusedVariables false
set_option maxRecDepth 100000

theorem RdT.drewN {w : World} {B : Nat} {u : Value} {l : List ByteArray} (h : RdT w B u l) (n : Nat) : RdT (w.drewN n) B u l := h.below ⟨rfl, rfl, rfl, Nat.le_refl _, fun _ _ => rfl⟩
/-- The place of the first one that is s. -/
def idxT (l : List ByteArray) (s : ByteArray) (k : Nat) : Option Nat := ((l.drop k).findIdx? fun t => decide (t = s)).map (· + k)
theorem idxT_end (l : List ByteArray) (s : ByteArray) (k : Nat) (h : l.length ≤ k) : idxT l s k = none := by unfold idxT; rw [List.drop_eq_nil_of_le h]; rfl
theorem idxT_here (l : List ByteArray) (s : ByteArray) (k : Nat) (h : k < l.length) (h1 : l[k] = s) : idxT l s k = some k := by
  unfold idxT; rw [List.drop_eq_getElem_cons h, List.findIdx?_cons, h1]; simp
theorem idxT_next (l : List ByteArray) (s : ByteArray) (k : Nat) (h : k < l.length) (h1 : l[k] ≠ s) : idxT l s k = idxT l s (k + 1) := by
  unfold idxT; rw [List.drop_eq_getElem_cons h, List.findIdx?_cons, decide_eq_false h1]
  simp only [Bool.false_eq_true, if_false, Option.map_map]
  congr 1
  funext i
  simp; omega
theorem idxT_lt (l : List ByteArray) (s : ByteArray) (k n : Nat) (h : idxT l s k = some n) : n < l.length := by
  unfold idxT at h
  cases hf : (l.drop k).findIdx? fun t => decide (t = s) with
  | none => rw [hf] at h; cases h
  | some i =>
    rw [hf] at h
    have := List.findIdx?_eq_some_iff_findIdx_eq.1 hf
    simp at h
    have h2 := this.1
    rw [List.length_drop] at h2
    omega
def colE (R : List (List ByteArray)) (s : ByteArray) : Option Nat := match R with
  | [] => none
  | r :: _ => idxT r s 0
def colV : Option Nat → Value
  | some n => .tuple #[.int .i64 (n : Int), .bool true]
  | none => .tuple #[.int .i64 0, .bool false]
theorem nil_of {R : List (List ByteArray)} {u : Value} {w : World} {B : Nat} (h : RdTT w B u R) : (R = [] ∧ ∃ a c, u = .slice a 0 c) ∨ ∃ r R', R = r :: R' ∧ ∃ b o c u0, u = .slice (some ⟨b, o, none⟩) R.length c ∧ R.length ≤ c ∧ c ≤ 9223372036854775807 ∧ w.cell? ⟨b, o, none⟩ = some u0 ∧ RdT w B u0 r := by
  obtain ⟨a, c, rfl, a1, a2, hat⟩ := h.at
  rcases R with _ | ⟨r, R'⟩
  · exact .inl ⟨rfl, a, c, rfl⟩
  · obtain ⟨b, o, u0, rfl, _, hc, hr⟩ := hat 0 (by simp)
    exact .inr ⟨r, R', rfl, b, o, c, u0, rfl, a1, a2, by simpa using hc, by simpa using hr⟩
end Go.Proofs.YtceegpkgifflcaaDoor
