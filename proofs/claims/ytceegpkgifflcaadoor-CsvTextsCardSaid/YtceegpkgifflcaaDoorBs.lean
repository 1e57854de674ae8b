/- Strings as lists of bytes: plain mathematics. -/
import Derived.Test.YtceegpkgifflcaaDoorStr
import Derived.Lib.Bytealg
namespace Go.Proofs.YtceegpkgifflcaaDoor
open Go.RowKit
set_option linter.unusedVariables false

def bs (s : ByteArray) : List Nat := s.data.toList.map UInt8.toNat
theorem bs_length (s : ByteArray) : (bs s).length = s.size := by unfold bs; rw [List.length_map]; rfl
theorem bs_lt (s : ByteArray) : ∀ x ∈ bs s, x < 256 := by
  intro x hx
  simp only [bs, List.mem_map] at hx
  obtain ⟨u, _, rfl⟩ := hx
  exact u.toNat_lt
theorem bs_get (s : ByteArray) (k : Nat) (h : k < s.size) : (s[k]'h).toNat = (bs s).getD k 0 := by
  have h1 : k < (bs s).length := by rw [bs_length]; exact h
  rw [List.getD_eq_getElem?_getD, List.getElem?_eq_getElem h1]
  simp [bs]
  rfl
theorem bs_strOf (l : List Nat) (h : ∀ x ∈ l, x < 256) : bs (strOf l) = l := by
  unfold bs strOf
  simp only [List.map_map]
  conv => rhs; rw [← List.map_id l]
  refine List.map_congr_left fun x hx => ?_
  simp [Nat.mod_eq_of_lt (h x hx)]
theorem strOf_bs (s : ByteArray) : strOf (bs s) = s := by
  unfold bs strOf
  simp only [List.map_map]
  have : s.data.toList.map (UInt8.ofNat ∘ UInt8.toNat) = s.data.toList := by
    conv => rhs; rw [← List.map_id s.data.toList]
    refine List.map_congr_left fun x hx => ?_
    simp
  rw [this]
theorem strOf_app (l m : List Nat) : strOf l ++ strOf m = strOf (l ++ m) := by
  apply ByteArray.ext
  rw [ByteArray.data_append]
  simp [strOf]
theorem strOf_size (l : List Nat) : (strOf l).size = l.length := by show (strOf l).data.size = _; simp [strOf]
theorem bs_app (s t : ByteArray) : bs (s ++ t) = bs s ++ bs t := by
  unfold bs
  rw [ByteArray.data_append]
  simp
theorem bs_ext (s : ByteArray) (i j : Nat) : bs (s.extract i j) = ((bs s).drop i).take (j - i) := by
  unfold bs
  rw [Lib.extract_data, List.map_take, List.map_drop]
theorem ext_bs (s : ByteArray) (i j : Nat) : s.extract i j = strOf (((bs s).drop i).take (j - i)) := by
  rw [← bs_ext, strOf_bs]
theorem ext_size (s : ByteArray) (i j : Nat) (h1 : i ≤ j) (h2 : j ≤ s.size) : (s.extract i j).size = j - i := by
  rw [← bs_length, bs_ext, List.length_take, List.length_drop, bs_length]; omega
theorem bs_inj {s t : ByteArray} (h : bs s = bs t) : s = t := by rw [← strOf_bs s, h, strOf_bs]
theorem getD_drop (l : List Nat) (i j : Nat) : (l.drop i).getD j 0 = l.getD (i + j) 0 := by simp [List.getD, List.getElem?_drop]
theorem getD_out {l : List Nat} {k : Nat} (h : l.length ≤ k) : l.getD k 0 = 0 := by simp [List.getD, List.getElem?_eq_none h]
theorem getD_lt {l : List Nat} (h : ∀ x ∈ l, x < 256) (k : Nat) : l.getD k 0 < 256 := by
  by_cases hk : k < l.length
  · rw [List.getD_eq_getElem?_getD, List.getElem?_eq_getElem hk]; exact h _ (List.getElem_mem hk)
  · rw [getD_out (by omega)]; omega
theorem lt_of_getD {l : List Nat} {k : Nat} (h : l.getD k 0 ≠ 0) : k < l.length := by
  by_cases hk : k < l.length
  · exact hk
  · exact absurd (getD_out (by omega)) h
theorem drop_head {l : List Nat} {k : Nat} (h : k < l.length) : l.drop k = l.getD k 0 :: l.drop (k + 1) := by
  rw [List.drop_eq_getElem_cons h, List.getD_eq_getElem?_getD, List.getElem?_eq_getElem h]; rfl
theorem take_more {l : List Nat} {i k : Nat} (hi : i ≤ k) (h : k < l.length) : (l.drop i).take (k + 1 - i) = (l.drop i).take (k - i) ++ [l.getD k 0] := by
  rw [show k + 1 - i = (k - i) + 1 by omega, List.take_add_one, List.getElem?_drop, show i + (k - i) = k by omega, List.getElem?_eq_getElem h, List.getD_eq_getElem?_getD, List.getElem?_eq_getElem h]
  rfl
/-- The place of the first byte c in a list, or none. -/
def firstAt : List Nat → Nat → Option Nat
  | [], _ => none
  | b :: l, c => if b = c then some 0 else (firstAt l c).map (· + 1)
theorem firstAt_cons (b : Nat) (l : List Nat) (c : Nat) : firstAt (b :: l) c = if b = c then some 0 else (firstAt l c).map (· + 1) := rfl
theorem firstAt_some : ∀ {l : List Nat} {c n : Nat}, firstAt l c = some n → n < l.length ∧ l.getD n 0 = c ∧ ∀ j, j < n → l.getD j 0 ≠ c
  | [], c, n, h => by cases h
  | b :: l, c, n, h => by
    unfold firstAt at h
    by_cases hb : b = c
    · rw [if_pos hb] at h
      injection h with h
      subst h
      exact ⟨by simp, by simpa using hb, fun j hj => by omega⟩
    · rw [if_neg hb] at h
      cases hf : firstAt l c with
      | none => rw [hf] at h; cases h
      | some k =>
        rw [hf] at h
        obtain rfl : k + 1 = n := by simpa using h
        obtain ⟨h1, h2, h3⟩ := firstAt_some hf
        refine ⟨by simp; omega, by simpa using h2, fun j hj => ?_⟩
        cases j with
        | zero => simpa using hb
        | succ j => simpa using h3 j (by omega)
theorem firstAt_none : ∀ {l : List Nat} {c : Nat}, firstAt l c = none → ∀ j, j < l.length → l.getD j 0 ≠ c
  | [], c, h, j, hj => by simp at hj
  | b :: l, c, h, j, hj => by
    unfold firstAt at h
    by_cases hb : b = c
    · rw [if_pos hb] at h; cases h
    · rw [if_neg hb] at h
      cases hf : firstAt l c with
      | some k => rw [hf] at h; cases h
      | none =>
        cases j with
        | zero => simpa using hb
        | succ j => simpa using firstAt_none hf j (by simpa using hj)
def optI : Option Nat → Int
  | some n => n
  | none => -1
theorem indexByte_first (l : List UInt8) (c : UInt8) : Lib.indexByte l c = optI (firstAt (l.map UInt8.toNat) c.toNat) := by
  induction l with
  | nil => rfl
  | cons b l ih =>
    unfold Lib.indexByte
    rw [ih, List.map_cons, firstAt_cons]
    by_cases hb : b = c
    · subst hb; simp [optI]
    · have hb2 : b.toNat ≠ c.toNat := fun h => hb (UInt8.toNat_inj.1 h)
      rw [if_neg hb2, if_neg (by simpa using hb)]
      cases firstAt (l.map UInt8.toNat) c.toNat with
      | none => rfl
      | some n =>
        simp [optI]
        try omega
/-- Does s begin with p? -/
def hasP (s p : List Nat) : Bool := p.isPrefixOf s
theorem hasP_of (s p : ByteArray) : (decide (p.size ≤ s.size) && ((s.extract 0 p.size).toList == p.toList)) = hasP (bs s) (bs p) := by
  rw [Lib.toList_data, Lib.toList_data, Lib.extract_data, List.drop_zero, Nat.sub_zero]
  have h1 : p.size = p.data.toList.length := rfl
  have h2 : s.size = s.data.toList.length := rfl
  rw [h1, h2, Lib.hasPrefix_of_take]
  unfold Lib.hasPrefix hasP bs
  generalize p.data.toList = a
  generalize s.data.toList = b
  induction a generalizing b with
  | nil => simp
  | cons x a ih =>
    cases b with
    | nil => simp
    | cons y b =>
      simp only [List.isPrefixOf, List.map_cons, ih]
      congr 1
      by_cases hxy : x = y
      · subst hxy; simp
      · have : x.toNat ≠ y.toNat := fun h => hxy (UInt8.toNat_inj.1 h)
        rw [beq_eq_false_iff_ne.mpr hxy, beq_eq_false_iff_ne.mpr this]
theorem hasP_one (l : List Nat) (i c : Nat) (hc : c ≠ 0) : hasP (l.drop i) [c] = decide (l.getD i 0 = c) := by
  by_cases h : i < l.length
  · rw [drop_head h]
    unfold hasP
    simp only [List.isPrefixOf, Bool.and_true]
    by_cases e : l.getD i 0 = c
    · rw [decide_eq_true e, e]; simp
    · rw [decide_eq_false e]; exact beq_eq_false_iff_ne.mpr (fun h => e h.symm)
  · rw [List.drop_eq_nil_of_le (by omega), decide_eq_false (by rw [getD_out (by omega)]; omega)]; rfl
theorem hasP_two (l : List Nat) (i c d : Nat) (hc : c ≠ 0) (hd : d ≠ 0) : hasP (l.drop i) [c, d] = decide (l.getD i 0 = c ∧ l.getD (i + 1) 0 = d) := by
  by_cases h : i < l.length
  · rw [drop_head h]
    have := hasP_one l (i + 1) d hd
    unfold hasP at this ⊢
    rw [List.isPrefixOf_cons_cons, this]
    by_cases e : l.getD i 0 = c
    · rw [e]; simp
    · have h1 : (c == l.getD i 0) = false := beq_eq_false_iff_ne.mpr (fun h => e h.symm)
      have h2 : decide (l.getD i 0 = c ∧ l.getD (i + 1) 0 = d) = false := decide_eq_false (fun h => e h.1)
      rw [h1, h2]; rfl
  · rw [List.drop_eq_nil_of_le (by omega), decide_eq_false (by rw [getD_out (by omega)]; omega)]; rfl
end Go.Proofs.YtceegpkgifflcaaDoor
