/- Layer 18: a table's text, and that parsing it gives the table. -/
import Derived.Test.YtceegpkgifflcaaDoorCsvMath
namespace Go.Proofs.YtceegpkgifflcaaDoor
open Go.RowKit
set_option linter.unusedVariables false

def needB (c : Nat) : Bool := decide (c = 44) || decide (c = 34) || decide (c = 13) || decide (c = 10)
def dblE (f : List Nat) : List Nat := f.flatMap fun c => if c = 34 then [34, 34] else [c]
/-- A field as it is written. -/
def fldE (f : List Nat) : List Nat := if f.any needB then [34] ++ dblE f ++ [34] else f
/-- The fields behind the first one, and the line's end. -/
def moreE : List ByteArray → List Nat
  | [] => [13, 10]
  | s :: r => 44 :: (fldE (bs s) ++ moreE r)
def rowT : List ByteArray → List Nat
  | [] => [13, 10]
  | s :: r => fldE (bs s) ++ moreE r
def textE (R : List (List ByteArray)) : List Nat := R.flatMap rowT

theorem getD_drop0 (l : List Nat) (i j : Nat) : l.getD (i + j) 0 = (l.drop i).getD j 0 := by
  rw [List.getD_eq_getElem?_getD, List.getD_eq_getElem?_getD, List.getElem?_drop]
theorem len_drop {l m : List Nat} {i : Nat} (h : l.drop i = m) (hm : 0 < m.length) : i + m.length = l.length := by
  have := congrArg List.length h
  rw [List.length_drop] at this
  omega
theorem drop_more {l a m : List Nat} {i : Nat} (h : l.drop i = a ++ m) : l.drop (i + a.length) = m := by
  rw [← List.drop_drop, h, List.drop_left]
/-- What may follow a field. -/
def Stop (t : List Nat) : Prop := (∃ r, t = 44 :: r) ∨ ∃ r, t = 13 :: 10 :: r
theorem Stop.over {l t : List Nat} {i : Nat} (ht : Stop t) (h : l.drop i = t) : overA l i := by
  rcases ht with ⟨r, rfl⟩ | ⟨r, rfl⟩
  · exact .inr (.inl (by rw [← Nat.add_zero i, getD_drop0, h]; rfl))
  · refine .inr (.inr ?_)
    have h0 : l.getD i 0 = 13 := by rw [← Nat.add_zero i, getD_drop0, h]; rfl
    have h1 : l.getD (i + 1) 0 = 10 := by rw [getD_drop0, h]; rfl
    unfold endA
    rw [if_neg (by omega), if_pos ⟨h0, h1⟩]
    omega
theorem Stop.ne {t : List Nat} (ht : Stop t) : t.getD 0 0 ≠ 34 ∧ 0 < t.length := by
  rcases ht with ⟨r, rfl⟩ | ⟨r, rfl⟩ <;> simp
theorem bare_back {l t : List Nat} (ht : Stop t) : ∀ (f : List Nat) (i fuel : Nat) (m : List Nat), f.any needB = false → l.drop i = f ++ t → f.length < fuel → bareE l fuel i m = (m ++ f, i + f.length, 0)
  | [], i, fuel, m, hf, hd, hu => by
    obtain ⟨fuel, rfl⟩ : ∃ g, fuel = g + 1 := ⟨fuel - 1, by simp at hu; omega⟩
    rw [bareE_over (ht.over hd)]
    simp
  | c :: f, i, fuel, m, hf, hd, hu => by
    obtain ⟨fuel, rfl⟩ : ∃ g, fuel = g + 1 := ⟨fuel - 1, by simp at hu; omega⟩
    rw [List.any_cons, Bool.or_eq_false_iff] at hf
    have hc : l.getD i 0 = c := by rw [← Nat.add_zero i, getD_drop0, hd]; rfl
    have hn := hf.1
    simp [needB] at hn
    have hlen := len_drop hd (by simp)
    have hno : ¬ overA l i := by
      rintro (h | h | h)
      · simp at hlen; omega
      · omega
      · unfold endA at h
        rw [if_neg (by omega), if_neg (by omega)] at h
        omega
    rw [bareE_more hno (by omega), hc]
    have hd2 : l.drop (i + 1) = f ++ t := drop_more (a := [c]) hd
    rw [bare_back ht f (i + 1) fuel (m ++ [c]) hf.2 hd2 (by simp at hu; omega)]
    simp
    omega
theorem quo_back {l t : List Nat} (ht : Stop t) : ∀ (f : List Nat) (i fuel : Nat) (m : List Nat), l.drop i = dblE f ++ 34 :: t → f.length < fuel → quoE l fuel i m = (m ++ f, i + (dblE f).length + 1, 0)
  | [], i, fuel, m, hd, hu => by
    obtain ⟨fuel, rfl⟩ : ∃ g, fuel = g + 1 := ⟨fuel - 1, by simp at hu; omega⟩
    have hd : l.drop i = 34 :: t := hd
    have hlen := len_drop hd (by simp)
    have h1 : l.drop (i + 1) = t := drop_more (a := [34]) hd
    have hc : l.getD i 0 = 34 := by rw [← Nat.add_zero i, getD_drop0, hd]; rfl
    have hc1 : l.getD (i + 1) 0 ≠ 34 := by rw [← Nat.add_zero (i + 1), getD_drop0, h1]; exact ht.ne.1
    rw [quoE_over (by simp at hlen; omega) hc hc1 (ht.over h1)]
    simp [dblE]
  | c :: f, i, fuel, m, hd, hu => by
    obtain ⟨fuel, rfl⟩ : ∃ g, fuel = g + 1 := ⟨fuel - 1, by simp at hu; omega⟩
    by_cases h34 : c = 34
    · subst h34
      have hd : l.drop i = [34, 34] ++ (dblE f ++ 34 :: t) := by rw [hd]; simp [dblE]
      have hlen := len_drop hd (by simp)
      have hc : l.getD i 0 = 34 := by rw [← Nat.add_zero i, getD_drop0, hd]; rfl
      have hc1 : l.getD (i + 1) 0 = 34 := by rw [getD_drop0, hd]; rfl
      rw [quoE_two (by simp at hlen; omega) hc hc1, quo_back ht f (i + 2) fuel (m ++ [34]) (drop_more (a := [34, 34]) hd) (by simp at hu; omega)]
      simp [dblE]
      omega
    · have hd : l.drop i = [c] ++ (dblE f ++ 34 :: t) := by rw [hd]; simp [dblE, h34]
      have hlen := len_drop hd (by simp)
      have hc : l.getD i 0 = c := by rw [← Nat.add_zero i, getD_drop0, hd]; rfl
      rw [quoE_more (by simp at hlen; omega) (by omega), hc, quo_back ht f (i + 1) fuel (m ++ [c]) (drop_more (a := [c]) hd) (by simp at hu; omega)]
      simp [dblE, h34]
      omega
theorem dbl_len (f : List Nat) : f.length ≤ (dblE f).length := by
  induction f with
  | nil => exact Nat.le_refl _
  | cons c f ih =>
    by_cases h : c = 34 <;> simp [dblE, h] at ih ⊢ <;> omega
theorem fld_back {l t : List Nat} (ht : Stop t) (f : List Nat) (i : Nat) (hd : l.drop i = fldE f ++ t) : fieldE l i = (f, i + (fldE f).length, 0) := by
  by_cases hn : f.any needB = true
  · have hf : fldE f = [34] ++ dblE f ++ [34] := if_pos hn
    rw [hf] at hd ⊢
    unfold fieldE
    have hd : l.drop i = [34] ++ (dblE f ++ 34 :: t) := by rw [hd]; simp
    have hlen := len_drop hd (by simp)
    have hc : l.getD i 0 = 34 := by rw [← Nat.add_zero i, getD_drop0, hd]; rfl
    have h2 := dbl_len f
    rw [if_pos hc, quo_back ht f (i + 1) (l.length + 1) [] (drop_more (a := [34]) hd) (by simp at hlen; omega)]
    simp
    omega
  · have hn : f.any needB = false := by simpa using hn
    have hf : fldE f = f := if_neg (by rw [hn]; decide)
    rw [hf] at hd ⊢
    unfold fieldE
    have hne : l.getD i 0 ≠ 34 := by
      rw [← Nat.add_zero i, getD_drop0, hd]
      cases f with
      | nil => exact ht.ne.1
      | cons c f =>
        rw [List.any_cons, Bool.or_eq_false_iff] at hn
        have := hn.1
        simp [needB] at this
        simp
        omega
    have hlen := len_drop hd (by have := ht.ne.2; simp; omega)
    rw [if_neg hne, bare_back ht f i (l.length + 1) [] hn hd (by simp at hlen; omega)]
    simp
theorem moreE_stop (r : List ByteArray) (t : List Nat) : Stop (moreE r ++ t) := by
  cases r with
  | nil => exact .inr ⟨t, rfl⟩
  | cons s r => exact .inl ⟨fldE (bs s) ++ moreE r ++ t, rfl⟩
theorem rowT_len (r : List ByteArray) : r.length + 1 ≤ (rowT r).length := by
  have key : ∀ r : List ByteArray, r.length + 2 ≤ (moreE r).length := by
    intro r
    induction r with
    | nil => exact Nat.le_refl _
    | cons s r ih => simp [moreE]; omega
  cases r with
  | nil => decide
  | cons s r => have := key r; simp [rowT]; omega
theorem row_back {l t : List Nat} : ∀ (r : List ByteArray) (s : ByteArray) (i fuel : Nat) (m : List ByteArray), l.drop i = fldE (bs s) ++ moreE r ++ t → r.length < fuel → rowE l fuel i m = (m ++ s :: r, i + (fldE (bs s) ++ moreE r).length, 0)
  | [], s, i, fuel, m, hd, hu => by
    obtain ⟨fuel, rfl⟩ : ∃ g, fuel = g + 1 := ⟨fuel - 1, by simp at hu; omega⟩
    have hd : l.drop i = fldE (bs s) ++ (13 :: 10 :: t) := by rw [hd]; simp [moreE]
    have h2 := drop_more hd
    have h13 : l.getD (i + (fldE (bs s)).length) 0 = 13 := by rw [← Nat.add_zero (i + _), getD_drop0, h2]; rfl
    have h10 : l.getD (i + (fldE (bs s)).length + 1) 0 = 10 := by rw [getD_drop0, h2]; rfl
    rw [rowE_end (fld_back (.inr ⟨t, rfl⟩) (bs s) i hd) (by omega), strOf_bs]
    unfold endA
    rw [if_neg (by omega), if_pos ⟨h13, h10⟩]
    simp [moreE]
    omega
  | s2 :: r, s, i, fuel, m, hd, hu => by
    obtain ⟨fuel, rfl⟩ : ∃ g, fuel = g + 1 := ⟨fuel - 1, by simp at hu; omega⟩
    have hd : l.drop i = fldE (bs s) ++ (44 :: (fldE (bs s2) ++ moreE r ++ t)) := by rw [hd]; simp [moreE]
    have h2 := drop_more hd
    have h44 : l.getD (i + (fldE (bs s)).length) 0 = 44 := by rw [← Nat.add_zero (i + _), getD_drop0, h2]; rfl
    have h3 : l.drop (i + (fldE (bs s)).length + 1) = fldE (bs s2) ++ moreE r ++ t := drop_more (a := [44]) h2
    rw [rowE_more (fld_back (.inl ⟨_, rfl⟩) (bs s) i hd) h44, strOf_bs, row_back r s2 _ fuel (m ++ [s]) h3 (by simp at hu; omega)]
    simp [moreE]
    omega
/-- Which tables may be. -/
def rightE (R : List (List ByteArray)) : Prop := R.length ≤ 65536 ∧ ∀ r ∈ R, r ≠ [] ∧ r.length = (R.getD 0 []).length ∧ r ≠ [ByteArray.empty]
theorem parse_back {l : List Nat} (n : Nat) : ∀ (R Q : List (List ByteArray)) (i fuel : Nat), l.drop i = textE R → i ≤ l.length → (∀ r ∈ Q ++ R, r ≠ [] ∧ r.length = n) → Q.length + R.length ≤ 65536 → R.length ≤ fuel → parseE l fuel i Q = (Q ++ R, l.length, 0)
  | [], Q, i, fuel, hd, hi, hr, hn, hu => by
    have : l.length ≤ i := List.drop_eq_nil_iff.1 hd
    rw [parseE_end (by omega), List.append_nil]
  | r :: R, Q, i, fuel, hd, hi, hr, hn, hu => by
    obtain ⟨fuel, rfl⟩ : ∃ g, fuel = g + 1 := ⟨fuel - 1, by simp at hu; omega⟩
    have hd : l.drop i = rowT r ++ textE R := hd
    have hl := rowT_len r
    have hlen := len_drop hd (by simp; omega)
    rw [List.length_append] at hlen
    obtain ⟨hr0, hrn⟩ := hr r (by simp)
    have hrow : rowE l (l.length + 1) i [] = (r, i + (rowT r).length, 0) := by
      cases r with
      | nil => exact absurd rfl hr0
      | cons s r' => exact row_back r' s i (l.length + 1) [] hd (by simp at hl; omega)
    rw [parseE_more (by omega) (by simp at hn; omega) hrow ?_, parse_back n R (Q ++ [r]) (i + (rowT r).length) fuel (drop_more hd) (by omega) (by simpa using hr) (by simp at hn ⊢; omega) (by simp at hu; omega)]
    · simp
    · rintro ⟨hq, hne⟩
      cases Q with
      | nil => simp at hq
      | cons q Q =>
        have := (hr q (by simp)).2
        simp at hne
        omega
theorem text_back {R : List (List ByteArray)} (h : rightE R) : parseE (textE R) ((textE R).length + 1) 0 [] = (R, (textE R).length, 0) := by
  have hlen : R.length ≤ (textE R).length := by
    clear h
    induction R with
    | nil => exact Nat.le_refl _
    | cons r R ih =>
      have := rowT_len r
      simp [textE] at ih ⊢
      omega
  have := parse_back (l := textE R) (R.getD 0 []).length R [] 0 ((textE R).length + 1) rfl (Nat.zero_le _) (fun r hr => ⟨(h.2 r hr).1, (h.2 r hr).2.1⟩) (by simpa using h.1) (by omega)
  simpa using this
end Go.Proofs.YtceegpkgifflcaaDoor
