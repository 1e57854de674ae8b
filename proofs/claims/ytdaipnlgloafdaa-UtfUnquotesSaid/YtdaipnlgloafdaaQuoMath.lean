/- Quoted text: lists of bytes alone. -/
import Derived.Test.YtdaipnlgloafdaaUtfMath
import Derived.Test.YtdaipnlgloafdaaStr
import Derived.Test.YtdaipnlgloafdaaUtf
namespace Go.Proofs.Ytdaipnlgloafdaa
open Utf
set_option linter.unusedVariables false

/-- The digit's byte. -/
def dg (n : Nat) : Nat := if n < 10 then 48 + n else 87 + n
/-- How a byte is written in a quoted text. -/
def esc (c : Nat) : List Nat := if c = 34 ∨ c = 92 then [92, c] else if c = 8 then [92, 98] else if c = 9 then [92, 116] else if c = 10 then [92, 110] else if c = 12 then [92, 102] else if c = 13 then [92, 114]
  else if c < 32 then [92, 117, 48, 48, dg (c / 16), dg (c % 16)] else [c]
def qt (l : List Nat) : List Nat := l.flatMap esc
theorem qt_app (l m : List Nat) : qt (l ++ m) = qt l ++ qt m := by simp [qt]
theorem qt_one (c : Nat) : qt [c] = esc c := by simp [qt]
theorem qt_cons (c : Nat) (l : List Nat) : qt (c :: l) = esc c ++ qt l := by simp [qt]
theorem esc_len (c : Nat) : (esc c).length ≤ 6 := by
  unfold esc
  repeat' split
  all_goals simp
theorem qt_len (l : List Nat) : (qt l).length ≤ 6 * l.length := by
  induction l with
  | nil => simp [qt]
  | cons c l ih => rw [qt_cons, List.length_append, List.length_cons]; have := esc_len c; omega
theorem dg_lt (n : Nat) (h : n < 16) : dg n < 256 := by unfold dg; split <;> omega
theorem esc_lt (c : Nat) (h : c < 256) : ∀ x ∈ esc c, x < 256 := by
  have h1 := dg_lt (c % 16) (by omega)
  unfold esc
  repeat' split
  all_goals intro x hx; simp at hx
  all_goals try (rcases hx with rfl | rfl <;> omega)
  · have h2 := dg_lt (c / 16) (by omega)
    rcases hx with rfl | rfl | rfl | rfl | rfl <;> omega
theorem qt_lt (l : List Nat) (h : ∀ x ∈ l, x < 256) : ∀ x ∈ qt l, x < 256 := by
  intro x hx
  simp only [qt, List.mem_flatMap] at hx
  obtain ⟨c, hc, hx⟩ := hx
  exact esc_lt c (h c hc) x hx

theorem bs_strOf (l : List Nat) (h : ∀ x ∈ l, x < 256) : bs (strOf l) = l := by
  unfold bs strOf
  simp only [List.map_map]
  conv => rhs; rw [← List.map_id l]
  refine List.map_congr_left fun x hx => ?_
  simp [Nat.mod_eq_of_lt (h x hx)]
theorem strOf_bs (s : ByteArray) : strOf (bs s) = s := by
  unfold bs strOf
  simp only [List.map_map]
  have : s.data.toList.map (UInt8.ofNat ∘ UInt8.toNat) = s.data.toList := by
    conv => rhs; rw [← List.map_id s.data.toList]
    refine List.map_congr_left fun x hx => ?_
    simp
  rw [this]
theorem strOf_app (l m : List Nat) : strOf l ++ strOf m = strOf (l ++ m) := by
  apply ByteArray.ext
  rw [ByteArray.data_append]
  simp [strOf]
theorem strOf_size (l : List Nat) : (strOf l).size = l.length := by show (strOf l).data.size = _; simp [strOf]
theorem bs_app (s t : ByteArray) : bs (s ++ t) = bs s ++ bs t := by
  unfold bs
  rw [ByteArray.data_append]
  simp
theorem ext_one (s : ByteArray) (i : Nat) (h : i < s.size) : s.extract i (i + 1) = strOf [(bs s).getD i 0] := by
  rw [← bs_get s i h]
  apply ByteArray.ext
  rw [ByteArray.data_extract]
  have hh : i < s.data.toList.length := h
  apply Array.ext'
  rw [Array.toList_extract]
  show (s.data.toList.drop i).take (i + 1 - i) = _
  rw [show i + 1 - i = 1 by omega, List.drop_eq_getElem_cons hh]
  simp [strOf]
  rfl
end Go.Proofs.Ytdaipnlgloafdaa
