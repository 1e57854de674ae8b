/- GzMath -/
import Derived.Test.YtngnhkghpnamoaaGz2
import Derived.Test.YtngnhkghpnamoaaBackAll
import Derived.Test.YtngnhkghpnamoaaCrcOf
namespace Go.Proofs.Ytngnhkghpnamoaa
open Bit
set_option linter.unusedVariables false

def headB : List Nat := [31, 139, 8, 0, 0, 0, 0, 0, 0, 255]
def tailB (l : List Nat) : List Nat := lowB (Crc.crcOf l) ++ lowB l.length
def gzB {l : List Nat} (hb : Bytes255 l) : List Nat := headB ++ (fixedB hb ++ tailB l)
theorem lowB_lt (n : Nat) : ∀ x ∈ lowB n, x < 256 := by
  intro x hx
  simp only [lowB, List.mem_cons, List.not_mem_nil, or_false] at hx
  rcases hx with rfl | rfl | rfl | rfl <;> exact Nat.mod_lt _ (by omega)
theorem tailB_length (l : List Nat) : (tailB l).length = 8 := rfl
theorem gzB_length {l : List Nat} (hb : Bytes255 l) : (gzB hb).length = 18 + (fixedB hb).length := by
  unfold gzB
  rw [List.length_append, List.length_append, tailB_length]
  show 10 + _ = _
  omega
theorem gzB_lt {l : List Nat} (hb : Bytes255 l) : ∀ x ∈ gzB hb, x < 256 := by
  intro x hx
  unfold gzB at hx
  rcases List.mem_append.1 hx with hx | hx
  · have : ∀ y ∈ headB, y < 256 := by decide
    exact this x hx
  · rcases List.mem_append.1 hx with hx | hx
    · exact bytesTo_lt _ _ x hx
    · rcases List.mem_append.1 hx with hx | hx
      · exact lowB_lt _ x hx
      · exact lowB_lt _ x hx
/-- The first member of bytes whose header has no flags. -/
def memM (bs : List Nat) (M : Nat) : List Nat × Nat × Nat :=
  if bs.length < 10 then ([], 0, 2) else
  if (inflM (bs.drop 10) M).2.2 ≠ 0 then ([], 0, (inflM (bs.drop 10) M).2.2) else
  if bs.length < 10 + (inflM (bs.drop 10) M).2.1 + 8 then ([], 0, 2) else
  if ((bs.drop (10 + (inflM (bs.drop 10) M).2.1)).take 8) = tailB (inflM (bs.drop 10) M).1 then ((inflM (bs.drop 10) M).1, 10 + (inflM (bs.drop 10) M).2.1 + 8, 0) else ([], 0, 4)
theorem mem_back {l : List Nat} (hb : Bytes255 l) (hl : l.length ≤ 3000) (r : List Nat) (M : Nat) (hM : l.length ≤ M) : memM (gzB hb ++ r) M = (l, (gzB hb).length, 0) := by
  have hd : (gzB hb ++ r).drop 10 = fixedB hb ++ (tailB l ++ r) := by
    unfold gzB
    rw [List.append_assoc, List.append_assoc]
    rfl
  have hi := fixed_backM hb hl (tailB l ++ r) M hM
  have hlen : (gzB hb ++ r).length = 18 + (fixedB hb).length + r.length := by rw [List.length_append, gzB_length]
  have h8 : ((gzB hb ++ r).drop (10 + (fixedB hb).length)).take 8 = tailB l := by
    rw [← List.drop_drop, hd, List.drop_append_of_le_length (Nat.le_refl _), List.drop_length, List.nil_append, List.take_append_of_le_length (by rw [tailB_length]; omega), List.take_of_length_le (by rw [tailB_length]; omega)]
  unfold memM
  rw [hd, hi, if_neg (by omega)]
  simp only [ne_eq, not_true_eq_false, if_false]
  rw [if_neg (by omega), if_pos h8, gzB_length]
  congr 2
  omega
/-- What is cut off is no member. -/
theorem mem_short {l : List Nat} (hb : Bytes255 l) (hl : l.length ≤ 3000) (M : Nat) (hM : l.length ≤ M) (k : Nat) (hk : k < (gzB hb).length) : memM ((gzB hb).take k) M = ([], 0, 2) := by
  have hlk : ((gzB hb).take k).length = k := by rw [List.length_take]; omega
  by_cases h10 : k < 10
  · unfold memM; rw [if_pos (by omega)]
  · have hi := fixed_backM hb hl [] M hM
    rw [List.append_nil] at hi
    have hd : ((gzB hb).take k).drop 10 = (fixedB hb ++ tailB l).take (k - 10) := by
      rw [List.drop_take]
      rfl
    have hln : ((fixedB hb ++ tailB l).take (k - 10)).length = k - 10 := by rw [List.length_take, List.length_append, tailB_length]; rw [gzB_length] at hk; omega
    have hc := infl_cases (fixedB hb) M
    rw [hi] at hc
    rcases hc with ⟨E, hE, he⟩ | ⟨o, u, he, h1, h2, h3⟩
    · injection he with _ he; injection he with _ he; omega
    · injection he with e1 he
      injection he with e2 _
      subst e1; subst e2
      have h4 := h3 ((fixedB hb ++ tailB l).take (k - 10)) (fun i hi1 hi2 => by
        rw [hln] at hi2
        rw [List.getD_eq_getElem?_getD, List.getElem?_take, if_pos hi2, List.getElem?_append_left hi1, List.getD_eq_getElem?_getD])
      rw [hln] at h4
      unfold memM
      rw [hd, if_neg (by omega)]
      by_cases hs : k - 10 < (fixedB hb).length
      · rw [h4.2 hs, if_pos (by show (2 : Nat) ≠ 0; omega)]
      · rw [h4.1 (by omega)]
        rw [gzB_length] at hk
        simp only [ne_eq, not_true_eq_false, if_false]
        rw [if_pos (by omega)]
theorem mem_good {l : List Nat} {M : Nat} (h : memM l M ≠ ([], 0, 4)) (o : List Nat) (u : Nat) (hR : inflM (l.drop 10) M = (o, u, 0)) (hu : 10 + u + 8 ≤ l.length) : (l.drop (10 + u)).take 8 = tailB o := by
  by_cases ht : (l.drop (10 + u)).take 8 = tailB o
  · exact ht
  · refine absurd ?_ h
    unfold memM
    rw [if_neg (by omega), hR, if_neg (by simp), if_neg (by show ¬ l.length < 10 + u + 8; omega), if_neg ht]
theorem gz_plain {l : List Nat} (hb : Bytes255 l) (r : List Nat) : (gzB hb ++ r).getD 0 0 = 31 ∧ (gzB hb ++ r).getD 1 0 = 139 ∧ (gzB hb ++ r).getD 2 0 = 8 ∧ (gzB hb ++ r).getD 3 0 = 0 := ⟨rfl, rfl, rfl, rfl⟩
theorem take_plain {l : List Nat} (hb : Bytes255 l) {k : Nat} (hk : 10 ≤ k) : ((gzB hb).take k).getD 0 0 = 31 ∧ ((gzB hb).take k).getD 1 0 = 139 ∧ ((gzB hb).take k).getD 2 0 = 8 ∧ ((gzB hb).take k).getD 3 0 = 0 := by
  obtain ⟨j, rfl⟩ : ∃ j, k = j + 4 := ⟨k - 4, by omega⟩
  exact ⟨rfl, rfl, rfl, rfl⟩
/-- What a member holds. -/
abbrev Cont := {l : List Nat // Bytes255 l ∧ l.length ≤ 3000}
def gzs (ls : List Cont) : List Nat := ls.flatMap fun x => gzB x.2.1
def conts (ls : List Cont) : List Nat := ls.flatMap fun x => x.1
theorem gzs_cons (x : Cont) (ls : List Cont) : gzs (x :: ls) = gzB x.2.1 ++ gzs ls := rfl
theorem conts_app (a b : List Cont) : conts (a ++ b) = conts a ++ conts b := List.flatMap_append
theorem gzs_lt : ∀ (ls : List Cont), ∀ x ∈ gzs ls, x < 256
  | [], x, h => by cases h
  | y :: ls, x, h => by
    rw [gzs_cons] at h
    rcases List.mem_append.1 h with h | h
    · exact gzB_lt _ x h
    · exact gzs_lt ls x h
end Go.Proofs.Ytngnhkghpnamoaa
