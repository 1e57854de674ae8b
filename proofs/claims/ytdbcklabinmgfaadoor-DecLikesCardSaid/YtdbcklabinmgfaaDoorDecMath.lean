/- Layer 16: decimals: plain mathematics. -/
import Derived.Test.YtdbcklabinmgfaaDoorBs
namespace Go.Proofs.YtdbcklabinmgfaaDoor
open Go.RowKit
set_option linter.unusedVariables false
def isD (c : Nat) : Bool := decide (48 ≤ c ∧ c ≤ 57)
def dEnd (l : List Nat) (i : Nat) : Nat := i + ((l.drop i).takeWhile isD).length
def seg (l : List Nat) (i j : Nat) : List Nat := (l.drop i).take (j - i)
theorem dEnd_step {l : List Nat} {i : Nat} (h : i < l.length) (hd : isD (l.getD i 0) = true) : dEnd l i = dEnd l (i + 1) := by
  unfold dEnd
  rw [drop_head h, List.takeWhile_cons, if_pos hd, List.length_cons]
  omega
theorem dEnd_stop {l : List Nat} {i : Nat} (h : i < l.length → isD (l.getD i 0) = false) : dEnd l i = i := by
  unfold dEnd
  by_cases hi : i < l.length
  · rw [drop_head hi, List.takeWhile_cons, if_neg (by rw [h hi]; decide)]; rfl
  · rw [List.drop_eq_nil_of_le (by omega)]; rfl
theorem dEnd_ge (l : List Nat) (i : Nat) : i ≤ dEnd l i := Nat.le_add_right _ _
theorem dEnd_le {l : List Nat} {i : Nat} (h : i ≤ l.length) : dEnd l i ≤ l.length := by
  unfold dEnd
  have h1 : ((l.drop i).takeWhile isD).length ≤ (l.drop i).length := (List.takeWhile_prefix (l := l.drop i) isD).length_le
  rw [List.length_drop] at h1
  omega
theorem dEnd_pos {l : List Nat} {i : Nat} (h : isD (l.getD i 0) = true) (hi : i < l.length) : i < dEnd l i := by rw [dEnd_step hi h]; exact dEnd_ge _ _
theorem take_while (p : Nat → Bool) : ∀ l : List Nat, l.take (l.takeWhile p).length = l.takeWhile p
  | [] => rfl
  | x :: l => by
    rw [List.takeWhile_cons]
    by_cases h : p x = true
    · rw [if_pos h, List.length_cons, List.take_succ_cons, take_while p l]
    · rw [if_neg h]; rfl
theorem while_all {p : Nat → Bool} : ∀ (l : List Nat), ∀ x ∈ l.takeWhile p, p x = true
  | [], x, hx => by cases hx
  | y :: l, x, hx => by
    rw [List.takeWhile_cons] at hx
    by_cases h : p y = true
    · rw [if_pos h] at hx
      rcases List.mem_cons.1 hx with e | e
      · rw [e]; exact h
      · exact while_all l x e
    · rw [if_neg h] at hx; cases hx
theorem seg_digits (l : List Nat) (i : Nat) : ∀ x ∈ seg l i (dEnd l i), isD x = true := by
  intro x hx
  unfold seg dEnd at hx
  rw [show i + ((l.drop i).takeWhile isD).length - i = ((l.drop i).takeWhile isD).length by omega] at hx
  rw [take_while] at hx
  exact while_all _ x hx
def stripL (l : List Nat) : List Nat := l.dropWhile (· == 48)
def stripR (l : List Nat) : List Nat := (l.reverse.dropWhile (· == 48)).reverse
theorem stripL_cons (x : Nat) (l : List Nat) : stripL (x :: l) = if x = 48 then stripL l else x :: l := by
  unfold stripL
  rw [List.dropWhile_cons]
  by_cases h : x = 48 <;> simp [h]
theorem dropWhile_app (p : Nat → Bool) (l m : List Nat) : (l ++ m).dropWhile p = if l.dropWhile p = [] then m.dropWhile p else l.dropWhile p ++ m := by
  induction l with
  | nil => simp
  | cons x l ih =>
    rw [List.cons_append, List.dropWhile_cons, List.dropWhile_cons, ih]
    by_cases h : p x = true
    · simp [h]
    · simp [h]
theorem stripR_cons (x : Nat) (l : List Nat) : stripR (x :: l) = if stripR l = [] then (if x = 48 then [] else [x]) else x :: stripR l := by
  unfold stripR
  rw [List.reverse_cons, dropWhile_app]
  by_cases h : l.reverse.dropWhile (· == 48) = []
  · rw [if_pos h, h, List.dropWhile_cons]
    by_cases hx : x = 48 <;> simp [hx]
  · rw [if_neg h]
    simp [h]
theorem strip_both : ∀ l, stripR (stripL l) = stripL (stripR l)
  | [] => rfl
  | x :: l => by
    have ih := strip_both l
    rw [stripL_cons, stripR_cons]
    by_cases hx : x = 48
    · subst hx
      rw [if_pos rfl, ih]
      by_cases h : stripR l = []
      · rw [if_pos h, if_pos rfl, h]
      · rw [if_neg h, stripL_cons, if_pos rfl]
    · rw [if_neg hx, stripR_cons]
      by_cases h : stripR l = []
      · rw [if_pos h, if_neg hx, stripL_cons, if_neg hx]
      · rw [if_neg h, stripL_cons, if_neg hx]
theorem stripR_le (l : List Nat) : (stripR l).length ≤ l.length := by
  unfold stripR
  rw [List.length_reverse]
  have := (List.dropWhile_suffix (l := l.reverse) (· == 48)).length_le
  rw [List.length_reverse] at this
  exact this
theorem stripL_le (l : List Nat) : (stripL l).length ≤ l.length := (List.dropWhile_suffix (l := l) (· == 48)).length_le
theorem strip_count : ∀ l, stripR (stripL l) ≠ [] → (stripL l).length - (stripR (stripL l)).length = l.length - (stripR l).length
  | [], h => absurd rfl h
  | x :: l, h => by
    rw [stripL_cons] at h ⊢
    by_cases hx : x = 48
    · subst hx
      rw [if_pos rfl] at h ⊢
      rw [strip_count l h, stripR_cons, if_neg]
      · simp only [List.length_cons]; omega
      · intro e
        rw [strip_both, e] at h
        exact h rfl
    · rw [if_neg hx]
def inR (e : Int) : Bool := decide (-1000 ≤ e ∧ e ≤ 1000)
abbrev DV := Bool × List Nat × Int
def zeroD : DV := (false, [], 0)
def finD (neg : Bool) (D : List Nat) (e : Int) (n : Nat) : DV × Nat × Nat :=
  if D = [] then (zeroD, n, 0) else if 100 < D.length then (zeroD, 0, 5) else if inR e = true then ((neg, D, e), n, 0) else (zeroD, 0, 8)
def stepM (M a d : Nat) : Nat := min M (10 * a + (d - 48))
def capM (M a : Nat) : List Nat → Nat
  | [] => a
  | d :: l => capM M (stepM M a d) l
def capR (b : Nat) : List Nat → Nat
  | [] => b
  | d :: l => if b < 1000000000 then capR (10 * b + (d - 48)) l else b
theorem capM_nil (M a : Nat) : capM M a [] = a := rfl
theorem capM_cons (M a d : Nat) (l : List Nat) : capM M a (d :: l) = capM M (stepM M a d) l := rfl
theorem stepM_le (M a d : Nat) : stepM M a d ≤ M := Nat.min_le_left _ _
theorem stepM_cases (M a d : Nat) : (stepM M a d = M ∧ M ≤ 10 * a + (d - 48)) ∨ (stepM M a d = 10 * a + (d - 48) ∧ 10 * a + (d - 48) ≤ M) := by
  unfold stepM
  omega
theorem capM_le (M : Nat) (l : List Nat) : ∀ a : Nat, a ≤ M → capM M a l ≤ M := by
  induction l with
  | nil => intro a h; rw [capM_nil]; exact h
  | cons d l ih => intro a h; rw [capM_cons]; exact ih _ (stepM_le _ _ _)
/-- The greatest exponent that is told. -/
def farE : Nat := 1099511627776
def capC (a : Nat) (l : List Nat) : Nat := capM farE a l
theorem capR_cons (b d : Nat) (l : List Nat) : capR b (d :: l) = if b < 1000000000 then capR (10 * b + (d - 48)) l else b := rfl
theorem capR_stop {b : Nat} (h : ¬ b < 1000000000) : ∀ l, capR b l = b
  | [] => rfl
  | d :: l => by rw [capR_cons, if_neg h]
theorem capsM {M : Nat} (hM : M = 1099511627776) : ∀ (l : List Nat) (a b : Nat), (∀ x ∈ l, isD x = true) → (a = b ∧ a < 10000000000 ∨ 1000000000 ≤ a ∧ a ≤ M ∧ 1000000000 ≤ b ∧ b < 10000000000) →
    (capM M a l = capR b l ∧ capM M a l < 10000000000 ∨ 1000000000 ≤ capM M a l ∧ capM M a l ≤ M ∧ 1000000000 ≤ capR b l ∧ capR b l < 10000000000)
  | [], a, b, _, h => h
  | d :: l, a, b, hd, h => by
    have h1 := hd d (List.mem_cons_self ..)
    have hl : ∀ x ∈ l, isD x = true := fun x hx => hd x (List.mem_cons_of_mem _ hx)
    have h2 : 48 ≤ d ∧ d ≤ 57 := by unfold isD at h1; exact of_decide_eq_true h1
    have hs := stepM_cases M a d
    rw [capM_cons, capR_cons]
    obtain ⟨S, hS⟩ : ∃ S, stepM M a d = S := ⟨_, rfl⟩
    rw [hS] at hs ⊢
    rcases h with ⟨rfl, h⟩ | ⟨h3, h4, h5, h6⟩
    · by_cases ha : a < 1000000000
      · rw [if_pos ha]
        exact capsM hM l _ _ hl (.inl ⟨by omega, by omega⟩)
      · rw [if_neg ha]
        have := capsM hM l S a hl (.inr ⟨by omega, by omega, by omega, h⟩)
        rw [capR_stop ha] at this
        exact this
    · rw [if_neg (by omega)]
      have := capsM hM l S b hl (.inr ⟨by omega, by omega, by omega, h6⟩)
      rw [capR_stop (by omega)] at this
      exact this
theorem caps (l : List Nat) (hd : ∀ x ∈ l, isD x = true) : (capC 0 l = capR 0 l ∨ 1000000000 ≤ capC 0 l ∧ 1000000000 ≤ capR 0 l) ∧ capR 0 l < 10000000000 := by
  rcases capsM (M := farE) (by unfold farE; rfl) l 0 0 hd (.inl ⟨rfl, by omega⟩) with ⟨h1, h2⟩ | ⟨h1, _, h2, h3⟩
  · exact ⟨.inl h1, by rw [← h1]; exact h2⟩
  · exact ⟨.inr ⟨h1, h2⟩, h3⟩
theorem finD_same (neg : Bool) (D : List Nat) (n : Nat) (a b k : Int) (hk : -1000000 ≤ k ∧ k ≤ 1000000) (h : a = b ∨ (1000000000 ≤ a ∧ 1000000000 ≤ b) ∨ (a ≤ -1000000000 ∧ b ≤ -1000000000)) : finD neg D (a + k) n = finD neg D (b + k) n := by
  rcases h with rfl | ⟨h1, h2⟩ | ⟨h1, h2⟩
  · rfl
  · have e1 : inR (a + k) = false := decide_eq_false (by omega)
    have e2 : inR (b + k) = false := decide_eq_false (by omega)
    unfold finD; rw [e1, e2]; simp
  · have e1 : inR (a + k) = false := decide_eq_false (by omega)
    have e2 : inR (b + k) = false := decide_eq_false (by omega)
    unfold finD; rw [e1, e2]; simp
/-- The places of the parts of the number with which a text begins. -/
structure Pl where
  p0 : Nat
  p1 : Nat
  p2 : Nat
  en : Bool
  k : Nat
  p3 : Nat
def place0 (l : List Nat) : Nat := if l.getD 0 0 = 45 then 1 else 0
def place1 (l : List Nat) : Nat := if l.getD (place0 l) 0 = 48 then place0 l + 1 else dEnd l (place0 l)
def place2 (l : List Nat) : Nat := if l.getD (place1 l) 0 = 46 ∧ place1 l + 1 < dEnd l (place1 l + 1) then dEnd l (place1 l + 1) else place1 l
def isE (c : Nat) : Bool := decide (c = 101) || decide (c = 69)
def placeK (l : List Nat) : Nat := if l.getD (place2 l + 1) 0 = 43 ∨ l.getD (place2 l + 1) 0 = 45 then place2 l + 2 else place2 l + 1
/-- Has it an exponent? -/
def hasE (l : List Nat) : Bool := isE (l.getD (place2 l) 0) && decide (placeK l < dEnd l (placeK l))
def placeN (l : List Nat) : Nat := if hasE l = true then dEnd l (placeK l) else place2 l
def negE (l : List Nat) : Bool := decide (l.getD (place2 l + 1) 0 = 45)
def wholeD (l : List Nat) : List Nat := seg l (place0 l) (place1 l)
def partD (l : List Nat) : List Nat := seg l (place1 l + 1) (place2 l)
def powD (l : List Nat) : List Nat := if hasE l = true then seg l (placeK l) (dEnd l (placeK l)) else []
def sgn (neg : Bool) (n : Nat) : Int := if neg then -(n : Int) else (n : Int)
def allD (l : List Nat) : List Nat := wholeD l ++ partD l
def tzs (l : List Nat) : Nat := l.length - (stripR l).length
def parseC (l : List Nat) : DV × Nat × Nat :=
  if dEnd l (place0 l) = place0 l then (zeroD, 0, 3) else
  finD (decide (l.getD 0 0 = 45)) (stripR (stripL (allD l))) (sgn (negE l) (capC 0 (powD l)) - (partD l).length + ((stripL (allD l)).length - (stripR (stripL (allD l))).length : Nat)) (placeN l)
def parseR (l : List Nat) : DV × Nat × Nat :=
  if dEnd l (place0 l) = place0 l then (zeroD, 0, 3) else
  finD (decide (l.getD 0 0 = 45)) (stripL (stripR (allD l))) (sgn (negE l) (capR 0 (powD l)) - (partD l).length + (tzs (allD l) : Nat)) (placeN l)
theorem seg_length_le (l : List Nat) (i j : Nat) : (seg l i j).length ≤ l.length := by
  unfold seg; rw [List.length_take, List.length_drop]; omega
theorem parse_same (l : List Nat) (hl : l.length ≤ 100000) : parseC l = parseR l := by
  unfold parseC parseR
  by_cases h0 : dEnd l (place0 l) = place0 l
  · rw [if_pos h0, if_pos h0]
  · rw [if_neg h0, if_neg h0, ← strip_both]
    obtain ⟨D, hD⟩ : ∃ D, D = stripR (stripL (allD l)) := ⟨_, rfl⟩
    rw [← hD]
    by_cases hz : D = []
    · subst hz; rfl
    · have hc := strip_count (allD l) (by rw [← hD]; exact hz)
      rw [← hD] at hc
      have ht : tzs (allD l) = (stripL (allD l)).length - D.length := by unfold tzs; exact hc.symm
      rw [ht]
      have hp : ∀ x ∈ powD l, isD x = true := by
        unfold powD
        by_cases h : hasE l = true
        · rw [if_pos h]; exact seg_digits _ _
        · rw [if_neg h]; intro x hx; cases hx
      have hca := (caps (powD l) hp).1
      have b1 : (partD l).length ≤ l.length := seg_length_le _ _ _
      have b2 : (stripL (allD l)).length ≤ 2 * l.length := by
        refine Nat.le_trans (stripL_le _) ?_
        unfold allD
        rw [List.length_append]
        have := seg_length_le l (place0 l) (place1 l)
        have := seg_length_le l (place1 l + 1) (place2 l)
        unfold wholeD partD
        omega
      obtain ⟨k, hk⟩ : ∃ k : Int, k = -((partD l).length : Int) + (((stripL (allD l)).length - D.length : Nat) : Int) := ⟨_, rfl⟩
      have e1 : ∀ z : Int, z - ((partD l).length : Int) + (((stripL (allD l)).length - D.length : Nat) : Int) = z + k := fun z => by omega
      rw [e1, e1]
      refine finD_same _ _ _ _ _ _ (by omega) ?_
      unfold sgn
      rcases hca with h | ⟨h1, h2⟩
      · rw [h]; exact .inl rfl
      · cases negE l
        · exact .inr (.inl ⟨by simp; omega, by simp; omega⟩)
        · exact .inr (.inr ⟨by simp; omega, by simp; omega⟩)
end Go.Proofs.YtdbcklabinmgfaaDoor
