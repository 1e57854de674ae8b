/- Layer 27: areas, plainly. -/
import Derived.Test.YtlmnmilefggmpaaWind1
namespace Go.Proofs.Ytlmnmilefggmpaa
open Go.RowKit
set_option linter.unusedVariables false

theorem okP_of {p : P2} (h : okP p = true) : -2097152 ≤ p.1 ∧ p.1 ≤ 2097152 ∧ -2097152 ≤ p.2 ∧ p.2 ≤ 2097152 := of_decide_eq_true h
theorem mul_in {x y : Int} {A B : Nat} (hx : -(A : Int) ≤ x ∧ x ≤ A) (hy : -(B : Int) ≤ y ∧ y ≤ B) : -((A * B : Nat) : Int) ≤ x * y ∧ x * y ≤ ((A * B : Nat) : Int) := by
  have h1 : x.natAbs ≤ A := by omega
  have h2 : y.natAbs ≤ B := by omega
  have h3 : (x * y).natAbs ≤ A * B := by rw [Int.natAbs_mul]; exact Nat.mul_le_mul h1 h2
  omega
theorem mul_in21 {x y : Int} (hx : -2097152 ≤ x ∧ x ≤ 2097152) (hy : -2097152 ≤ y ∧ y ≤ 2097152) : -4398046511104 ≤ x * y ∧ x * y ≤ 4398046511104 := by
  have := mul_in (A := 2097152) (B := 2097152) (x := x) (y := y) hx hy
  exact this
def cr (p q : P2) : Int := p.1 * q.2 - q.1 * p.2
abbrev Ed := { e : P2 × P2 // okP e.1 = true ∧ okP e.2 = true }
def Ed.cr (e : Ed) : Int := e.1.1.1 * e.1.2.2 - e.1.2.1 * e.1.1.2
theorem Ed.mul1 (e : Ed) : -4398046511104 ≤ e.1.1.1 * e.1.2.2 ∧ e.1.1.1 * e.1.2.2 ≤ 4398046511104 := by
  have h1 := okP_of e.2.1
  have h2 := okP_of e.2.2
  exact mul_in21 ⟨h1.1, h1.2.1⟩ ⟨h2.2.2.1, h2.2.2.2⟩
theorem Ed.mul2 (e : Ed) : -4398046511104 ≤ e.1.2.1 * e.1.1.2 ∧ e.1.2.1 * e.1.1.2 ≤ 4398046511104 := by
  have h1 := okP_of e.2.1
  have h2 := okP_of e.2.2
  exact mul_in21 ⟨h2.1, h2.2.1⟩ ⟨h1.2.2.1, h1.2.2.2⟩
theorem Ed.cr_in (e : Ed) : -8796093022208 ≤ e.cr ∧ e.cr ≤ 8796093022208 := by
  have h1 := e.mul1
  have h2 := e.mul2
  unfold Ed.cr
  omega
def pt (l : List P2) (j : Nat) : P2 := l[j]?.getD (0, 0)
theorem okP_pt {l : List P2} (h : okR l = true) (j : Nat) : okP (pt l j) = true := by
  unfold pt
  by_cases hj : j < l.length
  · rw [List.getElem?_eq_getElem hj]; exact (okR_all h).1 j hj
  · rw [List.getElem?_eq_none (by omega)]; decide
def ed {l : List P2} (h : okR l = true) (j : Nat) : Ed := ⟨(pt l j, pt l ((j + 1) % l.length)), okP_pt h _, okP_pt h _⟩
def upto {α : Type} (f : Nat → α) (k : Nat) : List α := (List.range k).map f
theorem upto_succ {α : Type} (f : Nat → α) (k : Nat) : upto f (k + 1) = upto f k ++ [f k] := by simp [upto, List.range_succ]
theorem upto_length {α : Type} (f : Nat → α) (k : Nat) : (upto f k).length = k := by simp [upto]
def sumC : List Ed → Int
  | [] => 0
  | e :: l => e.cr + sumC l
theorem sumC_snoc : ∀ (l : List Ed) (e : Ed), sumC (l ++ [e]) = sumC l + e.cr
  | [], e => by simp [sumC]
  | a :: l, e => by
    have := sumC_snoc l e
    simp only [List.cons_append, sumC, this]
    omega
theorem sumC_in : ∀ (l : List Ed), -(8796093022208 * (l.length : Int)) ≤ sumC l ∧ sumC l ≤ 8796093022208 * (l.length : Int)
  | [] => by simp [sumC]
  | e :: l => by
    have := sumC_in l
    have := e.cr_in
    simp only [sumC, List.length_cons]
    omega
/-- f 0 + .. + f (k - 1). -/
def sg (f : Nat → Int) : Nat → Int
  | 0 => 0
  | k + 1 => sg f k + f k
theorem sg_congr {f g : Nat → Int} : ∀ k, (∀ j, j < k → f j = g j) → sg f k = sg g k
  | 0, _ => rfl
  | k + 1, h => by
    show sg f k + f k = sg g k + g k
    rw [sg_congr k (fun j hj => h j (by omega)), h k (by omega)]
theorem sg_first (f : Nat → Int) : ∀ k, sg f (k + 1) = f 0 + sg (fun j => f (j + 1)) k
  | 0 => by simp [sg]
  | k + 1 => by
    show sg f (k + 1) + f (k + 1) = f 0 + (sg (fun j => f (j + 1)) k + f (k + 1))
    rw [sg_first f k]; omega
theorem sg_turn (f : Nat → Int) : ∀ k, sg (fun j => f (k - 1 - j)) k = sg f k
  | 0 => rfl
  | k + 1 => by
    rw [sg_first]
    have h : sg (fun j => f (k + 1 - 1 - (j + 1))) k = sg (fun j => f (k - 1 - j)) k := sg_congr k (fun j _ => by congr 1; omega)
    rw [h, sg_turn f k]
    show f (k + 1 - 1 - 0) + sg f k = sg f k + f k
    rw [show k + 1 - 1 - 0 = k by omega]; omega
theorem sg_neg (f : Nat → Int) : ∀ k, sg (fun j => -f j) k = -sg f k
  | 0 => rfl
  | k + 1 => by
    show sg (fun j => -f j) k + -f k = -(sg f k + f k)
    rw [sg_neg f k]; omega
def area (l : List P2) : Int := sg (fun j => cr (pt l j) (pt l ((j + 1) % l.length))) l.length
theorem sumC_upto {l : List P2} (h : okR l = true) : ∀ k, sumC (upto (ed h) k) = sg (fun j => cr (pt l j) (pt l ((j + 1) % l.length))) k
  | 0 => rfl
  | k + 1 => by rw [upto_succ, sumC_snoc, sumC_upto h k]; rfl
theorem area_sum {l : List P2} (h : okR l = true) : sumC (upto (ed h) l.length) = area l := sumC_upto h _
theorem cr_swap (p q : P2) : cr p q = -cr q p := by unfold cr; omega
theorem pt_rev (l : List P2) (j : Nat) (h : j < l.length) : pt l.reverse j = pt l (l.length - 1 - j) := by
  unfold pt
  rw [List.getElem?_reverse h]
theorem area_rev (l : List P2) : area l.reverse = -area l := by
  unfold area
  rw [List.length_reverse]
  rcases hn : l.length with _ | m
  · rfl
  · show sg _ m + _ = -(sg _ m + _)
    have e1 : sg (fun j => cr (pt l.reverse j) (pt l.reverse ((j + 1) % (m + 1)))) m = sg (fun j => -cr (pt l (m - 1 - j)) (pt l ((m - 1 - j + 1) % (m + 1)))) m := by
      apply sg_congr
      intro j hj
      have h1 : (j + 1) % (m + 1) = j + 1 := Nat.mod_eq_of_lt (by omega)
      have h2 : (m - 1 - j + 1) % (m + 1) = m - 1 - j + 1 := Nat.mod_eq_of_lt (by omega)
      show cr _ _ = -cr _ _
      rw [h1, h2, pt_rev l j (by omega), pt_rev l (j + 1) (by omega), hn, cr_swap]
      rw [show m + 1 - 1 - (j + 1) = m - 1 - j by omega, show m + 1 - 1 - j = m - 1 - j + 1 by omega]
    rw [e1, sg_neg, sg_turn (fun j => cr (pt l j) (pt l ((j + 1) % (m + 1)))) m]
    show -sg _ m + cr (pt l.reverse m) (pt l.reverse ((m + 1) % (m + 1))) = -(sg _ m + cr (pt l m) (pt l ((m + 1) % (m + 1))))
    have h1 : (m + 1) % (m + 1) = 0 := Nat.mod_self _
    rw [h1, pt_rev l m (by omega), pt_rev l 0 (by omega), hn, cr_swap]
    rw [show m + 1 - 1 - m = 0 by omega, show m + 1 - 1 - 0 = m by omega]
    omega
theorem okR_rev (l : List P2) : okR l.reverse = okR l := by unfold okR; rw [List.all_reverse, List.length_reverse]
theorem area_in {l : List P2} (h : okR l = true) : -2305843009213693952 ≤ area l ∧ area l ≤ 2305843009213693952 := by
  have h1 := sumC_in (upto (ed h) l.length)
  rw [area_sum, upto_length] at h1
  have h2 := (okR_all h).2
  omega
end Go.Proofs.Ytlmnmilefggmpaa
