/- Plain mathematics of packed numbers. -/
import Derived.Test.YtdifojeghplpeaaDoorVarMath
namespace Go.Proofs.YtdifojeghplpeaaDoor.Var

/-- What stands at a place of the bytes l: the number, the place behind it, the error. -/
def vat (l : List Nat) (p : Nat) : Nat × Nat × Nat :=
  ((vd (l.drop p) 0 0).1, (if (vd (l.drop p) 0 0).2.2 = 0 then p + (vd (l.drop p) 0 0).2.1 else 0), (vd (l.drop p) 0 0).2.2)
theorem vat_step {l : List Nat} {p : Nat} (hp : p ≤ l.length) (h : (vat l p).2.2 = 0) : p < (vat l p).2.1 ∧ (vat l p).2.1 ≤ l.length := by
  unfold vat at *
  simp only at *
  have := vd_size (l.drop p) 0 0 h
  rw [if_pos h]
  simp only [List.length_drop] at this
  omega
theorem vat_bound (l : List Nat) (p : Nat) : (vat l p).1 < 18446744073709551616 := vd_bound _ 0 0 (by omega) (by simp)
theorem vat_vb (P R : List Nat) {v : Nat} (h : v < 18446744073709551616) : vat (P ++ (vb v ++ R)) P.length = (v, P.length + (vb v).length, 0) := by
  unfold vat
  have h1 : (P ++ (vb v ++ R)).drop P.length = vb v ++ R := by simp
  rw [h1, vd_vb0 h R]
  simp

/-- The numbers from a place on, or the error. -/
def unp (l : List Nat) : Nat → Nat → List Nat → List Nat × Nat
  | 0, _, acc => (acc, 0)
  | f + 1, p, acc => if p < l.length then (if (vat l p).2.2 ≠ 0 then ([], (vat l p).2.2) else if 4294967296 ≤ (vat l p).1 then ([], 3) else unp l f (vat l p).2.1 (acc ++ [(vat l p).1])) else (acc, 0)
theorem unp_end {l : List Nat} {f p : Nat} {acc : List Nat} (h : ¬ p < l.length) : unp l (f + 1) p acc = (acc, 0) := by simp only [unp]; rw [if_neg h]
theorem unp_err {l : List Nat} {f p : Nat} {acc : List Nat} (h : p < l.length) (h1 : (vat l p).2.2 ≠ 0) : unp l (f + 1) p acc = ([], (vat l p).2.2) := by simp only [unp]; rw [if_pos h, if_pos h1]
theorem unp_big {l : List Nat} {f p : Nat} {acc : List Nat} (h : p < l.length) (h1 : (vat l p).2.2 = 0) (h2 : 4294967296 ≤ (vat l p).1) : unp l (f + 1) p acc = ([], 3) := by simp only [unp]; rw [if_pos h, if_neg (by simpa using h1), if_pos h2]
theorem unp_more {l : List Nat} {f p : Nat} {acc : List Nat} (h : p < l.length) (h1 : (vat l p).2.2 = 0) (h2 : ¬ 4294967296 ≤ (vat l p).1) : unp l (f + 1) p acc = unp l f (vat l p).2.1 (acc ++ [(vat l p).1]) := by simp only [unp]; rw [if_pos h, if_neg (by simpa using h1), if_neg h2]
theorem unp_len : ∀ (l : List Nat) (f p : Nat) (acc : List Nat), (unp l f p acc).1.length ≤ acc.length + f
  | _, 0, _, _ => by simp [unp]
  | l, f + 1, p, acc => by
    simp only [unp]
    split
    · split
      · simp
      · split
        · simp
        · have := unp_len l f (vat l p).2.1 (acc ++ [(vat l p).1])
          simp at this
          omega
    · simp

/-- Numbers one behind the other. -/
def pk (l : List Nat) : List Nat := (l.map vb).flatten
theorem pk_nil : pk [] = [] := rfl
theorem pk_snoc (l : List Nat) (x : Nat) : pk (l ++ [x]) = pk l ++ vb x := by simp [pk]
theorem pk_cons (x : Nat) (l : List Nat) : pk (x :: l) = vb x ++ pk l := by simp [pk]
theorem pk_lt (l : List Nat) : ∀ x ∈ pk l, x < 256 := by
  intro x hx
  simp only [pk, List.mem_flatten, List.mem_map] at hx
  obtain ⟨m, ⟨v, _, rfl⟩, hx⟩ := hx
  exact vb_lt v x hx
theorem pk_len : ∀ (l : List Nat), (∀ x ∈ l, x < 4294967296) → (pk l).length ≤ 10 * l.length
  | [], _ => by simp [pk]
  | x :: l, h => by
    have h1 := pk_len l (fun y hy => h y (List.mem_cons_of_mem _ hy))
    have h2 := vb_len10 (show x < 18446744073709551616 by have := h x (List.mem_cons_self ..); omega)
    rw [pk_cons, List.length_append, List.length_cons]
    omega
theorem unp_pk : ∀ (r l : List Nat), (∀ x ∈ r, x < 4294967296) → ∀ f, r.length < f → unp (pk l ++ pk r) f (pk l).length l = (l ++ r, 0)
  | [], l, _, f, hf => by
    obtain ⟨f, rfl⟩ : ∃ g, f = g + 1 := ⟨f - 1, by simp at hf; omega⟩
    rw [unp_end (by simp [pk])]; simp
  | x :: r, l, h, f, hf => by
    obtain ⟨f, rfl⟩ : ∃ g, f = g + 1 := ⟨f - 1, by simp at hf; omega⟩
    have hx := h x (List.mem_cons_self ..)
    have hv := vat_vb (pk l) (pk r) (show x < 18446744073709551616 by omega)
    have hp := vb_pos x
    rw [pk_cons]
    rw [unp_more (by simp; omega) (by rw [hv]) (by rw [hv]; simp only; omega)]
    rw [hv]
    simp only
    have e1 : pk l ++ (vb x ++ pk r) = pk (l ++ [x]) ++ pk r := by rw [pk_snoc]; simp
    have e2 : (pk l).length + (vb x).length = (pk (l ++ [x])).length := by rw [pk_snoc]; simp
    rw [e1, e2, unp_pk r (l ++ [x]) (fun y hy => h y (List.mem_cons_of_mem _ hy)) f (by simp at hf; omega)]
    simp
end Go.Proofs.YtdifojeghplpeaaDoor.Var
