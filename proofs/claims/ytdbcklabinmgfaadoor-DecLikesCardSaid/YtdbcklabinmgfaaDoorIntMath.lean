/- Layer 16: a decimal's value as a whole number: plain mathematics. -/
import Derived.Test.YtdbcklabinmgfaaDoorOrdMath
namespace Go.Proofs.YtdbcklabinmgfaaDoor
set_option linter.unusedVariables false

def stepV (a d : Nat) : Nat := 10 * a + (d - 48)
def valN (a : Nat) : List Nat → Nat
  | [] => a
  | d :: l => valN (stepV a d) l
theorem valN_step (a d : Nat) (l : List Nat) : valN a (d :: l) = valN (stepV a d) l := by conv => lhs; unfold valN
theorem valN_cons (a d : Nat) (l : List Nat) : valN a (d :: l) = valN (10 * a + (d - 48)) l := by rw [valN_step]; unfold stepV; rfl
theorem valN_ge : ∀ (l : List Nat) (a : Nat), a ≤ valN a l
  | [], a => Nat.le_refl _
  | d :: l, a => by rw [valN_cons]; have := valN_ge l (10 * a + (d - 48)); omega
theorem valN_lt : ∀ (l : List Nat) (a : Nat), (∀ d ∈ l, d ≤ 57) → valN a l + 1 ≤ (a + 1) * 10 ^ l.length
  | [], a, _ => by rw [List.length_nil, Nat.pow_zero, Nat.mul_one]; exact Nat.le_refl _
  | d :: l, a, h => by
    rw [valN_cons, List.length_cons, Nat.pow_succ, Nat.mul_comm (10 ^ l.length) 10, ← Nat.mul_assoc]
    refine Nat.le_trans (valN_lt l _ (fun y hy => h y (List.mem_cons_of_mem _ hy))) (Nat.mul_le_mul_right _ ?_)
    have := h d (List.mem_cons_self ..)
    omega
theorem valN_zeros (n : Nat) (l : List Nat) : valN 0 (List.replicate n 48 ++ l) = valN 0 l := by
  induction n with
  | zero => rfl
  | succ n ih => rw [List.replicate_succ, List.cons_append, valN_cons]; exact ih
/-- The digits of a whole number, with its zeros. -/
def allN (D : List Nat) (x : Int) : List Nat := D ++ List.replicate x.toNat 48
def intN (D : List Nat) (x : Int) : Nat := valN 0 (allN D x)
def intQ (ng : Bool) (D : List Nat) (x : Int) : Bool := rightD (ng, D, x) && (decide (0 ≤ x) && decide ((D.length : Int) + x ≤ 19))
def intC (ng : Bool) (D : List Nat) (x : Int) : Int × Bool :=
  if intQ ng D x = true then (if intN D x ≤ 4611686018427387904 then (sgI ng (intN D x), true) else (0, false)) else (0, false)
theorem rightD_dig {d : DV} (h : rightD d = true) : (∀ c ∈ d.2.1, 48 ≤ c ∧ c ≤ 57) ∧ d.2.1.length ≤ 100 := by
  rcases rightD_cases h with rfl | h
  · exact ⟨fun c hc => (by cases hc), by decide⟩
  · exact ⟨h.dig, h.len⟩
structure IntOk (ng : Bool) (D : List Nat) (x : Int) : Prop where
  x0 : 0 ≤ x
  p : (D.length : Int) + x ≤ 19
  dig : ∀ c ∈ D, 48 ≤ c ∧ c ≤ 57
theorem intQ_ok {ng : Bool} {D : List Nat} {x : Int} (h : intQ ng D x = true) : IntOk ng D x := by
  unfold intQ at h
  simp only [Bool.and_eq_true, decide_eq_true_eq] at h
  exact ⟨h.2.1, h.2.2, (rightD_dig h.1).1⟩
theorem IntOk.all {ng : Bool} {D : List Nat} {x : Int} (h : IntOk ng D x) : (∀ c ∈ allN D x, 48 ≤ c ∧ c ≤ 57) ∧ (allN D x).length ≤ 19 := by
  refine ⟨fun c hc => ?_, ?_⟩
  · unfold allN at hc
    rcases List.mem_append.1 hc with hc | hc
    · exact h.dig c hc
    · rw [(List.mem_replicate.1 hc).2]; decide
  · unfold allN
    rw [List.length_append, List.length_replicate]
    have := h.p; have := h.x0
    omega
theorem IntOk.lt {ng : Bool} {D : List Nat} {x : Int} (h : IntOk ng D x) : intN D x < 10000000000000000000 := by
  have h1 := valN_lt (allN D x) 0 (fun d hd => (h.all.1 d hd).2)
  have h2 : 10 ^ (allN D x).length ≤ 10 ^ 19 := Nat.pow_le_pow_right (by decide) h.all.2
  have h3 : (10 : Nat) ^ 19 = 10000000000000000000 := by decide
  unfold intN
  omega
def l20 (D : List Nat) (x : Int) : List Nat := List.replicate (20 - ((D.length : Int) + x).toNat) 48 ++ allN D x
theorem IntOk.l20 {ng : Bool} {D : List Nat} {x : Int} (h : IntOk ng D x) : (l20 D x).length = 20 ∧ valN 0 (l20 D x) = intN D x ∧ (∀ c ∈ l20 D x, 48 ≤ c ∧ c ≤ 57) ∧ ∀ i : Nat, i < 20 → (((l20 D x).getD i 0 : Nat) : Int) - 48 = dg D x (19 - i) := by
  have hp := h.p
  have hx := h.x0
  have hl : (Go.Proofs.YtdbcklabinmgfaaDoor.l20 D x).length = 20 := by
    unfold Go.Proofs.YtdbcklabinmgfaaDoor.l20 allN
    rw [List.length_append, List.length_append, List.length_replicate, List.length_replicate]
    omega
  refine ⟨hl, valN_zeros _ _, fun c hc => ?_, fun i hi => ?_⟩
  · unfold Go.Proofs.YtdbcklabinmgfaaDoor.l20 at hc
    rcases List.mem_append.1 hc with hc | hc
    · rw [(List.mem_replicate.1 hc).2]; decide
    · exact h.all.1 c hc
  · obtain ⟨z, hz⟩ : ∃ z, z = 20 - ((D.length : Int) + x).toNat := ⟨_, rfl⟩
    unfold Go.Proofs.YtdbcklabinmgfaaDoor.l20 allN
    rw [← hz]
    by_cases h1 : i < z
    · rw [RD.above (by omega), List.getD_eq_getElem?_getD, List.getElem?_append_left (by rw [List.length_replicate]; exact h1), List.getElem?_replicate, if_pos h1]
      rfl
    · obtain ⟨j, rfl⟩ : ∃ j, i = z + j := ⟨i - z, by omega⟩
      have e : (19 : Int) - ((z + j : Nat) : Int) = (D.length : Int) + x - 1 - (j : Int) := by omega
      rw [e, dg_at, List.getD_eq_getElem?_getD, List.getElem?_append_right (by rw [List.length_replicate]; omega), List.length_replicate, Nat.add_sub_cancel_left]
      by_cases h2 : j < D.length
      · rw [List.getElem?_append_left h2, List.getD_eq_getElem?_getD, List.getElem?_eq_getElem h2]; rfl
      · rw [List.getElem?_append_right (by omega), List.getElem?_replicate, if_pos (by omega), getD_out' 48 (by omega)]; rfl
end Go.Proofs.YtdbcklabinmgfaaDoor
