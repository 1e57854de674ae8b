/- Plain mathematics of varints: numbers and lists alone. -/
namespace Go.Proofs.YtdifojeghplpeaaDoor.Var

/-- The bytes of v as a varint. -/
def vb (v : Nat) : List Nat := if v < 128 then [v] else (v % 128 + 128) :: vb (v / 128)
termination_by v
decreasing_by omega

theorem vb_small {v : Nat} (h : v < 128) : vb v = [v] := by rw [vb, if_pos h]
theorem vb_big {v : Nat} (h : ¬ v < 128) : vb v = (v % 128 + 128) :: vb (v / 128) := by rw [vb, if_neg h]

theorem vb_lt (v : Nat) : ∀ x ∈ vb v, x < 256 := by
  induction v using Nat.strongRecOn with
  | ind v ih =>
    by_cases h : v < 128
    · rw [vb_small h]; simp; omega
    · rw [vb_big h]
      intro x hx
      simp only [List.mem_cons] at hx
      rcases hx with rfl | hx
      · omega
      · exact ih (v / 128) (by omega) x hx

theorem vb_len (n : Nat) : ∀ v, v < 128 ^ (n + 1) → (vb v).length ≤ n + 1 := by
  induction n with
  | zero => intro v h; rw [vb_small (by simpa using h)]; simp
  | succ n ih =>
    intro v h
    by_cases h1 : v < 128
    · rw [vb_small h1]; simp
    · rw [vb_big h1, List.length_cons]
      have := ih (v / 128) (by rw [Nat.pow_succ] at h; exact Nat.div_lt_of_lt_mul (by omega))
      omega
theorem vb_pos (v : Nat) : 0 < (vb v).length := by
  by_cases h : v < 128
  · rw [vb_small h]; simp
  · rw [vb_big h]; simp
theorem vb_len10 {v : Nat} (h : v < 18446744073709551616) : (vb v).length ≤ 10 := vb_len 9 v (by omega)

/-- What the bytes read as, the i-th byte first, v so far: the number, how many bytes, the error. -/
def vd : List Nat → Nat → Nat → Nat × Nat × Nat
  | [], _, _ => (0, 0, 2)
  | c :: r, i, v => if i = 9 ∧ 1 < c then (0, 0, 3) else if c < 128 then (v + c % 128 * 128 ^ i, i + 1, 0) else vd r (i + 1) (v + c % 128 * 128 ^ i)

theorem vd_nil (i v : Nat) : vd [] i v = (0, 0, 2) := rfl
theorem vd_bad {c : Nat} {r : List Nat} {i v : Nat} (h : i = 9) (h1 : 1 < c) : vd (c :: r) i v = (0, 0, 3) := by simp [vd, h, h1]
theorem vd_last {c : Nat} {r : List Nat} {i v : Nat} (h : ¬ (i = 9 ∧ 1 < c)) (h1 : c < 128) : vd (c :: r) i v = (v + c * 128 ^ i, i + 1, 0) := by
  simp only [vd]; rw [if_neg h, if_pos h1, Nat.mod_eq_of_lt h1]
theorem vd_more {c : Nat} {r : List Nat} {i v : Nat} (h : ¬ (i = 9 ∧ 1 < c)) (h1 : ¬ c < 128) : vd (c :: r) i v = vd r (i + 1) (v + c % 128 * 128 ^ i) := by
  simp only [vd]; rw [if_neg h, if_neg h1]

theorem p128 (i : Nat) : 0 < 128 ^ i := Nat.pow_pos (by omega)
theorem p128_9 {i : Nat} (h : i ≤ 9) : 128 ^ i ≤ 9223372036854775808 := Nat.pow_le_pow_right (n := 128) (by omega) h
theorem vd_step {i v c : Nat} (hv : v < 128 ^ i) (hc : c < 128) : v + c * 128 ^ i < 128 ^ (i + 1) := by
  have h := Nat.mul_le_mul_right (128 ^ i) (show c ≤ 127 by omega)
  rw [Nat.pow_succ]; omega

/-- What is written is read: behind it may stand whatever there is. -/
theorem vd_vb (r : List Nat) : ∀ (n v i a : Nat), v < 128 ^ (n + 1) → i + n ≤ 9 → (i + n = 9 → v < 2 * 128 ^ n) → vd (vb v ++ r) i a = (a + v * 128 ^ i, i + (vb v).length, 0) := by
  intro n
  induction n with
  | zero =>
    intro v i a h hi h9
    have hv : v < 128 := by simpa using h
    rw [vb_small hv]
    have : ¬ (i = 9 ∧ 1 < v) := by rintro ⟨rfl, h1⟩; have := h9 (by omega); simp at this; omega
    simp [vd_last this hv]
  | succ n ih =>
    intro v i a h hi h9
    by_cases hv : v < 128
    · rw [vb_small hv]
      have : ¬ (i = 9 ∧ 1 < v) := by rintro ⟨rfl, h1⟩; omega
      simp [vd_last this hv]
    · rw [vb_big hv, List.cons_append, vd_more (by omega) (by omega)]
      have hd : v / 128 < 128 ^ (n + 1) := by rw [Nat.pow_succ] at h; exact Nat.div_lt_of_lt_mul (by omega)
      rw [ih (v / 128) (i + 1) _ hd (by omega) (fun e => by
        have := h9 (by omega)
        rw [Nat.pow_succ] at this
        exact Nat.div_lt_of_lt_mul (by omega))]
      have e1 : (v % 128 + 128) % 128 = v % 128 := by omega
      have e2 : a + (v % 128 + 128) % 128 * 128 ^ i + v / 128 * 128 ^ (i + 1) = a + v * 128 ^ i := by
        rw [e1, Nat.pow_succ, Nat.mul_comm (128 ^ i) 128, ← Nat.mul_assoc, Nat.add_assoc, ← Nat.add_mul]
        congr 2
        omega
      rw [e2, List.length_cons]
      congr 2
      omega
theorem vd_vb0 {v : Nat} (h : v < 18446744073709551616) (r : List Nat) : vd (vb v ++ r) 0 0 = (v, (vb v).length, 0) := by
  rw [vd_vb r 9 v 0 0 (by omega) (by omega) (by intro _; omega)]
  simp
theorem vb_more {v : Nat} (h : ¬ v < 128) (l : List Nat) : (l ++ [v % 128 + 128]) ++ vb (v / 128) = l ++ vb v := by rw [vb_big h]; simp

/-- What is read, and how far. -/
theorem vd_size : ∀ (l : List Nat) (i v : Nat), (vd l i v).2.2 = 0 → i < (vd l i v).2.1 ∧ (vd l i v).2.1 ≤ i + l.length
  | [], _, _, h => by simp [vd] at h
  | c :: r, i, v, h => by
    by_cases h1 : i = 9 ∧ 1 < c
    · simp [vd, h1] at h
    · by_cases h2 : c < 128
      · rw [vd_last h1 h2]; simp
      · rw [vd_more h1 h2] at h ⊢
        have := vd_size r (i + 1) _ h
        simp only [List.length_cons]
        omega
theorem vd_bound : ∀ (l : List Nat) (i v : Nat), i ≤ 9 → v < 128 ^ i → (vd l i v).1 < 18446744073709551616
  | [], _, _, _, _ => by simp [vd]
  | c :: r, i, v, hi, hv => by
    by_cases h1 : i = 9 ∧ 1 < c
    · simp [vd, h1]
    · by_cases h2 : c < 128
      · rw [vd_last h1 h2]
        simp only
        by_cases h9 : i = 9
        · subst h9
          have : c ≤ 1 := by omega
          have := Nat.mul_le_mul_right (128 ^ 9) this
          omega
        · have := vd_step hv h2
          have h3 : 128 ^ (i + 1) ≤ 9223372036854775808 := p128_9 (by omega)
          omega
      · rw [vd_more h1 h2]
        by_cases h9 : i = 9
        · omega
        · exact vd_bound r (i + 1) _ (by omega) (vd_step hv (by omega))
theorem vd_err : ∀ (l : List Nat) (i v : Nat), (vd l i v).2.2 = 0 ∨ (vd l i v).2.2 = 2 ∨ (vd l i v).2.2 = 3
  | [], _, _ => by simp [vd]
  | c :: r, i, v => by
    by_cases h1 : i = 9 ∧ 1 < c
    · simp [vd, h1]
    · by_cases h2 : c < 128
      · rw [vd_last h1 h2]; simp
      · rw [vd_more h1 h2]; exact vd_err r _ _
theorem drop_cons {l : List Nat} {k : Nat} (h : k < l.length) : l.drop k = l.getD k 0 :: l.drop (k + 1) := by
  rw [List.drop_eq_getElem_cons h]; simp [h]
end Go.Proofs.YtdifojeghplpeaaDoor.Var
