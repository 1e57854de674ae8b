/- Layers 4 and 5: the tables of lengths and distances: plain mathematics. -/
namespace Go.Proofs.Ytmheafadahdbfaa

def lenX (j : Nat) : Nat := if j < 8 then 0 else if j < 28 then (j - 4) / 4 else 0
def lenB (j : Nat) : Nat := if j < 8 then 3 + j else if j < 28 then 3 + (4 + j % 4) * 2 ^ ((j - 4) / 4) else 258
def farX (s : Nat) : Nat := if s < 4 then 0 else (s - 2) / 2
def farB (s : Nat) : Nat := if s < 4 then 1 + s else 1 + (2 + s % 2) * 2 ^ ((s - 2) / 2)
/-- The last of the first K whose base is at most n. -/
def lastLe (b : Nat → Nat) (n : Nat) : Nat → Option Nat
  | 0 => none
  | K + 1 => if b K ≤ n then some K else lastLe b n K
theorem lastLe_yes {b : Nat → Nat} {n K : Nat} (h : b K ≤ n) : lastLe b n (K + 1) = some K := by show (if _ then _ else _) = _; rw [if_pos h]
theorem lastLe_no {b : Nat → Nat} {n K : Nat} (h : ¬ b K ≤ n) : lastLe b n (K + 1) = lastLe b n K := by
  conv => lhs; unfold lastLe
  rw [if_neg h]
theorem lastLe_lt {b : Nat → Nat} {n : Nat} : ∀ {K j : Nat}, lastLe b n K = some j → j < K ∧ b j ≤ n
  | 0, j, h => by cases h
  | K + 1, j, h => by
    by_cases hb : b K ≤ n
    · rw [lastLe_yes hb] at h
      injection h with h
      subst h
      exact ⟨by omega, hb⟩
    · rw [lastLe_no hb] at h
      have := lastLe_lt h
      exact ⟨by omega, this.2⟩
/-- The symbol, what exceeds its base, its extra bits. -/
def symR (b x : Nat → Nat) (first n : Nat) : Option Nat → Nat × Nat × Nat
  | some j => (first + j, n - b j, x j)
  | none => (0, 0, 0)
theorem lenB_lt (j : Nat) : lenB j ≤ 258 := by
  unfold lenB
  split
  · omega
  · split
    · next h1 h2 =>
      have h3 : (j - 4) / 4 ≤ 5 := by omega
      have h4 : 2 ^ ((j - 4) / 4) ≤ 2 ^ 5 := Nat.pow_le_pow_right (by omega) h3
      have h5 : (4 + j % 4) * 2 ^ ((j - 4) / 4) ≤ 7 * 2 ^ 5 := Nat.mul_le_mul (by omega) h4
      omega
    · omega
theorem farB_lt {s : Nat} (h : s < 30) : farB s ≤ 32768 := by
  unfold farB
  split
  · omega
  · have h3 : (s - 2) / 2 ≤ 13 := by omega
    have h4 : 2 ^ ((s - 2) / 2) ≤ 2 ^ 13 := Nat.pow_le_pow_right (by omega) h3
    have h5 : (2 + s % 2) * 2 ^ ((s - 2) / 2) ≤ 3 * 2 ^ 13 := Nat.mul_le_mul (by omega) h4
    omega
theorem lenB_step : ∀ j, j < 27 → lenB (j + 1) = lenB j + 2 ^ lenX j := by decide
theorem lenX_step : ∀ j, j < 28 → lenX j = (if 8 ≤ j ∧ (j - 8) % 4 = 0 then 1 else 0) + (if j = 0 then 0 else lenX (j - 1)) := by decide
theorem farB_step : ∀ j, j < 29 → farB (j + 1) = farB j + 2 ^ farX j := by decide
theorem farX_step : ∀ j, j < 30 → farX j = (if 4 ≤ j ∧ j % 2 = 0 then 1 else 0) + (if j = 0 then 0 else farX (j - 1)) := by decide
theorem lenX_le (j : Nat) : lenX j ≤ 5 := by unfold lenX; split <;> (try split) <;> omega
theorem farX_le {s : Nat} (h : s < 30) : farX s ≤ 13 := by unfold farX; split <;> omega
end Go.Proofs.Ytmheafadahdbfaa
