/- BitMath -/

/- Plain mathematics of bit fields: bytes as digits of one number. -/
namespace Go.Proofs.Ytngnhkghpnamoaa.Bit

/-- The bytes of the number N of n bits. -/
def bytesTo (N k : Nat) : List Nat := (List.range k).map fun i => N / 256 ^ i % 256
def bytesOf (N n : Nat) : List Nat := bytesTo N ((n + 7) / 8)

theorem bytesTo_length (N k : Nat) : (bytesTo N k).length = k := by simp [bytesTo]
theorem bytesTo_get (N k i : Nat) (h : i < k) : (bytesTo N k)[i]? = some (N / 256 ^ i % 256) := by simp [bytesTo, h]
theorem bytesTo_lt (N k : Nat) : ∀ x ∈ bytesTo N k, x < 256 := by
  intro x hx
  simp only [bytesTo, List.mem_map] at hx
  obtain ⟨i, _, rfl⟩ := hx
  exact Nat.mod_lt _ (by omega)
theorem bytesTo_succ (N k : Nat) : bytesTo N (k + 1) = bytesTo N k ++ [N / 256 ^ k % 256] := by simp [bytesTo, List.range_succ]
theorem p256 (q : Nat) : 256 ^ q = 2 ^ (8 * q) := by rw [Nat.pow_mul]
theorem split2 (n : Nat) : 2 ^ n = 256 ^ (n / 8) * 2 ^ (n % 8) := by
  rw [p256, ← Nat.pow_add, Nat.div_add_mod]
theorem p256_pos (q : Nat) : 0 < 256 ^ q := Nat.pow_pos (by omega)

/-- The top byte holds what is above the full ones. -/
theorem top_lt (N n : Nat) (h : N < 2 ^ n) : N / 256 ^ (n / 8) < 2 ^ (n % 8) := by
  apply Nat.div_lt_of_lt_mul
  rw [← split2]
  exact h
theorem pow_r (n : Nat) : 2 ^ (n % 8) ≤ 128 := by
  have h : n % 8 < 8 := Nat.mod_lt _ (by omega)
  have := Nat.pow_le_pow_right (n := 2) (by omega) (show n % 8 ≤ 7 by omega)
  simpa using this

/-- What a bit more turns. -/
theorem put_get (N n b i : Nat) (h : N < 2 ^ n) (hb : b < 2) : (N + b * 2 ^ n) / 256 ^ i % 256 = if i < n / 8 then N / 256 ^ i % 256 else if i = n / 8 then N / 256 ^ (n / 8) % 256 + b * 2 ^ (n % 8) else (N + b * 2 ^ n) / 256 ^ i % 256 := by
  split
  · rename_i hi
    have e : b * 2 ^ n = 256 ^ i * (256 * (b * (256 ^ (n / 8 - i - 1) * 2 ^ (n % 8)))) := by
      rw [split2 n]
      have : 256 ^ (n / 8) = 256 ^ i * (256 * 256 ^ (n / 8 - i - 1)) := by
        rw [← Nat.pow_succ', ← Nat.pow_add]
        congr 1
        omega
      rw [this]
      simp only [Nat.mul_assoc, Nat.mul_left_comm]
    rw [e, Nat.add_mul_div_left _ _ (p256_pos i), Nat.add_mul_mod_self_left]
  · split
    · rename_i hi
      subst hi
      have e : b * 2 ^ n = 256 ^ (n / 8) * (b * 2 ^ (n % 8)) := by rw [split2 n]; simp only [Nat.mul_left_comm]
      have h1 := top_lt N n h
      have h2 := pow_r n
      have h3 : b * 2 ^ (n % 8) ≤ 1 * 2 ^ (n % 8) := Nat.mul_le_mul_right _ (by omega)
      have e2 : (N + b * 2 ^ n) / 256 ^ (n / 8) = N / 256 ^ (n / 8) + b * 2 ^ (n % 8) := by rw [e, Nat.add_mul_div_left _ _ (p256_pos _)]
      rw [e2]
      generalize b * 2 ^ (n % 8) = bs at *
      generalize N / 256 ^ (n / 8) = X at *
      omega
    · rfl

/-- Writing a bit: the byte at n / 8 takes it. -/
theorem put_bytes (N n b : Nat) (h : N < 2 ^ n) (hb : b < 2) :
    bytesOf (N + b * 2 ^ n) (n + 1) = (bytesTo N (n / 8 + 1)).set (n / 8) (N / 256 ^ (n / 8) % 256 + b * 2 ^ (n % 8)) := by
  have hk : (n + 1 + 7) / 8 = n / 8 + 1 := by omega
  unfold bytesOf
  rw [hk]
  apply List.ext_getElem?
  intro i
  rw [List.getElem?_set]
  by_cases hi : i < n / 8 + 1
  · rw [bytesTo_get _ _ _ hi, put_get N n b i h hb, bytesTo_length]
    by_cases h1 : i < n / 8
    · rw [if_pos h1, if_neg (by omega), bytesTo_get _ _ _ hi]
    · have : i = n / 8 := by omega
      subst this
      rw [if_neg (by omega), if_pos rfl, if_pos rfl, if_pos hi]
  · rw [List.getElem?_eq_none (by rw [bytesTo_length]; omega), if_neg (by omega), List.getElem?_eq_none (by rw [bytesTo_length]; omega)]
theorem ext_zero (N n : Nat) (h : N < 2 ^ n) (h0 : n % 8 = 0) : bytesTo N (n / 8 + 1) = bytesOf N n ++ [0] := by
  have hk : (n + 7) / 8 = n / 8 := by omega
  unfold bytesOf
  rw [hk, bytesTo_succ]
  have := top_lt N n h
  rw [h0] at this
  have : N / 256 ^ (n / 8) = 0 := by simpa using this
  rw [this]
theorem ext_same (N n : Nat) (h0 : n % 8 ≠ 0) : bytesTo N (n / 8 + 1) = bytesOf N n := by
  have hk : (n + 7) / 8 = n / 8 + 1 := by omega
  unfold bytesOf
  rw [hk]
theorem put_lt (N n b : Nat) (h : N < 2 ^ n) (hb : b < 2) : N + b * 2 ^ n < 2 ^ (n + 1) := by
  have h3 : b * 2 ^ n ≤ 1 * 2 ^ n := Nat.mul_le_mul_right _ (by omega)
  rw [Nat.pow_succ]
  omega

theorem or_add (x b r : Nat) (hx : x < 2 ^ r) : x ||| (b * 2 ^ r) = x + b * 2 ^ r := by
  have := Nat.two_pow_add_eq_or_of_lt hx b
  rw [Nat.mul_comm b, Nat.or_comm, ← this, Nat.add_comm]
end Go.Proofs.Ytngnhkghpnamoaa.Bit
