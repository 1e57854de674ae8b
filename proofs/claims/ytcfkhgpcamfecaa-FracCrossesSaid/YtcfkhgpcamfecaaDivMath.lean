/- Plain mathematics of the division of two words by one: a digit of 2^32 at a time. -/
namespace Go.Proofs.Ytcfkhgpcamfecaa.Div
set_option maxRecDepth 100000

/-- One digit: what holds at the loop's head. b: 2^32; Y = y1 * b + y0, no less than 2^63; u below Y; d below b. -/
structure Inv (u d y1 y0 q r : Nat) : Prop where
  eq : q * y1 + r = u
  up : (u * 4294967296 + d) / (y1 * 4294967296 + y0) ≤ q
  small : q ≤ 4294967297
  rest : r < 4294967296

theorem start {u d y1 y0 : Nat} (h1 : 2147483648 ≤ y1) (h1' : y1 < 4294967296) (h0 : y0 < 4294967296) (hu : u < y1 * 4294967296 + y0) (hd : d < 4294967296) : Inv u d y1 y0 (u / y1) (u % y1) := by
  have e := Nat.div_add_mod u y1
  have hr := Nat.mod_lt u (show 0 < y1 by omega)
  refine ⟨by rw [Nat.mul_comm]; exact e, ?_, ?_, by omega⟩
  · apply Nat.le_of_lt_succ
    apply Nat.div_lt_of_lt_mul
    have h2 : u < (u / y1 + 1) * y1 := by rw [Nat.add_mul, Nat.mul_comm (u / y1)]; omega
    have h3 : u + 1 ≤ (u / y1 + 1) * y1 := h2
    have h4 : (u + 1) * 4294967296 ≤ (u / y1 + 1) * y1 * 4294967296 := Nat.mul_le_mul_right _ h3
    rw [Nat.mul_comm (y1 * 4294967296 + y0), Nat.mul_add, ← Nat.mul_assoc]
    have h5 : 0 ≤ (u / y1 + 1) * y0 := Nat.zero_le _
    simp only [Nat.succ_eq_add_one]
    omega
  · have key : ∀ K, u < y1 * K → u / y1 < K := fun K h => Nat.div_lt_of_lt_mul h
    have h9 : u < y1 * 4294967298 := by
      have h8 : 4294967296 ≤ 2 * y1 := Nat.mul_le_mul_left 2 h1
      have h7 : y0 < 2 * y1 := Nat.lt_of_lt_of_le h0 h8
      have h10 : y1 * 4294967298 = y1 * 4294967296 + 2 * y1 := by
        clear h8 h7 h1 h1' h0 hu hd e hr key
        omega
      rw [h10]
      exact Nat.lt_trans hu (Nat.add_lt_add_left h7 _)
    have := key 4294967298 h9
    omega
theorem true_lt {u d y1 y0 : Nat} (hu : u < y1 * 4294967296 + y0) (hd : d < 4294967296) : (u * 4294967296 + d) / (y1 * 4294967296 + y0) < 4294967296 := by
  apply Nat.div_lt_of_lt_mul
  omega
theorem prod_eq {u y1 y0 q r : Nat} (h : q * y1 + r = u) : q * (y1 * 4294967296 + y0) + r * 4294967296 = u * 4294967296 + q * y0 := by
  subst h
  rw [Nat.mul_add, Nat.add_mul, ← Nat.mul_assoc]
  omega
/-- Too great: one less is not too small. -/
theorem down {u d y1 y0 q r : Nat} (h : Inv u d y1 y0 q r) (hu : u < y1 * 4294967296 + y0) (hd : d < 4294967296) (hq : 4294967296 ≤ q ∨ 4294967296 * r + d < q * y0) :
    0 < q ∧ (u * 4294967296 + d) / (y1 * 4294967296 + y0) ≤ q - 1 := by
  have hlt : (u * 4294967296 + d) / (y1 * 4294967296 + y0) < q := by
    rcases hq with hq | hq
    · exact Nat.lt_of_lt_of_le (true_lt hu hd) hq
    · apply Nat.div_lt_of_lt_mul
      have := prod_eq (y0 := y0) h.eq
      rw [Nat.mul_comm (y1 * 4294967296 + y0) q]
      omega
  exact ⟨Nat.lt_of_le_of_lt (Nat.zero_le _) hlt, Nat.le_sub_one_of_lt hlt⟩
theorem step {u d y1 y0 q r : Nat} (h : Inv u d y1 y0 q r) (hu : u < y1 * 4294967296 + y0) (hd : d < 4294967296) (hq : 4294967296 ≤ q ∨ 4294967296 * r + d < q * y0) (hr : r + y1 < 4294967296) : Inv u d y1 y0 (q - 1) (r + y1) := by
  obtain ⟨h0, h1⟩ := down h hu hd hq
  refine ⟨?_, h1, by have := h.small; omega, hr⟩
  obtain ⟨k, rfl⟩ : ∃ k, q = k + 1 := ⟨q - 1, by omega⟩
  have := h.eq
  rw [Nat.add_mul] at this
  simp only [Nat.add_sub_cancel]
  omega
/-- What was sought. -/
theorem done {u d y1 y0 q r : Nat} (he : q * y1 + r = u) (hup : (u * 4294967296 + d) / (y1 * 4294967296 + y0) ≤ q) (hy : 0 < y1 * 4294967296 + y0) (h : q * y0 ≤ 4294967296 * r + d) : q = (u * 4294967296 + d) / (y1 * 4294967296 + y0) := by
  apply Nat.le_antisymm _ hup
  rw [Nat.le_div_iff_mul_le hy]
  have := prod_eq (y0 := y0) he
  omega
theorem broke {u d y1 y0 q r : Nat} (h : Inv u d y1 y0 q r) (hu : u < y1 * 4294967296 + y0) (hd : d < 4294967296) (h0 : y0 < 4294967296) (hq : 4294967296 ≤ q ∨ 4294967296 * r + d < q * y0) (hr : 4294967296 ≤ r + y1) : q - 1 = (u * 4294967296 + d) / (y1 * 4294967296 + y0) := by
  obtain ⟨hp, h1⟩ := down h hu hd hq
  refine done (r := r + y1) ?_ h1 (by omega) ?_
  · obtain ⟨k, rfl⟩ : ∃ k, q = k + 1 := ⟨q - 1, by omega⟩
    have := h.eq
    rw [Nat.add_mul] at this
    simp only [Nat.add_sub_cancel]
    omega
  · have hs := h.small
    have h2 : (q - 1) * y0 ≤ 4294967296 * 4294967295 := Nat.mul_le_mul (by omega) (by omega)
    omega

/-- Two digits make the quotient. -/
theorem digits_ (A e0 Y : Nat) (hY : 0 < Y) : A / Y * 4294967296 + (A % Y * 4294967296 + e0) / Y = (A * 4294967296 + e0) / Y ∧ (A % Y * 4294967296 + e0) % Y = (A * 4294967296 + e0) % Y := by
  have e := Nat.div_add_mod A Y
  have e3 : A * 4294967296 + e0 = Y * (A / Y * 4294967296) + (A % Y * 4294967296 + e0) := by
    rw [← Nat.mul_assoc]
    generalize Y * (A / Y) = B at *
    omega
  rw [e3, Nat.mul_add_div hY, Nat.mul_add_mod]
  exact ⟨rfl, rfl⟩
theorem two_digits (u e1 e0 Y : Nat) (hY : 0 < Y) :
    (u * 4294967296 + e1) / Y * 4294967296 + ((u * 4294967296 + e1) % Y * 4294967296 + e0) / Y = (u * 18446744073709551616 + e1 * 4294967296 + e0) / Y ∧
    ((u * 4294967296 + e1) % Y * 4294967296 + e0) % Y = (u * 18446744073709551616 + e1 * 4294967296 + e0) % Y := by
  have hT : u * 18446744073709551616 + e1 * 4294967296 + e0 = (u * 4294967296 + e1) * 4294967296 + e0 := by omega
  have := digits_ (u * 4294967296 + e1) e0 Y hY
  rw [← hT] at this
  exact this

/-- The wraps of 64 bits do no harm where the result fits. -/
theorem wrap_rest (u d q Y : Nat) (hY : Y < 18446744073709551616) (hq : q = (u * 4294967296 + d) / Y) (hp : 0 < Y) :
    (((u : Int) * 4294967296 % 18446744073709551616 + (d : Int)) % 18446744073709551616 - (q : Int) * (Y : Int) % 18446744073709551616) % 18446744073709551616 = (((u * 4294967296 + d) % Y : Nat) : Int) := by
  have e := Nat.div_add_mod (u * 4294967296 + d) Y
  have hr := Nat.mod_lt (u * 4294967296 + d) hp
  rw [← hq] at e
  generalize (u * 4294967296 + d) % Y = r at *
  have e2 : (q : Int) * (Y : Int) = (u : Int) * 4294967296 + (d : Int) - (r : Int) := by
    have : ((Y * q + r : Nat) : Int) = ((u * 4294967296 + d : Nat) : Int) := by rw [e]
    simp only [Int.natCast_add, Int.natCast_mul] at this
    rw [Int.mul_comm]
    omega
  rw [e2]
  omega

/-- Shifts: what is divided and what divides are shifted alike. -/
theorem shift_parts (hi lo s : Nat) (hs : s ≤ 64) :
    (hi * 2 ^ s + lo / 2 ^ (64 - s)) * 18446744073709551616 + lo * 2 ^ s % 18446744073709551616 = (hi * 18446744073709551616 + lo) * 2 ^ s := by
  have h64 : 2 ^ (64 - s) * 2 ^ s = 18446744073709551616 := by rw [← Nat.pow_add, Nat.sub_add_cancel hs]
  have hp : 0 < 2 ^ s := Nat.pow_pos (by omega)
  have e1 : lo * 2 ^ s / 18446744073709551616 = lo / 2 ^ (64 - s) := by
    rw [← h64, Nat.mul_div_mul_right _ _ hp]
  have e2 := Nat.div_add_mod (lo * 2 ^ s) 18446744073709551616
  rw [e1] at e2
  have a1 : (hi * 2 ^ s + lo / 2 ^ (64 - s)) * 18446744073709551616 = hi * 2 ^ s * 18446744073709551616 + lo / 2 ^ (64 - s) * 18446744073709551616 := Nat.add_mul ..
  have a2 : (hi * 18446744073709551616 + lo) * 2 ^ s = hi * 18446744073709551616 * 2 ^ s + lo * 2 ^ s := Nat.add_mul ..
  have a3 : hi * 2 ^ s * 18446744073709551616 = hi * 18446744073709551616 * 2 ^ s := Nat.mul_right_comm ..
  rw [a1, a2, a3]
  clear a1 a2 a3
  generalize hi * 18446744073709551616 * 2 ^ s = A at *
  generalize lo / 2 ^ (64 - s) = B at *
  generalize lo * 2 ^ s = C at *
  omega
theorem high_lt (hi lo y s : Nat) (hs : s ≤ 64) (hlo : lo < 18446744073709551616) (hy : hi < y) : hi * 2 ^ s + lo / 2 ^ (64 - s) < y * 2 ^ s := by
  have h64 : 2 ^ (64 - s) * 2 ^ s = 18446744073709551616 := by rw [← Nat.pow_add, Nat.sub_add_cancel hs]
  have h1 : lo / 2 ^ (64 - s) < 2 ^ s := Nat.div_lt_of_lt_mul (by rw [h64]; exact hlo)
  have h2 : (hi + 1) * 2 ^ s ≤ y * 2 ^ s := Nat.mul_le_mul_right _ hy
  rw [Nat.add_mul] at h2
  omega
theorem low_lt (lo s : Nat) (hs : s ≤ 64) (hlo : lo < 18446744073709551616) : lo / 2 ^ (64 - s) < 2 ^ s := by
  have h64 : 2 ^ (64 - s) * 2 ^ s = 18446744073709551616 := by rw [← Nat.pow_add, Nat.sub_add_cancel hs]
  exact Nat.div_lt_of_lt_mul (by rw [h64]; exact hlo)
theorem unshift (N y s : Nat) : N * 2 ^ s / (y * 2 ^ s) = N / y ∧ N * 2 ^ s % (y * 2 ^ s) / 2 ^ s = N % y := by
  have hp : 0 < 2 ^ s := Nat.pow_pos (by omega)
  refine ⟨Nat.mul_div_mul_right _ _ hp, ?_⟩
  rw [Nat.mul_mod_mul_right, Nat.mul_div_cancel _ hp]
end Go.Proofs.Ytcfkhgpcamfecaa.Div
