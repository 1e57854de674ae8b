/- Layer 23: plain facts on where a line crosses. -/
import Derived.Test.YtcfkhgpcamfecaaFracCrs
namespace Go.Proofs.Ytcfkhgpcamfecaa
open Go.RowKit Big
set_option linter.unusedVariables false

theorem div_between (y x D : Int) (hD : 0 < D) (hx : 0 ≤ x) (hxD : x ≤ D) : (0 ≤ y → 0 ≤ y * x / D ∧ y * x / D ≤ y) ∧ (y ≤ 0 → y ≤ y * x / D ∧ y * x / D ≤ 0) := by
  constructor
  · intro hy
    have h1 : 0 ≤ y * x := Int.mul_nonneg hy hx
    have h2 : y * x ≤ y * D := Int.mul_le_mul_of_nonneg_left hxD hy
    refine ⟨Int.ediv_nonneg h1 (by omega), ?_⟩
    have := Int.ediv_le_ediv hD h2
    rwa [Int.mul_ediv_cancel _ (by omega)] at this
  · intro hy
    have h1 : y * D ≤ y * x := Int.mul_le_mul_of_nonpos_left hy hxD
    have h2 : y * x ≤ 0 := Int.mul_nonpos_of_nonpos_of_nonneg hy hx
    refine ⟨(Int.le_ediv_iff_mul_le hD).2 h1, ?_⟩
    have := Int.ediv_le_ediv hD h2
    rwa [Int.zero_ediv] at this

/-- In order, and c between: the crossing. -/
theorem cross_yes (a b e f c : Int) (hall : okAll a b e f c = true) (hae : a < e) (h1 : a ≤ c) (h2 : c ≤ e) :
    ∃ (Q : Int) (R D : Nat), crossR a b e f c = .tuple #[.agg #[.int .i64 Q, .int .u64 (R : Int), .int .u64 (D : Int)], .int .i64 0] ∧ okF Q R D = true ∧
      (Q * (D : Int) + (R : Int)) * (e - a) = (b * (e - a) + (c - a) * (f - b)) * (D : Int) ∧ (c = a → Q = b ∧ R = 0 ∧ D = 1) ∧ (c = e → Q = f ∧ R = 0 ∧ D = 1) ∧ R < 18446744073709551616 ∧ D < 18446744073709551616 := by
  obtain ⟨⟨bA1, bA2⟩, ⟨bB1, bB2⟩, ⟨bE1, bE2⟩, ⟨bF1, bF2⟩, ⟨bc1, bc2⟩⟩ := okAll_bd hall
  obtain ⟨d0, hd0⟩ : ∃ d0 : Nat, e - a = (d0 : Int) := ⟨(e - a).toNat, by omega⟩
  have hd0p : 0 < d0 := by omega
  have hq := div_between (f - b) (c - a) (d0 : Int) (by omega) (by omega) (by omega)
  obtain ⟨_, t1, t2⟩ := cross_bd (f - b) (c - a) 9007199254740992 d0 hd0p (by omega) (by omega) (by omega) (by omega)
  have hem := Int.mul_ediv_add_emod ((f - b) * (c - a)) (d0 : Int)
  have hca : c = a → (f - b) * (c - a) / (d0 : Int) = 0 ∧ (f - b) * (c - a) % (d0 : Int) = 0 := by
    intro h; subst h; simp
  have hce : c = e → (f - b) * (c - a) / (d0 : Int) = f - b ∧ (f - b) * (c - a) % (d0 : Int) = 0 := by
    intro h; subst h; rw [hd0]
    exact ⟨Int.mul_ediv_cancel _ (by omega), Int.mul_emod_left _ _⟩
  have hR : crossR a b e f c = makeG (b + (f - b) * (c - a) / (d0 : Int)) ((f - b) * (c - a) % (d0 : Int)).toNat d0 := by
    rw [crossR, if_neg (by omega), hd0]
    rfl
  have hsw : (c - a) * (f - b) = (f - b) * (c - a) := Int.mul_comm _ _
  rw [hR, hsw, hd0]
  generalize (f - b) * (c - a) / (d0 : Int) = q at *
  obtain ⟨r, hr⟩ : ∃ r : Nat, (f - b) * (c - a) % (d0 : Int) = (r : Int) := ⟨((f - b) * (c - a) % (d0 : Int)).toNat, by omega⟩
  rw [hr] at hem t2 hca hce ⊢
  rw [Int.toNat_natCast]
  generalize (f - b) * (c - a) = P at *
  have hg : 0 < Nat.gcd r d0 := Nat.gcd_pos_of_pos_right r hd0p
  have e1 := Nat.div_mul_cancel (Nat.gcd_dvd_left r d0)
  have e2 := Nat.div_mul_cancel (Nat.gcd_dvd_right r d0)
  have e3 : Nat.gcd (r / Nat.gcd r d0) (d0 / Nat.gcd r d0) = 1 := by rw [Nat.gcd_div (Nat.gcd_dvd_left r d0) (Nat.gcd_dvd_right r d0), Nat.div_self hg]
  have hca2 : c = a → r / Nat.gcd r d0 = 0 ∧ d0 / Nat.gcd r d0 = 1 := by
    intro h
    have : r = 0 := by have := (hca h).2; omega
    subst this
    rw [Nat.gcd_zero_left]
    exact ⟨Nat.zero_div _, Nat.div_self hd0p⟩
  have hce2 : c = e → r / Nat.gcd r d0 = 0 ∧ d0 / Nat.gcd r d0 = 1 := by
    intro h
    have : r = 0 := by have := (hce h).2; omega
    subst this
    rw [Nat.gcd_zero_left]
    exact ⟨Nat.zero_div _, Nat.div_self hd0p⟩
  have hdl : d0 / Nat.gcd r d0 ≤ d0 := Nat.div_le_self _ _
  unfold makeG makeV
  generalize r / Nat.gcd r d0 = R at *
  generalize d0 / Nat.gcd r d0 = D at *
  generalize Nat.gcd r d0 = g at *
  have hD1 : 1 ≤ D := by
    rcases Nat.eq_zero_or_pos D with h | h
    · subst h; simp at e2; omega
    · exact h
  have hRD : R < D := by
    have h3 : R * g < D * g := by omega
    exact Nat.lt_of_mul_lt_mul_right h3
  have hok : okF (b + q) R D = true := by
    simp only [okF, okQ, Bool.and_eq_true, decide_eq_true_eq, beq_iff_eq]
    refine ⟨?_, ⟨hD1, by omega⟩, hRD, e3⟩
    rcases Int.le_total 0 (f - b) with h | h
    · have := hq.1 h; omega
    · have := hq.2 h; omega
  refine ⟨b + q, R, D, by rw [if_pos hok], hok, ?_, ?_, ?_, by omega, by omega⟩
  · have e1' : (r : Int) = (R : Int) * (g : Int) := by rw [← e1]; simp
    have e2' : (d0 : Int) = (D : Int) * (g : Int) := by rw [← e2]; simp
    have hP : P = (d0 : Int) * q + (r : Int) := by omega
    rw [hP, e1', e2']
    simp only [Int.add_mul]
    have k1 : b * (D : Int) * ((D : Int) * (g : Int)) = b * ((D : Int) * (g : Int)) * (D : Int) := by rw [Int.mul_assoc, Int.mul_assoc, Int.mul_comm ((D : Int) * (g : Int)) (D : Int)]
    have k2 : q * (D : Int) * ((D : Int) * (g : Int)) = (D : Int) * (g : Int) * q * (D : Int) := by rw [Int.mul_comm ((D : Int) * (g : Int)) q, Int.mul_assoc, Int.mul_assoc, Int.mul_comm ((D : Int) * (g : Int)) (D : Int)]
    have k3 : (R : Int) * ((D : Int) * (g : Int)) = (R : Int) * (g : Int) * (D : Int) := by rw [Int.mul_assoc, Int.mul_comm (g : Int) (D : Int)]
    rw [k1, k2, k3]
    omega
  · intro h
    have h3 := hca2 h
    have h4 := (hca h).1
    exact ⟨by omega, h3.1, h3.2⟩
  · intro h
    have h3 := hce2 h
    have h4 := (hce h).1
    exact ⟨by omega, h3.1, h3.2⟩
end Go.Proofs.Ytcfkhgpcamfecaa
