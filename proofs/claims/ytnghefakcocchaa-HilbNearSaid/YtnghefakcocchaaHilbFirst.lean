/- Walks over layer 11: First, Right, Parent and the document's own. -/
import Derived.Test.YtnghefakcocchaaRows
import Derived.Test.YtnghefakcocchaaHilbMath
import Derived.Test.YtnghefakcocchaaWords
import Derived.WalkKit
import Derived.Handy
import Derived.Lib.Hide
import Derived.WalkLawsBesides
import Derived.WalkSpells
namespace Go.Proofs.Ytnghefakcocchaa
open Go.RowKit Hilb
set_option linter.unusedVariables false

theorem p4_31 (k : Nat) (h : k ≤ 31) : 4 ^ k ≤ 4 ^ 31 := Nat.pow_le_pow_right (by omega) h
theorem fst_31 : fst 31 < 18446744073709551616 := by decide +kernel
theorem fst_le (k : Nat) (h : k ≤ 31) : fst k < 18446744073709551616 := Nat.lt_of_le_of_lt (fst_mono h) fst_31
theorem u64_wrap (n : Nat) (h : n < 18446744073709551616) : IntKind.u64.wrap (n : Int) = n := by
  rw [IntKind.wrap_u64]; omega
theorem shl2 (k : Nat) : ((2 : Int) ^ (2 * k)) = ((4 ^ k : Nat) : Int) := by
  rw [Int.natCast_pow, Int.pow_mul]; rfl
theorem first_step (k : Nat) (h : k < 31) : IntKind.u64.wrap (((fst k : Nat) : Int) + IntKind.u64.wrap ((2 : Int) ^ (2 * k))) = ((fst (k + 1) : Nat) : Int) := by
  have h1 := fst_le (k + 1) h
  rw [fst_succ] at h1
  rw [shl2, u64_wrap (4 ^ k) (by omega), fst_succ, ← Int.natCast_add, u64_wrap _ h1]

theorem first_nat (z : Nat) (w : World) (h0 : z ≤ 31) :
    Calls Try.prog 12 #[.int .i64 (z : Int)] w fun e w' => e = .returned (.int .u64 (fst z : Nat)) ∧ w = w' := by
  have hz : (z : Int) ≤ 31 := by omega
  go_enter Try.func12, Try.ntmps12
  go_wp2
  go_loop [3, 7] (fun n i => ∃ k : Nat, k ≤ z ∧ n = .int .u64 (fst k : Nat) ∧ i = .int .i64 k) (fun _ i => z - (intOf i).toNat)
  case atStart => exact ⟨0, by omega, rfl, rfl⟩
  case round =>
    obtain ⟨k, hk, rfl, rfl⟩ := hrel
    by_cases hlt : k < z
    · go_wp2
      go_round
      case rel => exact ⟨k + 1, by omega, by rw [first_step k (by omega)], by go_num⟩
      case measure => simp [intOf]; omega
    · obtain rfl : k = z := by omega
      go_wp2
      go_ret
      exact ⟨rfl, rfl⟩

/-- First, whatever its argument. -/
def cut31 (z : Int) : Nat := (if z ≤ 31 then z else 31).toNat
theorem first_any (z : Int) (w : World) (hz : -9223372036854775808 ≤ z ∧ z < 9223372036854775808) :
    Calls Try.prog 12 #[.int .i64 z] w fun e w' => e = .returned (.int .u64 (fst (cut31 z) : Nat)) ∧ w = w' := by
  by_cases h1 : 0 ≤ z ∧ z ≤ 31
  · obtain ⟨n, rfl⟩ := Int.eq_ofNat_of_zero_le h1.1
    have : cut31 (n : Int) = n := by unfold cut31; rw [if_pos h1.2]; omega
    rw [this]
    exact first_nat n w (by omega)
  · clear hz
    by_cases h2 : z < 0
    · have e : cut31 z = 0 := by unfold cut31; split <;> omega
      rw [e]
      have hz : z ≤ 31 := by omega
      clear h1
      go_enter Try.func12, Try.ntmps12
      go_wp2
      go_loop [3, 7] (fun n i => n = .int .u64 (fst 0 : Nat) ∧ i = .int .i64 0) (fun _ _ => 0)
      case atStart => exact ⟨rfl, rfl⟩
      case round =>
        obtain ⟨rfl, rfl⟩ := hrel
        go_wp2
        go_ret
        exact ⟨rfl, rfl⟩
    · have e : cut31 z = 31 := by unfold cut31; split <;> omega
      rw [e]
      have hz : ¬ z ≤ 31 := by omega
      clear h1 h2 e
      go_enter Try.func12, Try.ntmps12
      go_wp2
      go_loop [3, 7] (fun n i => ∃ k : Nat, k ≤ 31 ∧ n = .int .u64 (fst k : Nat) ∧ i = .int .i64 k) (fun _ i => 31 - (intOf i).toNat)
      case atStart => exact ⟨0, by omega, rfl, rfl⟩
      case round =>
        obtain ⟨k, hk, rfl, rfl⟩ := hrel
        by_cases hlt : k < 31
        · go_wp2
          go_round
          case rel => exact ⟨k + 1, by omega, by rw [first_step k (by omega)], by go_num⟩
          case measure => simp [intOf]; omega
        · obtain rfl : k = 31 := by omega
          go_wp2
          go_ret
          exact ⟨rfl, rfl⟩

theorem rfirst_step (k : Nat) (h : k < 31) : IntKind.u64.wrap (((fst k : Nat) : Int) + ((4 ^ k : Nat) : Int)) = ((fst (k + 1) : Nat) : Int) := by
  have h1 := fst_le (k + 1) h
  rw [fst_succ] at h1
  rw [fst_succ, ← Int.natCast_add, u64_wrap _ h1]
theorem p4_step (k : Nat) (h : k < 31) : IntKind.u64.wrap (4 * ((4 ^ k : Nat) : Int)) = ((4 ^ (k + 1) : Nat) : Int) := by
  have h1 := p4_31 (k + 1) h
  rw [Nat.pow_succ] at h1 ⊢
  rw [show (4 * ((4 ^ k : Nat) : Int)) = ((4 ^ k * 4 : Nat) : Int) by omega]
  exact u64_wrap _ (by have : 4 ^ 31 < 18446744073709551616 := by decide
                       omega)

theorem rfirst_any (z : Int) (w : World) :
    Calls Try.prog 13 #[.int .i64 z] w fun e w' => e = .returned (.int .u64 (fst (cut31 z) : Nat)) ∧ w = w' := by
  obtain ⟨N, hN⟩ : ∃ N, N = cut31 z := ⟨_, rfl⟩
  have hc : (∀ k : Nat, k < N → (k : Int) < z ∧ (k : Int) < 31) ∧ (((N : Int) < z ∧ N = 31) ∨ ¬ (N : Int) < z) ∧ N ≤ 31 := by
    subst hN; unfold cut31; split <;> (refine ⟨fun k hk => ?_, ?_, ?_⟩ <;> omega)
  rw [← hN]
  have Hc := Lib.hid hc
  clear hc hN
  go_enter Try.func13, Try.ntmps13
  go_wp2
  go_loop [3, 4, 5] (fun u n i => ∃ k : Nat, k ≤ N ∧ u = .int .u64 (4 ^ k : Nat) ∧ n = .int .u64 (fst k : Nat) ∧ i = .int .i64 k) (fun _ _ i => N - (intOf i).toNat)
  case atStart => exact ⟨0, by omega, rfl, rfl, rfl⟩
  case round =>
    obtain ⟨k, hk, rfl, rfl, rfl⟩ := hrel
    by_cases hlt : k < N
    · obtain ⟨ha, hb⟩ := Hc.out.1 k hlt
      have h1 := Lib.hid (rfirst_step k (by omega))
      have h2 := Lib.hid (p4_step k (by omega))
      generalize ((4 ^ k : Nat) : Int) = U at *
      go_wp2
      go_round
      case rel => exact ⟨k + 1, by omega, by rw [h2.out], by rw [h1.out], by go_num⟩
      case measure => simp [intOf]; omega
    · obtain rfl : k = N := by omega
      rcases Hc.out.2.1 with ⟨ha, hb⟩ | ha
      · subst hb
        go_wp2
        go_ret
        exact ⟨rfl, rfl⟩
      · go_wp2
        go_ret
        exact ⟨rfl, rfl⟩

/-! ### Which places are valid -/
def okp (z x y : Int) : Prop := 0 ≤ z ∧ z ≤ 30 ∧ 0 ≤ x ∧ x < 2 ^ z.toNat ∧ 0 ≤ y ∧ y < 2 ^ z.toNat
theorem p2_30 (k : Nat) (h : k ≤ 30) : 2 ^ k ≤ 1073741824 := by
  have := Nat.pow_le_pow_right (n := 2) (by omega) h
  have e : 2 ^ 30 = 1073741824 := by decide
  omega
theorem shl1 (k p : Nat) (h : k ≤ 30) (hp : p = 2 ^ k) : IntKind.i64.wrap ((2 : Int) ^ k) = (p : Int) := by
  have := p2_30 k h
  have e : (2 : Int) ^ k = ((2 ^ k : Nat) : Int) := by rw [Int.natCast_pow]; rfl
  rw [e, hp]
  clear e hp
  generalize 2 ^ k = m at *
  have h1 : (-9223372036854775808 : Int) ≤ (m : Int) := by omega
  have h2 : (m : Int) ≤ 9223372036854775807 := by omega
  exact IntWalk.i64_in _ ⟨h1, h2⟩

theorem right_yes (z x y : Nat) (w : World) (hz : z ≤ 30) (hx : x < 2 ^ z) (hy : y < 2 ^ z) :
    Calls Try.prog 9 #[.agg #[.int .i64 (z : Int), .int .i64 (x : Int), .int .i64 (y : Int)]] w fun e w' => e = .returned (.bool true) ∧ Below w.heap.size w w' := by
  obtain ⟨p, hp⟩ : ∃ p : Nat, p = 2 ^ z := ⟨_, rfl⟩
  have hs := shl1 z p hz hp
  rw [← hp] at hx hy
  clear hp
  have h1 : (0 : Int) ≤ (z : Int) := by omega
  have h2 : (z : Int) ≤ 30 := by omega
  have h3 : (0 : Int) ≤ (x : Int) := by omega
  have h4 : (0 : Int) ≤ (y : Int) := by omega
  go_enter Try.func9, Try.ntmps9
  go_wp2
  go_ret
  exact ⟨rfl, (Below.refl _ _).alloc (Nat.le_refl _) _⟩

theorem right_no (z x y : Int) (w : World) (h : ¬ okp z x y) :
    Calls Try.prog 9 #[.agg #[.int .i64 z, .int .i64 x, .int .i64 y]] w fun e w' => e = .returned (.bool false) ∧ Below w.heap.size w w' := by
  by_cases h1 : z < 0
  · clear h
    go_enter Try.func9, Try.ntmps9
    go_wp2
    go_ret
    exact ⟨rfl, (Below.refl _ _).alloc (Nat.le_refl _) _⟩
  have h1 : 0 ≤ z := by omega
  by_cases h2 : 30 < z
  · clear h
    go_enter Try.func9, Try.ntmps9
    go_wp2
    go_ret
    exact ⟨rfl, (Below.refl _ _).alloc (Nat.le_refl _) _⟩
  have h2 : z ≤ 30 := by omega
  obtain ⟨n, rfl⟩ := Int.eq_ofNat_of_zero_le h1
  obtain ⟨p, hp⟩ : ∃ p : Nat, p = 2 ^ n := ⟨_, rfl⟩
  have hs := shl1 n p (by omega) hp
  have hp' : ((2 : Int) ^ (n : Int).toNat) = (p : Int) := by rw [hp, Int.natCast_pow]; rfl
  unfold okp at h
  rw [hp'] at h
  clear hp hp'
  by_cases h3 : x < 0
  · clear h
    go_enter Try.func9, Try.ntmps9
    go_wp2
    go_ret
    exact ⟨rfl, (Below.refl _ _).alloc (Nat.le_refl _) _⟩
  have h3 : 0 ≤ x := by omega
  by_cases h4 : (p : Int) ≤ x
  · clear h
    go_enter Try.func9, Try.ntmps9
    go_wp2
    go_ret
    exact ⟨rfl, (Below.refl _ _).alloc (Nat.le_refl _) _⟩
  have h4 : x < p := by omega
  by_cases h5 : y < 0
  · clear h
    go_enter Try.func9, Try.ntmps9
    go_wp2
    go_ret
    exact ⟨rfl, (Below.refl _ _).alloc (Nat.le_refl _) _⟩
  have h5 : 0 ≤ y := by omega
  have h6 : ¬ y < (p : Int) := by omega
  clear h
  go_enter Try.func9, Try.ntmps9
  go_wp2
  go_ret
  exact ⟨rfl, (Below.refl _ _).alloc (Nat.le_refl _) _⟩
end Go.Proofs.Ytnghefakcocchaa
