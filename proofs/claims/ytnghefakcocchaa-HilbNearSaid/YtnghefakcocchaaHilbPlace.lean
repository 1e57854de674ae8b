/- Walks over layer 11: the document's Right, and Parent twice. -/
import Derived.Test.YtnghefakcocchaaHilbFirst
import Derived.Deep.RegionHeld3
import Derived.Deep.DrawnRows
import Derived.Deep.QuietTactic
import Derived.BigQuiet
import Derived.WalkSmall
namespace Go.Proofs.Ytnghefakcocchaa
open Go.RowKit Hilb
set_option linter.unusedVariables false
attribute [local go_sem ↓] Go.wp_at_zero Go.wp_at_succ

theorem power_any (z : Nat) (w : World) (hz : z ≤ 30) :
    Calls Try.prog 20 #[.int .i64 (z : Int)] w fun e w' => e = .returned (.int .i64 (2 ^ z : Nat)) ∧ w = w' := by
  go_enter Try.func20, Try.ntmps20
  go_wp2
  go_loop [3, 4] (fun p i => ∃ k : Nat, k ≤ z ∧ p = .int .i64 (2 ^ k : Nat) ∧ i = .int .i64 k) (fun _ i => z - (intOf i).toNat)
  case atStart => exact ⟨0, by omega, rfl, rfl⟩
  case round =>
    obtain ⟨k, hk, rfl, rfl⟩ := hrel
    by_cases hlt : k < z
    · have hp := p2_30 k (by omega)
      have hs : Hid ((2 ^ (k + 1) : Nat) = 2 ^ k * 2) := Nat.pow_succ 2 k
      generalize 2 ^ k = p at *
      have hpi : ((p : Nat) : Int) ≤ 1073741824 := by omega
      go_wp2
      go_round
      case rel => exact ⟨k + 1, by omega, by rw [hs.out]; go_num, by go_num⟩
      case measure => simp [intOf]; omega
    · obtain rfl : k = z := by omega
      go_wp2
      go_ret
      exact ⟨rfl, rfl⟩

theorem keepP {w w1 w2 : World} {g : Nat} {a b c : Value} (hb : Below w1.heap.size w1 w2) (h : w1.cell? ⟨g, 0, none⟩ = some a ∧ w1.cell? ⟨g, 1, none⟩ = some b ∧ w1.cell? ⟨g, 2, none⟩ = some c ∧ Below w.heap.size w w1 ∧ g < w1.heap.size) :
    w2.cell? ⟨g, 0, none⟩ = some a ∧ w2.cell? ⟨g, 1, none⟩ = some b ∧ w2.cell? ⟨g, 2, none⟩ = some c ∧ Below w.heap.size w w2 ∧ g < w2.heap.size :=
  ⟨(hb.cell h.2.2.2.2).trans h.1, (hb.cell h.2.2.2.2).trans h.2.1, (hb.cell h.2.2.2.2).trans h.2.2.1, h.2.2.2.1.trans (hb.mono h.2.2.2.1.size), Nat.lt_of_lt_of_le h.2.2.2.2 hb.size⟩

theorem boxS (w : World) (a b c : Value) (t : TypeId) : (w.alloc (.cells #[a, b, c] t)).drew.cell? ⟨w.heap.size, 0, none⟩ = some a ∧ (w.alloc (.cells #[a, b, c] t)).drew.cell? ⟨w.heap.size, 1, none⟩ = some b ∧
    (w.alloc (.cells #[a, b, c] t)).drew.cell? ⟨w.heap.size, 2, none⟩ = some c ∧ Below w.heap.size w (w.alloc (.cells #[a, b, c] t)).drew ∧ w.heap.size < (w.alloc (.cells #[a, b, c] t)).drew.heap.size := by
  have h := fun i => (Whole.new w t #[a, b, c]).cell i
  exact ⟨h 0, h 1, h 2, ((Below.refl _ _).alloc (Nat.le_refl _) _).drew, by simp⟩

theorem rright_yes (z x y : Nat) (w : World) (hz : z ≤ 30) (hx : x < 2 ^ z) (hy : y < 2 ^ z) :
    Calls Try.prog 10 #[.agg #[.int .i64 (z : Int), .int .i64 (x : Int), .int .i64 (y : Int)]] w fun e w' => e = .returned (.bool true) ∧ Below w.heap.size w w' := by
  obtain ⟨p, hp⟩ : ∃ p : Nat, p = 2 ^ z := ⟨_, rfl⟩
  have hpow := fun W => Lib.hid (power_any z W hz)
  rw [← hp] at hx hy hpow
  have Hpow := Lib.hid hpow; clear hpow
  clear hp
  have h1 : (0 : Int) ≤ (z : Int) := by omega
  have h2 : (z : Int) ≤ 30 := by omega
  have h3 : (0 : Int) ≤ (x : Int) := by omega
  have h4 : (0 : Int) ≤ (y : Int) := by omega
  go_enter Try.func10, Try.ntmps10
  go_wp2
  go_region_held3 (fun w' => w'.cell? ⟨w.heap.size, 0, none⟩ = some (.int .i64 (z : Int)) ∧ w'.cell? ⟨w.heap.size, 1, none⟩ = some (.int .i64 (x : Int)) ∧ w'.cell? ⟨w.heap.size, 2, none⟩ = some (.int .i64 (y : Int)) ∧ Below w.heap.size w w' ∧ w.heap.size < w'.heap.size)
    (first | exact boxS _ _ _ _ _ | assumption)
    (first | (go_at_call 20; refine ((Hpow.out _).out).mono ?_; rintro e w' ⟨rfl, rfl⟩))
  go_wp2
  go_ret
  exact ⟨rfl, by rename_i h; exact h.2.2.2.1⟩

set_option maxHeartbeats 1000000 in
theorem rright_no (z x y : Int) (w : World) (h : ¬ okp z x y) :
    Calls Try.prog 10 #[.agg #[.int .i64 z, .int .i64 x, .int .i64 y]] w fun e w' => e = .returned (.bool false) ∧ Below w.heap.size w w' := by
  by_cases h1 : z < 0
  · clear h
    have h1' : decide (0 ≤ z) = false := by simp; omega
    go_enter Try.func10, Try.ntmps10
    go_wp2
    go_quiet (fail)
    go_wp2
    go_ret
    exact ⟨rfl, below_drewN ((Below.refl _ _).alloc (Nat.le_refl _) _) _⟩
  have h1 : 0 ≤ z := by omega
  by_cases h2 : 30 < z
  · clear h
    have h2' : decide (z ≤ 30) = false := by simp; omega
    go_enter Try.func10, Try.ntmps10
    go_wp2
    go_quiet (fail)
    go_wp2
    go_ret
    exact ⟨rfl, below_drewN ((Below.refl _ _).alloc (Nat.le_refl _) _) _⟩
  have h2 : z ≤ 30 := by omega
  by_cases h3 : x < 0
  · clear h
    have h3' : decide (0 ≤ x) = false := by simp; omega
    go_enter Try.func10, Try.ntmps10
    go_wp2
    go_quiet (fail)
    go_wp2
    go_ret
    exact ⟨rfl, below_drewN ((Below.refl _ _).alloc (Nat.le_refl _) _) _⟩
  have h3 : 0 ≤ x := by omega
  by_cases h5 : y < 0
  · clear h
    have h5' : decide (0 ≤ y) = false := by simp; omega
    go_enter Try.func10, Try.ntmps10
    go_wp2
    go_quiet (fail)
    go_wp2
    go_ret
    exact ⟨rfl, below_drewN ((Below.refl _ _).alloc (Nat.le_refl _) _) _⟩
  have h5 : 0 ≤ y := by omega
  obtain ⟨n, rfl⟩ := Int.eq_ofNat_of_zero_le h1
  have hpow := fun W => Lib.hid (power_any n W (by omega))
  obtain ⟨p, hp⟩ : ∃ p : Nat, p = 2 ^ n := ⟨_, rfl⟩
  have hp' : ((2 : Int) ^ (n : Int).toNat) = (p : Int) := by rw [hp, Int.natCast_pow]; rfl
  unfold okp at h
  rw [hp'] at h
  rw [← hp] at hpow
  have Hpow := Lib.hid hpow; clear hpow
  clear hp hp'
  by_cases h4 : (p : Int) ≤ x
  · clear h
    have h4' : decide (x < (p : Int)) = false := by simp; omega
    clear h4
    go_enter Try.func10, Try.ntmps10
    go_wp2
    go_quiet ((go_at_call 20; exact Calls.quiet_of_same (((Hpow.out _).out).mono fun _ _ h => ⟨h.1, h.2.symm⟩)))
    go_wp2
    go_ret
    exact ⟨rfl, below_drewN ((Below.refl _ _).alloc (Nat.le_refl _) _) _⟩
  have h4 : x < p := by omega
  have h6 : decide (y < (p : Int)) = false := by simp; omega
  clear h
  go_enter Try.func10, Try.ntmps10
  go_wp2
  go_quiet ((go_at_call 20; exact Calls.quiet_of_same (((Hpow.out _).out).mono fun _ _ h => ⟨h.1, h.2.symm⟩)))
  go_wp2
  go_ret
  exact ⟨rfl, below_drewN ((Below.refl _ _).alloc (Nat.le_refl _) _) _⟩
end Go.Proofs.Ytnghefakcocchaa
