/- Walks over layer 11: bit, turn, quarter. -/
import Derived.Test.YtnghefakcocchaaHilbParent
namespace Go.Proofs.Ytnghefakcocchaa
open Go.RowKit Hilb
set_option linter.unusedVariables false

theorem and_pow (x n : Nat) : x &&& 2 ^ n = 2 ^ n * (x / 2 ^ n % 2) := by
  have h2 : x / 2 ^ n % 2 = 0 ∨ x / 2 ^ n % 2 = 1 := by omega
  have hb : x.testBit n = decide (x / 2 ^ n % 2 = 1) := Nat.testBit_eq_decide_div_mod_eq
  apply Nat.eq_of_testBit_eq
  intro i
  rw [Nat.testBit_and, Nat.testBit_two_pow]
  rcases h2 with h | h
  · rw [h, Nat.mul_zero, Nat.zero_testBit]
    rw [h] at hb
    by_cases e : n = i
    · subst e; simp [hb]
    · simp [e]
  · rw [h, Nat.mul_one, Nat.testBit_two_pow]
    rw [h] at hb
    by_cases e : n = i
    · subst e; simp [hb]
    · simp [e]
theorem i64_small (n : Nat) (h : n < 9223372036854775808) : IntKind.i64.wrap (n : Int) = n := IntWalk.i64_in _ ⟨by omega, by omega⟩
theorem i64_and (a b : Nat) (ha : a < 4611686018427387904) (hb : b < 4611686018427387904) : bits .and .i64 (a : Int) (b : Int) = ((a &&& b : Nat) : Int) :=
  (bits_nat .i64 62 (by decide) (fun n h0 h1 => IntWalk.i64_in n ⟨by omega, by omega⟩) a b ha hb).1

theorem bit_any (x n s : Nat) (w : World) (hx : x < 1073741824) (hn : n ≤ 30) (hs : s = 2 ^ n) :
    Calls Try.prog 18 #[.int .i64 (x : Int), .int .i64 (s : Int)] w fun e w' => e = .returned (.int .i64 (x / 2 ^ n % 2 : Nat)) ∧ w = w' := by
  have hp := p2_30 n hn
  have h2 := p2 n
  have hb : bits .and .i64 (x : Int) (s : Int) = ((2 ^ n * (x / 2 ^ n % 2) : Nat) : Int) := by
    rw [i64_and x s (by omega) (by omega), hs, and_pow]
  have hc : x / 2 ^ n % 2 = 0 ∨ x / 2 ^ n % 2 = 1 := by omega
  rcases hc with hc | hc
  · rw [hc, Nat.mul_zero] at hb
    rw [hc]
    clear hs hp h2 hc
    go_enter Try.func18, Try.ntmps18
    go_wp2
    go_ret
    exact ⟨rfl, rfl⟩
  · rw [hc, Nat.mul_one] at hb
    rw [hc]
    generalize 2 ^ n = m at *
    have hne : (bits .and .i64 (x : Int) (s : Int) == 0) = false := by rw [hb]; simp; omega
    clear hb hs hp h2 hc
    go_enter Try.func18, Try.ntmps18
    go_wp2
    go_ret
    exact ⟨rfl, rfl⟩

/-- What turn hands back: the coordinates are not brought below s where they stay. -/
def trnU (s x y a b : Nat) : Nat × Nat := if b = 1 then (x, y) else if a = 1 then (s - 1 - y % s, s - 1 - x % s) else (y, x)
theorem trnU_mod {s : Nat} (hs : 0 < s) (x y a b : Nat) : (trnU s x y a b).1 % s = (trn s x y a b).1 ∧ (trnU s x y a b).2 % s = (trn s x y a b).2 := by
  have h1 := Nat.mod_lt x hs
  have h2 := Nat.mod_lt y hs
  unfold trnU trn
  split
  · exact ⟨rfl, rfl⟩
  · split
    · exact ⟨Nat.mod_eq_of_lt (by simp only; omega), Nat.mod_eq_of_lt (by simp only; omega)⟩
    · exact ⟨rfl, rfl⟩
theorem trnU_lt {s m : Nat} (hs : 0 < s) (hsm : s ≤ m) (x y a b : Nat) (hx : x < m) (hy : y < m) : (trnU s x y a b).1 < m ∧ (trnU s x y a b).2 < m := by
  unfold trnU
  split
  · exact ⟨hx, hy⟩
  · split
    · exact ⟨by simp only; omega, by simp only; omega⟩
    · exact ⟨hy, hx⟩

theorem turn_flip (y s : Nat) (hs : 0 < s) (hs2 : s ≤ 1073741824) : wrap64 ((s : Int) - 1 - (y : Int) % (s : Int)) = ((s - 1 - y % s : Nat) : Int) := by
  have h := Nat.mod_lt y hs
  rw [show (y : Int) % (s : Int) = ((y % s : Nat) : Int) from rfl]
  generalize y % s = m at *
  rw [IntWalk.wrap64_in _ ⟨by omega, by omega⟩]
  omega

theorem turn_any (x y s a b : Nat) (w : World) (hx : x < 1073741824) (hy : y < 1073741824) (hs : 0 < s) (hs2 : s ≤ 1073741824) (ha : a < 2) (hb : b < 2) :
    Calls Try.prog 19 #[.int .i64 (x : Int), .int .i64 (y : Int), .int .i64 (s : Int), .int .i64 (a : Int), .int .i64 (b : Int)] w
      fun e w' => e = .returned (.tuple #[.int .i64 ((trnU s x y a b).1 : Nat), .int .i64 ((trnU s x y a b).2 : Nat)]) ∧ ∃ n, w' = w.drewN n := by
  have hb' : b = 0 ∨ b = 1 := by omega
  have ha' : a = 0 ∨ a = 1 := by omega
  have hsz : ((s : Int) == 0) = false := by simp; omega
  have hs0 : (0 : Int) < (s : Int) := by omega
  rcases hb' with rfl | rfl
  · rcases ha' with rfl | rfl
    · go_enter Try.func19, Try.ntmps19
      go_wp2
      go_ret2
      exact ⟨rfl, 0, rfl⟩
    · go_enter Try.func19, Try.ntmps19
      go_wp2
      go_quiet (fail)
      go_wp2
      go_ret2
      exact ⟨ret_ints (turn_flip y s hs hs2) (turn_flip x s hs hs2), _, rfl⟩
  · go_enter Try.func19, Try.ntmps19
    go_wp2
    go_ret2
    exact ⟨rfl, 0, rfl⟩
end Go.Proofs.Ytnghefakcocchaa
