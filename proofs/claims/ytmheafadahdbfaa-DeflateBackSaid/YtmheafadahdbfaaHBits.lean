/- Walks over layer 1: the writer's check, Bits, Turned. -/
import Derived.Test.YtmheafadahdbfaaHPut
namespace Go.Proofs.Ytmheafadahdbfaa
open Go.RowKit Bit
set_option linter.unusedVariables false

theorem check_ok (g n : Nat) (w : World) (hn : n ≤ 32) : Calls Try.prog 58 #[.pointer (some ⟨g, 0, none⟩), .int .i64 (n : Int)] w
    fun e w' => e = .returned (.int .i64 0) ∧ w = w' := by
  have h1 : ¬ ((n : Int) < 0) := by omega
  have h2 : ¬ (32 < n) := by omega
  go_enter Try.func58, Try.ntmps58
  go_wp2_with fail
  go_ret
  exact ⟨rfl, rfl⟩
theorem check_nil (n : Int) (w : World) (hn : -9223372036854775808 ≤ n ∧ n < 9223372036854775808) : Calls Try.prog 58 #[.pointer none, .int .i64 n] w
    fun e w' => e = .returned (.int .i64 7) ∧ w = w' := by
  go_enter Try.func58, Try.ntmps58
  go_wp2_with fail
  go_ret
  exact ⟨rfl, rfl⟩

/-- What the writer holds and has touched since the world w. -/
def Grew (w : World) (g : Nat) (v : Value) (M m : Nat) (W : World) : Prop :=
  ∃ v', Wr W g v' M m ∧ Only (touch g v) w W ∧ (v'.ownBlock = v.ownBlock ∨ ∃ k, v'.ownBlock = some k ∧ w.heap.size ≤ k)

theorem Grew.start {w : World} {g : Nat} {v : Value} {N n : Nat} (h : Wr w g v N n) : Grew w g v N n w := ⟨v, h, Only.refl _ _, .inl rfl⟩

theorem Grew.next {w W W' : World} {g : Nat} {v v' v'' : Value} {M m : Nat} (ho : Only (touch g v) w W) (hat : v'.ownBlock = v.ownBlock ∨ ∃ k, v'.ownBlock = some k ∧ w.heap.size ≤ k)
    (h : Wr W' g v'' M m) (ho' : Only (touch g v') W W') (hat' : v''.ownBlock = v'.ownBlock ∨ ∃ k, v''.ownBlock = some k ∧ W.heap.size ≤ k) : Grew w g v M m W' := by
  refine ⟨v'', h, ho.trans ho' ?_, ?_⟩
  · rintro b hb (e | e)
    · exact .inl e
    · rcases hat with h1 | ⟨k, h1, h2⟩
      · exact .inr (by rw [← h1]; exact e)
      · rw [h1] at e; injection e with e; omega
  · rcases hat' with e | ⟨k, e, hk⟩
    · rcases hat with h1 | ⟨k, h1, h2⟩
      · exact .inl (by rw [e, h1])
      · exact .inr ⟨k, by rw [e, h1], h2⟩
    · exact .inr ⟨k, e, Nat.le_trans ho.size hk⟩

/-- The m low bits of V, the highest of them first, as a number: its first k bits. -/
def turned (V m : Nat) : Nat → Nat
  | 0 => 0
  | k + 1 => turned V m k + V / 2 ^ (m - 1 - k) % 2 * 2 ^ k
theorem turned_step (N n V m k : Nat) : N + turned V m k * 2 ^ n + V / 2 ^ (m - 1 - k) % 2 * 2 ^ (n + k) = N + turned V m (k + 1) * 2 ^ n := by
  simp only [turned]
  rw [Nat.add_mul, Nat.pow_add, Nat.add_assoc, Nat.mul_assoc, Nat.mul_comm (2 ^ n)]

set_option maxHeartbeats 2000000 in
theorem wturned_ok (g N n V m : Nat) (v : Value) (w : World) (h : Wr w g v N n) (hn : n < 1000000000000) (hV : V < 4294967296) (hm : m ≤ 32) :
    Calls Try.prog 44 #[.pointer (some ⟨g, 0, none⟩), .int .u32 (V : Int), .int .i64 (m : Int)] w
      fun e w' => e = .returned (.int .i64 0) ∧ Grew w g v (N + turned V m m * 2 ^ n) (n + m) w' := by
  go_enter Try.func44, Try.ntmps44
  go_wp2_with (go_at_call 58; refine (check_ok g m _ hm).mono ?_; rintro e w' ⟨rfl, rfl⟩)
  go_loopw [16] (fun i W => ∃ k : Nat, k ≤ m ∧ i = .int .i64 (k : Int) ∧ Grew w g v (N + turned V m k * 2 ^ n) (n + k) W) (fun i _ => m - (intOf i).toNat)
  case atStart => exact ⟨0, by omega, rfl, by simpa [turned] using Grew.start h⟩
  case round =>
    obtain ⟨k, hk, rfl, v', hw, ho, hat⟩ := hrel
    by_cases hlt : k < m
    · obtain ⟨j, hj⟩ : ∃ j, j = m - 1 - k := ⟨_, rfl⟩
      have hVk : V / 2 ^ j < 4294967296 := Nat.lt_of_le_of_lt (Nat.div_le_self _ _) hV
      have hp := put_any g (N + turned V m k * 2 ^ n) (n + k) (V / 2 ^ j) v' _ hw (by omega) hVk
      rw [hj, turned_step, ← hj, Int.natCast_ediv, Int.natCast_pow] at hp
      have hji : (m : Int) - 1 - (k : Int) = (j : Int) := by omega
      clear hj
      go_wp2_with (go_at_call 59; refine hp.mono ?_; rintro e w' ⟨rfl, v'', hw', ho', hat'⟩)
      go_roundw
      case rel => exact ⟨k + 1, hlt, by go_num, Grew.next ho hat hw' ho' hat'⟩
      case measure => simp [intOf]; omega
    · obtain rfl : k = m := by omega
      go_wp2_with fail
      go_ret
      exact ⟨rfl, v', hw, ho, hat⟩
end Go.Proofs.Ytmheafadahdbfaa
