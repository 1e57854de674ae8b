/- HWBits -/
import Derived.Test.YtngnhkghpnamoaaGb20
namespace Go.Proofs.Ytngnhkghpnamoaa
open Go.RowKit Bit
set_option linter.unusedVariables false
set_option maxRecDepth 100000

theorem low_step (N n V k : Nat) : N + V % 2 ^ k * 2 ^ n + V / 2 ^ k % 2 * 2 ^ (n + k) = N + V % 2 ^ (k + 1) * 2 ^ n := by
  rw [Nat.pow_succ, Nat.mod_mul, Nat.add_mul, Nat.pow_add, Nat.add_assoc]
  congr 2
  rw [Nat.mul_comm (2 ^ k) (V / 2 ^ k % 2), Nat.mul_assoc, Nat.mul_comm (2 ^ n)]

set_option maxHeartbeats 2000000 in
theorem wbits_ok (g N n V m : Nat) (v : Value) (w : World) (h : Wr w g v N n) (hn : n < 1000000000000) (hV : V < 4294967296) (hm : m ≤ 32) :
    Calls Try.prog 41 #[.pointer (some ⟨g, 0, none⟩), .int .u32 (V : Int), .int .i64 (m : Int)] w
      fun e w' => e = .returned (.int .i64 0) ∧ Grew w g v (N + V % 2 ^ m * 2 ^ n) (n + m) w' := by
  go_enter Try.func41, Try.ntmps41
  go_wp2_with (go_at_call 64; refine (check_ok g m _ hm).mono ?_; rintro e w' ⟨rfl, rfl⟩)
  go_loopw [16] (fun i W => ∃ k : Nat, k ≤ m ∧ i = .int .i64 (k : Int) ∧ Grew w g v (N + V % 2 ^ k * 2 ^ n) (n + k) W) (fun i _ => m - (intOf i).toNat)
  case atStart => exact ⟨0, by omega, rfl, by simpa [Nat.mod_one] using Grew.start h⟩
  case round =>
    obtain ⟨k, hk, rfl, v', hw, ho, hat⟩ := hrel
    by_cases hlt : k < m
    · have hVk : V / 2 ^ k < 4294967296 := Nat.lt_of_le_of_lt (Nat.div_le_self _ _) hV
      have hp := put_any g (N + V % 2 ^ k * 2 ^ n) (n + k) (V / 2 ^ k) v' _ hw (by omega) hVk
      rw [low_step] at hp
      rw [Int.natCast_ediv, Int.natCast_pow] at hp
      go_wp2_with (go_at_call 65; refine hp.mono ?_; rintro e w' ⟨rfl, v'', hw', ho', hat'⟩)
      go_roundw
      case rel => exact ⟨k + 1, hlt, by go_num, Grew.next ho hat hw' ho' hat'⟩
      case measure => simp [intOf]; omega
    · obtain rfl : k = m := by omega
      go_wp2_with fail
      go_ret
      exact ⟨rfl, v', hw, ho, hat⟩

theorem rest_any (p : Nat) (w : World) (hp : p ≤ 10000000000) : Calls Try.prog 72 #[.int .i64 (p : Int)] w fun e w' => e = .returned (.int .i64 (((8 - p % 8) % 8 : Nat) : Int)) ∧ w = w' := by
  have h : Hid (((8 : Int) - (p : Int) % 8) % 8 = (((8 - p % 8) % 8 : Nat) : Int)) := by show _ = _; omega
  go_enter Try.func72, Try.ntmps72
  go_wp2_with fail
  go_ret
  exact ⟨ret_int h.out, rfl⟩


theorem bytes_align (N n k : Nat) (hk : k = (8 - n % 8) % 8) : bytesOf N (n + k) = bytesOf N n := by
  unfold bytesOf
  rw [show (n + k + 7) / 8 = (n + 7) / 8 by omega]
set_option maxHeartbeats 1000000 in
theorem walign_any (g N n k : Nat) (v : Value) (w : World) (h : Wr w g v N n) (hn : n ≤ 10000000000) (hk : k = (8 - n % 8) % 8) :
    Calls Try.prog 47 #[.pointer (some ⟨g, 0, none⟩)] w fun e w' => e = .returned (.int .i64 (k : Int)) ∧ Wr w' g v N (n + k) ∧ Only (fun k => k = g) w w' := by
  have c1 : w.cell? ⟨g, 1, none⟩ = some (.int .i64 (n : Int)) := h.1.cell 1
  have f1 := h.1.frozen 1
  have hr := rest_any n w hn
  rw [← hk] at hr
  have Hr := Lib.hid hr
  have hk8 : k < 8 := by omega
  have Hfin : Hid (Wr (w.setCell ⟨g, 1, none⟩ (.int .i64 ((n : Int) + (k : Int)))) g v N (n + k)) := by
    obtain ⟨hW, hown, hN, hne⟩ := h
    refine ⟨?_, ?_, Nat.lt_of_lt_of_le hN (Nat.pow_le_pow_right (by omega) (by omega)), hne⟩
    · have := hW.set 1 (.int .i64 ((n : Int) + (k : Int)))
      simpa using this
    · rw [bytes_align N n k hk]
      exact own_set hown (p := ⟨g, 1, none⟩) hne _
  clear h hr hk
  go_enter Try.func47, Try.ntmps47
  go_wp2_with fail
  refine Hr.out.mono ?_
  rintro e W ⟨rfl, rfl⟩
  go_wp2_with fail
  go_ret
  exact ⟨rfl, Hfin.out, (Only.refl (fun k => k = g) w).setCell (fun _ => rfl) _⟩
end Go.Proofs.Ytngnhkghpnamoaa
