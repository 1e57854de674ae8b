/- Layer 1: the writer at bad widths, and its Align. -/
import Derived.Test.YtgglhpoofldkpaaBitReads
import Derived.Test.YtgglhpoofldkpaaAppZero
namespace Go.Proofs.Ytgglhpoofldkpaa
open Go.RowKit Bit
set_option linter.unusedVariables false
set_option maxRecDepth 100000

theorem check_bad (g : Nat) (n : Int) (w : World) (h : n < 0 ∨ 32 < n) : Calls Try.prog 28 #[.pointer (some ⟨g, 0, none⟩), .int .i64 n] w fun e w' => e = .returned (.int .i64 1) ∧ w = w' := by
  by_cases h0 : n < 0
  · clear h
    go_enter Try.func28, Try.ntmps28
    go_wp2_with fail
    go_ret
    exact ⟨rfl, rfl⟩
  · have h1 : 32 < n := by omega
    clear h
    go_enter Try.func28, Try.ntmps28
    go_wp2_with fail
    go_ret
    exact ⟨rfl, rfl⟩
theorem wbits_bad (g : Nat) (V : Nat) (n : Int) (w : World) (h : n < 0 ∨ 32 < n) : Calls Try.prog 21 #[.pointer (some ⟨g, 0, none⟩), .int .u32 (V : Int), .int .i64 n] w fun e w' => e = .returned (.int .i64 1) ∧ w = w' := by
  have hc := Lib.hid fun W => check_bad g n W h
  clear h
  go_enter Try.func21, Try.ntmps21
  go_wp2_with (go_at_call 28; refine (hc.out _).mono ?_; rintro e w' ⟨rfl, rfl⟩)
  go_ret
  exact ⟨rfl, rfl⟩
theorem wturned_bad (g : Nat) (V : Nat) (n : Int) (w : World) (h : n < 0 ∨ 32 < n) : Calls Try.prog 18 #[.pointer (some ⟨g, 0, none⟩), .int .u32 (V : Int), .int .i64 n] w fun e w' => e = .returned (.int .i64 1) ∧ w = w' := by
  have hc := Lib.hid fun W => check_bad g n W h
  clear h
  go_enter Try.func18, Try.ntmps18
  go_wp2_with (go_at_call 28; refine (hc.out _).mono ?_; rintro e w' ⟨rfl, rfl⟩)
  go_ret
  exact ⟨rfl, rfl⟩

theorem bytes_align (N n k : Nat) (hk : k = (8 - n % 8) % 8) : bytesOf N (n + k) = bytesOf N n := by
  unfold bytesOf
  rw [show (n + k + 7) / 8 = (n + 7) / 8 by omega]
set_option maxHeartbeats 1000000 in
theorem walign_any (g N n k : Nat) (v : Value) (w : World) (h : Wr w g v N n) (hn : n ≤ 100000) (hk : k = (8 - n % 8) % 8) :
    Calls Try.prog 17 #[.pointer (some ⟨g, 0, none⟩)] w fun e w' => e = .returned (.int .i64 (k : Int)) ∧ Wr w' g v N (n + k) ∧ Only (fun k => k = g) w w' := by
  have c1 : w.cell? ⟨g, 1, none⟩ = some (.int .i64 (n : Int)) := h.1.cell 1
  have f1 := h.1.frozen 1
  have hr := rest_any n w hn
  rw [← hk] at hr
  have Hr := Lib.hid hr
  have hk8 : k < 8 := by omega
  have Hfin : Hid (Wr (w.setCell ⟨g, 1, none⟩ (.int .i64 ((n : Int) + (k : Int)))) g v N (n + k)) := by
    obtain ⟨hW, hown, hN, hne⟩ := h
    refine ⟨?_, ?_, Nat.lt_of_lt_of_le hN (Nat.pow_le_pow_right (by omega) (by omega)), hne⟩
    · have := hW.set 1 (.int .i64 ((n : Int) + (k : Int)))
      simpa using this
    · rw [bytes_align N n k hk]
      exact own_set hown (p := ⟨g, 1, none⟩) hne _
  clear h hr hk
  go_enter Try.func17, Try.ntmps17
  go_wp2_with fail
  refine Hr.out.mono ?_
  rintro e W ⟨rfl, rfl⟩
  go_wp2_with fail
  go_ret
  exact ⟨rfl, Hfin.out, (Only.refl (fun k => k = g) w).setCell (fun _ => rfl) _⟩
end Go.Proofs.Ytgglhpoofldkpaa
