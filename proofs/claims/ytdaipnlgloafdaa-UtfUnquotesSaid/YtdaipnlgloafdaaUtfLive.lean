/- Walks over layer 15: live. -/
import Derived.Test.YtdaipnlgloafdaaUtfPoint
import Derived.Test.YtdaipnlgloafdaaHeld
namespace Go.Proofs.Ytdaipnlgloafdaa
open Go.RowKit Utf
set_option linter.unusedVariables false
set_option maxRecDepth 100000

theorem str_own {w : World} {base : Nat} {v : Value} {l : List Nat} (h : Own8 w base v l) (hl : ∀ x ∈ l, x < 256) :
    (convert 37 9 v).run Try.prog w = .ok (.string (strOf l)) w := by
  obtain ⟨a, c, rfl, _, _, _, hN⟩ := h.nums
  exact str_of_nums w w.heap.size 37 9 5 a c l Try.underlying37 Try.underlying5 Try.underlying9 hN hl

theorem below_drawn {B : Nat} {w w' : World} (h : Below B w w') (n : Nat) : Below B w (w'.drewN n) := ⟨h.os, h.tape, h.output, h.size, h.block⟩

/-- What the live text stands for. -/
def liveT : ByteArray := ⟨#[195, 169]⟩

set_option maxHeartbeats 2000000 in
theorem unquote_live (w : World) : Calls Try.prog 13 #[.string liveS, .int .i64 0] w fun e w' => e = .returned (.tuple #[.string liveT, .int .i64 8, .int .i64 0]) ∧ Below w.heap.size w w' := by
  have Hs := Lib.hid fun g v l w => step_live g v l w
  have He := Lib.hid fun g v l w => step_end g v l w
  have Hv := Lib.hid fun W => valid_any liveT W (by decide) true 3 (by decide) (by rfl)
  have hsz : liveS.size = 8 := rfl
  have hb0 : (liveS[0]'(by decide)).toNat = 34 := rfl
  have h0 : Hid (Rdr (w.alloc (.cells #[.string liveS, .int .i64 1, .slice none 0 0] 41)) w.heap.size liveS 1 (.slice none 0 0) []) := ⟨Whole.new w _ _, Own8.nil_ _ _, by simp [Value.ownBlock]⟩
  go_enter Try.func13, Try.ntmps13
  go_wp2_with fail
  refine wp_loop_rounds 3 ?_
  rw [rounds_succ]
  go_wp2_with fail
  refine (Hs.out _ _ _ _ h0.out (by simp)).mono ?_
  rintro e W1 ⟨rfl, v1, hR1, hO1, hv1⟩
  have HR1 := Lib.hid hR1
  have hA : Below w.heap.size w (w.alloc (.cells #[.string liveS, .int .i64 1, .slice none 0 0] 41)) := (Below.refl _ _).alloc (Nat.le_refl _) _
  have HA := Lib.hid (hA.trans (hO1.below (fun b hb e => by
    rcases e with e | e
    · omega
    · simp [Value.ownBlock] at e) (by simp)))
  have Hv1 : Hid (∀ b, v1.ownBlock = some b → w.heap.size ≤ b) := fun b e => by
    rcases hv1 with e1 | ⟨k, e1, hk⟩
    · rw [e1] at e; simp [Value.ownBlock] at e
    · rw [e1] at e; injection e with e; simp at hk; omega
  clear hR1 hO1 hv1 h0 hA
  go_wp2_with fail
  rw [rounds_succ]
  go_wp2_with fail
  refine (He.out _ _ _ _ HR1.out).mono ?_
  rintro e W2 ⟨rfl, v2, hR2, hO2, hv2⟩
  have hst := str_own hR2.2.1 (by decide)
  rw [show strOf ([] ++ [195, 169]) = liveT by rfl] at hst
  have HB := Lib.hid (HA.out.trans (hO2.below (fun b hb e => by
    rcases e with e | e
    · omega
    · have := Hv1.out b e; omega) HA.out.size))
  have hst2 : ∀ n, (convert 37 9 v2).run Try.prog (W2.drewN n) = .ok (.string liveT) (W2.drewN n) := fun n => str_own (w := W2.drewN n) hR2.2.1 (by decide)
  have c1 : W2.cell? ⟨w.heap.size, 1, none⟩ = some (.int .i64 8) := hR2.1.cell 1
  have c2 : W2.cell? ⟨w.heap.size, 2, none⟩ = some v2 := hR2.1.cell 2
  clear hR2 hO2 hv2
  go_wp2_with fail
  rw [rounds_succ]
  go_wp2_with fail
  refine (Hv.out W2).mono ?_
  rintro e W3 ⟨rfl, rfl⟩
  go_wp2_with fail
  go_quiet (fail)
  go_wp2_with fail
  go_ret3
  exact ⟨rfl, below_drawn HB.out _⟩

set_option maxHeartbeats 2000000 in
theorem live_any (w : World) : Calls Try.prog 6 #[] w fun e w' => e = .returned (.bool true) ∧ Below w.heap.size w w' := by
  have hu : Hid (Calls Try.prog 13 #[.string ⟨#[34, 92, 117, 48, 48, 101, 57, 34]⟩, .int .i64 0] w fun e w' => e = .returned (.tuple #[.string ⟨#[195, 169]⟩, .int .i64 8, .int .i64 0]) ∧ Below w.heap.size w w') := unquote_live w
  have Hc := Lib.hid code_any
  go_enter Try.func6, Try.ntmps6
  go_wp2_with fail
  refine hu.out.mono ?_
  rintro e W ⟨rfl, hb⟩
  have HB := Lib.hid hb
  clear hb hu
  go_wp2_with fail
  refine (Hc.out _ _).mono ?_
  rintro e W2 ⟨rfl, rfl⟩
  go_wp2_with fail
  go_ret
  exact ⟨rfl, HB.out⟩
end Go.Proofs.Ytdaipnlgloafdaa
