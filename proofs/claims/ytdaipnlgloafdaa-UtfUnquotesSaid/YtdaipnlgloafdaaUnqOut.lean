/- Walks over layer 15: Unquote's early ways out. -/
import Derived.Test.YtdaipnlgloafdaaUnqAll
namespace Go.Proofs.Ytdaipnlgloafdaa
open Go.RowKit Utf
set_option linter.unusedVariables false
set_option maxRecDepth 100000

def OutPost (w : World) (r : Int) (e : Ending) (w' : World) : Prop := e = .returned (.tuple #[.string ⟨#[]⟩, .int .i64 0, .int .i64 r]) ∧ w = w'
set_option maxHeartbeats 2000000 in
theorem unquote_neg (b : ByteArray) (a : Int) (w : World) (ha : a < 0) : Calls Try.prog 13 #[.string b, .int .i64 a] w (OutPost w 8) := by
  have q1 : decide (a < 0) = true := decide_eq_true ha
  clear ha
  go_enter Try.func13, Try.ntmps13
  go_wp2_with fail
  go_ret3
  exact ⟨rfl, rfl⟩
set_option maxHeartbeats 2000000 in
theorem unquote_far (b : ByteArray) (a : Int) (w : World) (h0 : 0 ≤ a) (ha : (b.size : Int) < a) : Calls Try.prog 13 #[.string b, .int .i64 a] w (OutPost w 8) := by
  have q1 : decide (a < 0) = false := decide_eq_false (by omega)
  have q2 : decide ((b.size : Int) < a) = true := decide_eq_true ha
  clear ha h0
  go_enter Try.func13, Try.ntmps13
  go_wp2_with fail
  go_ret3
  exact ⟨rfl, rfl⟩
set_option maxHeartbeats 2000000 in
theorem unquote_at_end (b : ByteArray) (w : World) : Calls Try.prog 13 #[.string b, .int .i64 (b.size : Int)] w (OutPost w 2) := by
  go_enter Try.func13, Try.ntmps13
  go_wp2_with fail
  go_ret3
  exact ⟨rfl, rfl⟩
set_option maxHeartbeats 2000000 in
theorem unquote_none (b : ByteArray) (A c : Nat) (w : World) (hA : A < b.size) (hq : (bs b).getD A 0 = c) (hc : c ≠ 34) : Calls Try.prog 13 #[.string b, .int .i64 (A : Int)] w (OutPost w 3) := by
  have hb0 : (b[A]'hA).toNat = c := by rw [bs_get]; exact hq
  have n1 : decide ((A : Int) < 0) = false := decide_eq_false (by omega)
  have n2 : decide (b.size < A) = false := decide_eq_false (by omega)
  have n3 : ((A : Int) == (b.size : Int)) = false := beq_eq_false_iff_ne.mpr (by omega)
  have n4 : ((c : Int) == 34) = false := beq_eq_false_iff_ne.mpr (by omega)
  clear hq hc
  go_enter Try.func13, Try.ntmps13
  go_wp2_with fail
  go_ret3
  exact ⟨rfl, rfl⟩
end Go.Proofs.Ytdaipnlgloafdaa
