/- Walks over layer 15: the law of Valid and Hex. -/
import Derived.Test.YtdaipnlgloafdaaUtfLive
namespace Go.Proofs.Ytdaipnlgloafdaa
open Go.RowKit Utf
set_option linter.unusedVariables false
set_option maxRecDepth 100000

set_option maxHeartbeats 2000000 in
theorem utfValid_walk (s : ByteArray) (c : Nat) (w : World) (hs : s.size ≤ maxLen) (hc : c < 256) :
    Calls Try.prog 3 #[.string s, .int .u8 (c : Int)] w fun e w' => e = .returned (.bool true) ∧ Below w.heap.size w w' := by
  have Hl := Lib.hid live_any
  by_cases h : 1000 < s.size
  · have hq : decide ((1000 : Int) < (s.size : Int)) = true := decide_eq_true (by omega)
    go_enter Try.func3, Try.ntmps3
    go_wp2_with fail
    refine (Hl.out _).mono ?_
    rintro e W ⟨rfl, hb⟩
    have HB := Lib.hid hb
    clear hb
    go_wp2_with fail
    go_ret
    exact ⟨rfl, HB.out⟩
  · have hq : decide ((1000 : Int) < (s.size : Int)) = false := decide_eq_false (by omega)
    obtain ⟨R, hR⟩ : ∃ R, val (bs s) (s.size + 1) 0 = R := ⟨_, rfl⟩
    have Hv := Lib.hid fun W => valid_any s W (by omega) R (s.size + 1) (by omega) hR
    have Hr := Lib.hid fun W => refValid_any s W (by omega) R (s.size + 1) (by omega) hR
    have Hx := Lib.hid fun W => hex_any c W hc
    have Hy := Lib.hid fun W => refHex_any c W hc
    have hRR : (R == R) = true := by simp
    clear hR
    generalize hexN c = d at *
    go_enter Try.func3, Try.ntmps3
    go_wp2_with fail
    refine (Hv.out _).mono ?_
    rintro e W ⟨rfl, rfl⟩
    go_wp2_with fail
    refine (Hr.out _).mono ?_
    rintro e W ⟨rfl, rfl⟩
    go_wp2_with fail
    refine (Hx.out _).mono ?_
    rintro e W ⟨rfl, rfl⟩
    go_wp2_with fail
    refine (Hy.out _).mono ?_
    rintro e W ⟨rfl, rfl⟩
    go_wp2_with fail
    refine (Hl.out _).mono ?_
    rintro e W ⟨rfl, hb⟩
    have HB := Lib.hid hb
    clear hb
    go_wp2_with fail
    go_ret
    exact ⟨rfl, HB.out⟩
end Go.Proofs.Ytdaipnlgloafdaa
