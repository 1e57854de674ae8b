/- Walks over layer 15: Hex, second. -/
import Derived.Test.YtdaipnlgloafdaaU8
import Derived.Test.YtdaipnlgloafdaaStr
import Derived.Test.YtdaipnlgloafdaaUtfMath
namespace Go.Proofs.Ytdaipnlgloafdaa
open Go.RowKit Utf
set_option linter.unusedVariables false
set_option maxRecDepth 100000

theorem code_any (n : Int) (w : World) : Calls Try.prog 14 #[.int .i64 n] w fun e w' => e = .returned (.int .i64 n) ∧ w = w' := by
  go_enter Try.func14, Try.ntmps14
  go_wp2_with fail
  go_ret
  exact ⟨rfl, rfl⟩

/-- The value of a hexadecimal digit. -/
def hexN (c : Nat) : Int := if 48 ≤ c ∧ c ≤ 57 then (c : Int) - 48 else if 97 ≤ c ∧ c ≤ 102 then (c : Int) - 87 else if 65 ≤ c ∧ c ≤ 70 then (c : Int) - 55 else -1

theorem hex_any (c : Nat) (w : World) (hc : c < 256) : Calls Try.prog 9 #[.int .u8 (c : Int)] w fun e w' => e = .returned (.int .i64 (hexN c)) ∧ w = w' := by
  rcases (show (48 ≤ c ∧ c ≤ 57) ∨ (97 ≤ c ∧ c ≤ 102) ∨ (65 ≤ c ∧ c ≤ 70) ∨ c < 48 ∨ (57 < c ∧ c < 65) ∨ (70 < c ∧ c < 97) ∨ 102 < c by omega) with H | H | H | H | H | H | H
  · have e : Hid (hexN c = (c : Int) - 48) := by show _ = _; unfold hexN; repeat (first | rw [if_pos (by omega)] | rw [if_neg (by omega)])
    have g0 : decide ((48 : Int) ≤ (c : Int)) = true := decide_eq_true (by omega)
    have g1 : decide ((c : Int) ≤ 57) = true := decide_eq_true (by omega)
    have HH := Lib.hid H
    clear H
    go_enter Try.func9, Try.ntmps9
    go_wp2_with fail
    go_ret
    exact ⟨ret_int (by rw [e.out]; first | done | rfl | (have := HH.out; omega)), rfl⟩
  · have e : Hid (hexN c = (c : Int) - 87) := by show _ = _; unfold hexN; repeat (first | rw [if_pos (by omega)] | rw [if_neg (by omega)])
    have g0 : decide ((48 : Int) ≤ (c : Int)) = true := decide_eq_true (by omega)
    have g1 : decide ((c : Int) ≤ 57) = false := decide_eq_false (by omega)
    have g2 : decide ((97 : Int) ≤ (c : Int)) = true := decide_eq_true (by omega)
    have g3 : decide ((c : Int) ≤ 102) = true := decide_eq_true (by omega)
    have HH := Lib.hid H
    clear H
    go_enter Try.func9, Try.ntmps9
    go_wp2_with fail
    go_ret
    exact ⟨ret_int (by rw [e.out]; first | done | rfl | (have := HH.out; omega)), rfl⟩
  · have e : Hid (hexN c = (c : Int) - 55) := by show _ = _; unfold hexN; repeat (first | rw [if_pos (by omega)] | rw [if_neg (by omega)])
    have g0 : decide ((48 : Int) ≤ (c : Int)) = true := decide_eq_true (by omega)
    have g1 : decide ((c : Int) ≤ 57) = false := decide_eq_false (by omega)
    have g2 : decide ((97 : Int) ≤ (c : Int)) = false := decide_eq_false (by omega)
    have g4 : decide ((65 : Int) ≤ (c : Int)) = true := decide_eq_true (by omega)
    have g5 : decide ((c : Int) ≤ 70) = true := decide_eq_true (by omega)
    have HH := Lib.hid H
    clear H
    go_enter Try.func9, Try.ntmps9
    go_wp2_with fail
    go_ret
    exact ⟨ret_int (by rw [e.out]; first | done | rfl | (have := HH.out; omega)), rfl⟩
  · have e : Hid (hexN c = -1) := by show _ = _; unfold hexN; repeat (first | rw [if_pos (by omega)] | rw [if_neg (by omega)])
    have g0 : decide ((48 : Int) ≤ (c : Int)) = false := decide_eq_false (by omega)
    have g2 : decide ((97 : Int) ≤ (c : Int)) = false := decide_eq_false (by omega)
    have g4 : decide ((65 : Int) ≤ (c : Int)) = false := decide_eq_false (by omega)
    have HH := Lib.hid H
    clear H
    go_enter Try.func9, Try.ntmps9
    go_wp2_with fail
    go_ret
    exact ⟨ret_int (by rw [e.out]; first | done | rfl | (have := HH.out; omega)), rfl⟩
  · have e : Hid (hexN c = -1) := by show _ = _; unfold hexN; repeat (first | rw [if_pos (by omega)] | rw [if_neg (by omega)])
    have g0 : decide ((48 : Int) ≤ (c : Int)) = true := decide_eq_true (by omega)
    have g1 : decide ((c : Int) ≤ 57) = false := decide_eq_false (by omega)
    have g2 : decide ((97 : Int) ≤ (c : Int)) = false := decide_eq_false (by omega)
    have g4 : decide ((65 : Int) ≤ (c : Int)) = false := decide_eq_false (by omega)
    have HH := Lib.hid H
    clear H
    go_enter Try.func9, Try.ntmps9
    go_wp2_with fail
    go_ret
    exact ⟨ret_int (by rw [e.out]; first | done | rfl | (have := HH.out; omega)), rfl⟩
  · have e : Hid (hexN c = -1) := by show _ = _; unfold hexN; repeat (first | rw [if_pos (by omega)] | rw [if_neg (by omega)])
    have g0 : decide ((48 : Int) ≤ (c : Int)) = true := decide_eq_true (by omega)
    have g1 : decide ((c : Int) ≤ 57) = false := decide_eq_false (by omega)
    have g2 : decide ((97 : Int) ≤ (c : Int)) = false := decide_eq_false (by omega)
    have g4 : decide ((65 : Int) ≤ (c : Int)) = true := decide_eq_true (by omega)
    have g5 : decide ((c : Int) ≤ 70) = false := decide_eq_false (by omega)
    have HH := Lib.hid H
    clear H
    go_enter Try.func9, Try.ntmps9
    go_wp2_with fail
    go_ret
    exact ⟨ret_int (by rw [e.out]; first | done | rfl | (have := HH.out; omega)), rfl⟩
  · have e : Hid (hexN c = -1) := by show _ = _; unfold hexN; repeat (first | rw [if_pos (by omega)] | rw [if_neg (by omega)])
    have g0 : decide ((48 : Int) ≤ (c : Int)) = true := decide_eq_true (by omega)
    have g1 : decide ((c : Int) ≤ 57) = false := decide_eq_false (by omega)
    have g2 : decide ((97 : Int) ≤ (c : Int)) = true := decide_eq_true (by omega)
    have g3 : decide ((c : Int) ≤ 102) = false := decide_eq_false (by omega)
    have g4 : decide ((65 : Int) ≤ (c : Int)) = true := decide_eq_true (by omega)
    have g5 : decide ((c : Int) ≤ 70) = false := decide_eq_false (by omega)
    have HH := Lib.hid H
    clear H
    go_enter Try.func9, Try.ntmps9
    go_wp2_with fail
    go_ret
    exact ⟨ret_int (by rw [e.out]; first | done | rfl | (have := HH.out; omega)), rfl⟩

def Sec (c : Nat) (w : World) (e : Ending) (w' : World) : Prop := e = .returned (.tuple #[.int .u8 ((sec c).1 : Int), .int .u8 ((sec c).2.1 : Int), .int .i64 ((sec c).2.2 : Int)]) ∧ w = w'

theorem second_any (c : Nat) (w : World) (hc : c < 256) : Calls Try.prog 22 #[.int .u8 (c : Int)] w (Sec c w) := by
  rcases (show c ≤ 127 ∨ (127 < c ∧ c < 194) ∨ 244 < c ∨ (194 ≤ c ∧ c ≤ 223) ∨ c = 224 ∨ c = 237 ∨ (225 ≤ c ∧ c ≤ 239 ∧ c ≠ 237) ∨ c = 240 ∨ c = 244 ∨ (241 ≤ c ∧ c ≤ 243) by omega) with H | H | H | H | H | H | H | H | H | H
  · have e : Hid (sec c = (0, 0, 1)) := by show _ = _; unfold sec; repeat (first | rw [if_pos (by omega)] | rw [if_neg (by omega)])
    have g0 : decide ((c : Int) ≤ 127) = true := decide_eq_true (by omega)
    clear H
    go_enter Try.func22, Try.ntmps22
    go_wp2_with fail
    go_ret3
    exact ⟨by rw [e.out]; rfl, rfl⟩
  · have e : Hid (sec c = (0, 0, 0)) := by show _ = _; unfold sec; repeat (first | rw [if_pos (by omega)] | rw [if_neg (by omega)])
    have g0 : decide ((c : Int) ≤ 127) = false := decide_eq_false (by omega)
    have g1 : decide ((c : Int) < 194) = true := decide_eq_true (by omega)
    clear H
    go_enter Try.func22, Try.ntmps22
    go_wp2_with fail
    go_ret3
    exact ⟨by rw [e.out]; rfl, rfl⟩
  · have e : Hid (sec c = (0, 0, 0)) := by show _ = _; unfold sec; repeat (first | rw [if_pos (by omega)] | rw [if_neg (by omega)])
    have g0 : decide ((c : Int) ≤ 127) = false := decide_eq_false (by omega)
    have g1 : decide ((c : Int) < 194) = false := decide_eq_false (by omega)
    have g2 : decide ((244 : Int) < (c : Int)) = true := decide_eq_true (by omega)
    clear H
    go_enter Try.func22, Try.ntmps22
    go_wp2_with fail
    go_ret3
    exact ⟨by rw [e.out]; rfl, rfl⟩
  · have e : Hid (sec c = (128, 191, 2)) := by show _ = _; unfold sec; repeat (first | rw [if_pos (by omega)] | rw [if_neg (by omega)])
    have g0 : decide ((c : Int) ≤ 127) = false := decide_eq_false (by omega)
    have g1 : decide ((c : Int) < 194) = false := decide_eq_false (by omega)
    have g2 : decide ((244 : Int) < (c : Int)) = false := decide_eq_false (by omega)
    have g3 : decide ((c : Int) ≤ 223) = true := decide_eq_true (by omega)
    clear H
    go_enter Try.func22, Try.ntmps22
    go_wp2_with fail
    go_ret3
    exact ⟨by rw [e.out]; rfl, rfl⟩
  · have e : Hid (sec c = (160, 191, 3)) := by show _ = _; unfold sec; repeat (first | rw [if_pos (by omega)] | rw [if_neg (by omega)])
    have g0 : decide ((c : Int) ≤ 127) = false := decide_eq_false (by omega)
    have g1 : decide ((c : Int) < 194) = false := decide_eq_false (by omega)
    have g2 : decide ((244 : Int) < (c : Int)) = false := decide_eq_false (by omega)
    have g3 : decide ((c : Int) ≤ 223) = false := decide_eq_false (by omega)
    have g4 : ((c : Int) == 224) = true := by simp; omega
    clear H
    go_enter Try.func22, Try.ntmps22
    go_wp2_with fail
    go_ret3
    exact ⟨by rw [e.out]; rfl, rfl⟩
  · have e : Hid (sec c = (128, 159, 3)) := by show _ = _; unfold sec; repeat (first | rw [if_pos (by omega)] | rw [if_neg (by omega)])
    have g0 : decide ((c : Int) ≤ 127) = false := decide_eq_false (by omega)
    have g1 : decide ((c : Int) < 194) = false := decide_eq_false (by omega)
    have g2 : decide ((244 : Int) < (c : Int)) = false := decide_eq_false (by omega)
    have g3 : decide ((c : Int) ≤ 223) = false := decide_eq_false (by omega)
    have g4 : ((c : Int) == 224) = false := by simp; omega
    have g5 : ((c : Int) == 237) = true := by simp; omega
    clear H
    go_enter Try.func22, Try.ntmps22
    go_wp2_with fail
    go_ret3
    exact ⟨by rw [e.out]; rfl, rfl⟩
  · have e : Hid (sec c = (128, 191, 3)) := by show _ = _; unfold sec; repeat (first | rw [if_pos (by omega)] | rw [if_neg (by omega)])
    have g0 : decide ((c : Int) ≤ 127) = false := decide_eq_false (by omega)
    have g1 : decide ((c : Int) < 194) = false := decide_eq_false (by omega)
    have g2 : decide ((244 : Int) < (c : Int)) = false := decide_eq_false (by omega)
    have g3 : decide ((c : Int) ≤ 223) = false := decide_eq_false (by omega)
    have g4 : ((c : Int) == 224) = false := by simp; omega
    have g5 : ((c : Int) == 237) = false := by simp; omega
    have g6 : decide ((c : Int) ≤ 239) = true := decide_eq_true (by omega)
    clear H
    go_enter Try.func22, Try.ntmps22
    go_wp2_with fail
    go_ret3
    exact ⟨by rw [e.out]; rfl, rfl⟩
  · have e : Hid (sec c = (144, 191, 4)) := by show _ = _; unfold sec; repeat (first | rw [if_pos (by omega)] | rw [if_neg (by omega)])
    have g0 : decide ((c : Int) ≤ 127) = false := decide_eq_false (by omega)
    have g1 : decide ((c : Int) < 194) = false := decide_eq_false (by omega)
    have g2 : decide ((244 : Int) < (c : Int)) = false := decide_eq_false (by omega)
    have g3 : decide ((c : Int) ≤ 223) = false := decide_eq_false (by omega)
    have g4 : ((c : Int) == 224) = false := by simp; omega
    have g5 : ((c : Int) == 237) = false := by simp; omega
    have g6 : decide ((c : Int) ≤ 239) = false := decide_eq_false (by omega)
    have g7 : ((c : Int) == 240) = true := by simp; omega
    clear H
    go_enter Try.func22, Try.ntmps22
    go_wp2_with fail
    go_ret3
    exact ⟨by rw [e.out]; rfl, rfl⟩
  · have e : Hid (sec c = (128, 143, 4)) := by show _ = _; unfold sec; repeat (first | rw [if_pos (by omega)] | rw [if_neg (by omega)])
    have g0 : decide ((c : Int) ≤ 127) = false := decide_eq_false (by omega)
    have g1 : decide ((c : Int) < 194) = false := decide_eq_false (by omega)
    have g2 : decide ((244 : Int) < (c : Int)) = false := decide_eq_false (by omega)
    have g3 : decide ((c : Int) ≤ 223) = false := decide_eq_false (by omega)
    have g4 : ((c : Int) == 224) = false := by simp; omega
    have g5 : ((c : Int) == 237) = false := by simp; omega
    have g6 : decide ((c : Int) ≤ 239) = false := decide_eq_false (by omega)
    have g7 : ((c : Int) == 240) = false := by simp; omega
    have g8 : ((c : Int) == 244) = true := by simp; omega
    clear H
    go_enter Try.func22, Try.ntmps22
    go_wp2_with fail
    go_ret3
    exact ⟨by rw [e.out]; rfl, rfl⟩
  · have e : Hid (sec c = (128, 191, 4)) := by show _ = _; unfold sec; repeat (first | rw [if_pos (by omega)] | rw [if_neg (by omega)])
    have g0 : decide ((c : Int) ≤ 127) = false := decide_eq_false (by omega)
    have g1 : decide ((c : Int) < 194) = false := decide_eq_false (by omega)
    have g2 : decide ((244 : Int) < (c : Int)) = false := decide_eq_false (by omega)
    have g3 : decide ((c : Int) ≤ 223) = false := decide_eq_false (by omega)
    have g4 : ((c : Int) == 224) = false := by simp; omega
    have g5 : ((c : Int) == 237) = false := by simp; omega
    have g6 : decide ((c : Int) ≤ 239) = false := decide_eq_false (by omega)
    have g7 : ((c : Int) == 240) = false := by simp; omega
    have g8 : ((c : Int) == 244) = false := by simp; omega
    clear H
    go_enter Try.func22, Try.ntmps22
    go_wp2_with fail
    go_ret3
    exact ⟨by rw [e.out]; rfl, rfl⟩
end Go.Proofs.Ytdaipnlgloafdaa
