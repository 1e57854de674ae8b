/- DefSym -/
import Derived.Test.YtngnhkghpnamoaaGc22
namespace Go.Proofs.Ytngnhkghpnamoaa
open Go.RowKit
set_option linter.unusedVariables false
set_option maxRecDepth 100000

def tup3 (R : Nat × Nat × Nat) : Value := .tuple #[.int .i64 (R.1 : Int), .int .i64 (R.2.1 : Int), .int .i64 (R.2.2 : Int)]
set_option maxHeartbeats 4000000 in
theorem greatest_len (n : Nat) (hn : n ≤ 100000) (w : World) : Calls Try.prog 69 #[.int .i64 (n : Int), .int .i64 257, .int .i64 285, .func (.func 70) #[] #[]] w fun e w' => e = .returned (tup3 (symR lenB lenX 257 n (lastLe lenB n 29))) ∧ w = w' := by
  obtain ⟨R, hR⟩ : ∃ R, R = lastLe lenB n 29 := ⟨_, rfl⟩
  rw [← hR]
  have HR := Lib.hid hR
  have HT := Lib.hid (fun (j : Nat) (hj : j < 29) (z : Int) (hz : z = 257 + (j : Int)) (W : World) => length_any j (by omega) z hz W)
  have Hlt := Lib.hid fun j (hj : j < 29) => lenB_lt j
  clear hR
  go_enter Try.func69, Try.ntmps69
  go_wp2_with fail
  go_loop [11] (fun s => ∃ (j : Nat) (z : Int), s = .int .i64 z ∧ z = 257 + (j : Int) - 1 ∧ j ≤ 29 ∧ Hid (lastLe lenB n j = R)) (fun s => (intOf s + 1 - 257).toNat)
  case atStart => exact ⟨29, _, rfl, by rfl, by omega, HR.out.symm⟩
  case round =>
    obtain ⟨j, z, rfl, hz, hj, hE⟩ := hrel
    rcases j with _ | j
    · have d1 : decide (257 ≤ z) = false := decide_eq_false (by omega)
      have hF : R = none := hE.out.symm
      subst hF
      clear hz
      go_wp2_with fail
      go_ret3
      exact ⟨rfl, rfl⟩
    · have d1 : decide (257 ≤ z) = true := decide_eq_true (by omega)
      have d2 : 257 ≤ z := by omega
      have HTj := Lib.hid (fun W => HT.out j (by omega) z (by omega) W)
      have hl := Hlt.out j (by omega)
      have w1 : IntKind.i64.wrap (z - 1) = z - 1 := IntWalk.i64_in _ ⟨by omega, by omega⟩
      obtain ⟨b, hb⟩ : ∃ b, b = lenB j := ⟨_, rfl⟩
      obtain ⟨x, hx⟩ : ∃ x, x = lenX j := ⟨_, rfl⟩
      rw [← hb, ← hx] at HTj
      rw [← hb] at hl
      by_cases hbn : b ≤ n
      · have d3 : decide ((b : Int) ≤ (n : Int)) = true := decide_eq_true (by omega)
        have d4 : decide (b ≤ n) = true := decide_eq_true hbn
        have hF : R = some j := by rw [← hE.out, lastLe_yes (by rw [← hb]; exact hbn)]
        subst hF
        obtain ⟨q, hq⟩ : ∃ q, q = n - b := ⟨_, rfl⟩
        have w2 : IntKind.i64.wrap ((n : Int) - (b : Int)) = (q : Int) := by rw [IntWalk.i64_in _ ⟨by omega, by omega⟩]; omega
        have w3 : (n : Int) - (b : Int) = (q : Int) := by omega
        have HV : Hid (tup3 (symR lenB lenX 257 n (some j)) = .tuple #[.int .i64 z, .int .i64 (q : Int), .int .i64 (x : Int)]) := by
          show Value.tuple #[.int .i64 ((257 + j : Nat) : Int), .int .i64 ((n - lenB j : Nat) : Int), .int .i64 ((lenX j : Nat) : Int)] = _
          rw [← hb, ← hx, ← hq, show ((257 + j : Nat) : Int) = z by omega]
        clear hb hx hq hz hbn
        go_wp2_with fail
        refine (HTj.out _).mono ?_
        rintro e W ⟨rfl, rfl⟩
        go_wp2_with fail
        go_ret3
        exact ⟨by rw [HV.out]; rfl, rfl⟩
      · have d3 : decide ((b : Int) ≤ (n : Int)) = false := decide_eq_false (by omega)
        have d4 : decide (b ≤ n) = false := decide_eq_false hbn
        have HN : Hid (lastLe lenB n j = R) := by show _ = _; rw [← hE.out, lastLe_no (by rw [← hb]; exact hbn)]
        have hz2 : z - 1 = 257 + (j : Int) - 1 := by omega
        have Hz2 := Lib.hid hz2
        clear hb hx hz hbn hz2
        go_wp2_with fail
        refine (HTj.out _).mono ?_
        rintro e W ⟨rfl, rfl⟩
        go_wp2_with fail
        go_round
        case rel => exact ⟨j, z - 1, rfl, Hz2.out, by omega, HN.out⟩
        case measure => simp [intOf]; omega
theorem sym_any (z : Int) (hz : -9223372036854775808 ≤ z ∧ z < 9223372036854775808) (w : World) : Calls Try.prog 44 #[.int .i64 z] w fun e w' => e = .returned (tup3 (if 3 ≤ z ∧ z ≤ 258 then symR lenB lenX 257 z.toNat (lastLe lenB z.toNat 29) else (0, 0, 0))) ∧ w = w' := by
  by_cases h1 : z < 3
  · rw [if_neg (by omega)]
    have d1 : decide (z < 3) = true := decide_eq_true h1
    go_enter Try.func44, Try.ntmps44
    go_wp2_with fail
    go_ret3
    exact ⟨rfl, rfl⟩
  · have d1 : decide (z < 3) = false := decide_eq_false h1
    by_cases h2 : 258 < z
    · rw [if_neg (by omega)]
      have d2 : decide (258 < z) = true := decide_eq_true h2
      go_enter Try.func44, Try.ntmps44
      go_wp2_with fail
      go_ret3
      exact ⟨rfl, rfl⟩
    · rw [if_pos (by omega)]
      have d2 : decide (258 < z) = false := decide_eq_false h2
      obtain ⟨n, rfl⟩ : ∃ n : Nat, z = (n : Int) := ⟨z.toNat, by omega⟩
      rw [Int.toNat_natCast]
      have HG := Lib.hid (greatest_len n (by omega) w)
      obtain ⟨R, hR⟩ : ∃ R, R = symR lenB lenX 257 n (lastLe lenB n 29) := ⟨_, rfl⟩
      rw [← hR] at HG ⊢
      unfold tup3 at HG ⊢
      clear hR
      go_enter Try.func44, Try.ntmps44
      go_wp2_with fail
      refine HG.out.mono ?_
      rintro e W ⟨rfl, rfl⟩
      go_wp2_with fail
      go_ret3
      exact ⟨rfl, rfl⟩
set_option maxHeartbeats 4000000 in
theorem greatest_far (n : Nat) (hn : n ≤ 100000) (w : World) : Calls Try.prog 69 #[.int .i64 (n : Int), .int .i64 0, .int .i64 29, .func (.func 71) #[] #[]] w fun e w' => e = .returned (tup3 (symR farB farX 0 n (lastLe farB n 30))) ∧ w = w' := by
  obtain ⟨R, hR⟩ : ∃ R, R = lastLe farB n 30 := ⟨_, rfl⟩
  rw [← hR]
  have HR := Lib.hid hR
  have HT := Lib.hid (fun (j : Nat) (hj : j < 30) (z : Int) (hz : z = 0 + (j : Int)) (W : World) => distance_any j hj z (by omega) W)
  have Hlt := Lib.hid fun j (hj : j < 30) => farB_lt hj
  clear hR
  go_enter Try.func69, Try.ntmps69
  go_wp2_with fail
  go_loop [11] (fun s => ∃ (j : Nat) (z : Int), s = .int .i64 z ∧ z = 0 + (j : Int) - 1 ∧ j ≤ 30 ∧ Hid (lastLe farB n j = R)) (fun s => (intOf s + 1 - 0).toNat)
  case atStart => exact ⟨30, _, rfl, by rfl, by omega, HR.out.symm⟩
  case round =>
    obtain ⟨j, z, rfl, hz, hj, hE⟩ := hrel
    rcases j with _ | j
    · have d1 : decide (0 ≤ z) = false := decide_eq_false (by omega)
      have hF : R = none := hE.out.symm
      subst hF
      clear hz
      go_wp2_with fail
      go_ret3
      exact ⟨rfl, rfl⟩
    · have d1 : decide (0 ≤ z) = true := decide_eq_true (by omega)
      have d2 : 0 ≤ z := by omega
      have HTj := Lib.hid (fun W => HT.out j (by omega) z (by omega) W)
      have hl := Hlt.out j (by omega)
      have w1 : IntKind.i64.wrap (z - 1) = z - 1 := IntWalk.i64_in _ ⟨by omega, by omega⟩
      obtain ⟨b, hb⟩ : ∃ b, b = farB j := ⟨_, rfl⟩
      obtain ⟨x, hx⟩ : ∃ x, x = farX j := ⟨_, rfl⟩
      rw [← hb, ← hx] at HTj
      rw [← hb] at hl
      by_cases hbn : b ≤ n
      · have d3 : decide ((b : Int) ≤ (n : Int)) = true := decide_eq_true (by omega)
        have d4 : decide (b ≤ n) = true := decide_eq_true hbn
        have hF : R = some j := by rw [← hE.out, lastLe_yes (by rw [← hb]; exact hbn)]
        subst hF
        obtain ⟨q, hq⟩ : ∃ q, q = n - b := ⟨_, rfl⟩
        have w2 : IntKind.i64.wrap ((n : Int) - (b : Int)) = (q : Int) := by rw [IntWalk.i64_in _ ⟨by omega, by omega⟩]; omega
        have w3 : (n : Int) - (b : Int) = (q : Int) := by omega
        have HV : Hid (tup3 (symR farB farX 0 n (some j)) = .tuple #[.int .i64 z, .int .i64 (q : Int), .int .i64 (x : Int)]) := by
          show Value.tuple #[.int .i64 ((0 + j : Nat) : Int), .int .i64 ((n - farB j : Nat) : Int), .int .i64 ((farX j : Nat) : Int)] = _
          rw [← hb, ← hx, ← hq, show ((0 + j : Nat) : Int) = z by omega]
        clear hb hx hq hz hbn
        go_wp2_with fail
        refine (HTj.out _).mono ?_
        rintro e W ⟨rfl, rfl⟩
        go_wp2_with fail
        go_ret3
        exact ⟨by rw [HV.out]; rfl, rfl⟩
      · have d3 : decide ((b : Int) ≤ (n : Int)) = false := decide_eq_false (by omega)
        have d4 : decide (b ≤ n) = false := decide_eq_false hbn
        have HN : Hid (lastLe farB n j = R) := by show _ = _; rw [← hE.out, lastLe_no (by rw [← hb]; exact hbn)]
        have hz2 : z - 1 = 0 + (j : Int) - 1 := by omega
        have Hz2 := Lib.hid hz2
        clear hb hx hz hbn hz2
        go_wp2_with fail
        refine (HTj.out _).mono ?_
        rintro e W ⟨rfl, rfl⟩
        go_wp2_with fail
        go_round
        case rel => exact ⟨j, z - 1, rfl, Hz2.out, by omega, HN.out⟩
        case measure => simp [intOf]; omega
theorem far_any (z : Int) (hz : -9223372036854775808 ≤ z ∧ z < 9223372036854775808) (w : World) : Calls Try.prog 45 #[.int .i64 z] w fun e w' => e = .returned (tup3 (if 1 ≤ z ∧ z ≤ 32768 then symR farB farX 0 z.toNat (lastLe farB z.toNat 30) else (0, 0, 0))) ∧ w = w' := by
  by_cases h1 : z < 1
  · rw [if_neg (by omega)]
    have d1 : decide (z < 1) = true := decide_eq_true h1
    go_enter Try.func45, Try.ntmps45
    go_wp2_with fail
    go_ret3
    exact ⟨rfl, rfl⟩
  · have d1 : decide (z < 1) = false := decide_eq_false h1
    by_cases h2 : 32768 < z
    · rw [if_neg (by omega)]
      have d2 : decide (32768 < z) = true := decide_eq_true h2
      go_enter Try.func45, Try.ntmps45
      go_wp2_with fail
      go_ret3
      exact ⟨rfl, rfl⟩
    · rw [if_pos (by omega)]
      have d2 : decide (32768 < z) = false := decide_eq_false h2
      obtain ⟨n, rfl⟩ : ∃ n : Nat, z = (n : Int) := ⟨z.toNat, by omega⟩
      rw [Int.toNat_natCast]
      have HG := Lib.hid (greatest_far n (by omega) w)
      obtain ⟨R, hR⟩ : ∃ R, R = symR farB farX 0 n (lastLe farB n 30) := ⟨_, rfl⟩
      rw [← hR] at HG ⊢
      unfold tup3 at HG ⊢
      clear hR
      go_enter Try.func45, Try.ntmps45
      go_wp2_with fail
      refine HG.out.mono ?_
      rintro e W ⟨rfl, rfl⟩
      go_wp2_with fail
      go_ret3
      exact ⟨rfl, rfl⟩
end Go.Proofs.Ytngnhkghpnamoaa
