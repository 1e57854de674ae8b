/- DefRef -/
import Derived.Test.YtngnhkghpnamoaaDefSym
namespace Go.Proofs.Ytngnhkghpnamoaa
open Go.RowKit
set_option linter.unusedVariables false
set_option maxRecDepth 100000

theorem power_any (n : Nat) (hn : n ≤ 20) (P : Nat) (hP : P = 2 ^ n) (i : Int) (hi : i = (n : Int)) (w : World) : Calls Try.prog 78 #[.int .i64 i] w fun e w' => e = .returned (.int .i64 (P : Int)) ∧ w = w' := by
  have HP := Lib.hid hP
  clear hP
  subst hi
  go_enter Try.func78, Try.ntmps78
  go_wp2_with fail
  go_loop [3, 4] (fun p i => ∃ (j q : Nat), i = .int .i64 (j : Int) ∧ p = .int .i64 (q : Int) ∧ j ≤ n ∧ Hid (q = 2 ^ j) ∧ q ≤ 1048576) (fun _ i => n - (intOf i).toNat)
  case atStart => exact ⟨0, 1, rfl, rfl, Nat.zero_le _, rfl, by omega⟩
  case round =>
    obtain ⟨j, q, rfl, rfl, hj, hq, hq2⟩ := hrel
    by_cases hlt : j < n
    · have d1 : decide ((j : Int) < (n : Int)) = true := decide_eq_true (by omega)
      have HN : Hid (2 * q = 2 ^ (j + 1)) := by show _ = _; rw [hq.out, Nat.pow_succ]; omega
      have HB : Hid (2 * q ≤ 1048576) := by
        show _ ≤ _
        rw [HN.out]
        exact Nat.le_trans (Nat.pow_le_pow_right (by omega) (show j + 1 ≤ 20 by omega)) (by decide)
      go_wp2_with fail
      go_round
      case rel => exact ⟨j + 1, 2 * q, by go_num, by congr 1, by omega, HN.out, HB.out⟩
      case measure => simp [intOf]; omega
    · obtain rfl : j = n := by omega
      have d1 : decide ((j : Int) < (j : Int)) = false := decide_eq_false (by omega)
      go_wp2_with fail
      go_ret
      exact ⟨by rw [HP.out, ← hq.out]; rfl, rfl⟩
set_option maxHeartbeats 8000000 in
theorem refLength_any (k : Nat) (hk : k < 28) (z : Int) (hz : z = 257 + (k : Int)) (w : World) : Calls Try.prog 57 #[.int .i64 z] w fun e w' => e = .returned (.tuple #[.int .i64 (lenB k : Int), .int .i64 (lenX k : Int)]) ∧ w = w' := by
  have HP := Lib.hid power_any
  have d0 : (z == 285) = false := beq_eq_false_iff_ne.mpr (by omega)
  have Hz := Lib.hid hz
  clear hz
  go_enter Try.func57, Try.ntmps57
  go_wp2_with fail
  go_loop [4, 5, 6] (fun b x n => ∃ (j e : Nat) (y : Int), n = .int .i64 y ∧ y = 257 + (j : Int) ∧ b = .int .i64 (lenB j : Int) ∧ x = .int .i64 (e : Int) ∧ Hid (e = if j = 0 then 0 else lenX (j - 1)) ∧ j ≤ k) (fun _ _ n => (257 + 28 - intOf n).toNat)
  case atStart => exact ⟨0, 0, 257, rfl, rfl, rfl, rfl, rfl, Nat.zero_le _⟩
  case round =>
    obtain ⟨j, e, y, rfl, hy, rfl, rfl, he, hj⟩ := hrel
    have d1 : decide (y < 285) = true := decide_eq_true (by omega)
    have hbl : lenB j ≤ 32768 := Nat.le_trans (lenB_lt j) (by omega)
    obtain ⟨b, hb⟩ : ∃ b, b = lenB j := ⟨_, rfl⟩
    rw [← hb] at hbl ⊢
    have hxs := lenX_step j (by omega)
    rw [← he.out] at hxs
    have hxl : lenX j ≤ 13 := Nat.le_trans (lenX_le j) (by omega)
    have hy2 : IntKind.i64.wrap (y + 1) = y + 1 := IntWalk.i64_in _ ⟨by omega, by omega⟩
    have Hb := Lib.hid hb
    have by0 : 257 ≤ y := by omega
    have by1 : y ≤ 257 + 28 := by omega
    have Hy := Lib.hid hy
    obtain ⟨m, hm⟩ : ∃ m : Nat, m = j - 8 := ⟨_, rfl⟩
    clear he hb
    by_cases c1 : 8 ≤ j
    · have d2 : decide (265 ≤ y) = true := decide_eq_true (by omega)
      have w1 : (0 : Int) ≤ y - 265 := by omega
      by_cases c2 : m % 4 = 0
      · have d3 : ((y - 265) % 4 == 0) = true := by rw [show (y - 265) % 4 = 0 by omega]; rfl
        rw [if_pos ⟨c1, by omega⟩] at hxs
        have HE : Hid (lenX j = e + 1) := by show _ = _; omega
        have hEl : e + 1 ≤ 13 := by have := HE.out; omega
        clear hxs hxl hm c1 c2
        by_cases c3 : j = k
        · subst c3
          obtain rfl : y = z := by rw [Hz.out, hy]
          have HV : Hid ((.tuple #[.int .i64 (b : Int), .int .i64 ((e : Int) + 1)] : Value) = .tuple #[.int .i64 (lenB j : Int), .int .i64 (lenX j : Int)]) := by show _ = _; rw [Hb.out, HE.out] <;> rfl
          clear hy
          go_wp2_with fail
          go_ret2
          exact ⟨by rw [← HV.out]; rfl, rfl⟩
        · have d5 : (y == z) = false := beq_eq_false_iff_ne.mpr (by have := Hz.out; omega)
          obtain ⟨P, hP⟩ : ∃ P, P = 2 ^ ((e + 1)) := ⟨_, rfl⟩
          have HPE := Lib.hid fun W => HP.out (e + 1) (by omega) P hP ((e : Int) + 1) (by omega) W
          have hPl : P ≤ 8192 := by rw [hP]; exact Nat.le_trans (Nat.pow_le_pow_right (by omega) hEl) (by decide)
          have HB2 : Hid (b + P = lenB (j + 1)) := by show _ = _; rw [lenB_step j (by omega), Hb.out, hP, HE.out]
          have Hc3 := Lib.hid c3
          clear hy hP c3 d1
          have d1 : decide (y < 285) = true := decide_eq_true (by have := Hy.out; omega)
          go_wp2_with fail
          refine (HPE.out _).mono ?_
          rintro e' W ⟨rfl, rfl⟩
          go_wp2_with fail
          go_round
          case rel => exact ⟨j + 1, (e + 1), y + 1, rfl, by have := Hy.out; omega, by rw [← HB2.out]; (try congr 1), rfl, by (show _ = _); rw [if_neg (by omega), Nat.add_sub_cancel, HE.out], by have := Hc3.out; omega⟩
          case measure => have := Hy.out; simp [intOf]; omega
      · have d3 : ((y - 265) % 4 == 0) = false := beq_eq_false_iff_ne.mpr (by omega)
        rw [if_neg (by omega)] at hxs
        obtain ⟨E, hE⟩ : ∃ E, E = e := ⟨_, rfl⟩
        subst hE
        have HE : Hid (lenX j = E) := by show _ = _; omega
        have hEl : E ≤ 13 := by have := HE.out; omega
        clear hxs hxl hm c1 c2
        by_cases c3 : j = k
        · subst c3
          obtain rfl : y = z := by rw [Hz.out, hy]
          have HV : Hid ((.tuple #[.int .i64 (b : Int), .int .i64 (E : Int)] : Value) = .tuple #[.int .i64 (lenB j : Int), .int .i64 (lenX j : Int)]) := by show _ = _; rw [Hb.out, HE.out] <;> rfl
          clear hy
          go_wp2_with fail
          go_ret2
          exact ⟨by rw [← HV.out]; rfl, rfl⟩
        · have d5 : (y == z) = false := beq_eq_false_iff_ne.mpr (by have := Hz.out; omega)
          obtain ⟨P, hP⟩ : ∃ P, P = 2 ^ (E) := ⟨_, rfl⟩
          have HPE := Lib.hid fun W => HP.out E (by omega) P hP (E : Int) (by omega) W
          have hPl : P ≤ 8192 := by rw [hP]; exact Nat.le_trans (Nat.pow_le_pow_right (by omega) hEl) (by decide)
          have HB2 : Hid (b + P = lenB (j + 1)) := by show _ = _; rw [lenB_step j (by omega), Hb.out, hP, HE.out]
          have Hc3 := Lib.hid c3
          clear hy hP c3 d1
          have d1 : decide (y < 285) = true := decide_eq_true (by have := Hy.out; omega)
          go_wp2_with fail
          refine (HPE.out _).mono ?_
          rintro e' W ⟨rfl, rfl⟩
          go_wp2_with fail
          go_round
          case rel => exact ⟨j + 1, E, y + 1, rfl, by have := Hy.out; omega, by rw [← HB2.out]; (try congr 1), rfl, by (show _ = _); rw [if_neg (by omega), Nat.add_sub_cancel, HE.out], by have := Hc3.out; omega⟩
          case measure => have := Hy.out; simp [intOf]; omega
    · have d2 : decide (265 ≤ y) = false := decide_eq_false (by omega)
      rw [if_neg (by omega)] at hxs
      obtain ⟨E, hE⟩ : ∃ E, E = e := ⟨_, rfl⟩
      subst hE
      have HE : Hid (lenX j = E) := by show _ = _; omega
      have hEl : E ≤ 13 := by have := HE.out; omega
      clear hxs hxl hm c1
      by_cases c3 : j = k
      · subst c3
        obtain rfl : y = z := by rw [Hz.out, hy]
        have HV : Hid ((.tuple #[.int .i64 (b : Int), .int .i64 (E : Int)] : Value) = .tuple #[.int .i64 (lenB j : Int), .int .i64 (lenX j : Int)]) := by show _ = _; rw [Hb.out, HE.out] <;> rfl
        clear hy
        go_wp2_with fail
        go_ret2
        exact ⟨by rw [← HV.out]; rfl, rfl⟩
      · have d5 : (y == z) = false := beq_eq_false_iff_ne.mpr (by have := Hz.out; omega)
        obtain ⟨P, hP⟩ : ∃ P, P = 2 ^ (E) := ⟨_, rfl⟩
        have HPE := Lib.hid fun W => HP.out E (by omega) P hP (E : Int) (by omega) W
        have hPl : P ≤ 8192 := by rw [hP]; exact Nat.le_trans (Nat.pow_le_pow_right (by omega) hEl) (by decide)
        have HB2 : Hid (b + P = lenB (j + 1)) := by show _ = _; rw [lenB_step j (by omega), Hb.out, hP, HE.out]
        have Hc3 := Lib.hid c3
        clear hy hP c3 d1
        have d1 : decide (y < 285) = true := decide_eq_true (by have := Hy.out; omega)
        go_wp2_with fail
        refine (HPE.out _).mono ?_
        rintro e' W ⟨rfl, rfl⟩
        go_wp2_with fail
        go_round
        case rel => exact ⟨j + 1, E, y + 1, rfl, by have := Hy.out; omega, by rw [← HB2.out]; (try congr 1), rfl, by (show _ = _); rw [if_neg (by omega), Nat.add_sub_cancel, HE.out], by have := Hc3.out; omega⟩
        case measure => have := Hy.out; simp [intOf]; omega
theorem refLen_all (j : Nat) (hj : j < 29) (z : Int) (hz : z = 257 + (j : Int)) (w : World) : Calls Try.prog 57 #[.int .i64 z] w fun e w' => e = .returned (.tuple #[.int .i64 (lenB j : Int), .int .i64 (lenX j : Int)]) ∧ w = w' := by
  by_cases h : j < 28
  · exact refLength_any j h z hz w
  · obtain rfl : j = 28 := by omega
    obtain rfl := hz
    go_enter Try.func57, Try.ntmps57
    go_wp2_with fail
    go_ret2
    exact ⟨rfl, rfl⟩
set_option maxHeartbeats 8000000 in
theorem refDistance_any (k : Nat) (hk : k < 30) (z : Int) (hz : z = 0 + (k : Int)) (w : World) : Calls Try.prog 58 #[.int .i64 z] w fun e w' => e = .returned (.tuple #[.int .i64 (farB k : Int), .int .i64 (farX k : Int)]) ∧ w = w' := by
  have HP := Lib.hid power_any
  have Hz := Lib.hid hz
  clear hz
  go_enter Try.func58, Try.ntmps58
  go_wp2_with fail
  go_loop [4, 5, 6] (fun b x n => ∃ (j e : Nat) (y : Int), n = .int .i64 y ∧ y = 0 + (j : Int) ∧ b = .int .i64 (farB j : Int) ∧ x = .int .i64 (e : Int) ∧ Hid (e = if j = 0 then 0 else farX (j - 1)) ∧ j ≤ k) (fun _ _ n => (0 + 30 - intOf n).toNat)
  case atStart => exact ⟨0, 0, 0, rfl, rfl, rfl, rfl, rfl, Nat.zero_le _⟩
  case round =>
    obtain ⟨j, e, y, rfl, hy, rfl, rfl, he, hj⟩ := hrel
    have d1 : decide (y < 30) = true := decide_eq_true (by omega)
    have hbl : farB j ≤ 32768 := farB_lt (by omega)
    obtain ⟨b, hb⟩ : ∃ b, b = farB j := ⟨_, rfl⟩
    rw [← hb] at hbl ⊢
    have hxs := farX_step j (by omega)
    rw [← he.out] at hxs
    have hxl : farX j ≤ 13 := farX_le (by omega)
    have hy2 : IntKind.i64.wrap (y + 1) = y + 1 := IntWalk.i64_in _ ⟨by omega, by omega⟩
    have Hb := Lib.hid hb
    have by0 : 0 ≤ y := by omega
    have by1 : y ≤ 0 + 30 := by omega
    have Hy := Lib.hid hy
    obtain ⟨m, hm⟩ : ∃ m : Nat, m = j - 4 := ⟨_, rfl⟩
    clear he hb
    by_cases c1 : 4 ≤ j
    · have d2 : decide (4 ≤ y) = true := decide_eq_true (by omega)
      have w1 : (0 : Int) ≤ y := by omega
      by_cases c2 : m % 2 = 0
      · have d3 : (y % 2 == 0) = true := by rw [show y % 2 = 0 by omega]; rfl
        rw [if_pos ⟨c1, by omega⟩] at hxs
        have HE : Hid (farX j = e + 1) := by show _ = _; omega
        have hEl : e + 1 ≤ 13 := by have := HE.out; omega
        clear hxs hxl hm c1 c2
        by_cases c3 : j = k
        · subst c3
          obtain rfl : y = z := by rw [Hz.out, hy]
          have HV : Hid ((.tuple #[.int .i64 (b : Int), .int .i64 ((e : Int) + 1)] : Value) = .tuple #[.int .i64 (farB j : Int), .int .i64 (farX j : Int)]) := by show _ = _; rw [Hb.out, HE.out] <;> rfl
          clear hy
          go_wp2_with fail
          go_ret2
          exact ⟨by rw [← HV.out]; rfl, rfl⟩
        · have d5 : (y == z) = false := beq_eq_false_iff_ne.mpr (by have := Hz.out; omega)
          obtain ⟨P, hP⟩ : ∃ P, P = 2 ^ ((e + 1)) := ⟨_, rfl⟩
          have HPE := Lib.hid fun W => HP.out (e + 1) (by omega) P hP ((e : Int) + 1) (by omega) W
          have hPl : P ≤ 8192 := by rw [hP]; exact Nat.le_trans (Nat.pow_le_pow_right (by omega) hEl) (by decide)
          have HB2 : Hid (b + P = farB (j + 1)) := by show _ = _; rw [farB_step j (by omega), Hb.out, hP, HE.out]
          have Hc3 := Lib.hid c3
          clear hy hP c3 d1
          have d1 : decide (y < 30) = true := decide_eq_true (by have := Hy.out; omega)
          go_wp2_with fail
          refine (HPE.out _).mono ?_
          rintro e' W ⟨rfl, rfl⟩
          go_wp2_with fail
          go_round
          case rel => exact ⟨j + 1, (e + 1), y + 1, rfl, by have := Hy.out; omega, by rw [← HB2.out]; (try congr 1), rfl, by (show _ = _); rw [if_neg (by omega), Nat.add_sub_cancel, HE.out], by have := Hc3.out; omega⟩
          case measure => have := Hy.out; simp [intOf]; omega
      · have d3 : (y % 2 == 0) = false := beq_eq_false_iff_ne.mpr (by omega)
        rw [if_neg (by omega)] at hxs
        obtain ⟨E, hE⟩ : ∃ E, E = e := ⟨_, rfl⟩
        subst hE
        have HE : Hid (farX j = E) := by show _ = _; omega
        have hEl : E ≤ 13 := by have := HE.out; omega
        clear hxs hxl hm c1 c2
        by_cases c3 : j = k
        · subst c3
          obtain rfl : y = z := by rw [Hz.out, hy]
          have HV : Hid ((.tuple #[.int .i64 (b : Int), .int .i64 (E : Int)] : Value) = .tuple #[.int .i64 (farB j : Int), .int .i64 (farX j : Int)]) := by show _ = _; rw [Hb.out, HE.out] <;> rfl
          clear hy
          go_wp2_with fail
          go_ret2
          exact ⟨by rw [← HV.out]; rfl, rfl⟩
        · have d5 : (y == z) = false := beq_eq_false_iff_ne.mpr (by have := Hz.out; omega)
          obtain ⟨P, hP⟩ : ∃ P, P = 2 ^ (E) := ⟨_, rfl⟩
          have HPE := Lib.hid fun W => HP.out E (by omega) P hP (E : Int) (by omega) W
          have hPl : P ≤ 8192 := by rw [hP]; exact Nat.le_trans (Nat.pow_le_pow_right (by omega) hEl) (by decide)
          have HB2 : Hid (b + P = farB (j + 1)) := by show _ = _; rw [farB_step j (by omega), Hb.out, hP, HE.out]
          have Hc3 := Lib.hid c3
          clear hy hP c3 d1
          have d1 : decide (y < 30) = true := decide_eq_true (by have := Hy.out; omega)
          go_wp2_with fail
          refine (HPE.out _).mono ?_
          rintro e' W ⟨rfl, rfl⟩
          go_wp2_with fail
          go_round
          case rel => exact ⟨j + 1, E, y + 1, rfl, by have := Hy.out; omega, by rw [← HB2.out]; (try congr 1), rfl, by (show _ = _); rw [if_neg (by omega), Nat.add_sub_cancel, HE.out], by have := Hc3.out; omega⟩
          case measure => have := Hy.out; simp [intOf]; omega
    · have d2 : decide (4 ≤ y) = false := decide_eq_false (by omega)
      rw [if_neg (by omega)] at hxs
      obtain ⟨E, hE⟩ : ∃ E, E = e := ⟨_, rfl⟩
      subst hE
      have HE : Hid (farX j = E) := by show _ = _; omega
      have hEl : E ≤ 13 := by have := HE.out; omega
      clear hxs hxl hm c1
      by_cases c3 : j = k
      · subst c3
        obtain rfl : y = z := by rw [Hz.out, hy]
        have HV : Hid ((.tuple #[.int .i64 (b : Int), .int .i64 (E : Int)] : Value) = .tuple #[.int .i64 (farB j : Int), .int .i64 (farX j : Int)]) := by show _ = _; rw [Hb.out, HE.out] <;> rfl
        clear hy
        go_wp2_with fail
        go_ret2
        exact ⟨by rw [← HV.out]; rfl, rfl⟩
      · have d5 : (y == z) = false := beq_eq_false_iff_ne.mpr (by have := Hz.out; omega)
        obtain ⟨P, hP⟩ : ∃ P, P = 2 ^ (E) := ⟨_, rfl⟩
        have HPE := Lib.hid fun W => HP.out E (by omega) P hP (E : Int) (by omega) W
        have hPl : P ≤ 8192 := by rw [hP]; exact Nat.le_trans (Nat.pow_le_pow_right (by omega) hEl) (by decide)
        have HB2 : Hid (b + P = farB (j + 1)) := by show _ = _; rw [farB_step j (by omega), Hb.out, hP, HE.out]
        have Hc3 := Lib.hid c3
        clear hy hP c3 d1
        have d1 : decide (y < 30) = true := decide_eq_true (by have := Hy.out; omega)
        go_wp2_with fail
        refine (HPE.out _).mono ?_
        rintro e' W ⟨rfl, rfl⟩
        go_wp2_with fail
        go_round
        case rel => exact ⟨j + 1, E, y + 1, rfl, by have := Hy.out; omega, by rw [← HB2.out]; (try congr 1), rfl, by (show _ = _); rw [if_neg (by omega), Nat.add_sub_cancel, HE.out], by have := Hc3.out; omega⟩
        case measure => have := Hy.out; simp [intOf]; omega
set_option maxHeartbeats 8000000 in
theorem refsym_any (z : Int) (hz : -9223372036854775808 ≤ z ∧ z < 9223372036854775808) (w : World) : Calls Try.prog 33 #[.int .i64 z] w fun e w' => e = .returned (tup3 (if 3 ≤ z ∧ z ≤ 258 then symR lenB lenX 257 z.toNat (lastLe lenB z.toNat 29) else (0, 0, 0))) ∧ w = w' := by
  by_cases hin : 3 ≤ z ∧ z ≤ 258
  · rw [if_pos hin]
    obtain ⟨n, rfl⟩ : ∃ n : Nat, z = (n : Int) := ⟨z.toNat, by omega⟩
    rw [Int.toNat_natCast]
    have HT := Lib.hid refLen_all
    obtain ⟨R, hR⟩ : ∃ R, R = symR lenB lenX 257 n (lastLe lenB n 29) := ⟨_, rfl⟩
    rw [← hR]
    have HR := Lib.hid hR
    have d1 : decide ((3 : Int) ≤ (n : Int)) = true := decide_eq_true hin.1
    have d2 : decide ((n : Int) ≤ 258) = true := decide_eq_true hin.2
    have hn1 : (3 : Int) ≤ (n : Int) := hin.1
    have hn2 : (n : Int) ≤ 258 := hin.2
    clear hR hin
    go_enter Try.func33, Try.ntmps33
    go_wp2_with fail
    go_loop [5, 6, 7, 8] (fun s x m k => ∃ (j a b c : Nat) (y : Int), k = .int .i64 y ∧ y = 257 + (j : Int) ∧ s = .int .i64 (a : Int) ∧ x = .int .i64 (b : Int) ∧ m = .int .i64 (c : Int) ∧ Hid ((a, b, c) = symR lenB lenX 257 n (lastLe lenB n j)) ∧ j ≤ 29) (fun _ _ _ k => (257 + 29 - intOf k).toNat)
    case atStart => exact ⟨0, 0, 0, 0, 257, rfl, rfl, rfl, rfl, rfl, rfl, Nat.zero_le _⟩
    case round =>
      obtain ⟨j, a, b, c, y, rfl, hy, rfl, rfl, rfl, hE, hj⟩ := hrel
      by_cases hlt : j < 29
      · have d3 : decide (y < 286) = true := decide_eq_true (by omega)
        have HTj := Lib.hid (fun W => HT.out j hlt y (by omega) W)
        have hl : lenB j ≤ 32768 := Nat.le_trans (lenB_lt j) (by omega)
        have hy2 : IntKind.i64.wrap (y + 1) = y + 1 := IntWalk.i64_in _ ⟨by omega, by omega⟩
        obtain ⟨B, hB⟩ : ∃ B, B = lenB j := ⟨_, rfl⟩
        obtain ⟨X, hX⟩ : ∃ X, X = lenX j := ⟨_, rfl⟩
        rw [← hB, ← hX] at HTj
        rw [← hB] at hl
        have by0 : 257 ≤ y := by omega
        have by1 : y ≤ 257 + 29 := by omega
        have Hy := Lib.hid hy
        by_cases hbn : B ≤ n
        · have d4 : decide ((B : Int) ≤ (n : Int)) = true := decide_eq_true (by omega)
          have d5 : decide (B ≤ n) = true := decide_eq_true hbn
          obtain ⟨q, hq⟩ : ∃ q, q = n - B := ⟨_, rfl⟩
          have w2 : IntKind.i64.wrap ((n : Int) - (B : Int)) = (q : Int) := by rw [IntWalk.i64_in _ ⟨by omega, by omega⟩]; omega
          have w3 : (n : Int) - (B : Int) = (q : Int) := by omega
          have HN : Hid ((257 + j, q, X) = symR lenB lenX 257 n (lastLe lenB n (j + 1))) := by
            show _ = _
            rw [lastLe_yes (by rw [← hB]; exact hbn)]
            show _ = (257 + j, n - lenB j, lenX j)
            rw [← hB, ← hX, ← hq]
          clear hB hX hq hy hbn
          go_wp2_with fail
          refine (HTj.out _).mono ?_
          rintro e W ⟨rfl, rfl⟩
          go_wp2_with fail
          go_round
          case rel => exact ⟨j + 1, 257 + j, q, X, y + 1, rfl, by have := Hy.out; omega, by congr 1 <;> (have := Hy.out; omega), rfl, rfl, HN.out, by omega⟩
          case measure => have := Hy.out; simp [intOf]; omega
        · have d4 : decide ((B : Int) ≤ (n : Int)) = false := decide_eq_false (by omega)
          have d5 : decide (B ≤ n) = false := decide_eq_false hbn
          have HN : Hid ((a, b, c) = symR lenB lenX 257 n (lastLe lenB n (j + 1))) := by
            show _ = _
            rw [lastLe_no (by rw [← hB]; exact hbn)]; exact hE.out
          clear hB hX hy hbn
          go_wp2_with fail
          refine (HTj.out _).mono ?_
          rintro e W ⟨rfl, rfl⟩
          go_wp2_with fail
          go_round
          case rel => exact ⟨j + 1, a, b, c, y + 1, rfl, by have := Hy.out; omega, rfl, rfl, rfl, HN.out, by omega⟩
          case measure => have := Hy.out; simp [intOf]; omega
      · obtain rfl : j = 29 := by omega
        have d3 : decide (y < 286) = false := decide_eq_false (by omega)
        have hv : tup3 R = .tuple #[.int .i64 (a : Int), .int .i64 (b : Int), .int .i64 (c : Int)] := by rw [HR.out, ← hE.out]; rfl
        have HV := Lib.hid hv
        clear hv hy
        go_wp2_with fail
        go_ret3
        exact ⟨by rw [HV.out]; rfl, rfl⟩
  · rw [if_neg hin]
    go_enter Try.func33, Try.ntmps33
    go_wp2_with fail
    go_loop [5, 6, 7, 8] (fun s x m k => s = .int .i64 0 ∧ x = .int .i64 0 ∧ m = .int .i64 0 ∧ k = .int .i64 257) (fun _ _ _ _ => 0)
    case atStart => exact ⟨rfl, rfl, rfl, rfl⟩
    case round =>
      obtain ⟨rfl, rfl, rfl, rfl⟩ := hrel
      by_cases h1 : 3 ≤ z
      · have d1 : decide (3 ≤ z) = true := decide_eq_true h1
        have d2 : decide (z ≤ 258) = false := decide_eq_false (by omega)
        clear hin
        go_wp2_with fail
        go_ret3
        exact ⟨rfl, rfl⟩
      · have d1 : decide (3 ≤ z) = false := decide_eq_false h1
        clear hin
        go_wp2_with fail
        go_ret3
        exact ⟨rfl, rfl⟩
set_option maxHeartbeats 8000000 in
theorem reffar_any (z : Int) (hz : -9223372036854775808 ≤ z ∧ z < 9223372036854775808) (w : World) : Calls Try.prog 34 #[.int .i64 z] w fun e w' => e = .returned (tup3 (if 1 ≤ z ∧ z ≤ 32768 then symR farB farX 0 z.toNat (lastLe farB z.toNat 30) else (0, 0, 0))) ∧ w = w' := by
  by_cases hin : 1 ≤ z ∧ z ≤ 32768
  · rw [if_pos hin]
    obtain ⟨n, rfl⟩ : ∃ n : Nat, z = (n : Int) := ⟨z.toNat, by omega⟩
    rw [Int.toNat_natCast]
    have HT := Lib.hid (fun (j : Nat) (hj : j < 30) (z : Int) (hz : z = 0 + (j : Int)) (W : World) => refDistance_any j hj z hz W)
    obtain ⟨R, hR⟩ : ∃ R, R = symR farB farX 0 n (lastLe farB n 30) := ⟨_, rfl⟩
    rw [← hR]
    have HR := Lib.hid hR
    have d1 : decide ((1 : Int) ≤ (n : Int)) = true := decide_eq_true hin.1
    have d2 : decide ((n : Int) ≤ 32768) = true := decide_eq_true hin.2
    have hn1 : (1 : Int) ≤ (n : Int) := hin.1
    have hn2 : (n : Int) ≤ 32768 := hin.2
    clear hR hin
    go_enter Try.func34, Try.ntmps34
    go_wp2_with fail
    go_loop [5, 6, 7, 8] (fun s x m k => ∃ (j a b c : Nat) (y : Int), k = .int .i64 y ∧ y = 0 + (j : Int) ∧ s = .int .i64 (a : Int) ∧ x = .int .i64 (b : Int) ∧ m = .int .i64 (c : Int) ∧ Hid ((a, b, c) = symR farB farX 0 n (lastLe farB n j)) ∧ j ≤ 30) (fun _ _ _ k => (0 + 30 - intOf k).toNat)
    case atStart => exact ⟨0, 0, 0, 0, 0, rfl, rfl, rfl, rfl, rfl, rfl, Nat.zero_le _⟩
    case round =>
      obtain ⟨j, a, b, c, y, rfl, hy, rfl, rfl, rfl, hE, hj⟩ := hrel
      by_cases hlt : j < 30
      · have d3 : decide (y < 30) = true := decide_eq_true (by omega)
        have HTj := Lib.hid (fun W => HT.out j hlt y (by omega) W)
        have hl : farB j ≤ 32768 := farB_lt hlt
        have hy2 : IntKind.i64.wrap (y + 1) = y + 1 := IntWalk.i64_in _ ⟨by omega, by omega⟩
        obtain ⟨B, hB⟩ : ∃ B, B = farB j := ⟨_, rfl⟩
        obtain ⟨X, hX⟩ : ∃ X, X = farX j := ⟨_, rfl⟩
        rw [← hB, ← hX] at HTj
        rw [← hB] at hl
        have by0 : 0 ≤ y := by omega
        have by1 : y ≤ 0 + 30 := by omega
        have Hy := Lib.hid hy
        by_cases hbn : B ≤ n
        · have d4 : decide ((B : Int) ≤ (n : Int)) = true := decide_eq_true (by omega)
          have d5 : decide (B ≤ n) = true := decide_eq_true hbn
          obtain ⟨q, hq⟩ : ∃ q, q = n - B := ⟨_, rfl⟩
          have w2 : IntKind.i64.wrap ((n : Int) - (B : Int)) = (q : Int) := by rw [IntWalk.i64_in _ ⟨by omega, by omega⟩]; omega
          have w3 : (n : Int) - (B : Int) = (q : Int) := by omega
          have HN : Hid ((0 + j, q, X) = symR farB farX 0 n (lastLe farB n (j + 1))) := by
            show _ = _
            rw [lastLe_yes (by rw [← hB]; exact hbn)]
            show _ = (0 + j, n - farB j, farX j)
            rw [← hB, ← hX, ← hq]
          clear hB hX hq hy hbn
          go_wp2_with fail
          refine (HTj.out _).mono ?_
          rintro e W ⟨rfl, rfl⟩
          go_wp2_with fail
          go_round
          case rel => exact ⟨j + 1, 0 + j, q, X, y + 1, rfl, by have := Hy.out; omega, by congr 1 <;> (have := Hy.out; omega), rfl, rfl, HN.out, by omega⟩
          case measure => have := Hy.out; simp [intOf]; omega
        · have d4 : decide ((B : Int) ≤ (n : Int)) = false := decide_eq_false (by omega)
          have d5 : decide (B ≤ n) = false := decide_eq_false hbn
          have HN : Hid ((a, b, c) = symR farB farX 0 n (lastLe farB n (j + 1))) := by
            show _ = _
            rw [lastLe_no (by rw [← hB]; exact hbn)]; exact hE.out
          clear hB hX hy hbn
          go_wp2_with fail
          refine (HTj.out _).mono ?_
          rintro e W ⟨rfl, rfl⟩
          go_wp2_with fail
          go_round
          case rel => exact ⟨j + 1, a, b, c, y + 1, rfl, by have := Hy.out; omega, rfl, rfl, rfl, HN.out, by omega⟩
          case measure => have := Hy.out; simp [intOf]; omega
      · obtain rfl : j = 30 := by omega
        have d3 : decide (y < 30) = false := decide_eq_false (by omega)
        have hv : tup3 R = .tuple #[.int .i64 (a : Int), .int .i64 (b : Int), .int .i64 (c : Int)] := by rw [HR.out, ← hE.out]; rfl
        have HV := Lib.hid hv
        clear hv hy
        go_wp2_with fail
        go_ret3
        exact ⟨by rw [HV.out]; rfl, rfl⟩
  · rw [if_neg hin]
    go_enter Try.func34, Try.ntmps34
    go_wp2_with fail
    go_loop [5, 6, 7, 8] (fun s x m k => s = .int .i64 0 ∧ x = .int .i64 0 ∧ m = .int .i64 0 ∧ k = .int .i64 0) (fun _ _ _ _ => 0)
    case atStart => exact ⟨rfl, rfl, rfl, rfl⟩
    case round =>
      obtain ⟨rfl, rfl, rfl, rfl⟩ := hrel
      by_cases h1 : 1 ≤ z
      · have d1 : decide (1 ≤ z) = true := decide_eq_true h1
        have d2 : decide (z ≤ 32768) = false := decide_eq_false (by omega)
        clear hin
        go_wp2_with fail
        go_ret3
        exact ⟨rfl, rfl⟩
      · have d1 : decide (1 ≤ z) = false := decide_eq_false h1
        clear hin
        go_wp2_with fail
        go_ret3
        exact ⟨rfl, rfl⟩
end Go.Proofs.Ytngnhkghpnamoaa
