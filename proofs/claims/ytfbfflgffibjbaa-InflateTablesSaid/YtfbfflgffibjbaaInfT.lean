/- Layer 4: the tables of any symbol; the reference's. -/
import Derived.Test.YtfbfflgffibjbaaInfL
namespace Go.Proofs.Ytfbfflgffibjbaa
open Go.RowKit Huff Bit
set_option linter.unusedVariables false
set_option maxRecDepth 100000

def lenZ (z : Int) : Nat × Nat := if 257 ≤ z ∧ z ≤ 285 then (lenB (z - 257).toNat, lenX (z - 257).toNat) else (0, 0)
def farZ (z : Int) : Nat × Nat := if 0 ≤ z ∧ z < 30 then (farB z.toNat, farX z.toNat) else (0, 0)
def PairPost (r : Nat × Nat) (w : World) (e : Ending) (w' : World) : Prop := e = .returned (.tuple #[.int .i64 (r.1 : Int), .int .i64 (r.2 : Int)]) ∧ w = w'
theorem lengthZ_any (z : Int) (w : World) : Calls Try.prog 9 #[.int .i64 z] w (PairPost (lenZ z) w) := by
  unfold lenZ
  by_cases h : 257 ≤ z ∧ z ≤ 285
  · rw [if_pos h]
    exact length_any (z - 257).toNat (by omega) z (by omega) w
  · rw [if_neg h]
    by_cases h1 : z < 257
    · have d1 : decide (z < 257) = true := decide_eq_true h1
      clear h
      go_enter Try.func9, Try.ntmps9
      go_wp2_with fail
      go_ret2
      exact ⟨rfl, rfl⟩
    · have d1 : decide (z < 257) = false := decide_eq_false h1
      have d2 : decide (285 < z) = true := decide_eq_true (by omega)
      clear h
      go_enter Try.func9, Try.ntmps9
      go_wp2_with fail
      go_ret2
      exact ⟨rfl, rfl⟩
theorem distanceZ_any (z : Int) (w : World) : Calls Try.prog 11 #[.int .i64 z] w (PairPost (farZ z) w) := by
  unfold farZ
  by_cases h : 0 ≤ z ∧ z < 30
  · rw [if_pos h]
    exact distance_any z.toNat (by omega) z (by omega) w
  · rw [if_neg h]
    by_cases h1 : z < 0
    · have d1 : decide (z < 0) = true := decide_eq_true h1
      clear h
      go_enter Try.func11, Try.ntmps11
      go_wp2_with fail
      go_ret2
      exact ⟨rfl, rfl⟩
    · have d1 : decide (z < 0) = false := decide_eq_false h1
      have d2 : decide (29 < z) = true := decide_eq_true (by omega)
      clear h
      go_enter Try.func11, Try.ntmps11
      go_wp2_with fail
      go_ret2
      exact ⟨rfl, rfl⟩
theorem power04_any (n : Nat) (w : World) (hn : n ≤ 20) : Calls Try.prog 16 #[.int .i64 (n : Int)] w fun e w' => e = .returned (.int .i64 ((2 ^ n : Nat) : Int)) ∧ w = w' := by
  go_enter Try.func16, Try.ntmps16
  go_wp2_with fail
  go_loopw [3, 4] (fun x y W => ∃ k : Nat, k ≤ n ∧ x = .int .i64 ((2 ^ k : Nat) : Int) ∧ y = .int .i64 (k : Int) ∧ W = w) (fun _ y _ => n - (intOf y).toNat)
  case atStart => exact ⟨0, Nat.zero_le _, rfl, rfl, rfl⟩
  case round =>
    obtain ⟨k, hk, rfl, rfl, rfl⟩ := hrel
    by_cases hlt : k < n
    · have hp : 2 ^ k ≤ 2 ^ 20 := Nat.pow_le_pow_right (by omega) (by omega)
      have hs : 2 ^ (k + 1) = 2 * 2 ^ k := by rw [Nat.pow_succ, Nat.mul_comm]
      obtain ⟨P, hP⟩ : ∃ P, 2 ^ k = P := ⟨_, rfl⟩
      have HP := Lib.hid hP
      rw [hP] at hp hs ⊢
      have w1 : IntKind.i64.wrap (2 * (P : Int)) = 2 * (P : Int) := IntWalk.i64_in _ ⟨by omega, by omega⟩
      have Hs : Hid (((2 ^ (k + 1) : Nat) : Int) = 2 * (P : Int)) := by show _ = _; rw [hs]; omega
      clear hP hs
      go_wp2_with fail
      go_roundw
      case rel => exact ⟨k + 1, by omega, by rw [Hs.out], by go_num, trivial⟩
      case measure => simp [intOf]; omega
    · obtain rfl : k = n := by omega
      go_wp2_with fail
      go_ret
      exact ⟨rfl, rfl⟩
set_option maxHeartbeats 32000000 in
theorem refLength_any (z : Int) (w : World) : Calls Try.prog 10 #[.int .i64 z] w (PairPost (lenZ z) w) := by
  have Hpw := Lib.hid power04_any
  by_cases h285 : z = 285
  · subst h285
    clear Hpw
    go_enter Try.func10, Try.ntmps10
    go_wp2_with fail
    go_ret2
    exact ⟨rfl, rfl⟩
  · have d0 : (z == 285) = false := by simpa using h285
    obtain ⟨R, hR⟩ : ∃ R, lenZ z = R := ⟨_, rfl⟩
    rw [hR]
    have HR := Lib.hid hR
    have Hz := Lib.hid h285
    clear hR h285
    go_enter Try.func10, Try.ntmps10
    go_wp2_with fail
    go_loopw [4, 5, 6] (fun b x n W => ∃ j B : Nat, j ≤ 28 ∧ b = .int .i64 (B : Int) ∧ (j ≤ 27 → B = lenB j) ∧ B ≤ 1000 ∧ x = .int .i64 ((if j = 0 then 0 else lenX (j - 1) : Nat) : Int) ∧ n = .int .i64 ((257 + j : Nat) : Int) ∧ (∀ i : Nat, i < j → z ≠ 257 + (i : Int)) ∧ W = w) (fun _ _ n _ => 285 - (intOf n).toNat)
    case atStart => exact ⟨0, 3, by omega, rfl, fun _ => rfl, by omega, rfl, rfl, fun i h => by omega, rfl⟩
    case round =>
      obtain ⟨j, B, hj, rfl, hB, hB9, rfl, rfl, hno, rfl⟩ := hrel
      by_cases hlt : j < 28
      · clear Hz
        rcases (show j = 0 ∨ j = 1 ∨ j = 2 ∨ j = 3 ∨ j = 4 ∨ j = 5 ∨ j = 6 ∨ j = 7 ∨ j = 8 ∨ j = 9 ∨ j = 10 ∨ j = 11 ∨ j = 12 ∨ j = 13 ∨ j = 14 ∨ j = 15 ∨ j = 16 ∨ j = 17 ∨ j = 18 ∨ j = 19 ∨ j = 20 ∨ j = 21 ∨ j = 22 ∨ j = 23 ∨ j = 24 ∨ j = 25 ∨ j = 26 ∨ j = 27 by omega) with rfl | rfl | rfl | rfl | rfl | rfl | rfl | rfl | rfl | rfl | rfl | rfl | rfl | rfl | rfl | rfl | rfl | rfl | rfl | rfl | rfl | rfl | rfl | rfl | rfl | rfl | rfl | rfl
        · have hb : B = 3 := (hB (by omega)).trans (by decide)
          subst hb
          rw [show (if (0 : Nat) = 0 then 0 else lenX (0 - 1)) = 0 by decide, show 257 + 0 = 257 from rfl]
          by_cases hz : z = 257
          · subst hz
            have e2 : ((3, 0) : Nat × Nat) = R := by rw [← HR.out]; decide
            subst e2
            clear hno hB hB9
            go_wp2_with fail
            go_ret2
            exact ⟨rfl, rfl⟩
          · have d1 : ((257 : Int) == z) = false := by simp; omega
            have Hno : Hid (∀ i : Nat, i < 1 → z ≠ 257 + (i : Int)) := by
              intro i hi e
              by_cases h : i < 0
              · exact hno i h e
              · have : i = 0 := by omega
                subst this
                exact hz (by rw [e]; rfl)
            clear hno hB hB9 hz
            go_wp2_with fail
            refine (Hpw.out 0 _ (by omega)).mono ?_
            rintro e W9 ⟨rfl, rfl⟩
            go_wp2_with fail
            go_roundw
            case rel => exact ⟨1, 4, by omega, rfl, fun _ => by decide, by omega, rfl, rfl, Hno.out, trivial⟩
            case measure => simp [intOf]
        · have hb : B = 4 := (hB (by omega)).trans (by decide)
          subst hb
          rw [show (if (1 : Nat) = 0 then 0 else lenX (1 - 1)) = 0 by decide, show 257 + 1 = 258 from rfl]
          by_cases hz : z = 258
          · subst hz
            have e2 : ((4, 0) : Nat × Nat) = R := by rw [← HR.out]; decide
            subst e2
            clear hno hB hB9
            go_wp2_with fail
            go_ret2
            exact ⟨rfl, rfl⟩
          · have d1 : ((258 : Int) == z) = false := by simp; omega
            have Hno : Hid (∀ i : Nat, i < 2 → z ≠ 257 + (i : Int)) := by
              intro i hi e
              by_cases h : i < 1
              · exact hno i h e
              · have : i = 1 := by omega
                subst this
                exact hz (by rw [e]; rfl)
            clear hno hB hB9 hz
            go_wp2_with fail
            refine (Hpw.out 0 _ (by omega)).mono ?_
            rintro e W9 ⟨rfl, rfl⟩
            go_wp2_with fail
            go_roundw
            case rel => exact ⟨2, 5, by omega, rfl, fun _ => by decide, by omega, rfl, rfl, Hno.out, trivial⟩
            case measure => simp [intOf]
        · have hb : B = 5 := (hB (by omega)).trans (by decide)
          subst hb
          rw [show (if (2 : Nat) = 0 then 0 else lenX (2 - 1)) = 0 by decide, show 257 + 2 = 259 from rfl]
          by_cases hz : z = 259
          · subst hz
            have e2 : ((5, 0) : Nat × Nat) = R := by rw [← HR.out]; decide
            subst e2
            clear hno hB hB9
            go_wp2_with fail
            go_ret2
            exact ⟨rfl, rfl⟩
          · have d1 : ((259 : Int) == z) = false := by simp; omega
            have Hno : Hid (∀ i : Nat, i < 3 → z ≠ 257 + (i : Int)) := by
              intro i hi e
              by_cases h : i < 2
              · exact hno i h e
              · have : i = 2 := by omega
                subst this
                exact hz (by rw [e]; rfl)
            clear hno hB hB9 hz
            go_wp2_with fail
            refine (Hpw.out 0 _ (by omega)).mono ?_
            rintro e W9 ⟨rfl, rfl⟩
            go_wp2_with fail
            go_roundw
            case rel => exact ⟨3, 6, by omega, rfl, fun _ => by decide, by omega, rfl, rfl, Hno.out, trivial⟩
            case measure => simp [intOf]
        · have hb : B = 6 := (hB (by omega)).trans (by decide)
          subst hb
          rw [show (if (3 : Nat) = 0 then 0 else lenX (3 - 1)) = 0 by decide, show 257 + 3 = 260 from rfl]
          by_cases hz : z = 260
          · subst hz
            have e2 : ((6, 0) : Nat × Nat) = R := by rw [← HR.out]; decide
            subst e2
            clear hno hB hB9
            go_wp2_with fail
            go_ret2
            exact ⟨rfl, rfl⟩
          · have d1 : ((260 : Int) == z) = false := by simp; omega
            have Hno : Hid (∀ i : Nat, i < 4 → z ≠ 257 + (i : Int)) := by
              intro i hi e
              by_cases h : i < 3
              · exact hno i h e
              · have : i = 3 := by omega
                subst this
                exact hz (by rw [e]; rfl)
            clear hno hB hB9 hz
            go_wp2_with fail
            refine (Hpw.out 0 _ (by omega)).mono ?_
            rintro e W9 ⟨rfl, rfl⟩
            go_wp2_with fail
            go_roundw
            case rel => exact ⟨4, 7, by omega, rfl, fun _ => by decide, by omega, rfl, rfl, Hno.out, trivial⟩
            case measure => simp [intOf]
        · have hb : B = 7 := (hB (by omega)).trans (by decide)
          subst hb
          rw [show (if (4 : Nat) = 0 then 0 else lenX (4 - 1)) = 0 by decide, show 257 + 4 = 261 from rfl]
          by_cases hz : z = 261
          · subst hz
            have e2 : ((7, 0) : Nat × Nat) = R := by rw [← HR.out]; decide
            subst e2
            clear hno hB hB9
            go_wp2_with fail
            go_ret2
            exact ⟨rfl, rfl⟩
          · have d1 : ((261 : Int) == z) = false := by simp; omega
            have Hno : Hid (∀ i : Nat, i < 5 → z ≠ 257 + (i : Int)) := by
              intro i hi e
              by_cases h : i < 4
              · exact hno i h e
              · have : i = 4 := by omega
                subst this
                exact hz (by rw [e]; rfl)
            clear hno hB hB9 hz
            go_wp2_with fail
            refine (Hpw.out 0 _ (by omega)).mono ?_
            rintro e W9 ⟨rfl, rfl⟩
            go_wp2_with fail
            go_roundw
            case rel => exact ⟨5, 8, by omega, rfl, fun _ => by decide, by omega, rfl, rfl, Hno.out, trivial⟩
            case measure => simp [intOf]
        · have hb : B = 8 := (hB (by omega)).trans (by decide)
          subst hb
          rw [show (if (5 : Nat) = 0 then 0 else lenX (5 - 1)) = 0 by decide, show 257 + 5 = 262 from rfl]
          by_cases hz : z = 262
          · subst hz
            have e2 : ((8, 0) : Nat × Nat) = R := by rw [← HR.out]; decide
            subst e2
            clear hno hB hB9
            go_wp2_with fail
            go_ret2
            exact ⟨rfl, rfl⟩
          · have d1 : ((262 : Int) == z) = false := by simp; omega
            have Hno : Hid (∀ i : Nat, i < 6 → z ≠ 257 + (i : Int)) := by
              intro i hi e
              by_cases h : i < 5
              · exact hno i h e
              · have : i = 5 := by omega
                subst this
                exact hz (by rw [e]; rfl)
            clear hno hB hB9 hz
            go_wp2_with fail
            refine (Hpw.out 0 _ (by omega)).mono ?_
            rintro e W9 ⟨rfl, rfl⟩
            go_wp2_with fail
            go_roundw
            case rel => exact ⟨6, 9, by omega, rfl, fun _ => by decide, by omega, rfl, rfl, Hno.out, trivial⟩
            case measure => simp [intOf]
        · have hb : B = 9 := (hB (by omega)).trans (by decide)
          subst hb
          rw [show (if (6 : Nat) = 0 then 0 else lenX (6 - 1)) = 0 by decide, show 257 + 6 = 263 from rfl]
          by_cases hz : z = 263
          · subst hz
            have e2 : ((9, 0) : Nat × Nat) = R := by rw [← HR.out]; decide
            subst e2
            clear hno hB hB9
            go_wp2_with fail
            go_ret2
            exact ⟨rfl, rfl⟩
          · have d1 : ((263 : Int) == z) = false := by simp; omega
            have Hno : Hid (∀ i : Nat, i < 7 → z ≠ 257 + (i : Int)) := by
              intro i hi e
              by_cases h : i < 6
              · exact hno i h e
              · have : i = 6 := by omega
                subst this
                exact hz (by rw [e]; rfl)
            clear hno hB hB9 hz
            go_wp2_with fail
            refine (Hpw.out 0 _ (by omega)).mono ?_
            rintro e W9 ⟨rfl, rfl⟩
            go_wp2_with fail
            go_roundw
            case rel => exact ⟨7, 10, by omega, rfl, fun _ => by decide, by omega, rfl, rfl, Hno.out, trivial⟩
            case measure => simp [intOf]
        · have hb : B = 10 := (hB (by omega)).trans (by decide)
          subst hb
          rw [show (if (7 : Nat) = 0 then 0 else lenX (7 - 1)) = 0 by decide, show 257 + 7 = 264 from rfl]
          by_cases hz : z = 264
          · subst hz
            have e2 : ((10, 0) : Nat × Nat) = R := by rw [← HR.out]; decide
            subst e2
            clear hno hB hB9
            go_wp2_with fail
            go_ret2
            exact ⟨rfl, rfl⟩
          · have d1 : ((264 : Int) == z) = false := by simp; omega
            have Hno : Hid (∀ i : Nat, i < 8 → z ≠ 257 + (i : Int)) := by
              intro i hi e
              by_cases h : i < 7
              · exact hno i h e
              · have : i = 7 := by omega
                subst this
                exact hz (by rw [e]; rfl)
            clear hno hB hB9 hz
            go_wp2_with fail
            refine (Hpw.out 0 _ (by omega)).mono ?_
            rintro e W9 ⟨rfl, rfl⟩
            go_wp2_with fail
            go_roundw
            case rel => exact ⟨8, 11, by omega, rfl, fun _ => by decide, by omega, rfl, rfl, Hno.out, trivial⟩
            case measure => simp [intOf]
        · have hb : B = 11 := (hB (by omega)).trans (by decide)
          subst hb
          rw [show (if (8 : Nat) = 0 then 0 else lenX (8 - 1)) = 0 by decide, show 257 + 8 = 265 from rfl]
          by_cases hz : z = 265
          · subst hz
            have e2 : ((11, 1) : Nat × Nat) = R := by rw [← HR.out]; decide
            subst e2
            clear hno hB hB9
            go_wp2_with fail
            go_ret2
            exact ⟨rfl, rfl⟩
          · have d1 : ((265 : Int) == z) = false := by simp; omega
            have Hno : Hid (∀ i : Nat, i < 9 → z ≠ 257 + (i : Int)) := by
              intro i hi e
              by_cases h : i < 8
              · exact hno i h e
              · have : i = 8 := by omega
                subst this
                exact hz (by rw [e]; rfl)
            clear hno hB hB9 hz
            go_wp2_with fail
            refine (Hpw.out 1 _ (by omega)).mono ?_
            rintro e W9 ⟨rfl, rfl⟩
            go_wp2_with fail
            go_roundw
            case rel => exact ⟨9, 13, by omega, rfl, fun _ => by decide, by omega, rfl, rfl, Hno.out, trivial⟩
            case measure => simp [intOf]
        · have hb : B = 13 := (hB (by omega)).trans (by decide)
          subst hb
          rw [show (if (9 : Nat) = 0 then 0 else lenX (9 - 1)) = 1 by decide, show 257 + 9 = 266 from rfl]
          by_cases hz : z = 266
          · subst hz
            have e2 : ((13, 1) : Nat × Nat) = R := by rw [← HR.out]; decide
            subst e2
            clear hno hB hB9
            go_wp2_with fail
            go_ret2
            exact ⟨rfl, rfl⟩
          · have d1 : ((266 : Int) == z) = false := by simp; omega
            have Hno : Hid (∀ i : Nat, i < 10 → z ≠ 257 + (i : Int)) := by
              intro i hi e
              by_cases h : i < 9
              · exact hno i h e
              · have : i = 9 := by omega
                subst this
                exact hz (by rw [e]; rfl)
            clear hno hB hB9 hz
            go_wp2_with fail
            refine (Hpw.out 1 _ (by omega)).mono ?_
            rintro e W9 ⟨rfl, rfl⟩
            go_wp2_with fail
            go_roundw
            case rel => exact ⟨10, 15, by omega, rfl, fun _ => by decide, by omega, rfl, rfl, Hno.out, trivial⟩
            case measure => simp [intOf]
        · have hb : B = 15 := (hB (by omega)).trans (by decide)
          subst hb
          rw [show (if (10 : Nat) = 0 then 0 else lenX (10 - 1)) = 1 by decide, show 257 + 10 = 267 from rfl]
          by_cases hz : z = 267
          · subst hz
            have e2 : ((15, 1) : Nat × Nat) = R := by rw [← HR.out]; decide
            subst e2
            clear hno hB hB9
            go_wp2_with fail
            go_ret2
            exact ⟨rfl, rfl⟩
          · have d1 : ((267 : Int) == z) = false := by simp; omega
            have Hno : Hid (∀ i : Nat, i < 11 → z ≠ 257 + (i : Int)) := by
              intro i hi e
              by_cases h : i < 10
              · exact hno i h e
              · have : i = 10 := by omega
                subst this
                exact hz (by rw [e]; rfl)
            clear hno hB hB9 hz
            go_wp2_with fail
            refine (Hpw.out 1 _ (by omega)).mono ?_
            rintro e W9 ⟨rfl, rfl⟩
            go_wp2_with fail
            go_roundw
            case rel => exact ⟨11, 17, by omega, rfl, fun _ => by decide, by omega, rfl, rfl, Hno.out, trivial⟩
            case measure => simp [intOf]
        · have hb : B = 17 := (hB (by omega)).trans (by decide)
          subst hb
          rw [show (if (11 : Nat) = 0 then 0 else lenX (11 - 1)) = 1 by decide, show 257 + 11 = 268 from rfl]
          by_cases hz : z = 268
          · subst hz
            have e2 : ((17, 1) : Nat × Nat) = R := by rw [← HR.out]; decide
            subst e2
            clear hno hB hB9
            go_wp2_with fail
            go_ret2
            exact ⟨rfl, rfl⟩
          · have d1 : ((268 : Int) == z) = false := by simp; omega
            have Hno : Hid (∀ i : Nat, i < 12 → z ≠ 257 + (i : Int)) := by
              intro i hi e
              by_cases h : i < 11
              · exact hno i h e
              · have : i = 11 := by omega
                subst this
                exact hz (by rw [e]; rfl)
            clear hno hB hB9 hz
            go_wp2_with fail
            refine (Hpw.out 1 _ (by omega)).mono ?_
            rintro e W9 ⟨rfl, rfl⟩
            go_wp2_with fail
            go_roundw
            case rel => exact ⟨12, 19, by omega, rfl, fun _ => by decide, by omega, rfl, rfl, Hno.out, trivial⟩
            case measure => simp [intOf]
        · have hb : B = 19 := (hB (by omega)).trans (by decide)
          subst hb
          rw [show (if (12 : Nat) = 0 then 0 else lenX (12 - 1)) = 1 by decide, show 257 + 12 = 269 from rfl]
          by_cases hz : z = 269
          · subst hz
            have e2 : ((19, 2) : Nat × Nat) = R := by rw [← HR.out]; decide
            subst e2
            clear hno hB hB9
            go_wp2_with fail
            go_ret2
            exact ⟨rfl, rfl⟩
          · have d1 : ((269 : Int) == z) = false := by simp; omega
            have Hno : Hid (∀ i : Nat, i < 13 → z ≠ 257 + (i : Int)) := by
              intro i hi e
              by_cases h : i < 12
              · exact hno i h e
              · have : i = 12 := by omega
                subst this
                exact hz (by rw [e]; rfl)
            clear hno hB hB9 hz
            go_wp2_with fail
            refine (Hpw.out 2 _ (by omega)).mono ?_
            rintro e W9 ⟨rfl, rfl⟩
            go_wp2_with fail
            go_roundw
            case rel => exact ⟨13, 23, by omega, rfl, fun _ => by decide, by omega, rfl, rfl, Hno.out, trivial⟩
            case measure => simp [intOf]
        · have hb : B = 23 := (hB (by omega)).trans (by decide)
          subst hb
          rw [show (if (13 : Nat) = 0 then 0 else lenX (13 - 1)) = 2 by decide, show 257 + 13 = 270 from rfl]
          by_cases hz : z = 270
          · subst hz
            have e2 : ((23, 2) : Nat × Nat) = R := by rw [← HR.out]; decide
            subst e2
            clear hno hB hB9
            go_wp2_with fail
            go_ret2
            exact ⟨rfl, rfl⟩
          · have d1 : ((270 : Int) == z) = false := by simp; omega
            have Hno : Hid (∀ i : Nat, i < 14 → z ≠ 257 + (i : Int)) := by
              intro i hi e
              by_cases h : i < 13
              · exact hno i h e
              · have : i = 13 := by omega
                subst this
                exact hz (by rw [e]; rfl)
            clear hno hB hB9 hz
            go_wp2_with fail
            refine (Hpw.out 2 _ (by omega)).mono ?_
            rintro e W9 ⟨rfl, rfl⟩
            go_wp2_with fail
            go_roundw
            case rel => exact ⟨14, 27, by omega, rfl, fun _ => by decide, by omega, rfl, rfl, Hno.out, trivial⟩
            case measure => simp [intOf]
        · have hb : B = 27 := (hB (by omega)).trans (by decide)
          subst hb
          rw [show (if (14 : Nat) = 0 then 0 else lenX (14 - 1)) = 2 by decide, show 257 + 14 = 271 from rfl]
          by_cases hz : z = 271
          · subst hz
            have e2 : ((27, 2) : Nat × Nat) = R := by rw [← HR.out]; decide
            subst e2
            clear hno hB hB9
            go_wp2_with fail
            go_ret2
            exact ⟨rfl, rfl⟩
          · have d1 : ((271 : Int) == z) = false := by simp; omega
            have Hno : Hid (∀ i : Nat, i < 15 → z ≠ 257 + (i : Int)) := by
              intro i hi e
              by_cases h : i < 14
              · exact hno i h e
              · have : i = 14 := by omega
                subst this
                exact hz (by rw [e]; rfl)
            clear hno hB hB9 hz
            go_wp2_with fail
            refine (Hpw.out 2 _ (by omega)).mono ?_
            rintro e W9 ⟨rfl, rfl⟩
            go_wp2_with fail
            go_roundw
            case rel => exact ⟨15, 31, by omega, rfl, fun _ => by decide, by omega, rfl, rfl, Hno.out, trivial⟩
            case measure => simp [intOf]
        · have hb : B = 31 := (hB (by omega)).trans (by decide)
          subst hb
          rw [show (if (15 : Nat) = 0 then 0 else lenX (15 - 1)) = 2 by decide, show 257 + 15 = 272 from rfl]
          by_cases hz : z = 272
          · subst hz
            have e2 : ((31, 2) : Nat × Nat) = R := by rw [← HR.out]; decide
            subst e2
            clear hno hB hB9
            go_wp2_with fail
            go_ret2
            exact ⟨rfl, rfl⟩
          · have d1 : ((272 : Int) == z) = false := by simp; omega
            have Hno : Hid (∀ i : Nat, i < 16 → z ≠ 257 + (i : Int)) := by
              intro i hi e
              by_cases h : i < 15
              · exact hno i h e
              · have : i = 15 := by omega
                subst this
                exact hz (by rw [e]; rfl)
            clear hno hB hB9 hz
            go_wp2_with fail
            refine (Hpw.out 2 _ (by omega)).mono ?_
            rintro e W9 ⟨rfl, rfl⟩
            go_wp2_with fail
            go_roundw
            case rel => exact ⟨16, 35, by omega, rfl, fun _ => by decide, by omega, rfl, rfl, Hno.out, trivial⟩
            case measure => simp [intOf]
        · have hb : B = 35 := (hB (by omega)).trans (by decide)
          subst hb
          rw [show (if (16 : Nat) = 0 then 0 else lenX (16 - 1)) = 2 by decide, show 257 + 16 = 273 from rfl]
          by_cases hz : z = 273
          · subst hz
            have e2 : ((35, 3) : Nat × Nat) = R := by rw [← HR.out]; decide
            subst e2
            clear hno hB hB9
            go_wp2_with fail
            go_ret2
            exact ⟨rfl, rfl⟩
          · have d1 : ((273 : Int) == z) = false := by simp; omega
            have Hno : Hid (∀ i : Nat, i < 17 → z ≠ 257 + (i : Int)) := by
              intro i hi e
              by_cases h : i < 16
              · exact hno i h e
              · have : i = 16 := by omega
                subst this
                exact hz (by rw [e]; rfl)
            clear hno hB hB9 hz
            go_wp2_with fail
            refine (Hpw.out 3 _ (by omega)).mono ?_
            rintro e W9 ⟨rfl, rfl⟩
            go_wp2_with fail
            go_roundw
            case rel => exact ⟨17, 43, by omega, rfl, fun _ => by decide, by omega, rfl, rfl, Hno.out, trivial⟩
            case measure => simp [intOf]
        · have hb : B = 43 := (hB (by omega)).trans (by decide)
          subst hb
          rw [show (if (17 : Nat) = 0 then 0 else lenX (17 - 1)) = 3 by decide, show 257 + 17 = 274 from rfl]
          by_cases hz : z = 274
          · subst hz
            have e2 : ((43, 3) : Nat × Nat) = R := by rw [← HR.out]; decide
            subst e2
            clear hno hB hB9
            go_wp2_with fail
            go_ret2
            exact ⟨rfl, rfl⟩
          · have d1 : ((274 : Int) == z) = false := by simp; omega
            have Hno : Hid (∀ i : Nat, i < 18 → z ≠ 257 + (i : Int)) := by
              intro i hi e
              by_cases h : i < 17
              · exact hno i h e
              · have : i = 17 := by omega
                subst this
                exact hz (by rw [e]; rfl)
            clear hno hB hB9 hz
            go_wp2_with fail
            refine (Hpw.out 3 _ (by omega)).mono ?_
            rintro e W9 ⟨rfl, rfl⟩
            go_wp2_with fail
            go_roundw
            case rel => exact ⟨18, 51, by omega, rfl, fun _ => by decide, by omega, rfl, rfl, Hno.out, trivial⟩
            case measure => simp [intOf]
        · have hb : B = 51 := (hB (by omega)).trans (by decide)
          subst hb
          rw [show (if (18 : Nat) = 0 then 0 else lenX (18 - 1)) = 3 by decide, show 257 + 18 = 275 from rfl]
          by_cases hz : z = 275
          · subst hz
            have e2 : ((51, 3) : Nat × Nat) = R := by rw [← HR.out]; decide
            subst e2
            clear hno hB hB9
            go_wp2_with fail
            go_ret2
            exact ⟨rfl, rfl⟩
          · have d1 : ((275 : Int) == z) = false := by simp; omega
            have Hno : Hid (∀ i : Nat, i < 19 → z ≠ 257 + (i : Int)) := by
              intro i hi e
              by_cases h : i < 18
              · exact hno i h e
              · have : i = 18 := by omega
                subst this
                exact hz (by rw [e]; rfl)
            clear hno hB hB9 hz
            go_wp2_with fail
            refine (Hpw.out 3 _ (by omega)).mono ?_
            rintro e W9 ⟨rfl, rfl⟩
            go_wp2_with fail
            go_roundw
            case rel => exact ⟨19, 59, by omega, rfl, fun _ => by decide, by omega, rfl, rfl, Hno.out, trivial⟩
            case measure => simp [intOf]
        · have hb : B = 59 := (hB (by omega)).trans (by decide)
          subst hb
          rw [show (if (19 : Nat) = 0 then 0 else lenX (19 - 1)) = 3 by decide, show 257 + 19 = 276 from rfl]
          by_cases hz : z = 276
          · subst hz
            have e2 : ((59, 3) : Nat × Nat) = R := by rw [← HR.out]; decide
            subst e2
            clear hno hB hB9
            go_wp2_with fail
            go_ret2
            exact ⟨rfl, rfl⟩
          · have d1 : ((276 : Int) == z) = false := by simp; omega
            have Hno : Hid (∀ i : Nat, i < 20 → z ≠ 257 + (i : Int)) := by
              intro i hi e
              by_cases h : i < 19
              · exact hno i h e
              · have : i = 19 := by omega
                subst this
                exact hz (by rw [e]; rfl)
            clear hno hB hB9 hz
            go_wp2_with fail
            refine (Hpw.out 3 _ (by omega)).mono ?_
            rintro e W9 ⟨rfl, rfl⟩
            go_wp2_with fail
            go_roundw
            case rel => exact ⟨20, 67, by omega, rfl, fun _ => by decide, by omega, rfl, rfl, Hno.out, trivial⟩
            case measure => simp [intOf]
        · have hb : B = 67 := (hB (by omega)).trans (by decide)
          subst hb
          rw [show (if (20 : Nat) = 0 then 0 else lenX (20 - 1)) = 3 by decide, show 257 + 20 = 277 from rfl]
          by_cases hz : z = 277
          · subst hz
            have e2 : ((67, 4) : Nat × Nat) = R := by rw [← HR.out]; decide
            subst e2
            clear hno hB hB9
            go_wp2_with fail
            go_ret2
            exact ⟨rfl, rfl⟩
          · have d1 : ((277 : Int) == z) = false := by simp; omega
            have Hno : Hid (∀ i : Nat, i < 21 → z ≠ 257 + (i : Int)) := by
              intro i hi e
              by_cases h : i < 20
              · exact hno i h e
              · have : i = 20 := by omega
                subst this
                exact hz (by rw [e]; rfl)
            clear hno hB hB9 hz
            go_wp2_with fail
            refine (Hpw.out 4 _ (by omega)).mono ?_
            rintro e W9 ⟨rfl, rfl⟩
            go_wp2_with fail
            go_roundw
            case rel => exact ⟨21, 83, by omega, rfl, fun _ => by decide, by omega, rfl, rfl, Hno.out, trivial⟩
            case measure => simp [intOf]
        · have hb : B = 83 := (hB (by omega)).trans (by decide)
          subst hb
          rw [show (if (21 : Nat) = 0 then 0 else lenX (21 - 1)) = 4 by decide, show 257 + 21 = 278 from rfl]
          by_cases hz : z = 278
          · subst hz
            have e2 : ((83, 4) : Nat × Nat) = R := by rw [← HR.out]; decide
            subst e2
            clear hno hB hB9
            go_wp2_with fail
            go_ret2
            exact ⟨rfl, rfl⟩
          · have d1 : ((278 : Int) == z) = false := by simp; omega
            have Hno : Hid (∀ i : Nat, i < 22 → z ≠ 257 + (i : Int)) := by
              intro i hi e
              by_cases h : i < 21
              · exact hno i h e
              · have : i = 21 := by omega
                subst this
                exact hz (by rw [e]; rfl)
            clear hno hB hB9 hz
            go_wp2_with fail
            refine (Hpw.out 4 _ (by omega)).mono ?_
            rintro e W9 ⟨rfl, rfl⟩
            go_wp2_with fail
            go_roundw
            case rel => exact ⟨22, 99, by omega, rfl, fun _ => by decide, by omega, rfl, rfl, Hno.out, trivial⟩
            case measure => simp [intOf]
        · have hb : B = 99 := (hB (by omega)).trans (by decide)
          subst hb
          rw [show (if (22 : Nat) = 0 then 0 else lenX (22 - 1)) = 4 by decide, show 257 + 22 = 279 from rfl]
          by_cases hz : z = 279
          · subst hz
            have e2 : ((99, 4) : Nat × Nat) = R := by rw [← HR.out]; decide
            subst e2
            clear hno hB hB9
            go_wp2_with fail
            go_ret2
            exact ⟨rfl, rfl⟩
          · have d1 : ((279 : Int) == z) = false := by simp; omega
            have Hno : Hid (∀ i : Nat, i < 23 → z ≠ 257 + (i : Int)) := by
              intro i hi e
              by_cases h : i < 22
              · exact hno i h e
              · have : i = 22 := by omega
                subst this
                exact hz (by rw [e]; rfl)
            clear hno hB hB9 hz
            go_wp2_with fail
            refine (Hpw.out 4 _ (by omega)).mono ?_
            rintro e W9 ⟨rfl, rfl⟩
            go_wp2_with fail
            go_roundw
            case rel => exact ⟨23, 115, by omega, rfl, fun _ => by decide, by omega, rfl, rfl, Hno.out, trivial⟩
            case measure => simp [intOf]
        · have hb : B = 115 := (hB (by omega)).trans (by decide)
          subst hb
          rw [show (if (23 : Nat) = 0 then 0 else lenX (23 - 1)) = 4 by decide, show 257 + 23 = 280 from rfl]
          by_cases hz : z = 280
          · subst hz
            have e2 : ((115, 4) : Nat × Nat) = R := by rw [← HR.out]; decide
            subst e2
            clear hno hB hB9
            go_wp2_with fail
            go_ret2
            exact ⟨rfl, rfl⟩
          · have d1 : ((280 : Int) == z) = false := by simp; omega
            have Hno : Hid (∀ i : Nat, i < 24 → z ≠ 257 + (i : Int)) := by
              intro i hi e
              by_cases h : i < 23
              · exact hno i h e
              · have : i = 23 := by omega
                subst this
                exact hz (by rw [e]; rfl)
            clear hno hB hB9 hz
            go_wp2_with fail
            refine (Hpw.out 4 _ (by omega)).mono ?_
            rintro e W9 ⟨rfl, rfl⟩
            go_wp2_with fail
            go_roundw
            case rel => exact ⟨24, 131, by omega, rfl, fun _ => by decide, by omega, rfl, rfl, Hno.out, trivial⟩
            case measure => simp [intOf]
        · have hb : B = 131 := (hB (by omega)).trans (by decide)
          subst hb
          rw [show (if (24 : Nat) = 0 then 0 else lenX (24 - 1)) = 4 by decide, show 257 + 24 = 281 from rfl]
          by_cases hz : z = 281
          · subst hz
            have e2 : ((131, 5) : Nat × Nat) = R := by rw [← HR.out]; decide
            subst e2
            clear hno hB hB9
            go_wp2_with fail
            go_ret2
            exact ⟨rfl, rfl⟩
          · have d1 : ((281 : Int) == z) = false := by simp; omega
            have Hno : Hid (∀ i : Nat, i < 25 → z ≠ 257 + (i : Int)) := by
              intro i hi e
              by_cases h : i < 24
              · exact hno i h e
              · have : i = 24 := by omega
                subst this
                exact hz (by rw [e]; rfl)
            clear hno hB hB9 hz
            go_wp2_with fail
            refine (Hpw.out 5 _ (by omega)).mono ?_
            rintro e W9 ⟨rfl, rfl⟩
            go_wp2_with fail
            go_roundw
            case rel => exact ⟨25, 163, by omega, rfl, fun _ => by decide, by omega, rfl, rfl, Hno.out, trivial⟩
            case measure => simp [intOf]
        · have hb : B = 163 := (hB (by omega)).trans (by decide)
          subst hb
          rw [show (if (25 : Nat) = 0 then 0 else lenX (25 - 1)) = 5 by decide, show 257 + 25 = 282 from rfl]
          by_cases hz : z = 282
          · subst hz
            have e2 : ((163, 5) : Nat × Nat) = R := by rw [← HR.out]; decide
            subst e2
            clear hno hB hB9
            go_wp2_with fail
            go_ret2
            exact ⟨rfl, rfl⟩
          · have d1 : ((282 : Int) == z) = false := by simp; omega
            have Hno : Hid (∀ i : Nat, i < 26 → z ≠ 257 + (i : Int)) := by
              intro i hi e
              by_cases h : i < 25
              · exact hno i h e
              · have : i = 25 := by omega
                subst this
                exact hz (by rw [e]; rfl)
            clear hno hB hB9 hz
            go_wp2_with fail
            refine (Hpw.out 5 _ (by omega)).mono ?_
            rintro e W9 ⟨rfl, rfl⟩
            go_wp2_with fail
            go_roundw
            case rel => exact ⟨26, 195, by omega, rfl, fun _ => by decide, by omega, rfl, rfl, Hno.out, trivial⟩
            case measure => simp [intOf]
        · have hb : B = 195 := (hB (by omega)).trans (by decide)
          subst hb
          rw [show (if (26 : Nat) = 0 then 0 else lenX (26 - 1)) = 5 by decide, show 257 + 26 = 283 from rfl]
          by_cases hz : z = 283
          · subst hz
            have e2 : ((195, 5) : Nat × Nat) = R := by rw [← HR.out]; decide
            subst e2
            clear hno hB hB9
            go_wp2_with fail
            go_ret2
            exact ⟨rfl, rfl⟩
          · have d1 : ((283 : Int) == z) = false := by simp; omega
            have Hno : Hid (∀ i : Nat, i < 27 → z ≠ 257 + (i : Int)) := by
              intro i hi e
              by_cases h : i < 26
              · exact hno i h e
              · have : i = 26 := by omega
                subst this
                exact hz (by rw [e]; rfl)
            clear hno hB hB9 hz
            go_wp2_with fail
            refine (Hpw.out 5 _ (by omega)).mono ?_
            rintro e W9 ⟨rfl, rfl⟩
            go_wp2_with fail
            go_roundw
            case rel => exact ⟨27, 227, by omega, rfl, fun _ => by decide, by omega, rfl, rfl, Hno.out, trivial⟩
            case measure => simp [intOf]
        · have hb : B = 227 := (hB (by omega)).trans (by decide)
          subst hb
          rw [show (if (27 : Nat) = 0 then 0 else lenX (27 - 1)) = 5 by decide, show 257 + 27 = 284 from rfl]
          by_cases hz : z = 284
          · subst hz
            have e2 : ((227, 5) : Nat × Nat) = R := by rw [← HR.out]; decide
            subst e2
            clear hno hB hB9
            go_wp2_with fail
            go_ret2
            exact ⟨rfl, rfl⟩
          · have d1 : ((284 : Int) == z) = false := by simp; omega
            have Hno : Hid (∀ i : Nat, i < 28 → z ≠ 257 + (i : Int)) := by
              intro i hi e
              by_cases h : i < 27
              · exact hno i h e
              · have : i = 27 := by omega
                subst this
                exact hz (by rw [e]; rfl)
            clear hno hB hB9 hz
            go_wp2_with fail
            refine (Hpw.out 5 _ (by omega)).mono ?_
            rintro e W9 ⟨rfl, rfl⟩
            go_wp2_with fail
            go_roundw
            case rel => exact ⟨28, 259, by omega, rfl, fun h => by omega, by omega, rfl, rfl, Hno.out, trivial⟩
            case measure => simp [intOf]
      · obtain rfl : j = 28 := by omega
        have e : lenZ z = (0, 0) := by
          unfold lenZ
          rw [if_neg]
          intro h
          by_cases h1 : z = 285
          · exact Hz.out h1
          · exact hno (z - 257).toNat (by omega) (by omega)
        have e2 := HR.out
        rw [e] at e2
        subst e2
        clear hB hno e
        go_wp2_with fail
        go_ret2
        exact ⟨rfl, rfl⟩
set_option maxHeartbeats 32000000 in
theorem refDistance_any (z : Int) (w : World) : Calls Try.prog 12 #[.int .i64 z] w (PairPost (farZ z) w) := by
  have Hpw := Lib.hid power04_any
  obtain ⟨R, hR⟩ : ∃ R, farZ z = R := ⟨_, rfl⟩
  rw [hR]
  have HR := Lib.hid hR
  clear hR
  go_enter Try.func12, Try.ntmps12
  go_wp2_with fail
  go_loopw [4, 5, 6] (fun b x n W => ∃ j B : Nat, j ≤ 30 ∧ b = .int .i64 (B : Int) ∧ (j ≤ 29 → B = farB j) ∧ B ≤ 100000 ∧ x = .int .i64 ((if j = 0 then 0 else farX (j - 1) : Nat) : Int) ∧ n = .int .i64 ((0 + j : Nat) : Int) ∧ (∀ i : Nat, i < j → z ≠ 0 + (i : Int)) ∧ W = w) (fun _ _ n _ => 30 - (intOf n).toNat)
  case atStart => exact ⟨0, 1, by omega, rfl, fun _ => rfl, by omega, rfl, rfl, fun i h => by omega, rfl⟩
  case round =>
    obtain ⟨j, B, hj, rfl, hB, hB9, rfl, rfl, hno, rfl⟩ := hrel
    by_cases hlt : j < 30
    · skip
      rcases (show j = 0 ∨ j = 1 ∨ j = 2 ∨ j = 3 ∨ j = 4 ∨ j = 5 ∨ j = 6 ∨ j = 7 ∨ j = 8 ∨ j = 9 ∨ j = 10 ∨ j = 11 ∨ j = 12 ∨ j = 13 ∨ j = 14 ∨ j = 15 ∨ j = 16 ∨ j = 17 ∨ j = 18 ∨ j = 19 ∨ j = 20 ∨ j = 21 ∨ j = 22 ∨ j = 23 ∨ j = 24 ∨ j = 25 ∨ j = 26 ∨ j = 27 ∨ j = 28 ∨ j = 29 by omega) with rfl | rfl | rfl | rfl | rfl | rfl | rfl | rfl | rfl | rfl | rfl | rfl | rfl | rfl | rfl | rfl | rfl | rfl | rfl | rfl | rfl | rfl | rfl | rfl | rfl | rfl | rfl | rfl | rfl | rfl
      · have hb : B = 1 := (hB (by omega)).trans (by decide)
        subst hb
        rw [show (if (0 : Nat) = 0 then 0 else farX (0 - 1)) = 0 by decide, show 0 + 0 = 0 from rfl]
        by_cases hz : z = 0
        · subst hz
          have e2 : ((1, 0) : Nat × Nat) = R := by rw [← HR.out]; decide
          subst e2
          clear hno hB hB9
          go_wp2_with fail
          go_ret2
          exact ⟨rfl, rfl⟩
        · have d1 : ((0 : Int) == z) = false := by simp; omega
          have Hno : Hid (∀ i : Nat, i < 1 → z ≠ 0 + (i : Int)) := by
            intro i hi e
            by_cases h : i < 0
            · exact hno i h e
            · have : i = 0 := by omega
              subst this
              exact hz (by rw [e]; rfl)
          clear hno hB hB9 hz
          go_wp2_with fail
          refine (Hpw.out 0 _ (by omega)).mono ?_
          rintro e W9 ⟨rfl, rfl⟩
          go_wp2_with fail
          go_roundw
          case rel => exact ⟨1, 2, by omega, rfl, fun _ => by decide, by omega, rfl, rfl, Hno.out, trivial⟩
          case measure => simp [intOf]
      · have hb : B = 2 := (hB (by omega)).trans (by decide)
        subst hb
        rw [show (if (1 : Nat) = 0 then 0 else farX (1 - 1)) = 0 by decide, show 0 + 1 = 1 from rfl]
        by_cases hz : z = 1
        · subst hz
          have e2 : ((2, 0) : Nat × Nat) = R := by rw [← HR.out]; decide
          subst e2
          clear hno hB hB9
          go_wp2_with fail
          go_ret2
          exact ⟨rfl, rfl⟩
        · have d1 : ((1 : Int) == z) = false := by simp; omega
          have Hno : Hid (∀ i : Nat, i < 2 → z ≠ 0 + (i : Int)) := by
            intro i hi e
            by_cases h : i < 1
            · exact hno i h e
            · have : i = 1 := by omega
              subst this
              exact hz (by rw [e]; rfl)
          clear hno hB hB9 hz
          go_wp2_with fail
          refine (Hpw.out 0 _ (by omega)).mono ?_
          rintro e W9 ⟨rfl, rfl⟩
          go_wp2_with fail
          go_roundw
          case rel => exact ⟨2, 3, by omega, rfl, fun _ => by decide, by omega, rfl, rfl, Hno.out, trivial⟩
          case measure => simp [intOf]
      · have hb : B = 3 := (hB (by omega)).trans (by decide)
        subst hb
        rw [show (if (2 : Nat) = 0 then 0 else farX (2 - 1)) = 0 by decide, show 0 + 2 = 2 from rfl]
        by_cases hz : z = 2
        · subst hz
          have e2 : ((3, 0) : Nat × Nat) = R := by rw [← HR.out]; decide
          subst e2
          clear hno hB hB9
          go_wp2_with fail
          go_ret2
          exact ⟨rfl, rfl⟩
        · have d1 : ((2 : Int) == z) = false := by simp; omega
          have Hno : Hid (∀ i : Nat, i < 3 → z ≠ 0 + (i : Int)) := by
            intro i hi e
            by_cases h : i < 2
            · exact hno i h e
            · have : i = 2 := by omega
              subst this
              exact hz (by rw [e]; rfl)
          clear hno hB hB9 hz
          go_wp2_with fail
          refine (Hpw.out 0 _ (by omega)).mono ?_
          rintro e W9 ⟨rfl, rfl⟩
          go_wp2_with fail
          go_roundw
          case rel => exact ⟨3, 4, by omega, rfl, fun _ => by decide, by omega, rfl, rfl, Hno.out, trivial⟩
          case measure => simp [intOf]
      · have hb : B = 4 := (hB (by omega)).trans (by decide)
        subst hb
        rw [show (if (3 : Nat) = 0 then 0 else farX (3 - 1)) = 0 by decide, show 0 + 3 = 3 from rfl]
        by_cases hz : z = 3
        · subst hz
          have e2 : ((4, 0) : Nat × Nat) = R := by rw [← HR.out]; decide
          subst e2
          clear hno hB hB9
          go_wp2_with fail
          go_ret2
          exact ⟨rfl, rfl⟩
        · have d1 : ((3 : Int) == z) = false := by simp; omega
          have Hno : Hid (∀ i : Nat, i < 4 → z ≠ 0 + (i : Int)) := by
            intro i hi e
            by_cases h : i < 3
            · exact hno i h e
            · have : i = 3 := by omega
              subst this
              exact hz (by rw [e]; rfl)
          clear hno hB hB9 hz
          go_wp2_with fail
          refine (Hpw.out 0 _ (by omega)).mono ?_
          rintro e W9 ⟨rfl, rfl⟩
          go_wp2_with fail
          go_roundw
          case rel => exact ⟨4, 5, by omega, rfl, fun _ => by decide, by omega, rfl, rfl, Hno.out, trivial⟩
          case measure => simp [intOf]
      · have hb : B = 5 := (hB (by omega)).trans (by decide)
        subst hb
        rw [show (if (4 : Nat) = 0 then 0 else farX (4 - 1)) = 0 by decide, show 0 + 4 = 4 from rfl]
        by_cases hz : z = 4
        · subst hz
          have e2 : ((5, 1) : Nat × Nat) = R := by rw [← HR.out]; decide
          subst e2
          clear hno hB hB9
          go_wp2_with fail
          go_ret2
          exact ⟨rfl, rfl⟩
        · have d1 : ((4 : Int) == z) = false := by simp; omega
          have Hno : Hid (∀ i : Nat, i < 5 → z ≠ 0 + (i : Int)) := by
            intro i hi e
            by_cases h : i < 4
            · exact hno i h e
            · have : i = 4 := by omega
              subst this
              exact hz (by rw [e]; rfl)
          clear hno hB hB9 hz
          go_wp2_with fail
          refine (Hpw.out 1 _ (by omega)).mono ?_
          rintro e W9 ⟨rfl, rfl⟩
          go_wp2_with fail
          go_roundw
          case rel => exact ⟨5, 7, by omega, rfl, fun _ => by decide, by omega, rfl, rfl, Hno.out, trivial⟩
          case measure => simp [intOf]
      · have hb : B = 7 := (hB (by omega)).trans (by decide)
        subst hb
        rw [show (if (5 : Nat) = 0 then 0 else farX (5 - 1)) = 1 by decide, show 0 + 5 = 5 from rfl]
        by_cases hz : z = 5
        · subst hz
          have e2 : ((7, 1) : Nat × Nat) = R := by rw [← HR.out]; decide
          subst e2
          clear hno hB hB9
          go_wp2_with fail
          go_ret2
          exact ⟨rfl, rfl⟩
        · have d1 : ((5 : Int) == z) = false := by simp; omega
          have Hno : Hid (∀ i : Nat, i < 6 → z ≠ 0 + (i : Int)) := by
            intro i hi e
            by_cases h : i < 5
            · exact hno i h e
            · have : i = 5 := by omega
              subst this
              exact hz (by rw [e]; rfl)
          clear hno hB hB9 hz
          go_wp2_with fail
          refine (Hpw.out 1 _ (by omega)).mono ?_
          rintro e W9 ⟨rfl, rfl⟩
          go_wp2_with fail
          go_roundw
          case rel => exact ⟨6, 9, by omega, rfl, fun _ => by decide, by omega, rfl, rfl, Hno.out, trivial⟩
          case measure => simp [intOf]
      · have hb : B = 9 := (hB (by omega)).trans (by decide)
        subst hb
        rw [show (if (6 : Nat) = 0 then 0 else farX (6 - 1)) = 1 by decide, show 0 + 6 = 6 from rfl]
        by_cases hz : z = 6
        · subst hz
          have e2 : ((9, 2) : Nat × Nat) = R := by rw [← HR.out]; decide
          subst e2
          clear hno hB hB9
          go_wp2_with fail
          go_ret2
          exact ⟨rfl, rfl⟩
        · have d1 : ((6 : Int) == z) = false := by simp; omega
          have Hno : Hid (∀ i : Nat, i < 7 → z ≠ 0 + (i : Int)) := by
            intro i hi e
            by_cases h : i < 6
            · exact hno i h e
            · have : i = 6 := by omega
              subst this
              exact hz (by rw [e]; rfl)
          clear hno hB hB9 hz
          go_wp2_with fail
          refine (Hpw.out 2 _ (by omega)).mono ?_
          rintro e W9 ⟨rfl, rfl⟩
          go_wp2_with fail
          go_roundw
          case rel => exact ⟨7, 13, by omega, rfl, fun _ => by decide, by omega, rfl, rfl, Hno.out, trivial⟩
          case measure => simp [intOf]
      · have hb : B = 13 := (hB (by omega)).trans (by decide)
        subst hb
        rw [show (if (7 : Nat) = 0 then 0 else farX (7 - 1)) = 2 by decide, show 0 + 7 = 7 from rfl]
        by_cases hz : z = 7
        · subst hz
          have e2 : ((13, 2) : Nat × Nat) = R := by rw [← HR.out]; decide
          subst e2
          clear hno hB hB9
          go_wp2_with fail
          go_ret2
          exact ⟨rfl, rfl⟩
        · have d1 : ((7 : Int) == z) = false := by simp; omega
          have Hno : Hid (∀ i : Nat, i < 8 → z ≠ 0 + (i : Int)) := by
            intro i hi e
            by_cases h : i < 7
            · exact hno i h e
            · have : i = 7 := by omega
              subst this
              exact hz (by rw [e]; rfl)
          clear hno hB hB9 hz
          go_wp2_with fail
          refine (Hpw.out 2 _ (by omega)).mono ?_
          rintro e W9 ⟨rfl, rfl⟩
          go_wp2_with fail
          go_roundw
          case rel => exact ⟨8, 17, by omega, rfl, fun _ => by decide, by omega, rfl, rfl, Hno.out, trivial⟩
          case measure => simp [intOf]
      · have hb : B = 17 := (hB (by omega)).trans (by decide)
        subst hb
        rw [show (if (8 : Nat) = 0 then 0 else farX (8 - 1)) = 2 by decide, show 0 + 8 = 8 from rfl]
        by_cases hz : z = 8
        · subst hz
          have e2 : ((17, 3) : Nat × Nat) = R := by rw [← HR.out]; decide
          subst e2
          clear hno hB hB9
          go_wp2_with fail
          go_ret2
          exact ⟨rfl, rfl⟩
        · have d1 : ((8 : Int) == z) = false := by simp; omega
          have Hno : Hid (∀ i : Nat, i < 9 → z ≠ 0 + (i : Int)) := by
            intro i hi e
            by_cases h : i < 8
            · exact hno i h e
            · have : i = 8 := by omega
              subst this
              exact hz (by rw [e]; rfl)
          clear hno hB hB9 hz
          go_wp2_with fail
          refine (Hpw.out 3 _ (by omega)).mono ?_
          rintro e W9 ⟨rfl, rfl⟩
          go_wp2_with fail
          go_roundw
          case rel => exact ⟨9, 25, by omega, rfl, fun _ => by decide, by omega, rfl, rfl, Hno.out, trivial⟩
          case measure => simp [intOf]
      · have hb : B = 25 := (hB (by omega)).trans (by decide)
        subst hb
        rw [show (if (9 : Nat) = 0 then 0 else farX (9 - 1)) = 3 by decide, show 0 + 9 = 9 from rfl]
        by_cases hz : z = 9
        · subst hz
          have e2 : ((25, 3) : Nat × Nat) = R := by rw [← HR.out]; decide
          subst e2
          clear hno hB hB9
          go_wp2_with fail
          go_ret2
          exact ⟨rfl, rfl⟩
        · have d1 : ((9 : Int) == z) = false := by simp; omega
          have Hno : Hid (∀ i : Nat, i < 10 → z ≠ 0 + (i : Int)) := by
            intro i hi e
            by_cases h : i < 9
            · exact hno i h e
            · have : i = 9 := by omega
              subst this
              exact hz (by rw [e]; rfl)
          clear hno hB hB9 hz
          go_wp2_with fail
          refine (Hpw.out 3 _ (by omega)).mono ?_
          rintro e W9 ⟨rfl, rfl⟩
          go_wp2_with fail
          go_roundw
          case rel => exact ⟨10, 33, by omega, rfl, fun _ => by decide, by omega, rfl, rfl, Hno.out, trivial⟩
          case measure => simp [intOf]
      · have hb : B = 33 := (hB (by omega)).trans (by decide)
        subst hb
        rw [show (if (10 : Nat) = 0 then 0 else farX (10 - 1)) = 3 by decide, show 0 + 10 = 10 from rfl]
        by_cases hz : z = 10
        · subst hz
          have e2 : ((33, 4) : Nat × Nat) = R := by rw [← HR.out]; decide
          subst e2
          clear hno hB hB9
          go_wp2_with fail
          go_ret2
          exact ⟨rfl, rfl⟩
        · have d1 : ((10 : Int) == z) = false := by simp; omega
          have Hno : Hid (∀ i : Nat, i < 11 → z ≠ 0 + (i : Int)) := by
            intro i hi e
            by_cases h : i < 10
            · exact hno i h e
            · have : i = 10 := by omega
              subst this
              exact hz (by rw [e]; rfl)
          clear hno hB hB9 hz
          go_wp2_with fail
          refine (Hpw.out 4 _ (by omega)).mono ?_
          rintro e W9 ⟨rfl, rfl⟩
          go_wp2_with fail
          go_roundw
          case rel => exact ⟨11, 49, by omega, rfl, fun _ => by decide, by omega, rfl, rfl, Hno.out, trivial⟩
          case measure => simp [intOf]
      · have hb : B = 49 := (hB (by omega)).trans (by decide)
        subst hb
        rw [show (if (11 : Nat) = 0 then 0 else farX (11 - 1)) = 4 by decide, show 0 + 11 = 11 from rfl]
        by_cases hz : z = 11
        · subst hz
          have e2 : ((49, 4) : Nat × Nat) = R := by rw [← HR.out]; decide
          subst e2
          clear hno hB hB9
          go_wp2_with fail
          go_ret2
          exact ⟨rfl, rfl⟩
        · have d1 : ((11 : Int) == z) = false := by simp; omega
          have Hno : Hid (∀ i : Nat, i < 12 → z ≠ 0 + (i : Int)) := by
            intro i hi e
            by_cases h : i < 11
            · exact hno i h e
            · have : i = 11 := by omega
              subst this
              exact hz (by rw [e]; rfl)
          clear hno hB hB9 hz
          go_wp2_with fail
          refine (Hpw.out 4 _ (by omega)).mono ?_
          rintro e W9 ⟨rfl, rfl⟩
          go_wp2_with fail
          go_roundw
          case rel => exact ⟨12, 65, by omega, rfl, fun _ => by decide, by omega, rfl, rfl, Hno.out, trivial⟩
          case measure => simp [intOf]
      · have hb : B = 65 := (hB (by omega)).trans (by decide)
        subst hb
        rw [show (if (12 : Nat) = 0 then 0 else farX (12 - 1)) = 4 by decide, show 0 + 12 = 12 from rfl]
        by_cases hz : z = 12
        · subst hz
          have e2 : ((65, 5) : Nat × Nat) = R := by rw [← HR.out]; decide
          subst e2
          clear hno hB hB9
          go_wp2_with fail
          go_ret2
          exact ⟨rfl, rfl⟩
        · have d1 : ((12 : Int) == z) = false := by simp; omega
          have Hno : Hid (∀ i : Nat, i < 13 → z ≠ 0 + (i : Int)) := by
            intro i hi e
            by_cases h : i < 12
            · exact hno i h e
            · have : i = 12 := by omega
              subst this
              exact hz (by rw [e]; rfl)
          clear hno hB hB9 hz
          go_wp2_with fail
          refine (Hpw.out 5 _ (by omega)).mono ?_
          rintro e W9 ⟨rfl, rfl⟩
          go_wp2_with fail
          go_roundw
          case rel => exact ⟨13, 97, by omega, rfl, fun _ => by decide, by omega, rfl, rfl, Hno.out, trivial⟩
          case measure => simp [intOf]
      · have hb : B = 97 := (hB (by omega)).trans (by decide)
        subst hb
        rw [show (if (13 : Nat) = 0 then 0 else farX (13 - 1)) = 5 by decide, show 0 + 13 = 13 from rfl]
        by_cases hz : z = 13
        · subst hz
          have e2 : ((97, 5) : Nat × Nat) = R := by rw [← HR.out]; decide
          subst e2
          clear hno hB hB9
          go_wp2_with fail
          go_ret2
          exact ⟨rfl, rfl⟩
        · have d1 : ((13 : Int) == z) = false := by simp; omega
          have Hno : Hid (∀ i : Nat, i < 14 → z ≠ 0 + (i : Int)) := by
            intro i hi e
            by_cases h : i < 13
            · exact hno i h e
            · have : i = 13 := by omega
              subst this
              exact hz (by rw [e]; rfl)
          clear hno hB hB9 hz
          go_wp2_with fail
          refine (Hpw.out 5 _ (by omega)).mono ?_
          rintro e W9 ⟨rfl, rfl⟩
          go_wp2_with fail
          go_roundw
          case rel => exact ⟨14, 129, by omega, rfl, fun _ => by decide, by omega, rfl, rfl, Hno.out, trivial⟩
          case measure => simp [intOf]
      · have hb : B = 129 := (hB (by omega)).trans (by decide)
        subst hb
        rw [show (if (14 : Nat) = 0 then 0 else farX (14 - 1)) = 5 by decide, show 0 + 14 = 14 from rfl]
        by_cases hz : z = 14
        · subst hz
          have e2 : ((129, 6) : Nat × Nat) = R := by rw [← HR.out]; decide
          subst e2
          clear hno hB hB9
          go_wp2_with fail
          go_ret2
          exact ⟨rfl, rfl⟩
        · have d1 : ((14 : Int) == z) = false := by simp; omega
          have Hno : Hid (∀ i : Nat, i < 15 → z ≠ 0 + (i : Int)) := by
            intro i hi e
            by_cases h : i < 14
            · exact hno i h e
            · have : i = 14 := by omega
              subst this
              exact hz (by rw [e]; rfl)
          clear hno hB hB9 hz
          go_wp2_with fail
          refine (Hpw.out 6 _ (by omega)).mono ?_
          rintro e W9 ⟨rfl, rfl⟩
          go_wp2_with fail
          go_roundw
          case rel => exact ⟨15, 193, by omega, rfl, fun _ => by decide, by omega, rfl, rfl, Hno.out, trivial⟩
          case measure => simp [intOf]
      · have hb : B = 193 := (hB (by omega)).trans (by decide)
        subst hb
        rw [show (if (15 : Nat) = 0 then 0 else farX (15 - 1)) = 6 by decide, show 0 + 15 = 15 from rfl]
        by_cases hz : z = 15
        · subst hz
          have e2 : ((193, 6) : Nat × Nat) = R := by rw [← HR.out]; decide
          subst e2
          clear hno hB hB9
          go_wp2_with fail
          go_ret2
          exact ⟨rfl, rfl⟩
        · have d1 : ((15 : Int) == z) = false := by simp; omega
          have Hno : Hid (∀ i : Nat, i < 16 → z ≠ 0 + (i : Int)) := by
            intro i hi e
            by_cases h : i < 15
            · exact hno i h e
            · have : i = 15 := by omega
              subst this
              exact hz (by rw [e]; rfl)
          clear hno hB hB9 hz
          go_wp2_with fail
          refine (Hpw.out 6 _ (by omega)).mono ?_
          rintro e W9 ⟨rfl, rfl⟩
          go_wp2_with fail
          go_roundw
          case rel => exact ⟨16, 257, by omega, rfl, fun _ => by decide, by omega, rfl, rfl, Hno.out, trivial⟩
          case measure => simp [intOf]
      · have hb : B = 257 := (hB (by omega)).trans (by decide)
        subst hb
        rw [show (if (16 : Nat) = 0 then 0 else farX (16 - 1)) = 6 by decide, show 0 + 16 = 16 from rfl]
        by_cases hz : z = 16
        · subst hz
          have e2 : ((257, 7) : Nat × Nat) = R := by rw [← HR.out]; decide
          subst e2
          clear hno hB hB9
          go_wp2_with fail
          go_ret2
          exact ⟨rfl, rfl⟩
        · have d1 : ((16 : Int) == z) = false := by simp; omega
          have Hno : Hid (∀ i : Nat, i < 17 → z ≠ 0 + (i : Int)) := by
            intro i hi e
            by_cases h : i < 16
            · exact hno i h e
            · have : i = 16 := by omega
              subst this
              exact hz (by rw [e]; rfl)
          clear hno hB hB9 hz
          go_wp2_with fail
          refine (Hpw.out 7 _ (by omega)).mono ?_
          rintro e W9 ⟨rfl, rfl⟩
          go_wp2_with fail
          go_roundw
          case rel => exact ⟨17, 385, by omega, rfl, fun _ => by decide, by omega, rfl, rfl, Hno.out, trivial⟩
          case measure => simp [intOf]
      · have hb : B = 385 := (hB (by omega)).trans (by decide)
        subst hb
        rw [show (if (17 : Nat) = 0 then 0 else farX (17 - 1)) = 7 by decide, show 0 + 17 = 17 from rfl]
        by_cases hz : z = 17
        · subst hz
          have e2 : ((385, 7) : Nat × Nat) = R := by rw [← HR.out]; decide
          subst e2
          clear hno hB hB9
          go_wp2_with fail
          go_ret2
          exact ⟨rfl, rfl⟩
        · have d1 : ((17 : Int) == z) = false := by simp; omega
          have Hno : Hid (∀ i : Nat, i < 18 → z ≠ 0 + (i : Int)) := by
            intro i hi e
            by_cases h : i < 17
            · exact hno i h e
            · have : i = 17 := by omega
              subst this
              exact hz (by rw [e]; rfl)
          clear hno hB hB9 hz
          go_wp2_with fail
          refine (Hpw.out 7 _ (by omega)).mono ?_
          rintro e W9 ⟨rfl, rfl⟩
          go_wp2_with fail
          go_roundw
          case rel => exact ⟨18, 513, by omega, rfl, fun _ => by decide, by omega, rfl, rfl, Hno.out, trivial⟩
          case measure => simp [intOf]
      · have hb : B = 513 := (hB (by omega)).trans (by decide)
        subst hb
        rw [show (if (18 : Nat) = 0 then 0 else farX (18 - 1)) = 7 by decide, show 0 + 18 = 18 from rfl]
        by_cases hz : z = 18
        · subst hz
          have e2 : ((513, 8) : Nat × Nat) = R := by rw [← HR.out]; decide
          subst e2
          clear hno hB hB9
          go_wp2_with fail
          go_ret2
          exact ⟨rfl, rfl⟩
        · have d1 : ((18 : Int) == z) = false := by simp; omega
          have Hno : Hid (∀ i : Nat, i < 19 → z ≠ 0 + (i : Int)) := by
            intro i hi e
            by_cases h : i < 18
            · exact hno i h e
            · have : i = 18 := by omega
              subst this
              exact hz (by rw [e]; rfl)
          clear hno hB hB9 hz
          go_wp2_with fail
          refine (Hpw.out 8 _ (by omega)).mono ?_
          rintro e W9 ⟨rfl, rfl⟩
          go_wp2_with fail
          go_roundw
          case rel => exact ⟨19, 769, by omega, rfl, fun _ => by decide, by omega, rfl, rfl, Hno.out, trivial⟩
          case measure => simp [intOf]
      · have hb : B = 769 := (hB (by omega)).trans (by decide)
        subst hb
        rw [show (if (19 : Nat) = 0 then 0 else farX (19 - 1)) = 8 by decide, show 0 + 19 = 19 from rfl]
        by_cases hz : z = 19
        · subst hz
          have e2 : ((769, 8) : Nat × Nat) = R := by rw [← HR.out]; decide
          subst e2
          clear hno hB hB9
          go_wp2_with fail
          go_ret2
          exact ⟨rfl, rfl⟩
        · have d1 : ((19 : Int) == z) = false := by simp; omega
          have Hno : Hid (∀ i : Nat, i < 20 → z ≠ 0 + (i : Int)) := by
            intro i hi e
            by_cases h : i < 19
            · exact hno i h e
            · have : i = 19 := by omega
              subst this
              exact hz (by rw [e]; rfl)
          clear hno hB hB9 hz
          go_wp2_with fail
          refine (Hpw.out 8 _ (by omega)).mono ?_
          rintro e W9 ⟨rfl, rfl⟩
          go_wp2_with fail
          go_roundw
          case rel => exact ⟨20, 1025, by omega, rfl, fun _ => by decide, by omega, rfl, rfl, Hno.out, trivial⟩
          case measure => simp [intOf]
      · have hb : B = 1025 := (hB (by omega)).trans (by decide)
        subst hb
        rw [show (if (20 : Nat) = 0 then 0 else farX (20 - 1)) = 8 by decide, show 0 + 20 = 20 from rfl]
        by_cases hz : z = 20
        · subst hz
          have e2 : ((1025, 9) : Nat × Nat) = R := by rw [← HR.out]; decide
          subst e2
          clear hno hB hB9
          go_wp2_with fail
          go_ret2
          exact ⟨rfl, rfl⟩
        · have d1 : ((20 : Int) == z) = false := by simp; omega
          have Hno : Hid (∀ i : Nat, i < 21 → z ≠ 0 + (i : Int)) := by
            intro i hi e
            by_cases h : i < 20
            · exact hno i h e
            · have : i = 20 := by omega
              subst this
              exact hz (by rw [e]; rfl)
          clear hno hB hB9 hz
          go_wp2_with fail
          refine (Hpw.out 9 _ (by omega)).mono ?_
          rintro e W9 ⟨rfl, rfl⟩
          go_wp2_with fail
          go_roundw
          case rel => exact ⟨21, 1537, by omega, rfl, fun _ => by decide, by omega, rfl, rfl, Hno.out, trivial⟩
          case measure => simp [intOf]
      · have hb : B = 1537 := (hB (by omega)).trans (by decide)
        subst hb
        rw [show (if (21 : Nat) = 0 then 0 else farX (21 - 1)) = 9 by decide, show 0 + 21 = 21 from rfl]
        by_cases hz : z = 21
        · subst hz
          have e2 : ((1537, 9) : Nat × Nat) = R := by rw [← HR.out]; decide
          subst e2
          clear hno hB hB9
          go_wp2_with fail
          go_ret2
          exact ⟨rfl, rfl⟩
        · have d1 : ((21 : Int) == z) = false := by simp; omega
          have Hno : Hid (∀ i : Nat, i < 22 → z ≠ 0 + (i : Int)) := by
            intro i hi e
            by_cases h : i < 21
            · exact hno i h e
            · have : i = 21 := by omega
              subst this
              exact hz (by rw [e]; rfl)
          clear hno hB hB9 hz
          go_wp2_with fail
          refine (Hpw.out 9 _ (by omega)).mono ?_
          rintro e W9 ⟨rfl, rfl⟩
          go_wp2_with fail
          go_roundw
          case rel => exact ⟨22, 2049, by omega, rfl, fun _ => by decide, by omega, rfl, rfl, Hno.out, trivial⟩
          case measure => simp [intOf]
      · have hb : B = 2049 := (hB (by omega)).trans (by decide)
        subst hb
        rw [show (if (22 : Nat) = 0 then 0 else farX (22 - 1)) = 9 by decide, show 0 + 22 = 22 from rfl]
        by_cases hz : z = 22
        · subst hz
          have e2 : ((2049, 10) : Nat × Nat) = R := by rw [← HR.out]; decide
          subst e2
          clear hno hB hB9
          go_wp2_with fail
          go_ret2
          exact ⟨rfl, rfl⟩
        · have d1 : ((22 : Int) == z) = false := by simp; omega
          have Hno : Hid (∀ i : Nat, i < 23 → z ≠ 0 + (i : Int)) := by
            intro i hi e
            by_cases h : i < 22
            · exact hno i h e
            · have : i = 22 := by omega
              subst this
              exact hz (by rw [e]; rfl)
          clear hno hB hB9 hz
          go_wp2_with fail
          refine (Hpw.out 10 _ (by omega)).mono ?_
          rintro e W9 ⟨rfl, rfl⟩
          go_wp2_with fail
          go_roundw
          case rel => exact ⟨23, 3073, by omega, rfl, fun _ => by decide, by omega, rfl, rfl, Hno.out, trivial⟩
          case measure => simp [intOf]
      · have hb : B = 3073 := (hB (by omega)).trans (by decide)
        subst hb
        rw [show (if (23 : Nat) = 0 then 0 else farX (23 - 1)) = 10 by decide, show 0 + 23 = 23 from rfl]
        by_cases hz : z = 23
        · subst hz
          have e2 : ((3073, 10) : Nat × Nat) = R := by rw [← HR.out]; decide
          subst e2
          clear hno hB hB9
          go_wp2_with fail
          go_ret2
          exact ⟨rfl, rfl⟩
        · have d1 : ((23 : Int) == z) = false := by simp; omega
          have Hno : Hid (∀ i : Nat, i < 24 → z ≠ 0 + (i : Int)) := by
            intro i hi e
            by_cases h : i < 23
            · exact hno i h e
            · have : i = 23 := by omega
              subst this
              exact hz (by rw [e]; rfl)
          clear hno hB hB9 hz
          go_wp2_with fail
          refine (Hpw.out 10 _ (by omega)).mono ?_
          rintro e W9 ⟨rfl, rfl⟩
          go_wp2_with fail
          go_roundw
          case rel => exact ⟨24, 4097, by omega, rfl, fun _ => by decide, by omega, rfl, rfl, Hno.out, trivial⟩
          case measure => simp [intOf]
      · have hb : B = 4097 := (hB (by omega)).trans (by decide)
        subst hb
        rw [show (if (24 : Nat) = 0 then 0 else farX (24 - 1)) = 10 by decide, show 0 + 24 = 24 from rfl]
        by_cases hz : z = 24
        · subst hz
          have e2 : ((4097, 11) : Nat × Nat) = R := by rw [← HR.out]; decide
          subst e2
          clear hno hB hB9
          go_wp2_with fail
          go_ret2
          exact ⟨rfl, rfl⟩
        · have d1 : ((24 : Int) == z) = false := by simp; omega
          have Hno : Hid (∀ i : Nat, i < 25 → z ≠ 0 + (i : Int)) := by
            intro i hi e
            by_cases h : i < 24
            · exact hno i h e
            · have : i = 24 := by omega
              subst this
              exact hz (by rw [e]; rfl)
          clear hno hB hB9 hz
          go_wp2_with fail
          refine (Hpw.out 11 _ (by omega)).mono ?_
          rintro e W9 ⟨rfl, rfl⟩
          go_wp2_with fail
          go_roundw
          case rel => exact ⟨25, 6145, by omega, rfl, fun _ => by decide, by omega, rfl, rfl, Hno.out, trivial⟩
          case measure => simp [intOf]
      · have hb : B = 6145 := (hB (by omega)).trans (by decide)
        subst hb
        rw [show (if (25 : Nat) = 0 then 0 else farX (25 - 1)) = 11 by decide, show 0 + 25 = 25 from rfl]
        by_cases hz : z = 25
        · subst hz
          have e2 : ((6145, 11) : Nat × Nat) = R := by rw [← HR.out]; decide
          subst e2
          clear hno hB hB9
          go_wp2_with fail
          go_ret2
          exact ⟨rfl, rfl⟩
        · have d1 : ((25 : Int) == z) = false := by simp; omega
          have Hno : Hid (∀ i : Nat, i < 26 → z ≠ 0 + (i : Int)) := by
            intro i hi e
            by_cases h : i < 25
            · exact hno i h e
            · have : i = 25 := by omega
              subst this
              exact hz (by rw [e]; rfl)
          clear hno hB hB9 hz
          go_wp2_with fail
          refine (Hpw.out 11 _ (by omega)).mono ?_
          rintro e W9 ⟨rfl, rfl⟩
          go_wp2_with fail
          go_roundw
          case rel => exact ⟨26, 8193, by omega, rfl, fun _ => by decide, by omega, rfl, rfl, Hno.out, trivial⟩
          case measure => simp [intOf]
      · have hb : B = 8193 := (hB (by omega)).trans (by decide)
        subst hb
        rw [show (if (26 : Nat) = 0 then 0 else farX (26 - 1)) = 11 by decide, show 0 + 26 = 26 from rfl]
        by_cases hz : z = 26
        · subst hz
          have e2 : ((8193, 12) : Nat × Nat) = R := by rw [← HR.out]; decide
          subst e2
          clear hno hB hB9
          go_wp2_with fail
          go_ret2
          exact ⟨rfl, rfl⟩
        · have d1 : ((26 : Int) == z) = false := by simp; omega
          have Hno : Hid (∀ i : Nat, i < 27 → z ≠ 0 + (i : Int)) := by
            intro i hi e
            by_cases h : i < 26
            · exact hno i h e
            · have : i = 26 := by omega
              subst this
              exact hz (by rw [e]; rfl)
          clear hno hB hB9 hz
          go_wp2_with fail
          refine (Hpw.out 12 _ (by omega)).mono ?_
          rintro e W9 ⟨rfl, rfl⟩
          go_wp2_with fail
          go_roundw
          case rel => exact ⟨27, 12289, by omega, rfl, fun _ => by decide, by omega, rfl, rfl, Hno.out, trivial⟩
          case measure => simp [intOf]
      · have hb : B = 12289 := (hB (by omega)).trans (by decide)
        subst hb
        rw [show (if (27 : Nat) = 0 then 0 else farX (27 - 1)) = 12 by decide, show 0 + 27 = 27 from rfl]
        by_cases hz : z = 27
        · subst hz
          have e2 : ((12289, 12) : Nat × Nat) = R := by rw [← HR.out]; decide
          subst e2
          clear hno hB hB9
          go_wp2_with fail
          go_ret2
          exact ⟨rfl, rfl⟩
        · have d1 : ((27 : Int) == z) = false := by simp; omega
          have Hno : Hid (∀ i : Nat, i < 28 → z ≠ 0 + (i : Int)) := by
            intro i hi e
            by_cases h : i < 27
            · exact hno i h e
            · have : i = 27 := by omega
              subst this
              exact hz (by rw [e]; rfl)
          clear hno hB hB9 hz
          go_wp2_with fail
          refine (Hpw.out 12 _ (by omega)).mono ?_
          rintro e W9 ⟨rfl, rfl⟩
          go_wp2_with fail
          go_roundw
          case rel => exact ⟨28, 16385, by omega, rfl, fun _ => by decide, by omega, rfl, rfl, Hno.out, trivial⟩
          case measure => simp [intOf]
      · have hb : B = 16385 := (hB (by omega)).trans (by decide)
        subst hb
        rw [show (if (28 : Nat) = 0 then 0 else farX (28 - 1)) = 12 by decide, show 0 + 28 = 28 from rfl]
        by_cases hz : z = 28
        · subst hz
          have e2 : ((16385, 13) : Nat × Nat) = R := by rw [← HR.out]; decide
          subst e2
          clear hno hB hB9
          go_wp2_with fail
          go_ret2
          exact ⟨rfl, rfl⟩
        · have d1 : ((28 : Int) == z) = false := by simp; omega
          have Hno : Hid (∀ i : Nat, i < 29 → z ≠ 0 + (i : Int)) := by
            intro i hi e
            by_cases h : i < 28
            · exact hno i h e
            · have : i = 28 := by omega
              subst this
              exact hz (by rw [e]; rfl)
          clear hno hB hB9 hz
          go_wp2_with fail
          refine (Hpw.out 13 _ (by omega)).mono ?_
          rintro e W9 ⟨rfl, rfl⟩
          go_wp2_with fail
          go_roundw
          case rel => exact ⟨29, 24577, by omega, rfl, fun _ => by decide, by omega, rfl, rfl, Hno.out, trivial⟩
          case measure => simp [intOf]
      · have hb : B = 24577 := (hB (by omega)).trans (by decide)
        subst hb
        rw [show (if (29 : Nat) = 0 then 0 else farX (29 - 1)) = 13 by decide, show 0 + 29 = 29 from rfl]
        by_cases hz : z = 29
        · subst hz
          have e2 : ((24577, 13) : Nat × Nat) = R := by rw [← HR.out]; decide
          subst e2
          clear hno hB hB9
          go_wp2_with fail
          go_ret2
          exact ⟨rfl, rfl⟩
        · have d1 : ((29 : Int) == z) = false := by simp; omega
          have Hno : Hid (∀ i : Nat, i < 30 → z ≠ 0 + (i : Int)) := by
            intro i hi e
            by_cases h : i < 29
            · exact hno i h e
            · have : i = 29 := by omega
              subst this
              exact hz (by rw [e]; rfl)
          clear hno hB hB9 hz
          go_wp2_with fail
          refine (Hpw.out 13 _ (by omega)).mono ?_
          rintro e W9 ⟨rfl, rfl⟩
          go_wp2_with fail
          go_roundw
          case rel => exact ⟨30, 32769, by omega, rfl, fun h => by omega, by omega, rfl, rfl, Hno.out, trivial⟩
          case measure => simp [intOf]
    · obtain rfl : j = 30 := by omega
      have e : farZ z = (0, 0) := by
        unfold farZ
        rw [if_neg]
        intro h
        exact hno z.toNat (by omega) (by omega)
      have e2 := HR.out
      rw [e] at e2
      subst e2
      clear hB hno e
      go_wp2_with fail
      go_ret2
      exact ⟨rfl, rfl⟩
end Go.Proofs.Ytfbfflgffibjbaa
