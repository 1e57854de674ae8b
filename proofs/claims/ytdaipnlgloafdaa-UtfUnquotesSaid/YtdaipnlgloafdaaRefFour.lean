/- Walks over layer 15: the reference's four. -/
import Derived.Test.YtdaipnlgloafdaaUnqFour
namespace Go.Proofs.Ytdaipnlgloafdaa
open Go.RowKit Utf
set_option linter.unusedVariables false
set_option maxRecDepth 100000

set_option maxHeartbeats 4000000 in
theorem four_any (b : ByteArray) (k : Nat) (w : World) (hk : k ≤ 1000000000) (hs : b.size ≤ 1000000000) (R : Int × Int) (hR : fourE (bs b) 4 k 0 = R) :
    Calls Try.prog 27 #[.string b, .int .i64 (k : Int)] w fun e w' => e = .returned (.tuple #[.int .i64 R.1, .int .i64 R.2]) ∧ w = w' := by
  have Hlen := Lib.hid (bs_length b)
  have HR := Lib.hid hR
  have hw4 : IntKind.i64.wrap ((k : Int) + 4) = (k : Int) + 4 := IntWalk.i64_in _ ⟨by omega, by omega⟩
  clear hR
  go_enter Try.func27, Try.ntmps27
  go_wp2_with fail
  go_loopw [6, 7] (fun n u X => ∃ (i f : Nat) (m : Int), i + f = 4 ∧ u = .int .i64 ((k : Int) + (i : Int)) ∧ n = .int .i64 m ∧ (0 ≤ m ∧ m < 16 ^ i) ∧ Hid (fourE (bs b) f (k + i) m = R) ∧ X = w) (fun _ u _ => k + 4 - (intOf u).toNat)
  case atStart => exact ⟨0, 4, 0, rfl, by simp, rfl, ⟨by omega, by omega⟩, HR, rfl⟩
  case round =>
    obtain ⟨i, f, m, hif, rfl, rfl, hb, hv, rfl⟩ := hrel
    rcases f with _ | f
    · have hi : i = 4 := by omega
      subst hi
      have e : (m, (0 : Int)) = R := hv.out
      subst e
      clear hb
      go_wp2_with fail
      go_ret2
      exact ⟨rfl, rfl⟩
    · have hlt : i < 4 := by omega
      have e := hv.out
      simp only [fourE] at e
      obtain ⟨j, hj⟩ : ∃ j, j = k + i := ⟨_, rfl⟩
      have hji : (k : Int) + (i : Int) = (j : Int) := by omega
      rw [← hj] at e
      rw [hji]
      have n1 : decide ((j : Int) < (k : Int) + 4) = true := decide_eq_true (by omega)
      have hw5 : IntKind.i64.wrap ((j : Int) + 1) = (j : Int) + 1 := IntWalk.i64_in _ ⟨by omega, by omega⟩
      by_cases hin : j < b.size
      · rw [if_pos (by have := Hlen.out; omega)] at e
        have n2 : decide ((b.size : Int) ≤ (j : Int)) = false := decide_eq_false (by omega)
        have hg := bs_get b j hin
        have h1 := hexN_lt ((bs b).getD j 0)
        have hc8 := get_lt b j
        generalize (bs b).getD j 0 = c at *
        obtain ⟨d, hdd⟩ : ∃ d, Hid (hexN c = d) := ⟨_, rfl⟩
        rw [hdd.out] at h1 e
        have Hx : Hid (∀ X, Calls Try.prog 10 #[.int .u8 (c : Int)] X fun e w' => e = .returned (.int .i64 d) ∧ X = w') := fun X => by rw [← hdd.out]; exact refHex_any c X hc8
        by_cases h0 : d < 0
        · rw [if_pos h0] at e
          subst e
          have hd0 : decide (d < 0) = true := decide_eq_true h0
          clear hb h1 hdd hv HR hj hji
          go_wp2_with fail
          refine (Hx.out _).mono ?_
          rintro e Y ⟨rfl, rfl⟩
          go_wp2_with fail
          go_ret2
          exact ⟨rfl, rfl⟩
        · rw [if_neg h0] at e
          have h2 : (16 : Int) ^ (i + 1) = 16 * 16 ^ i := by rw [Int.pow_succ, Int.mul_comm]
          have h3 : (16 : Int) ^ (i + 1) ≤ 65536 := by
            have : ∀ i, i < 4 → (16 : Int) ^ (i + 1) ≤ 65536 := by decide
            exact this i hlt
          have hb2 : 0 ≤ 16 * m + d ∧ 16 * m + d < 16 ^ (i + 1) := by omega
          have HB := Lib.hid hb2
          have HE := Lib.hid e
          have hm0 : 0 ≤ m := hb.1
          have hm1 : m < 4096 := by omega
          have hd0 : decide (d < 0) = false := decide_eq_false h0
          have hw1 : IntKind.i64.wrap (16 * m) = 16 * m := IntWalk.i64_in _ ⟨by omega, by omega⟩
          have hw2 : IntKind.i64.wrap (16 * m + d) = 16 * m + d := IntWalk.i64_in _ ⟨by omega, by omega⟩
          have Hj := Lib.hid hj
          clear e hb hb2 h0 h1 h2 h3 hdd hv HR hj hji
          go_wp2_with fail
          refine (Hx.out _).mono ?_
          rintro e Y ⟨rfl, rfl⟩
          go_wp2_with fail
          refine (Hx.out _).mono ?_
          rintro e Y ⟨rfl, rfl⟩
          go_wp2_with fail
          go_roundw
          case rel => exact ⟨i + 1, f, _, by omega, by have := Hj.out; congr 1; omega, rfl, HB.out, by have h := HE.out; rw [Hj.out] at h; exact h, trivial⟩
          case measure => have := Hj.out; simp [intOf] <;> omega
      · rw [if_neg (by have := Hlen.out; omega)] at e
        subst e
        have n2 : decide ((b.size : Int) ≤ (j : Int)) = true := decide_eq_true (by omega)
        clear hb hv HR hj hji
        go_wp2_with fail
        go_ret2
        exact ⟨rfl, rfl⟩
end Go.Proofs.Ytdaipnlgloafdaa
