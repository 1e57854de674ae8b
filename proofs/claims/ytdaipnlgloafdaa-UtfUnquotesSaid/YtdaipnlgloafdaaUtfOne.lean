/- Walks over layer 15: the reference's one, Valid. -/
import Derived.Test.YtdaipnlgloafdaaUtfVal
namespace Go.Proofs.Ytdaipnlgloafdaa
open Go.RowKit Utf
set_option linter.unusedVariables false
set_option maxRecDepth 100000

theorem tail_int (s : ByteArray) (j lo hi : Int) (i a b : Nat) (w : World) (hm : s.size ≤ 100000) (hj : j = (i : Int)) (ha : lo = (a : Int)) (hb : hi = (b : Int)) :
    Calls Try.prog 23 #[.string s, .int .i64 j, .int .i64 lo, .int .i64 hi] w fun e w' => e = .returned (.bool (tl (bs s) i a b)) ∧ w = w' := by
  subst hj ha hb; exact tail_any s i a b w hm

set_option maxHeartbeats 8000000 in
theorem one_any (s : ByteArray) (i : Nat) (w : World) (h : i < s.size) (hm : s.size ≤ 100000) : Calls Try.prog 17 #[.string s, .int .i64 (i : Int)] w fun e w' => e = .returned (.int .i64 ((one (bs s) i : Nat) : Int)) ∧ w = w' := by
  have hg := bs_get s i h
  have hc := get_lt s i
  have Ht := Lib.hid fun (w : World) (j lo hi : Int) (k a b : Nat) (hj : j = (k : Int)) (ha : lo = (a : Int)) (hb : hi = (b : Int)) => tail_int s j lo hi k a b w hm hj ha hb
  have H1 : Hid (one (bs s) i = if (sec ((bs s).getD i 0)).2.2 < 2 then (sec ((bs s).getD i 0)).2.2
    else if tl (bs s) (i + 1) (sec ((bs s).getD i 0)).1 (sec ((bs s).getD i 0)).2.1 = false then 0
    else if 3 ≤ (sec ((bs s).getD i 0)).2.2 ∧ tl (bs s) (i + 2) 128 191 = false then 0
    else if 4 ≤ (sec ((bs s).getD i 0)).2.2 ∧ tl (bs s) (i + 3) 128 191 = false then 0
    else (sec ((bs s).getD i 0)).2.2) := rfl
  obtain ⟨R, hR⟩ : ∃ R, one (bs s) i = R := ⟨_, rfl⟩
  rw [hR] at H1 ⊢
  generalize (bs s).getD i 0 = c at *
  clear hR
  rcases (show c ≤ 127 ∨ (127 < c ∧ c < 194) ∨ 244 < c ∨ (194 ≤ c ∧ c ≤ 223) ∨ c = 224 ∨ c = 237 ∨ (225 ≤ c ∧ c ≤ 239 ∧ c ≠ 237) ∨ c = 240 ∨ c = 244 ∨ (241 ≤ c ∧ c ≤ 243) by omega) with H | H | H | H | H | H | H | H | H | H
  · have es : sec c = (0, 0, 1) := by unfold sec; repeat (first | rw [if_pos (by omega)] | rw [if_neg (by omega)])
    have e := H1.out
    rw [es] at e
    simp only at e
    have qa : decide ((c : Int) < 128) = true := decide_eq_true (by omega)
    have qd : decide ((194 : Int) ≤ (c : Int)) = false := decide_eq_false (by omega)
    have qe : decide ((c : Int) ≤ 223) = true := decide_eq_true (by omega)
    have qf : decide ((224 : Int) ≤ (c : Int)) = false := decide_eq_false (by omega)
    have qg : decide ((c : Int) ≤ 239) = true := decide_eq_true (by omega)
    have qh : decide ((240 : Int) ≤ (c : Int)) = false := decide_eq_false (by omega)
    have qk : decide ((c : Int) ≤ 244) = true := decide_eq_true (by omega)
    have q224 : ((c : Int) == 224) = false := by simp; omega
    have q237 : ((c : Int) == 237) = false := by simp; omega
    have q240 : ((c : Int) == 240) = false := by simp; omega
    have q244 : ((c : Int) == 244) = false := by simp; omega
    rw [if_pos (by omega)] at e
    subst e
    clear es H H1
    go_enter Try.func17, Try.ntmps17
    go_wp2_with fail
    go_ret
    exact ⟨rfl, rfl⟩
  · have es : sec c = (0, 0, 0) := by unfold sec; repeat (first | rw [if_pos (by omega)] | rw [if_neg (by omega)])
    have e := H1.out
    rw [es] at e
    simp only at e
    have qa : decide ((c : Int) < 128) = false := decide_eq_false (by omega)
    have qd : decide ((194 : Int) ≤ (c : Int)) = false := decide_eq_false (by omega)
    have qe : decide ((c : Int) ≤ 223) = true := decide_eq_true (by omega)
    have qf : decide ((224 : Int) ≤ (c : Int)) = false := decide_eq_false (by omega)
    have qg : decide ((c : Int) ≤ 239) = true := decide_eq_true (by omega)
    have qh : decide ((240 : Int) ≤ (c : Int)) = false := decide_eq_false (by omega)
    have qk : decide ((c : Int) ≤ 244) = true := decide_eq_true (by omega)
    have q224 : ((c : Int) == 224) = false := by simp; omega
    have q237 : ((c : Int) == 237) = false := by simp; omega
    have q240 : ((c : Int) == 240) = false := by simp; omega
    have q244 : ((c : Int) == 244) = false := by simp; omega
    rw [if_pos (by omega)] at e
    subst e
    clear es H H1
    cases hT1 : tl (bs s) (i + 1) 128 191
    all_goals
      have HT1 := Lib.hid hT1
      clear hT1
      go_enter Try.func17, Try.ntmps17
      go_wp2_with fail
      refine (Ht.out _ _ _ _ (i + 1) 128 191 (by omega) (by omega) (by omega)).mono ?_
      rintro e W ⟨rfl, rfl⟩
      rw [HT1.out]
      go_wp2_with fail
      go_ret
      exact ⟨rfl, rfl⟩
  · have es : sec c = (0, 0, 0) := by unfold sec; repeat (first | rw [if_pos (by omega)] | rw [if_neg (by omega)])
    have e := H1.out
    rw [es] at e
    simp only at e
    have qa : decide ((c : Int) < 128) = false := decide_eq_false (by omega)
    have qd : decide ((194 : Int) ≤ (c : Int)) = true := decide_eq_true (by omega)
    have qe : decide ((c : Int) ≤ 223) = false := decide_eq_false (by omega)
    have qf : decide ((224 : Int) ≤ (c : Int)) = true := decide_eq_true (by omega)
    have qg : decide ((c : Int) ≤ 239) = false := decide_eq_false (by omega)
    have qh : decide ((240 : Int) ≤ (c : Int)) = true := decide_eq_true (by omega)
    have qk : decide ((c : Int) ≤ 244) = false := decide_eq_false (by omega)
    have q224 : ((c : Int) == 224) = false := by simp; omega
    have q237 : ((c : Int) == 237) = false := by simp; omega
    have q240 : ((c : Int) == 240) = false := by simp; omega
    have q244 : ((c : Int) == 244) = false := by simp; omega
    rw [if_pos (by omega)] at e
    subst e
    clear es H H1
    cases hT1 : tl (bs s) (i + 1) 128 191
    all_goals
      have HT1 := Lib.hid hT1
      clear hT1
      go_enter Try.func17, Try.ntmps17
      go_wp2_with fail
      refine (Ht.out _ _ _ _ (i + 1) 128 191 (by omega) (by omega) (by omega)).mono ?_
      rintro e W ⟨rfl, rfl⟩
      rw [HT1.out]
      go_wp2_with fail
      go_ret
      exact ⟨rfl, rfl⟩
  · have es : sec c = (128, 191, 2) := by unfold sec; repeat (first | rw [if_pos (by omega)] | rw [if_neg (by omega)])
    have e := H1.out
    rw [es] at e
    simp only at e
    have qa : decide ((c : Int) < 128) = false := decide_eq_false (by omega)
    have qd : decide ((194 : Int) ≤ (c : Int)) = true := decide_eq_true (by omega)
    have qe : decide ((c : Int) ≤ 223) = true := decide_eq_true (by omega)
    have qf : decide ((224 : Int) ≤ (c : Int)) = false := decide_eq_false (by omega)
    have qg : decide ((c : Int) ≤ 239) = true := decide_eq_true (by omega)
    have qh : decide ((240 : Int) ≤ (c : Int)) = false := decide_eq_false (by omega)
    have qk : decide ((c : Int) ≤ 244) = true := decide_eq_true (by omega)
    have q224 : ((c : Int) == 224) = false := by simp; omega
    have q237 : ((c : Int) == 237) = false := by simp; omega
    have q240 : ((c : Int) == 240) = false := by simp; omega
    have q244 : ((c : Int) == 244) = false := by simp; omega
    rw [if_neg (by omega)] at e
    clear es H H1
    cases hT1 : tl (bs s) (i + 1) 128 191
    · rw [if_pos hT1] at e
      subst e
      have HT1 := Lib.hid hT1
      clear hT1
      go_enter Try.func17, Try.ntmps17
      go_wp2_with fail
      refine (Ht.out _ _ _ _ (i + 1) 128 191 (by omega) (by omega) (by omega)).mono ?_
      rintro e W ⟨rfl, rfl⟩
      rw [HT1.out]
      go_wp2_with fail
      go_ret
      exact ⟨rfl, rfl⟩
    · rw [if_neg (by rw [hT1]; simp)] at e
      have HT1 := Lib.hid hT1
      clear hT1
      rw [if_neg (by omega), if_neg (by omega)] at e
      subst e
      go_enter Try.func17, Try.ntmps17
      go_wp2_with fail
      refine (Ht.out _ _ _ _ (i + 1) 128 191 (by omega) (by omega) (by omega)).mono ?_
      rintro e W ⟨rfl, rfl⟩
      rw [HT1.out]
      go_wp2_with fail
      go_ret
      exact ⟨rfl, rfl⟩
  · have es : sec c = (160, 191, 3) := by unfold sec; repeat (first | rw [if_pos (by omega)] | rw [if_neg (by omega)])
    have e := H1.out
    rw [es] at e
    simp only at e
    have qa : decide ((c : Int) < 128) = false := decide_eq_false (by omega)
    have qd : decide ((194 : Int) ≤ (c : Int)) = true := decide_eq_true (by omega)
    have qe : decide ((c : Int) ≤ 223) = false := decide_eq_false (by omega)
    have qf : decide ((224 : Int) ≤ (c : Int)) = true := decide_eq_true (by omega)
    have qg : decide ((c : Int) ≤ 239) = true := decide_eq_true (by omega)
    have qh : decide ((240 : Int) ≤ (c : Int)) = false := decide_eq_false (by omega)
    have qk : decide ((c : Int) ≤ 244) = true := decide_eq_true (by omega)
    have q224 : ((c : Int) == 224) = true := by simp; omega
    have q237 : ((c : Int) == 237) = false := by simp; omega
    have q240 : ((c : Int) == 240) = false := by simp; omega
    have q244 : ((c : Int) == 244) = false := by simp; omega
    rw [if_neg (by omega)] at e
    clear es H H1
    cases hT1 : tl (bs s) (i + 1) 160 191
    · rw [if_pos hT1] at e
      subst e
      have HT1 := Lib.hid hT1
      clear hT1
      go_enter Try.func17, Try.ntmps17
      go_wp2_with fail
      refine (Ht.out _ _ _ _ (i + 1) 160 191 (by omega) (by omega) (by omega)).mono ?_
      rintro e W ⟨rfl, rfl⟩
      rw [HT1.out]
      go_wp2_with fail
      go_ret
      exact ⟨rfl, rfl⟩
    · rw [if_neg (by rw [hT1]; simp)] at e
      have HT1 := Lib.hid hT1
      clear hT1
      cases hT2 : tl (bs s) (i + 2) 128 191
      · rw [if_pos ⟨by omega, hT2⟩] at e
        subst e
        have HT2 := Lib.hid hT2
        clear hT2
        go_enter Try.func17, Try.ntmps17
        go_wp2_with fail
        refine (Ht.out _ _ _ _ (i + 1) 160 191 (by omega) (by omega) (by omega)).mono ?_
        rintro e W ⟨rfl, rfl⟩
        rw [HT1.out]
        go_wp2_with fail
        refine (Ht.out _ _ _ _ (i + 2) 128 191 (by omega) (by omega) (by omega)).mono ?_
        rintro e W ⟨rfl, rfl⟩
        rw [HT2.out]
        go_wp2_with fail
        go_ret
        exact ⟨rfl, rfl⟩
      · rw [if_neg (fun h => by rw [hT2] at h; cases h.2)] at e
        have HT2 := Lib.hid hT2
        clear hT2
        rw [if_neg (by omega)] at e
        subst e
        go_enter Try.func17, Try.ntmps17
        go_wp2_with fail
        refine (Ht.out _ _ _ _ (i + 1) 160 191 (by omega) (by omega) (by omega)).mono ?_
        rintro e W ⟨rfl, rfl⟩
        rw [HT1.out]
        go_wp2_with fail
        refine (Ht.out _ _ _ _ (i + 2) 128 191 (by omega) (by omega) (by omega)).mono ?_
        rintro e W ⟨rfl, rfl⟩
        rw [HT2.out]
        go_wp2_with fail
        go_ret
        exact ⟨rfl, rfl⟩
  · have es : sec c = (128, 159, 3) := by unfold sec; repeat (first | rw [if_pos (by omega)] | rw [if_neg (by omega)])
    have e := H1.out
    rw [es] at e
    simp only at e
    have qa : decide ((c : Int) < 128) = false := decide_eq_false (by omega)
    have qd : decide ((194 : Int) ≤ (c : Int)) = true := decide_eq_true (by omega)
    have qe : decide ((c : Int) ≤ 223) = false := decide_eq_false (by omega)
    have qf : decide ((224 : Int) ≤ (c : Int)) = true := decide_eq_true (by omega)
    have qg : decide ((c : Int) ≤ 239) = true := decide_eq_true (by omega)
    have qh : decide ((240 : Int) ≤ (c : Int)) = false := decide_eq_false (by omega)
    have qk : decide ((c : Int) ≤ 244) = true := decide_eq_true (by omega)
    have q224 : ((c : Int) == 224) = false := by simp; omega
    have q237 : ((c : Int) == 237) = true := by simp; omega
    have q240 : ((c : Int) == 240) = false := by simp; omega
    have q244 : ((c : Int) == 244) = false := by simp; omega
    rw [if_neg (by omega)] at e
    clear es H H1
    cases hT1 : tl (bs s) (i + 1) 128 159
    · rw [if_pos hT1] at e
      subst e
      have HT1 := Lib.hid hT1
      clear hT1
      go_enter Try.func17, Try.ntmps17
      go_wp2_with fail
      refine (Ht.out _ _ _ _ (i + 1) 128 159 (by omega) (by omega) (by omega)).mono ?_
      rintro e W ⟨rfl, rfl⟩
      rw [HT1.out]
      go_wp2_with fail
      go_ret
      exact ⟨rfl, rfl⟩
    · rw [if_neg (by rw [hT1]; simp)] at e
      have HT1 := Lib.hid hT1
      clear hT1
      cases hT2 : tl (bs s) (i + 2) 128 191
      · rw [if_pos ⟨by omega, hT2⟩] at e
        subst e
        have HT2 := Lib.hid hT2
        clear hT2
        go_enter Try.func17, Try.ntmps17
        go_wp2_with fail
        refine (Ht.out _ _ _ _ (i + 1) 128 159 (by omega) (by omega) (by omega)).mono ?_
        rintro e W ⟨rfl, rfl⟩
        rw [HT1.out]
        go_wp2_with fail
        refine (Ht.out _ _ _ _ (i + 2) 128 191 (by omega) (by omega) (by omega)).mono ?_
        rintro e W ⟨rfl, rfl⟩
        rw [HT2.out]
        go_wp2_with fail
        go_ret
        exact ⟨rfl, rfl⟩
      · rw [if_neg (fun h => by rw [hT2] at h; cases h.2)] at e
        have HT2 := Lib.hid hT2
        clear hT2
        rw [if_neg (by omega)] at e
        subst e
        go_enter Try.func17, Try.ntmps17
        go_wp2_with fail
        refine (Ht.out _ _ _ _ (i + 1) 128 159 (by omega) (by omega) (by omega)).mono ?_
        rintro e W ⟨rfl, rfl⟩
        rw [HT1.out]
        go_wp2_with fail
        refine (Ht.out _ _ _ _ (i + 2) 128 191 (by omega) (by omega) (by omega)).mono ?_
        rintro e W ⟨rfl, rfl⟩
        rw [HT2.out]
        go_wp2_with fail
        go_ret
        exact ⟨rfl, rfl⟩
  · have es : sec c = (128, 191, 3) := by unfold sec; repeat (first | rw [if_pos (by omega)] | rw [if_neg (by omega)])
    have e := H1.out
    rw [es] at e
    simp only at e
    have qa : decide ((c : Int) < 128) = false := decide_eq_false (by omega)
    have qd : decide ((194 : Int) ≤ (c : Int)) = true := decide_eq_true (by omega)
    have qe : decide ((c : Int) ≤ 223) = false := decide_eq_false (by omega)
    have qf : decide ((224 : Int) ≤ (c : Int)) = true := decide_eq_true (by omega)
    have qg : decide ((c : Int) ≤ 239) = true := decide_eq_true (by omega)
    have qh : decide ((240 : Int) ≤ (c : Int)) = false := decide_eq_false (by omega)
    have qk : decide ((c : Int) ≤ 244) = true := decide_eq_true (by omega)
    have q224 : ((c : Int) == 224) = false := by simp; omega
    have q237 : ((c : Int) == 237) = false := by simp; omega
    have q240 : ((c : Int) == 240) = false := by simp; omega
    have q244 : ((c : Int) == 244) = false := by simp; omega
    rw [if_neg (by omega)] at e
    clear es H H1
    cases hT1 : tl (bs s) (i + 1) 128 191
    · rw [if_pos hT1] at e
      subst e
      have HT1 := Lib.hid hT1
      clear hT1
      go_enter Try.func17, Try.ntmps17
      go_wp2_with fail
      refine (Ht.out _ _ _ _ (i + 1) 128 191 (by omega) (by omega) (by omega)).mono ?_
      rintro e W ⟨rfl, rfl⟩
      rw [HT1.out]
      go_wp2_with fail
      go_ret
      exact ⟨rfl, rfl⟩
    · rw [if_neg (by rw [hT1]; simp)] at e
      have HT1 := Lib.hid hT1
      clear hT1
      cases hT2 : tl (bs s) (i + 2) 128 191
      · rw [if_pos ⟨by omega, hT2⟩] at e
        subst e
        have HT2 := Lib.hid hT2
        clear hT2
        go_enter Try.func17, Try.ntmps17
        go_wp2_with fail
        refine (Ht.out _ _ _ _ (i + 1) 128 191 (by omega) (by omega) (by omega)).mono ?_
        rintro e W ⟨rfl, rfl⟩
        rw [HT1.out]
        go_wp2_with fail
        refine (Ht.out _ _ _ _ (i + 2) 128 191 (by omega) (by omega) (by omega)).mono ?_
        rintro e W ⟨rfl, rfl⟩
        rw [HT2.out]
        go_wp2_with fail
        go_ret
        exact ⟨rfl, rfl⟩
      · rw [if_neg (fun h => by rw [hT2] at h; cases h.2)] at e
        have HT2 := Lib.hid hT2
        clear hT2
        rw [if_neg (by omega)] at e
        subst e
        go_enter Try.func17, Try.ntmps17
        go_wp2_with fail
        refine (Ht.out _ _ _ _ (i + 1) 128 191 (by omega) (by omega) (by omega)).mono ?_
        rintro e W ⟨rfl, rfl⟩
        rw [HT1.out]
        go_wp2_with fail
        refine (Ht.out _ _ _ _ (i + 2) 128 191 (by omega) (by omega) (by omega)).mono ?_
        rintro e W ⟨rfl, rfl⟩
        rw [HT2.out]
        go_wp2_with fail
        go_ret
        exact ⟨rfl, rfl⟩
  · have es : sec c = (144, 191, 4) := by unfold sec; repeat (first | rw [if_pos (by omega)] | rw [if_neg (by omega)])
    have e := H1.out
    rw [es] at e
    simp only at e
    have qa : decide ((c : Int) < 128) = false := decide_eq_false (by omega)
    have qd : decide ((194 : Int) ≤ (c : Int)) = true := decide_eq_true (by omega)
    have qe : decide ((c : Int) ≤ 223) = false := decide_eq_false (by omega)
    have qf : decide ((224 : Int) ≤ (c : Int)) = true := decide_eq_true (by omega)
    have qg : decide ((c : Int) ≤ 239) = false := decide_eq_false (by omega)
    have qh : decide ((240 : Int) ≤ (c : Int)) = true := decide_eq_true (by omega)
    have qk : decide ((c : Int) ≤ 244) = true := decide_eq_true (by omega)
    have q224 : ((c : Int) == 224) = false := by simp; omega
    have q237 : ((c : Int) == 237) = false := by simp; omega
    have q240 : ((c : Int) == 240) = true := by simp; omega
    have q244 : ((c : Int) == 244) = false := by simp; omega
    rw [if_neg (by omega)] at e
    clear es H H1
    cases hT1 : tl (bs s) (i + 1) 144 191
    · rw [if_pos hT1] at e
      subst e
      have HT1 := Lib.hid hT1
      clear hT1
      go_enter Try.func17, Try.ntmps17
      go_wp2_with fail
      refine (Ht.out _ _ _ _ (i + 1) 144 191 (by omega) (by omega) (by omega)).mono ?_
      rintro e W ⟨rfl, rfl⟩
      rw [HT1.out]
      go_wp2_with fail
      go_ret
      exact ⟨rfl, rfl⟩
    · rw [if_neg (by rw [hT1]; simp)] at e
      have HT1 := Lib.hid hT1
      clear hT1
      cases hT2 : tl (bs s) (i + 2) 128 191
      · rw [if_pos ⟨by omega, hT2⟩] at e
        subst e
        have HT2 := Lib.hid hT2
        clear hT2
        go_enter Try.func17, Try.ntmps17
        go_wp2_with fail
        refine (Ht.out _ _ _ _ (i + 1) 144 191 (by omega) (by omega) (by omega)).mono ?_
        rintro e W ⟨rfl, rfl⟩
        rw [HT1.out]
        go_wp2_with fail
        refine (Ht.out _ _ _ _ (i + 2) 128 191 (by omega) (by omega) (by omega)).mono ?_
        rintro e W ⟨rfl, rfl⟩
        rw [HT2.out]
        go_wp2_with fail
        go_ret
        exact ⟨rfl, rfl⟩
      · rw [if_neg (fun h => by rw [hT2] at h; cases h.2)] at e
        have HT2 := Lib.hid hT2
        clear hT2
        cases hT3 : tl (bs s) (i + 3) 128 191
        · rw [if_pos ⟨by omega, hT3⟩] at e
          subst e
          have HT3 := Lib.hid hT3
          clear hT3
          go_enter Try.func17, Try.ntmps17
          go_wp2_with fail
          refine (Ht.out _ _ _ _ (i + 1) 144 191 (by omega) (by omega) (by omega)).mono ?_
          rintro e W ⟨rfl, rfl⟩
          rw [HT1.out]
          go_wp2_with fail
          refine (Ht.out _ _ _ _ (i + 2) 128 191 (by omega) (by omega) (by omega)).mono ?_
          rintro e W ⟨rfl, rfl⟩
          rw [HT2.out]
          go_wp2_with fail
          refine (Ht.out _ _ _ _ (i + 3) 128 191 (by omega) (by omega) (by omega)).mono ?_
          rintro e W ⟨rfl, rfl⟩
          rw [HT3.out]
          go_wp2_with fail
          go_ret
          exact ⟨rfl, rfl⟩
        · rw [if_neg (fun h => by rw [hT3] at h; cases h.2)] at e
          subst e
          have HT3 := Lib.hid hT3
          clear hT3
          go_enter Try.func17, Try.ntmps17
          go_wp2_with fail
          refine (Ht.out _ _ _ _ (i + 1) 144 191 (by omega) (by omega) (by omega)).mono ?_
          rintro e W ⟨rfl, rfl⟩
          rw [HT1.out]
          go_wp2_with fail
          refine (Ht.out _ _ _ _ (i + 2) 128 191 (by omega) (by omega) (by omega)).mono ?_
          rintro e W ⟨rfl, rfl⟩
          rw [HT2.out]
          go_wp2_with fail
          refine (Ht.out _ _ _ _ (i + 3) 128 191 (by omega) (by omega) (by omega)).mono ?_
          rintro e W ⟨rfl, rfl⟩
          rw [HT3.out]
          go_wp2_with fail
          go_ret
          exact ⟨rfl, rfl⟩
  · have es : sec c = (128, 143, 4) := by unfold sec; repeat (first | rw [if_pos (by omega)] | rw [if_neg (by omega)])
    have e := H1.out
    rw [es] at e
    simp only at e
    have qa : decide ((c : Int) < 128) = false := decide_eq_false (by omega)
    have qd : decide ((194 : Int) ≤ (c : Int)) = true := decide_eq_true (by omega)
    have qe : decide ((c : Int) ≤ 223) = false := decide_eq_false (by omega)
    have qf : decide ((224 : Int) ≤ (c : Int)) = true := decide_eq_true (by omega)
    have qg : decide ((c : Int) ≤ 239) = false := decide_eq_false (by omega)
    have qh : decide ((240 : Int) ≤ (c : Int)) = true := decide_eq_true (by omega)
    have qk : decide ((c : Int) ≤ 244) = true := decide_eq_true (by omega)
    have q224 : ((c : Int) == 224) = false := by simp; omega
    have q237 : ((c : Int) == 237) = false := by simp; omega
    have q240 : ((c : Int) == 240) = false := by simp; omega
    have q244 : ((c : Int) == 244) = true := by simp; omega
    rw [if_neg (by omega)] at e
    clear es H H1
    cases hT1 : tl (bs s) (i + 1) 128 143
    · rw [if_pos hT1] at e
      subst e
      have HT1 := Lib.hid hT1
      clear hT1
      go_enter Try.func17, Try.ntmps17
      go_wp2_with fail
      refine (Ht.out _ _ _ _ (i + 1) 128 143 (by omega) (by omega) (by omega)).mono ?_
      rintro e W ⟨rfl, rfl⟩
      rw [HT1.out]
      go_wp2_with fail
      go_ret
      exact ⟨rfl, rfl⟩
    · rw [if_neg (by rw [hT1]; simp)] at e
      have HT1 := Lib.hid hT1
      clear hT1
      cases hT2 : tl (bs s) (i + 2) 128 191
      · rw [if_pos ⟨by omega, hT2⟩] at e
        subst e
        have HT2 := Lib.hid hT2
        clear hT2
        go_enter Try.func17, Try.ntmps17
        go_wp2_with fail
        refine (Ht.out _ _ _ _ (i + 1) 128 143 (by omega) (by omega) (by omega)).mono ?_
        rintro e W ⟨rfl, rfl⟩
        rw [HT1.out]
        go_wp2_with fail
        refine (Ht.out _ _ _ _ (i + 2) 128 191 (by omega) (by omega) (by omega)).mono ?_
        rintro e W ⟨rfl, rfl⟩
        rw [HT2.out]
        go_wp2_with fail
        go_ret
        exact ⟨rfl, rfl⟩
      · rw [if_neg (fun h => by rw [hT2] at h; cases h.2)] at e
        have HT2 := Lib.hid hT2
        clear hT2
        cases hT3 : tl (bs s) (i + 3) 128 191
        · rw [if_pos ⟨by omega, hT3⟩] at e
          subst e
          have HT3 := Lib.hid hT3
          clear hT3
          go_enter Try.func17, Try.ntmps17
          go_wp2_with fail
          refine (Ht.out _ _ _ _ (i + 1) 128 143 (by omega) (by omega) (by omega)).mono ?_
          rintro e W ⟨rfl, rfl⟩
          rw [HT1.out]
          go_wp2_with fail
          refine (Ht.out _ _ _ _ (i + 2) 128 191 (by omega) (by omega) (by omega)).mono ?_
          rintro e W ⟨rfl, rfl⟩
          rw [HT2.out]
          go_wp2_with fail
          refine (Ht.out _ _ _ _ (i + 3) 128 191 (by omega) (by omega) (by omega)).mono ?_
          rintro e W ⟨rfl, rfl⟩
          rw [HT3.out]
          go_wp2_with fail
          go_ret
          exact ⟨rfl, rfl⟩
        · rw [if_neg (fun h => by rw [hT3] at h; cases h.2)] at e
          subst e
          have HT3 := Lib.hid hT3
          clear hT3
          go_enter Try.func17, Try.ntmps17
          go_wp2_with fail
          refine (Ht.out _ _ _ _ (i + 1) 128 143 (by omega) (by omega) (by omega)).mono ?_
          rintro e W ⟨rfl, rfl⟩
          rw [HT1.out]
          go_wp2_with fail
          refine (Ht.out _ _ _ _ (i + 2) 128 191 (by omega) (by omega) (by omega)).mono ?_
          rintro e W ⟨rfl, rfl⟩
          rw [HT2.out]
          go_wp2_with fail
          refine (Ht.out _ _ _ _ (i + 3) 128 191 (by omega) (by omega) (by omega)).mono ?_
          rintro e W ⟨rfl, rfl⟩
          rw [HT3.out]
          go_wp2_with fail
          go_ret
          exact ⟨rfl, rfl⟩
  · have es : sec c = (128, 191, 4) := by unfold sec; repeat (first | rw [if_pos (by omega)] | rw [if_neg (by omega)])
    have e := H1.out
    rw [es] at e
    simp only at e
    have qa : decide ((c : Int) < 128) = false := decide_eq_false (by omega)
    have qd : decide ((194 : Int) ≤ (c : Int)) = true := decide_eq_true (by omega)
    have qe : decide ((c : Int) ≤ 223) = false := decide_eq_false (by omega)
    have qf : decide ((224 : Int) ≤ (c : Int)) = true := decide_eq_true (by omega)
    have qg : decide ((c : Int) ≤ 239) = false := decide_eq_false (by omega)
    have qh : decide ((240 : Int) ≤ (c : Int)) = true := decide_eq_true (by omega)
    have qk : decide ((c : Int) ≤ 244) = true := decide_eq_true (by omega)
    have q224 : ((c : Int) == 224) = false := by simp; omega
    have q237 : ((c : Int) == 237) = false := by simp; omega
    have q240 : ((c : Int) == 240) = false := by simp; omega
    have q244 : ((c : Int) == 244) = false := by simp; omega
    rw [if_neg (by omega)] at e
    clear es H H1
    cases hT1 : tl (bs s) (i + 1) 128 191
    · rw [if_pos hT1] at e
      subst e
      have HT1 := Lib.hid hT1
      clear hT1
      go_enter Try.func17, Try.ntmps17
      go_wp2_with fail
      refine (Ht.out _ _ _ _ (i + 1) 128 191 (by omega) (by omega) (by omega)).mono ?_
      rintro e W ⟨rfl, rfl⟩
      rw [HT1.out]
      go_wp2_with fail
      go_ret
      exact ⟨rfl, rfl⟩
    · rw [if_neg (by rw [hT1]; simp)] at e
      have HT1 := Lib.hid hT1
      clear hT1
      cases hT2 : tl (bs s) (i + 2) 128 191
      · rw [if_pos ⟨by omega, hT2⟩] at e
        subst e
        have HT2 := Lib.hid hT2
        clear hT2
        go_enter Try.func17, Try.ntmps17
        go_wp2_with fail
        refine (Ht.out _ _ _ _ (i + 1) 128 191 (by omega) (by omega) (by omega)).mono ?_
        rintro e W ⟨rfl, rfl⟩
        rw [HT1.out]
        go_wp2_with fail
        refine (Ht.out _ _ _ _ (i + 2) 128 191 (by omega) (by omega) (by omega)).mono ?_
        rintro e W ⟨rfl, rfl⟩
        rw [HT2.out]
        go_wp2_with fail
        go_ret
        exact ⟨rfl, rfl⟩
      · rw [if_neg (fun h => by rw [hT2] at h; cases h.2)] at e
        have HT2 := Lib.hid hT2
        clear hT2
        cases hT3 : tl (bs s) (i + 3) 128 191
        · rw [if_pos ⟨by omega, hT3⟩] at e
          subst e
          have HT3 := Lib.hid hT3
          clear hT3
          go_enter Try.func17, Try.ntmps17
          go_wp2_with fail
          refine (Ht.out _ _ _ _ (i + 1) 128 191 (by omega) (by omega) (by omega)).mono ?_
          rintro e W ⟨rfl, rfl⟩
          rw [HT1.out]
          go_wp2_with fail
          refine (Ht.out _ _ _ _ (i + 2) 128 191 (by omega) (by omega) (by omega)).mono ?_
          rintro e W ⟨rfl, rfl⟩
          rw [HT2.out]
          go_wp2_with fail
          refine (Ht.out _ _ _ _ (i + 3) 128 191 (by omega) (by omega) (by omega)).mono ?_
          rintro e W ⟨rfl, rfl⟩
          rw [HT3.out]
          go_wp2_with fail
          go_ret
          exact ⟨rfl, rfl⟩
        · rw [if_neg (fun h => by rw [hT3] at h; cases h.2)] at e
          subst e
          have HT3 := Lib.hid hT3
          clear hT3
          go_enter Try.func17, Try.ntmps17
          go_wp2_with fail
          refine (Ht.out _ _ _ _ (i + 1) 128 191 (by omega) (by omega) (by omega)).mono ?_
          rintro e W ⟨rfl, rfl⟩
          rw [HT1.out]
          go_wp2_with fail
          refine (Ht.out _ _ _ _ (i + 2) 128 191 (by omega) (by omega) (by omega)).mono ?_
          rintro e W ⟨rfl, rfl⟩
          rw [HT2.out]
          go_wp2_with fail
          refine (Ht.out _ _ _ _ (i + 3) 128 191 (by omega) (by omega) (by omega)).mono ?_
          rintro e W ⟨rfl, rfl⟩
          rw [HT3.out]
          go_wp2_with fail
          go_ret
          exact ⟨rfl, rfl⟩

set_option maxHeartbeats 4000000 in
theorem refValid_any (s : ByteArray) (w : World) (hm : s.size ≤ 100000) (R : Bool) (f0 : Nat) (hf0 : s.size < f0) (hR : val (bs s) f0 0 = R) : Calls Try.prog 8 #[.string s] w fun e w' => e = .returned (.bool R) ∧ w = w' := by
  have hl := bs_length s
  obtain ⟨L, hL⟩ : ∃ L, L = s.size := ⟨_, rfl⟩
  have HL : Hid ((bs s).length = L) := by show _ = _; rw [hL]; exact hl
  have HR := Lib.hid hR
  have Hf : Hid (L < f0) := by rw [hL]; exact hf0
  have Ho : Hid (∀ i, i < L → Calls Try.prog 17 #[.string s, .int .i64 (i : Int)] w fun e w' => e = .returned (.int .i64 ((one (bs s) i : Nat) : Int)) ∧ w = w') := fun i hi => one_any s i w (by omega) hm
  have hsz : s.size ≤ 100000 := hm
  have Hs : Hid (s.size = L) := hL.symm
  clear hl hL hR hf0 hm
  go_enter Try.func8, Try.ntmps8
  go_wp2_with fail
  go_loop [3] (fun u => ∃ (i f : Nat), u = .int .i64 (i : Int) ∧ i ≤ s.size ∧ Hid (s.size - i < f) ∧ Hid (val (bs s) f i = R)) (fun u => s.size - (intOf u).toNat)
  case atStart => exact ⟨0, f0, rfl, Nat.zero_le _, by have := Hf.out; have := Hs.out; show s.size - 0 < f0; omega, HR⟩
  case round =>
    obtain ⟨i, f, rfl, hi, hf, hv⟩ := hrel
    obtain ⟨f, rfl⟩ : ∃ g, f = g + 1 := ⟨f - 1, by have := hf.out; omega⟩
    by_cases hlt : i < s.size
    · have hq := Ho.out i (by have := Hs.out; omega)
      have hlL := HL.out
      have hsL := Hs.out
      have hle := one_le (l := bs s) (i := i) (by omega)
      have Hbad := Lib.hid fun h => val_bad (l := bs s) (f := f) (i := i) (by omega) h
      have Hmore := Lib.hid fun h => val_more (l := bs s) (f := f) (i := i) (by omega) h
      generalize one (bs s) i = n at *
      have Hq := Lib.hid hq
      have hle2 : i + n ≤ s.size := by omega
      clear hq hlL hsL hle
      by_cases hn : n = 0
      · subst hn
        have hR : false = R := (Hbad.out rfl).symm.trans hv.out
        subst hR
        go_wp2_with fail
        refine Hq.out.mono ?_
        rintro e W ⟨rfl, rfl⟩
        go_wp2_with fail
        go_ret
        exact ⟨rfl, rfl⟩
      · have HV : Hid (val (bs s) f (i + n) = R) := (Hmore.out hn).symm.trans hv.out
        have HF : Hid (s.size - (i + n) < f) := by have := hf.out; show s.size - (i + n) < f; omega
        have hn0 : ((n : Int) == 0) = false := by simp; omega
        have hnpos : 0 < n := by omega
        clear hn
        go_wp2_with fail
        refine Hq.out.mono ?_
        rintro e W ⟨rfl, rfl⟩
        go_wp2_with fail
        go_round
        case rel => exact ⟨i + n, f, by go_num, hle2, HF, HV⟩
        case measure => simp [intOf]; omega
    · have hR : true = R := (val_end (l := bs s) (f := f) (i := i) (by rw [HL.out]; have := Hs.out; omega)).symm.trans hv.out
      subst hR
      go_wp2_with fail
      go_ret
      exact ⟨rfl, rfl⟩
end Go.Proofs.Ytdaipnlgloafdaa
