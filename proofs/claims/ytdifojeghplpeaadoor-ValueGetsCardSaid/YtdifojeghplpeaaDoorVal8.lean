/- Layer 8: Right, both sides; Kind. -/
import Derived.Test.YtdifojeghplpeaaDoorVS
import Derived.IntWalk
namespace Go.Proofs.YtdifojeghplpeaaDoor
open Go.RowKit
set_option linter.unusedVariables false
set_option maxRecDepth 100000

def rightV (v : V3) : Bool := if v.1 = 1 then vstr v.2.1 else if v.1 = 7 then decide (v.2.2 ≤ 1) else if v.1 = 2 then decide (v.2.2 ≤ 4294967295) else decide (3 ≤ v.1 ∧ v.1 ≤ 6)
set_option maxHeartbeats 4000000 in
theorem right_any (v : V3) (w : World) (hT : Tabs w) (hs : v.2.1.size ≤ 9223372036854775807) (hb : v.2.2 < 18446744073709551616) :
    Calls Tryd.prog 8 #[vv v] w fun e w' => e = .returned (.bool (rightV v)) ∧ Below w.heap.size w w' := by
  have HV := Lib.hid fun W (hW : Tabs W) => valid_any v.2.1 W hs hW
  have HT := Lib.hid hT
  obtain ⟨k, s, b⟩ := v
  unfold vv
  simp only at HV hs hb ⊢
  have hX : Hid (Below w.heap.size w (w.alloc (.cells #[.int .i64 k, .string s, .int .u64 (b : Int)] 24))) := (Below.refl _ _).alloc (Nat.le_refl _) _
  clear hs hT
  by_cases h1 : k = 1
  · subst h1
    have hr : rightV (1, s, b) = vstr s := rfl
    rw [hr]
    clear hr
    go_enter Tryd.func8, Tryd.ntmps8
    go_wp2_with fail
    refine (HV.out _ (HT.out.below hX.out)).mono ?_
    rintro e X ⟨rfl, hY⟩
    have HB := Lib.hid (hX.out.trans (hY.mono hX.out.size))
    clear hY HV
    go_wp2_with fail
    go_ret
    exact ⟨rfl, HB.out⟩
  · have e1 : (k == 1) = false := by simpa using h1
    clear HV HT
    by_cases h7 : k = 7
    · subst h7
      have hr : rightV (7, s, b) = decide (b ≤ 1) := rfl
      rw [hr]
      clear hr
      have hd : decide ((b : Int) ≤ 1) = decide (b ≤ 1) := decide_eq_decide.2 (by omega)
      go_enter Tryd.func8, Tryd.ntmps8
      go_wp2_with fail
      go_ret
      exact ⟨by simp [hd] <;> omega, hX.out⟩
    · have e7 : (k == 7) = false := by simpa using h7
      by_cases h2 : k = 2
      · subst h2
        have hr : rightV (2, s, b) = decide (b ≤ 4294967295) := rfl
        rw [hr]
        clear hr
        have hd : decide ((b : Int) ≤ 4294967295) = decide (b ≤ 4294967295) := decide_eq_decide.2 (by omega)
        go_enter Tryd.func8, Tryd.ntmps8
        go_wp2_with fail
        go_ret
        exact ⟨by simp [hd] <;> omega, hX.out⟩
      · have e2 : (k == 2) = false := by simpa using h2
        have hr : rightV (k, s, b) = decide (3 ≤ k ∧ k ≤ 6) := by unfold rightV; rw [if_neg h1, if_neg h7, if_neg h2]
        rw [hr]
        clear hr
        have hbm : (b : Int) ≤ 18446744073709551615 := by omega
        have hd : decide ((b : Int) ≤ 18446744073709551615) = true := decide_eq_true hbm
        by_cases h3 : k = 3 ∨ k = 4 ∨ k = 5 ∨ k = 6
        · rcases h3 with rfl | rfl | rfl | rfl
          all_goals
            go_enter Tryd.func8, Tryd.ntmps8
            go_wp2_with fail
            go_ret
            exact ⟨by simp [hd] <;> omega, hX.out⟩
        · have e3 : (k == 3) = false := by simp; omega
          have e4 : (k == 4) = false := by simp; omega
          have e5 : (k == 5) = false := by simp; omega
          have e6 : (k == 6) = false := by simp; omega
          have hn : decide (3 ≤ k ∧ k ≤ 6) = false := decide_eq_false (by omega)
          rw [hn]
          clear hn
          go_enter Tryd.func8, Tryd.ntmps8
          go_wp2_with fail
          go_ret
          exact ⟨rfl, hX.out⟩
set_option maxHeartbeats 4000000 in
theorem rright_any (v : V3) (w : World) (hT : Tabs w) (hs : v.2.1.size ≤ 9223372036854775807) (hb : v.2.2 < 18446744073709551616) :
    Calls Tryd.prog 9 #[vv v] w fun e w' => e = .returned (.bool (rightV v)) ∧ Below w.heap.size w w' := by
  have HV := Lib.hid fun W (hW : Tabs W) => valid_any v.2.1 W hs hW
  have HT := Lib.hid hT
  obtain ⟨k, s, b⟩ := v
  unfold vv
  simp only at HV hs hb ⊢
  have hX : Hid (Below w.heap.size w (w.alloc (.cells #[.int .i64 k, .string s, .int .u64 (b : Int)] 24))) := (Below.refl _ _).alloc (Nat.le_refl _) _
  clear hs hT
  by_cases h1 : k = 1
  · subst h1
    have hr : rightV (1, s, b) = vstr s := rfl
    rw [hr]
    clear hr
    go_enter Tryd.func9, Tryd.ntmps9
    go_wp2_with fail
    refine (HV.out _ (HT.out.below hX.out)).mono ?_
    rintro e X ⟨rfl, hY⟩
    have HB := Lib.hid (hX.out.trans (hY.mono hX.out.size))
    clear hY HV
    go_wp2_with fail
    go_ret
    exact ⟨rfl, HB.out⟩
  · have e1 : (k == 1) = false := by simpa using h1
    clear HV HT
    by_cases h7 : k = 7
    · subst h7
      have hr : rightV (7, s, b) = decide (b ≤ 1) := rfl
      rw [hr]
      clear hr
      have hd : decide ((b : Int) ≤ 1) = decide (b ≤ 1) := decide_eq_decide.2 (by omega)
      go_enter Tryd.func9, Tryd.ntmps9
      go_wp2_with fail
      go_ret
      exact ⟨by simp [hd] <;> omega, hX.out⟩
    · have e7 : (k == 7) = false := by simpa using h7
      by_cases h2 : k = 2
      · subst h2
        have hr : rightV (2, s, b) = decide (b ≤ 4294967295) := rfl
        rw [hr]
        clear hr
        have hd : decide ((b : Int) ≤ 4294967295) = decide (b ≤ 4294967295) := decide_eq_decide.2 (by omega)
        go_enter Tryd.func9, Tryd.ntmps9
        go_wp2_with fail
        go_ret
        exact ⟨by simp [hd] <;> omega, hX.out⟩
      · have e2 : (k == 2) = false := by simpa using h2
        have hr : rightV (k, s, b) = decide (3 ≤ k ∧ k ≤ 6) := by unfold rightV; rw [if_neg h1, if_neg h7, if_neg h2]
        rw [hr]
        clear hr
        by_cases h3 : 2 < k
        · have d3 : decide (2 < k) = true := decide_eq_true h3
          have d4 : decide (k < 7) = decide (3 ≤ k ∧ k ≤ 6) := decide_eq_decide.2 (by omega)
          by_cases h4 : k < 7
          · have d5 : decide (k < 7) = true := decide_eq_true h4
            rw [← d4, d5]
            clear d4
            go_enter Tryd.func9, Tryd.ntmps9
            go_wp2_with fail
            go_ret
            exact ⟨rfl, hX.out⟩
          · have d5 : decide (k < 7) = false := decide_eq_false h4
            rw [← d4, d5]
            clear d4
            go_enter Tryd.func9, Tryd.ntmps9
            go_wp2_with fail
            go_ret
            exact ⟨rfl, hX.out⟩
        · have d3 : decide (2 < k) = false := decide_eq_false h3
          have hn : decide (3 ≤ k ∧ k ≤ 6) = false := decide_eq_false (by omega)
          rw [hn]
          clear hn
          go_enter Tryd.func9, Tryd.ntmps9
          go_wp2_with fail
          go_ret
          exact ⟨rfl, hX.out⟩
end Go.Proofs.YtdifojeghplpeaaDoor
