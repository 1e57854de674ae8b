/- Layer 9: Right, the walk. -/
import Derived.Test.YtohgdlhijgjdkaaPathEn1
import Derived.Test.YtohgdlhijgjdkaaPathRd4
namespace Go.Proofs.Ytohgdlhijgjdkaa
open Go.RowKit
set_option linter.unusedVariables false
set_option maxRecDepth 100000

set_option maxHeartbeats 8000000 in
theorem right_any (K : Int) (u : Value) (ll : List (List P2)) (w : World) (hu : RdPP w w.heap.size u ll) (hlen : ll.length ≤ 1000000) (hin : ∀ l ∈ ll, l.length ≤ 1000000) (hKb : -9223372036854775808 ≤ K ∧ K < 9223372036854775808) :
    Calls Try.prog 14 #[.int .i64 K, u] w fun e w' => e = .returned (.int .i64 (rightP K ll : Int)) ∧ Below w.heap.size w w' := by
  obtain ⟨a, c, rfl, _, _, hP⟩ := hu.at
  obtain ⟨R, hR⟩ : ∃ R, R = rightP K ll := ⟨_, rfl⟩
  rw [← hR]
  have HR := Lib.hid hR
  have HP := Lib.hid hP
  have HIn := Lib.hid hin
  have HLe := Lib.hid fun W => least_any K W
  obtain ⟨L, hL⟩ : ∃ z, z = ll.length := ⟨_, rfl⟩
  have HL := Lib.hid hL
  rw [← hL] at hlen ⊢
  clear hL hu hP hin hR
  by_cases h1 : K < 1
  · have d1 : decide (K < 1) = true := decide_eq_true h1
    have hr : R = 1 := by rw [HR.out]; unfold rightP; rw [if_pos (.inl h1)]
    subst hr
    go_enter Try.func14, Try.ntmps14
    go_wp2_with fail
    go_ret
    exact ⟨rfl, Below.refl _ _⟩
  · have d1 : decide (K < 1) = false := decide_eq_false h1
    by_cases h3 : 3 < K
    · have d3 : decide (3 < K) = true := decide_eq_true h3
      have hr : R = 1 := by rw [HR.out]; unfold rightP; rw [if_pos (.inr h3)]
      subst hr
      go_enter Try.func14, Try.ntmps14
      go_wp2_with fail
      go_ret
      exact ⟨rfl, Below.refl _ _⟩
    · have d3 : decide (3 < K) = false := decide_eq_false h3
      have hr1 : R = if ll.length = 0 ∨ (K = 1 ∧ 1 < ll.length) then 3 else if ll.any (shortP K) = true then 3 else if ll.any (fun l => l.any outP) = true then 8 else 0 := by
        rw [HR.out]; unfold rightP; rw [if_neg (by omega)]
      rw [← HL.out] at hr1
      by_cases h0 : L = 0
      · have d0 : ((L : Int) == 0) = true := by simp; omega
        have hr : R = 3 := by rw [hr1, if_pos (.inl h0)]
        subst hr
        clear hr1 h0
        go_enter Try.func14, Try.ntmps14
        go_wp2_with fail
        go_ret
        exact ⟨rfl, Below.refl _ _⟩
      · have d0 : ((L : Int) == 0) = false := by simp; omega
        by_cases hm : K = 1 ∧ 1 < L
        · obtain ⟨hm1, hm2⟩ := hm
          have dk : (K == 1) = true := by simp [hm1]
          have dm : decide (1 < (L : Int)) = true := decide_eq_true (by omega)
          have hr : R = 3 := by rw [hr1, if_pos (.inr ⟨hm1, hm2⟩)]
          subst hr
          clear hr1 hm1 HR HLe
          go_enter Try.func14, Try.ntmps14
          go_wp2_with fail
          go_ret
          exact ⟨rfl, Below.refl _ _⟩
        · rw [if_neg (by omega)] at hr1
          have HR1 := Lib.hid hr1
          obtain ⟨lN, hlN⟩ : ∃ z, z = leastN K := ⟨_, rfl⟩
          have HlN := Lib.hid hlN
          rw [← hlN] at HLe
          have hlNb : 1 ≤ lN ∧ lN ≤ 3 := by
            rw [hlN]
            unfold leastN
            by_cases e3 : K = 3
            · rw [if_pos e3]; omega
            · rw [if_neg e3]
              by_cases e2 : K = 2
              · rw [if_pos e2]; omega
              · rw [if_neg e2]; omega
          clear hr1 hlN
          by_cases hk1 : K = 1
          · have dk : (K == 1) = true := by simp [hk1]
            have dm : decide (1 < (L : Int)) = false := decide_eq_false (by omega)
            have hLm : ¬ 1 < L := by omega
            clear hm hk1
            go_enter Try.func14, Try.ntmps14
            go_upto_region 5 with (fail)
            go_wp2_with fail
            go_loopw [29] (fun i W => ∃ k : Nat, k ≤ L ∧ i = .int .i64 (k : Int) ∧ Hid (Below w.heap.size w W) ∧ Hid (ll.any (shortP K) = (ll.drop k).any (shortP K))) (fun i _ => L - (intOf i).toNat)
            case atStart => exact ⟨0, Nat.zero_le _, rfl, Below.refl _ _, rfl⟩
            case round =>
              obtain ⟨k, hk, rfl, hbw, ht⟩ := hrel
              by_cases hlt : k < L
              · have hkl : k < ll.length := by have := HL.out; omega
                obtain ⟨b1, o1, ue, rfl, hb1, ce, hRd⟩ := (HP.out.below hbw.out) k hkl
                obtain ⟨ae, cx, rfl, hce, hcm, hPt⟩ := hRd
                have hn := any_nextP (f := shortP K) hkl
                have hil := HIn.out _ (List.getElem_mem hkl)
                have hsh : shortP K ll[k] = decide (((ll[k]'hkl).length : Int) < lN) := by unfold shortP; rw [← HlN.out]
                rw [hsh] at hn
                generalize (ll[k]'hkl).length = m at *
                have hk0 : (0 : Int) ≤ (k : Int) := by omega
                have hk1 : (k : Int) < (L : Int) := by omega
                have Hn := Lib.hid hn
                clear hn hsh hPt hkl
                by_cases hs : (m : Int) < lN
                · have ds : decide ((m : Int) < lN) = true := decide_eq_true hs
                  have hr : R = 3 := by rw [HR1.out, if_pos (by rw [ht.out, Hn.out, ds]; rfl)]
                  subst hr
                  go_wp2_with (go_at_call 23; refine (HLe.out _).mono ?_; rintro e W9 ⟨rfl, rfl⟩)
                  go_ret
                  exact ⟨rfl, hbw.out⟩
                · have ds : decide ((m : Int) < lN) = false := decide_eq_false hs
                  have Ht2 : Hid (ll.any (shortP K) = (ll.drop (k + 1)).any (shortP K)) := by show _ = _; rw [ht.out, Hn.out, ds]; rfl
                  go_wp2_with (go_at_call 23; refine (HLe.out _).mono ?_; rintro e W9 ⟨rfl, rfl⟩)
                  go_roundw
                  case rel => exact ⟨k + 1, by omega, by go_num, hbw, Ht2⟩
                  case measure => simp [intOf]; omega
              · have hkL : k = L := by omega
                have hf : ll.any (shortP K) = false := by rw [ht.out, List.drop_eq_nil_of_le (by have := HL.out; omega)]; rfl
                have hr2 : R = if ll.any (fun l => l.any outP) = true then 8 else 0 := by rw [HR1.out, if_neg (by rw [hf]; simp)]
                have HR2 := Lib.hid hr2
                have hbw0 := hbw
                clear hf hr2 ht
                subst hkL
                go_wp2_with fail
                go_loopw [41] (fun i W => ∃ j : Nat, j ≤ k ∧ i = .int .i64 (j : Int) ∧ Hid (Below w.heap.size w W) ∧ Hid (ll.any (fun l => l.any outP) = (ll.drop j).any (fun l => l.any outP))) (fun i _ => k - (intOf i).toNat)
                case atStart => exact ⟨0, Nat.zero_le _, rfl, hbw0, rfl⟩
                case round =>
                  obtain ⟨j, hj, rfl, hbj, htj⟩ := hrel
                  by_cases hlt2 : j < k
                  · have hkl : j < ll.length := by have := HL.out; omega
                    obtain ⟨b1, o1, ue, rfl, hb1, ce, hRd⟩ := (HP.out.below hbj.out) j hkl
                    obtain ⟨ae, cx, rfl, hce, hcm, hPt⟩ := hRd
                    have hn := any_nextP (f := fun l => l.any outP) hkl
                    have hil := HIn.out _ (List.getElem_mem hkl)
                    have HC := Lib.hid (containsFunc_any ae cx (ll[j]'hkl) _ (hPt.more hbj.out.size) hil)
                    generalize ll[j]'hkl = l0 at *
                    obtain ⟨m, hm⟩ : ∃ z, z = l0.length := ⟨_, rfl⟩
                    rw [← hm] at HC ce
                    obtain ⟨t, htt⟩ : ∃ t, t = l0.any outP := ⟨_, rfl⟩
                    rw [← htt] at HC hn
                    have hk0 : (0 : Int) ≤ (j : Int) := by omega
                    have hk1 : (j : Int) < (k : Int) := by omega
                    have Hn := Lib.hid hn
                    clear hn hPt hkl hm htt hil hce
                    go_wp2_with fail
                    refine HC.out.mono ?_
                    rintro e X ⟨rfl, hX⟩
                    have HX := Lib.hid (hbj.out.trans (hX.mono hbj.out.size))
                    clear hX ce HC
                    cases ho : t with
                    | true =>
                      have hr : R = 8 := by rw [HR2.out, if_pos (by rw [htj.out, Hn.out, ho]; rfl)]
                      subst hr ho
                      go_wp2_with fail
                      go_ret
                      exact ⟨rfl, HX.out⟩
                    | false =>
                      have Ht2 : Hid (ll.any (fun l => l.any outP) = (ll.drop (j + 1)).any (fun l => l.any outP)) := by show _ = _; rw [htj.out, Hn.out, ho]; rfl
                      subst ho
                      go_wp2_with fail
                      go_roundw
                      case rel => exact ⟨j + 1, by omega, by go_num, HX, Ht2⟩
                      case measure => simp [intOf]; omega
                  · have hjk : j = k := by omega
                    have hf : ll.any (fun l => l.any outP) = false := by rw [htj.out, List.drop_eq_nil_of_le (by have := HL.out; omega)]; rfl
                    have hr : R = 0 := by rw [HR2.out, if_neg (by rw [hf]; simp)]
                    subst hr hjk
                    clear hf
                    go_wp2_with fail
                    go_ret
                    exact ⟨rfl, hbj.out⟩
          · have dk : (K == 1) = false := by simpa using hk1
            clear hm hk1
            go_enter Try.func14, Try.ntmps14
            go_upto_region 5 with (fail)
            go_wp2_with fail
            go_loopw [29] (fun i W => ∃ k : Nat, k ≤ L ∧ i = .int .i64 (k : Int) ∧ Hid (Below w.heap.size w W) ∧ Hid (ll.any (shortP K) = (ll.drop k).any (shortP K))) (fun i _ => L - (intOf i).toNat)
            case atStart => exact ⟨0, Nat.zero_le _, rfl, Below.refl _ _, rfl⟩
            case round =>
              obtain ⟨k, hk, rfl, hbw, ht⟩ := hrel
              by_cases hlt : k < L
              · have hkl : k < ll.length := by have := HL.out; omega
                obtain ⟨b1, o1, ue, rfl, hb1, ce, hRd⟩ := (HP.out.below hbw.out) k hkl
                obtain ⟨ae, cx, rfl, hce, hcm, hPt⟩ := hRd
                have hn := any_nextP (f := shortP K) hkl
                have hil := HIn.out _ (List.getElem_mem hkl)
                have hsh : shortP K ll[k] = decide (((ll[k]'hkl).length : Int) < lN) := by unfold shortP; rw [← HlN.out]
                rw [hsh] at hn
                generalize (ll[k]'hkl).length = m at *
                have hk0 : (0 : Int) ≤ (k : Int) := by omega
                have hk1 : (k : Int) < (L : Int) := by omega
                have Hn := Lib.hid hn
                clear hn hsh hPt hkl
                by_cases hs : (m : Int) < lN
                · have ds : decide ((m : Int) < lN) = true := decide_eq_true hs
                  have hr : R = 3 := by rw [HR1.out, if_pos (by rw [ht.out, Hn.out, ds]; rfl)]
                  subst hr
                  go_wp2_with (go_at_call 23; refine (HLe.out _).mono ?_; rintro e W9 ⟨rfl, rfl⟩)
                  go_ret
                  exact ⟨rfl, hbw.out⟩
                · have ds : decide ((m : Int) < lN) = false := decide_eq_false hs
                  have Ht2 : Hid (ll.any (shortP K) = (ll.drop (k + 1)).any (shortP K)) := by show _ = _; rw [ht.out, Hn.out, ds]; rfl
                  go_wp2_with (go_at_call 23; refine (HLe.out _).mono ?_; rintro e W9 ⟨rfl, rfl⟩)
                  go_roundw
                  case rel => exact ⟨k + 1, by omega, by go_num, hbw, Ht2⟩
                  case measure => simp [intOf]; omega
              · have hkL : k = L := by omega
                have hf : ll.any (shortP K) = false := by rw [ht.out, List.drop_eq_nil_of_le (by have := HL.out; omega)]; rfl
                have hr2 : R = if ll.any (fun l => l.any outP) = true then 8 else 0 := by rw [HR1.out, if_neg (by rw [hf]; simp)]
                have HR2 := Lib.hid hr2
                have hbw0 := hbw
                clear hf hr2 ht
                subst hkL
                go_wp2_with fail
                go_loopw [41] (fun i W => ∃ j : Nat, j ≤ k ∧ i = .int .i64 (j : Int) ∧ Hid (Below w.heap.size w W) ∧ Hid (ll.any (fun l => l.any outP) = (ll.drop j).any (fun l => l.any outP))) (fun i _ => k - (intOf i).toNat)
                case atStart => exact ⟨0, Nat.zero_le _, rfl, hbw0, rfl⟩
                case round =>
                  obtain ⟨j, hj, rfl, hbj, htj⟩ := hrel
                  by_cases hlt2 : j < k
                  · have hkl : j < ll.length := by have := HL.out; omega
                    obtain ⟨b1, o1, ue, rfl, hb1, ce, hRd⟩ := (HP.out.below hbj.out) j hkl
                    obtain ⟨ae, cx, rfl, hce, hcm, hPt⟩ := hRd
                    have hn := any_nextP (f := fun l => l.any outP) hkl
                    have hil := HIn.out _ (List.getElem_mem hkl)
                    have HC := Lib.hid (containsFunc_any ae cx (ll[j]'hkl) _ (hPt.more hbj.out.size) hil)
                    generalize ll[j]'hkl = l0 at *
                    obtain ⟨m, hm⟩ : ∃ z, z = l0.length := ⟨_, rfl⟩
                    rw [← hm] at HC ce
                    obtain ⟨t, htt⟩ : ∃ t, t = l0.any outP := ⟨_, rfl⟩
                    rw [← htt] at HC hn
                    have hk0 : (0 : Int) ≤ (j : Int) := by omega
                    have hk1 : (j : Int) < (k : Int) := by omega
                    have Hn := Lib.hid hn
                    clear hn hPt hkl hm htt hil hce
                    go_wp2_with fail
                    refine HC.out.mono ?_
                    rintro e X ⟨rfl, hX⟩
                    have HX := Lib.hid (hbj.out.trans (hX.mono hbj.out.size))
                    clear hX ce HC
                    cases ho : t with
                    | true =>
                      have hr : R = 8 := by rw [HR2.out, if_pos (by rw [htj.out, Hn.out, ho]; rfl)]
                      subst hr ho
                      go_wp2_with fail
                      go_ret
                      exact ⟨rfl, HX.out⟩
                    | false =>
                      have Ht2 : Hid (ll.any (fun l => l.any outP) = (ll.drop (j + 1)).any (fun l => l.any outP)) := by show _ = _; rw [htj.out, Hn.out, ho]; rfl
                      subst ho
                      go_wp2_with fail
                      go_roundw
                      case rel => exact ⟨j + 1, by omega, by go_num, HX, Ht2⟩
                      case measure => simp [intOf]; omega
                  · have hjk : j = k := by omega
                    have hf : ll.any (fun l => l.any outP) = false := by rw [htj.out, List.drop_eq_nil_of_le (by have := HL.out; omega)]; rfl
                    have hr : R = 0 := by rw [HR2.out, if_neg (by rw [hf]; simp)]
                    subst hr hjk
                    clear hf
                    go_wp2_with fail
                    go_ret
                    exact ⟨rfl, hbj.out⟩
end Go.Proofs.Ytohgdlhijgjdkaa
