/- Layer 18: the program's Right. -/
import Derived.Test.YtceegpkgifflcaaDoorCsvWr
namespace Go.Proofs.YtceegpkgifflcaaDoor
open Go.RowKit Go.Shelf Go.Lib
set_option linter.unusedVariables false
set_option maxRecDepth 100000

set_option maxHeartbeats 8000000 in
theorem right18_any (u : Value) (R : List (List ByteArray)) (w : World) (hR : RdTT w w.heap.size u R) (hn : R.length ≤ 65536) (T : Bool) (hT : rightT R = T) :
    Calls Tryd.prog 7 #[u] w fun e w' => e = .returned (.bool T) ∧ w = w' := by
  obtain ⟨a, c, rfl, a1, a2, hat⟩ := hR.at
  have hcm : c ≤ 9223372036854775807 := a2
  have HAt := Lib.hid hat
  obtain ⟨L, hL⟩ : ∃ L, L = R.length := ⟨_, rfl⟩
  rw [← hL] at a1 hn ⊢
  have HL := Lib.hid hL
  obtain ⟨L0, hL0⟩ : ∃ L0, L0 = (R.getD 0 []).length := ⟨_, rfl⟩
  have HL0 := Lib.hid hL0
  have HT : Hid (T = R.all (okRow L0)) := by show _ = _; rw [← hT]; unfold rightT; rw [← hL, decide_eq_true hn, Bool.and_true, hL0]
  have d65 : decide ((65536 : Int) < (L : Int)) = false := decide_eq_false (by omega)
  clear hat a2 hR hL hL0 hT
  go_enter Tryd.func7, Tryd.ntmps7
  go_wp2_with fail
  go_loopw [4, 10] (fun _ i W => ∃ (k : Nat), i = .int .i64 (k : Int) ∧ k ≤ L ∧ w = W ∧ Hid ((R.take k).all (okRow L0) = true)) (fun _ i _ => L - (RowKit.intOf i).toNat)
  case atStart => exact ⟨0, rfl, Nat.zero_le _, rfl, rfl⟩
  case round =>
    obtain ⟨k, rfl, hk, rfl, hall⟩ := hrel
    by_cases hlt : k < L
    · have d1 : decide ((k : Int) < (L : Int)) = true := decide_eq_true (by omega)
      have k0 : (0 : Int) ≤ (k : Int) := by omega
      have k1 : (k : Int) < (L : Int) := by omega
      have k2 : (0 : Int) < (L : Int) := by omega
      have hka : k < R.length := by have := HL.out; omega
      have h0a : 0 < R.length := by omega
      obtain ⟨b, o, u, rfl, l1, l2, ⟨aa, ca, rfl, q1, q2, hra⟩⟩ := HAt.out k hka
      obtain ⟨b', o', u', e', m1, m2, ⟨ab, cb, rfl, r1, r2, hrb⟩⟩ := HAt.out 0 h0a
      obtain ⟨rfl, rfl⟩ : b' = b ∧ o' = o := by injection e' with e'; injection e' with e1 e2; exact ⟨e1.symm, e2.symm⟩
      obtain ⟨x, hx⟩ : ∃ x, x = R[k]'hka := ⟨_, rfl⟩
      rw [← hx] at l2 q1 hra
      have h00 : (R[0]'h0a).length = L0 := by rw [HL0.out]; simp [List.getD, List.getElem?_eq_getElem h0a]
      rw [h00, Nat.add_zero] at m2
      rw [h00] at r1
      have hcx : ca ≤ 9223372036854775807 := q2
      have hcy : cb ≤ 9223372036854775807 := r2
      obtain ⟨M, hM⟩ : ∃ M, M = x.length := ⟨_, rfl⟩
      rw [← hM] at l2 q1
      have HM := Lib.hid hM
      have HF : Hid (okRow L0 x = false → T = false) := fun h => by
        rw [HT.out]
        rw [← Bool.not_eq_true, List.all_eq_true]
        intro h2
        have := h2 x (by rw [hx]; exact List.getElem_mem hka)
        rw [h] at this; cases this
      have HN : Hid (okRow L0 x = true → (R.take (k + 1)).all (okRow L0) = true) := fun h => by
        rw [List.take_succ_eq_append_getElem hka, List.all_append, hall.out, ← hx]
        simp [h]
      have HRa := Lib.hid hra
      clear hra hrb hx q2 r2 h00 e' hM h0a
      by_cases c1 : M = 0
      · have hF : T = false := HF.out (by unfold okRow; rw [← HM.out, decide_eq_false (by omega)]; rfl)
        subst hF
        subst c1
        clear HF HN
        go_wp2_with fail
        exact bodyPost_ret (v := .bool false) (by simp [results, Tryd.results7, go_sem]) rfl ⟨rfl, rfl⟩
      · have e1 : ((M : Int) == 0) = false := beq_eq_false_iff_ne.mpr (by omega)
        by_cases c2 : M = L0
        · subst c2
          have e2 : ((M : Int) != (M : Int)) = false := bne_self_eq_false _
          by_cases c3 : M = 1
          · subst c3
            have hx0 : 0 < x.length := by rw [← HM.out]; omega
            obtain ⟨bx, ox, rfl, s1, s2⟩ := HRa.out.at 0 hx0
            rw [Nat.add_zero] at s2
            have hg : x.getD 0 ByteArray.empty = x[0] := by simp [List.getD, List.getElem?_eq_getElem hx0]
            obtain ⟨t, ht⟩ : ∃ t, t = x[0]'hx0 := ⟨_, rfl⟩
            rw [← ht] at s2 hg
            by_cases c4 : t = ByteArray.empty
            · have hF : T = false := HF.out (by unfold okRow; rw [← HM.out, hg, decide_eq_true c4]; simp)
              subst hF
              subst c4
              clear HF HN ht hg
              go_wp2_with fail
              exact bodyPost_ret (v := .bool false) (by simp [results, Tryd.results7, go_sem]) rfl ⟨rfl, rfl⟩
            · have hnt : t.toList ≠ [] := fun h => c4 (empty_of h)
              have f1 : (t.toList == []) = false := beq_eq_false_iff_ne.mpr hnt
              have f2 : t.toList.isEmpty = false := by simpa using hnt
              have hN := Lib.hid (HN.out (by unfold okRow; rw [← HM.out, hg, decide_eq_false c4]; simp))
              clear HF HN ht hg c4
              go_wp2_with fail
              go_roundw
              case rel => exact ⟨k + 1, by go_num, by omega, by first | rfl | trivial, hN.out⟩
              case measure => simp [RowKit.intOf]; omega
          · have e3 : ((M : Int) == 1) = false := beq_eq_false_iff_ne.mpr (by omega)
            have hN := Lib.hid (HN.out (by unfold okRow; rw [← HM.out, decide_eq_false c3, decide_eq_true (show 1 ≤ M by omega)]; simp))
            clear HF HN
            go_wp2_with fail
            go_roundw
            case rel => exact ⟨k + 1, by go_num, by omega, by first | rfl | trivial, hN.out⟩
            case measure => simp [RowKit.intOf]; omega
        · have e2 : ((M : Int) != (L0 : Int)) = true := bne_iff_ne.mpr (by omega)
          have hF : T = false := HF.out (by unfold okRow; rw [← HM.out, decide_eq_false c2]; simp)
          subst hF
          clear HF HN
          go_wp2_with fail
          exact bodyPost_ret (v := .bool false) (by simp [results, Tryd.results7, go_sem]) rfl ⟨rfl, rfl⟩
    · obtain rfl : k = L := by omega
      have d1 : decide ((k : Int) < (k : Int)) = false := decide_eq_false (by omega)
      have hT : T = true := by
        rw [HT.out]
        have := hall.out
        rw [HL.out, List.take_length] at this
        exact this
      subst hT
      go_wp2_with fail
      exact bodyPost_ret (v := .bool true) (by simp [results, Tryd.results7, go_sem]) rfl ⟨rfl, rfl⟩
end Go.Proofs.YtceegpkgifflcaaDoor
