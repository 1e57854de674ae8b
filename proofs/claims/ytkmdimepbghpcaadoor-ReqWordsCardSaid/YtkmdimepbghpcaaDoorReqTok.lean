/- Layer 33: tokens. -/
import Derived.Test.YtkmdimepbghpcaaDoorBs
import Derived.Test.YtkmdimepbghpcaaDoorU8
import Derived.Test.YtkmdimepbghpcaaDoorHeld
import Derived.Ground.NamesProg
import Derived.Shelf.Lay
import Derived.WalkKit
import Derived.IntWalk
import Derived.Deep.DeepCutAuto
namespace Go.Proofs.YtkmdimepbghpcaaDoor
open Go.RowKit Go.Shelf Go.Lib
set_option linter.unusedVariables false
set_option maxRecDepth 100000

theorem libIndexByte_any (s : ByteArray) (c : Nat) (hc : c < 256) (w : World) : Calls Tryd.prog 24 #[.string s, .int .u8 (c : Int)] w fun e w' => e = .returned (.int .i64 (optI (firstAt (bs s) c))) ∧ w = w' := by
  have HI := Lib.hid (show Lib.indexByte s.data.toList (UInt8.ofNat c) = optI (firstAt (bs s) c) by
    rw [indexByte_first]
    congr 2
    simp
    omega)
  go_enter Tryd.func24, Tryd.ntmps24
  go_wp2
  rw [run_callFunc_extern Tryd.func35 (by kernel_rfl) (by kernel_rfl) (by kernel_rfl) (e := Extern.BytealgIndexByte.indexByte) (by kernel_rfl), Lib.run_indexByteString]
  simp only [Result.andThen]
  rw [Oper.upon_value]
  go_wp2
  go_ret
  exact ⟨by rw [HI.out]; rfl, rfl⟩
theorem indexByte_any (s : ByteArray) (c : Nat) (hc : c < 256) (w : World) : Calls Tryd.prog 13 #[.string s, .int .u8 (c : Int)] w fun e w' => e = .returned (.int .i64 (optI (firstAt (bs s) c))) ∧ w = w' := by
  have HA := Lib.hid fun W => libIndexByte_any s c hc W
  go_enter Tryd.func13, Tryd.ntmps13
  go_wp2_with fail
  refine (HA.out _).mono ?_
  rintro e X ⟨rfl, rfl⟩
  go_wp2_with fail
  go_ret
  exact ⟨rfl, rfl⟩
def marksL : List Nat := [33, 35, 36, 37, 38, 39, 42, 43, 45, 46, 94, 95, 124, 126, 96]
def marksS : ByteArray := ⟨#[33, 35, 36, 37, 38, 39, 42, 43, 45, 46, 94, 95, 124, 126, 96]⟩
theorem marks_bs : bs marksS = marksL := by decide
def letD (c : Nat) : Bool := decide (97 ≤ c ∧ c ≤ 122) || decide (65 ≤ c ∧ c ≤ 90)
def digD (c : Nat) : Bool := decide (48 ≤ c ∧ c ≤ 57)
def alnD (c : Nat) : Bool := digD c || letD c
/-- May a byte stand in a token? -/
def okB (c : Nat) : Bool := alnD c || marksL.contains c
def tokD (l : List Nat) : Bool := l.all okB && decide (l ≠ [])
theorem firstAt_neg (l : List Nat) (c : Nat) : decide (optI (firstAt l c) < 0) = !(l.contains c) := by
  induction l with
  | nil => rfl
  | cons b l ih =>
    rw [firstAt_cons, List.contains_cons]
    by_cases h : b = c
    · rw [if_pos h, h]; simp [optI]
    · rw [if_neg h]
      have h2 : (c == b) = false := beq_eq_false_iff_ne.mpr (fun e => h e.symm)
      rw [h2, Bool.false_or, ← ih]
      cases firstAt l c with
      | none => rfl
      | some k =>
        exact decide_eq_decide.2 (show ((k + 1 : Nat) : Int) < 0 ↔ (k : Int) < 0 by omega)
theorem letter_any (c : Nat) (w : World) : Calls Tryd.prog 12 #[.int .u8 (c : Int)] w fun e w' => e = .returned (.bool (letD c)) ∧ w = w' := by
  obtain ⟨r, hr⟩ : ∃ r, r = letD c := ⟨_, rfl⟩
  rw [← hr]
  unfold letD at hr
  have a1 : decide (97 ≤ (c : Int)) = decide (97 ≤ c) := by rw [decide_eq_decide]; omega
  have a2 : decide ((c : Int) ≤ 122) = decide (c ≤ 122) := by rw [decide_eq_decide]; omega
  have a3 : decide (65 ≤ (c : Int)) = decide (65 ≤ c) := by rw [decide_eq_decide]; omega
  have a4 : decide ((c : Int) ≤ 90) = decide (c ≤ 90) := by rw [decide_eq_decide]; omega
  have h1 : decide (97 ≤ c ∧ c ≤ 122) = (decide (97 ≤ c) && decide (c ≤ 122)) := Bool.decide_and _ _
  have h2 : decide (65 ≤ c ∧ c ≤ 90) = (decide (65 ≤ c) && decide (c ≤ 90)) := Bool.decide_and _ _
  rw [h1, h2] at hr
  obtain ⟨b1, e1⟩ : ∃ b, b = decide (97 ≤ c) := ⟨_, rfl⟩
  obtain ⟨b2, e2⟩ : ∃ b, b = decide (c ≤ 122) := ⟨_, rfl⟩
  obtain ⟨b3, e3⟩ : ∃ b, b = decide (65 ≤ c) := ⟨_, rfl⟩
  obtain ⟨b4, e4⟩ : ∃ b, b = decide (c ≤ 90) := ⟨_, rfl⟩
  rw [← e1] at a1 hr
  rw [← e2] at a2 hr
  rw [← e3] at a3 hr
  rw [← e4] at a4 hr
  clear h1 h2 e1 e2 e3 e4
  subst hr
  cases b1 <;> cases b2 <;> cases b3 <;> cases b4 <;>
  · go_enter Tryd.func12, Tryd.ntmps12
    go_wp2_with fail
    go_ret
    exact ⟨rfl, rfl⟩
theorem take_all {l : List Nat} {k : Nat} {p : Nat → Bool} (hk : k < l.length) (h : (l.take k).all p = true) (hp : p (l.getD k 0) = true) : (l.take (k + 1)).all p = true := by
  have : l.take (k + 1) = l.take k ++ [l.getD k 0] := by
    rw [List.take_add_one, List.getElem?_eq_getElem hk, List.getD_eq_getElem?_getD, List.getElem?_eq_getElem hk]; rfl
  rw [this, List.all_append, h, List.all_cons, hp]
  rfl
theorem all_no {l : List Nat} {k : Nat} {p : Nat → Bool} (hk : k < l.length) (hp : p (l.getD k 0) = false) : l.all p = false := by
  rw [List.all_eq_false]
  refine ⟨l.getD k 0, ?_, by rw [hp]; decide⟩
  rw [List.getD_eq_getElem?_getD, List.getElem?_eq_getElem hk]
  exact List.getElem_mem hk
theorem ne_empty (s : ByteArray) : (!s.toList.isEmpty) = decide (bs s ≠ []) := by
  rw [Lib.toList_data]
  unfold bs
  cases s.data.toList with
  | nil => rfl
  | cons a l => simp
set_option maxHeartbeats 4000000 in
theorem token_any (s : ByteArray) (w : World) (hs : s.size ≤ 1000000) : Calls Tryd.prog 7 #[.string s] w fun e w' => e = .returned (.bool (tokD (bs s))) ∧ w = w' := by
  obtain ⟨r, hr⟩ : ∃ r, r = tokD (bs s) := ⟨_, rfl⟩
  rw [← hr]
  have Hr := Lib.hid hr
  clear hr
  have HLt := Lib.hid fun c W => letter_any c W
  have HIx := Lib.hid fun (c : Nat) (hc : c < 256) W => indexByte_any marksS c hc W
  rw [marks_bs] at HIx
  unfold marksS at HIx
  go_enter Tryd.func7, Tryd.ntmps7
  go_wp2_with fail
  obtain ⟨w0, rfl⟩ : ∃ w0, w0 = w := ⟨_, rfl⟩
  go_loopw [3, 4, 7] (fun x3 x4 x7 X => ∃ k : Nat, k ≤ s.size ∧ x7 = .int .i64 (k : Int) ∧ Hid (((bs s).take k).all okB = true) ∧ w0 = X) (fun x3 x4 x7 _ => s.size - (intOf x7).toNat)
  case atStart => exact ⟨0, Nat.zero_le _, rfl, by show _ = _; rw [List.take_zero]; rfl, rfl⟩
  case round =>
    obtain ⟨k, hk, rfl, hF, rfl⟩ := hrel
    by_cases hlt : k < s.size
    · obtain ⟨c, hc⟩ : ∃ c, (s[k]'hlt).toNat = c := ⟨_, rfl⟩
      have hc256 : c < 256 := by rw [← hc]; exact (s[k]'hlt).toNat_lt
      have hcg : Hid (c = (bs s).getD k 0) := by show _ = _; rw [← hc, bs_get s k hlt]
      have Hgo : Hid (okB c = true → ((bs s).take (k + 1)).all okB = true) := fun h => take_all (by rw [bs_length]; exact hlt) hF.out (by rw [← hcg.out]; exact h)
      have Hno : Hid (okB c = false → r = false) := fun h => by rw [Hr.out]; unfold tokD; rw [all_no (k := k) (by rw [bs_length]; exact hlt) (by rw [← hcg.out]; exact h)]; rfl
      have HL1 := Lib.hid fun W => HLt.out c W
      have HI1 := Lib.hid fun W => HIx.out c hc256 W
      have e1 : decide (48 ≤ (c : Int)) = decide (48 ≤ c) := by rw [decide_eq_decide]; omega
      have e2 : decide ((c : Int) ≤ 57) = decide (c ≤ 57) := by rw [decide_eq_decide]; omega
      have hk9 := firstAt_neg marksL c
      have hok : Hid (okB c = (((decide (48 ≤ c) && decide (c ≤ 57)) || letD c) || marksL.contains c)) := by show _ = _; unfold okB alnD digD; rw [Bool.decide_and]
      obtain ⟨V, hV⟩ : ∃ V, V = optI (firstAt marksL c) := ⟨_, rfl⟩
      rw [← hV] at HI1 hk9
      obtain ⟨cb, hcb⟩ : ∃ b, b = letD c := ⟨_, rfl⟩
      obtain ⟨b1, hb1⟩ : ∃ b, b = decide (48 ≤ c) := ⟨_, rfl⟩
      obtain ⟨b2, hb2⟩ : ∃ b, b = decide (c ≤ 57) := ⟨_, rfl⟩
      obtain ⟨mb, hmb⟩ : ∃ b, b = marksL.contains c := ⟨_, rfl⟩
      rw [← hcb] at HL1 hok
      rw [← hb1] at e1 hok
      rw [← hb2] at e2 hok
      rw [← hmb] at hk9 hok
      clear hcb hb1 hb2 hmb hV HLt HIx hF hcg
      cases cb with
      | true =>
        have hG := Lib.hid (Hgo.out (by rw [hok.out]; simp))
        clear Hgo Hno hok
        go_wp2_with fail
        refine (HL1.out _).mono ?_
        rintro e X ⟨rfl, rfl⟩
        go_wp2_with fail
        exact ⟨⟨k + 1, by omega, congrArg (Value.int .i64) (by omega), hG, trivial⟩, by simp [intOf]; omega⟩
      | false =>
        cases b1 <;> cases b2
        case true.true =>
          have hG := Lib.hid (Hgo.out (by rw [hok.out]; simp))
          clear Hgo Hno hok
          go_wp2_with fail
          refine (HL1.out _).mono ?_
          rintro e X ⟨rfl, rfl⟩
          go_wp2_with fail
          exact ⟨⟨k + 1, by omega, congrArg (Value.int .i64) (by omega), hG, trivial⟩, by simp [intOf]; omega⟩
        all_goals
          cases mb with
          | true =>
            have hG := Lib.hid (Hgo.out (by rw [hok.out]; rfl))
            have hV0 : decide (V < 0) = false := hk9
            clear Hgo Hno hok
            go_wp2_with fail
            refine (HL1.out _).mono ?_
            rintro e X ⟨rfl, rfl⟩
            go_wp2_with fail
            refine (HI1.out _).mono ?_
            rintro e X ⟨rfl, rfl⟩
            go_wp2_with fail
            exact ⟨⟨k + 1, by omega, congrArg (Value.int .i64) (by omega), hG, trivial⟩, by simp [intOf]; omega⟩
          | false =>
            have hG := Lib.hid (Hno.out (by rw [hok.out]; rfl))
            have hV0 : decide (V < 0) = true := hk9
            clear Hgo Hno hok
            go_wp2_with fail
            refine (HL1.out _).mono ?_
            rintro e X ⟨rfl, rfl⟩
            go_wp2_with fail
            refine (HI1.out _).mono ?_
            rintro e X ⟨rfl, rfl⟩
            go_wp2_with fail
            go_ret
            exact ⟨by rw [hG.out]; rfl, rfl⟩
    · obtain rfl : k = s.size := by omega
      have hall : (bs s).all okB = true := by
        have := hF.out
        rwa [List.take_of_length_le (by rw [bs_length]; exact Nat.le_refl _)] at this
      have hr2 : Hid (r = decide (bs s ≠ [])) := by show _ = _; rw [Hr.out]; unfold tokD; rw [hall, Bool.true_and]
      clear hall hF
      have hne := ne_empty s
      rw [← hr2.out] at hne
      go_wp2_with fail
      go_ret
      exact ⟨by rw [← hne]; rfl, rfl⟩
end Go.Proofs.YtkmdimepbghpcaaDoor
