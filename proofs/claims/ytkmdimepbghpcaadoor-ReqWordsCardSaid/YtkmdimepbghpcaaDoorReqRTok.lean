/- Layer 33: the reference's Token. -/
import Derived.Test.YtkmdimepbghpcaaDoorReqTok
namespace Go.Proofs.YtkmdimepbghpcaaDoor
open Go.RowKit Go.Shelf Go.Lib
set_option linter.unusedVariables false
set_option maxRecDepth 100000

theorem alnum_any (c : Nat) (w : World) : Calls Tryd.prog 14 #[.int .u8 (c : Int)] w fun e w' => e = .returned (.bool (alnD c)) ∧ w = w' := by
  obtain ⟨r, hr⟩ : ∃ r, r = alnD c := ⟨_, rfl⟩
  rw [← hr]
  unfold alnD digD letD at hr
  have a0 : decide (48 ≤ (c : Int)) = decide (48 ≤ c) := by rw [decide_eq_decide]; omega
  have a9 : decide ((c : Int) ≤ 57) = decide (c ≤ 57) := by rw [decide_eq_decide]; omega
  have a1 : decide (97 ≤ (c : Int)) = decide (97 ≤ c) := by rw [decide_eq_decide]; omega
  have a2 : decide ((c : Int) ≤ 122) = decide (c ≤ 122) := by rw [decide_eq_decide]; omega
  have a3 : decide (65 ≤ (c : Int)) = decide (65 ≤ c) := by rw [decide_eq_decide]; omega
  have a4 : decide ((c : Int) ≤ 90) = decide (c ≤ 90) := by rw [decide_eq_decide]; omega
  rw [Bool.decide_and, Bool.decide_and, Bool.decide_and] at hr
  obtain ⟨b1, e1⟩ : ∃ b, b = decide (97 ≤ c) := ⟨_, rfl⟩
  obtain ⟨b2, e2⟩ : ∃ b, b = decide (c ≤ 122) := ⟨_, rfl⟩
  obtain ⟨b3, e3⟩ : ∃ b, b = decide (65 ≤ c) := ⟨_, rfl⟩
  obtain ⟨b4, e4⟩ : ∃ b, b = decide (c ≤ 90) := ⟨_, rfl⟩
  obtain ⟨b5, e5⟩ : ∃ b, b = decide (48 ≤ c) := ⟨_, rfl⟩
  obtain ⟨b6, e6⟩ : ∃ b, b = decide (c ≤ 57) := ⟨_, rfl⟩
  rw [← e1] at a1 hr
  rw [← e2] at a2 hr
  rw [← e3] at a3 hr
  rw [← e4] at a4 hr
  rw [← e5] at a0 hr
  rw [← e6] at a9 hr
  clear e1 e2 e3 e4 e5 e6
  subst hr
  cases b1 <;> cases b2 <;> cases b3 <;> cases b4 <;> cases b5 <;> cases b6 <;>
  · go_enter Tryd.func14, Tryd.ntmps14
    go_wp2_with fail
    go_ret
    exact ⟨rfl, rfl⟩
theorem marks_get (m : Nat) (h : m < marksS.size) : (marksS[m]'h).toNat = marksL.getD m 0 := by rw [bs_get marksS m h, marks_bs]
theorem take_contains {l : List Nat} {k c : Nat} (hk : k < l.length) : (l.take (k + 1)).contains c = ((l.take k).contains c || (c == l.getD k 0)) := by
  have : l.take (k + 1) = l.take k ++ [l.getD k 0] := by
    rw [List.take_add_one, List.getElem?_eq_getElem hk, List.getD_eq_getElem?_getD, List.getElem?_eq_getElem hk]; rfl
  rw [this, List.contains_eq_any_beq, List.contains_eq_any_beq, List.any_append, List.any_cons, List.any_nil, Bool.or_false]
set_option maxHeartbeats 8000000 in
theorem rtoken_any (s : ByteArray) (w : World) (hs : s.size ≤ 1000000) : Calls Tryd.prog 8 #[.string s] w fun e w' => e = .returned (.bool (tokD (bs s))) ∧ Below w.heap.size w w' := by
  obtain ⟨r, hr⟩ : ∃ r, r = tokD (bs s) := ⟨_, rfl⟩
  rw [← hr]
  have Hr := Lib.hid hr
  clear hr
  have HLt := Lib.hid fun c W => alnum_any c W
  obtain ⟨M, hM⟩ : ∃ M, M = marksS := ⟨_, rfl⟩
  have hMs : Hid (M.size = 15) := by show _ = _; rw [hM]; rfl
  have HM : Hid ((⟨#[33, 35, 36, 37, 38, 39, 42, 43, 45, 46, 94, 95, 124, 126, 96]⟩ : ByteArray) = M) := hM.symm
  have HMg : Hid (∀ (m : Nat) (h : m < M.size), (M[m]'h).toNat = marksL.getD m 0) := by rw [hM]; exact marks_get
  clear hM
  go_enter Tryd.func8, Tryd.ntmps8
  go_upto_region 3 with (fail)
  rw [HM.out]
  clear HM
  obtain ⟨w0, rfl⟩ : ∃ w0, w0 = w := ⟨_, rfl⟩
  go_loopw [4, 5, 6] (fun x4 x5 x6 X => ∃ k : Nat, k ≤ s.size ∧ x4 = .int .i64 (k : Int) ∧ Hid (((bs s).take k).all okB = true) ∧ Hid (Below w0.heap.size w0 X)) (fun x4 x5 x6 _ => s.size - (intOf x4).toNat)
  case atStart => exact ⟨0, Nat.zero_le _, rfl, by show _ = _; rw [List.take_zero]; rfl, Below.refl _ _⟩
  case round =>
    obtain ⟨k, hk, rfl, hF, hB⟩ := hrel
    by_cases hlt : k < s.size
    · obtain ⟨c, hc⟩ : ∃ c, (s[k]'hlt).toNat = c := ⟨_, rfl⟩
      have hc256 : c < 256 := by rw [← hc]; exact (s[k]'hlt).toNat_lt
      have hcg : Hid (c = (bs s).getD k 0) := by show _ = _; rw [← hc, bs_get s k hlt]
      have Hgo : Hid (okB c = true → ((bs s).take (k + 1)).all okB = true) := fun h => take_all (by rw [bs_length]; exact hlt) hF.out (by rw [← hcg.out]; exact h)
      have Hno : Hid (okB c = false → r = false) := fun h => by rw [Hr.out]; unfold tokD; rw [all_no (k := k) (by rw [bs_length]; exact hlt) (by rw [← hcg.out]; exact h)]; rfl
      have HL1 := Lib.hid fun W => HLt.out c W
      clear hF hcg HLt
      go_wp2_with fail
      refine (HL1.out _).mono ?_
      rintro e X ⟨rfl, rfl⟩
      clear HL1
      go_wp2_with fail
      obtain ⟨X1, hX1⟩ : ∃ X1, X1 = wr := ⟨_, rfl⟩
      go_loopw [5, 6] (fun x5 x6 W => ∃ m : Nat, m ≤ 15 ∧ x6 = .int .i64 (m : Int) ∧ x5 = .bool (alnD c || (marksL.take m).contains c) ∧ Hid (Below w0.heap.size w0 W)) (fun x5 x6 _ => 15 - (intOf x6).toNat)
      case atStart => exact ⟨0, by omega, rfl, by rw [List.take_zero]; simp, hB⟩
      case round =>
        clear hB hX1
        obtain ⟨m, hm, rfl, rfl, hB⟩ := hrel
        by_cases h15 : m < 15
        · have hm1 : m < M.size := by rw [hMs.out]; exact h15
          have HMl : Hid ((m : Int) < (M.size : Int)) := by show _ < _; omega
          have HMz : Hid ((M.size : Int) = 15) := by show _ = _; rw [hMs.out]; rfl
          obtain ⟨d, hd⟩ : ∃ d, d = marksL.getD m 0 := ⟨_, rfl⟩
          have Hmg : Hid ((M[m]'hm1).toNat = d) := by show _ = _; rw [HMg.out m hm1, hd]
          obtain ⟨eb, heb⟩ : ∃ b, b = (c == d) := ⟨_, rfl⟩
          have Hbe : Hid (((d : Int) == (c : Int)) = eb) := by
            show _ = _
            rw [heb]
            by_cases h : c = d
            · rw [h]; simp
            · rw [beq_eq_false_iff_ne.mpr h]; exact beq_eq_false_iff_ne.mpr (fun e => h (by omega))
          obtain ⟨ob, hob⟩ : ∃ b, b = (alnD c || (marksL.take m).contains c) := ⟨_, rfl⟩
          have Hst : Hid ((alnD c || (marksL.take (m + 1)).contains c) = (ob || eb)) := by
            show _ = _
            rw [take_contains (show m < marksL.length from h15), hob, heb, ← hd, Bool.or_assoc]
          have hB2 : Hid (Below w0.heap.size w0 wr.drew) := ⟨hB.out.os, hB.out.tape, hB.out.output, hB.out.size, hB.out.block⟩
          have d15 : (m : Int) < (M.size : Int) := HMl.out
          rw [← hob]
          clear hob heb hd
          cases ob with
          | true =>
            go_upto_region 9 with (fail)
            refine held_start (by kernel_rfl) ?_
            refine wpAnyH_take (i := 0) (oi := { dst := some 23, op := Go.Op.move (Go.Operand.tmp 5), type := 4, pos := "ref.go:17", after := #[], guard := none }) (v := ?_) rfl (by kernel_rfl) (by kernel_rfl) (by kernel_rfl) (fun _ _ _ h => h) (Or.inl ⟨by rfl, ?_⟩) (Kp.refl _) ?_
            rotate_left 1
            · intro w5 hSw
              go_simp; all_goals (with_reducible rfl)
            try simp only [Act.put, List.setIfInBounds_toArray, List.set_cons_zero, List.set_cons_succ]
            refine wpAnyH_take (i := 1) (oi := { dst := some 24, op := Go.Op.move (Go.Operand.tmp 23), type := 4, pos := "ref.go:17", after := #[{ on := 0, ground := Go.Ground.data }], guard := none }) (v := ?_) rfl (by kernel_rfl) (by kernel_rfl) (by kernel_rfl) (fun _ _ _ h => h) (Or.inl ⟨by rfl, ?_⟩) (Kp.refl _) ?_
            rotate_left 1
            · intro w5 hSw
              go_simp; all_goals (with_reducible rfl)
            try simp only [Act.put, List.setIfInBounds_toArray, List.set_cons_zero, List.set_cons_succ]
            refine wpAnyH_take (i := 2) (oi := { dst := some 25, op := Go.Op.move (Go.Operand.tmp 3), type := 9, pos := "ref.go:17", after := #[{ on := 1, ground := Go.Ground.guard }], guard := some (1, false) }) (v := undef) rfl (by kernel_rfl) (by kernel_rfl) (by kernel_rfl) (fun _ _ _ h => h) (Or.inr ⟨by rfl, rfl⟩) (Kp.refl _) ?_
            try simp only [Act.put, List.setIfInBounds_toArray, List.set_cons_zero, List.set_cons_succ]
            refine wpAnyH_take (i := 3) (oi := { dst := some 26, op := Go.Op.move (Go.Operand.tmp 6), type := 3, pos := "ref.go:17", after := #[{ on := 1, ground := Go.Ground.guard }], guard := some (1, false) }) (v := undef) rfl (by kernel_rfl) (by kernel_rfl) (by kernel_rfl) (fun _ _ _ h => h) (Or.inr ⟨by rfl, rfl⟩) (Kp.refl _) ?_
            try simp only [Act.put, List.setIfInBounds_toArray, List.set_cons_zero, List.set_cons_succ]
            refine wpAnyH_take (i := 4) (oi := { dst := some 27, op := Go.Op.index 9 (Go.Operand.tmp 25) (Go.Operand.tmp 26), type := 5, pos := "ref.go:17", after := #[{ on := 2, ground := Go.Ground.data }, { on := 3, ground := Go.Ground.data }, { on := 1, ground := Go.Ground.guard }], guard := some (1, false) }) (v := undef) rfl (by kernel_rfl) (by kernel_rfl) (by kernel_rfl) (fun _ _ _ h => h) (Or.inr ⟨by rfl, rfl⟩) (Kp.refl _) ?_
            try simp only [Act.put, List.setIfInBounds_toArray, List.set_cons_zero, List.set_cons_succ]
            refine wpAnyH_take (i := 5) (oi := { dst := some 28, op := Go.Op.move (Go.Operand.tmp 0), type := 9, pos := "ref.go:17", after := #[{ on := 1, ground := Go.Ground.guard }], guard := some (1, false) }) (v := undef) rfl (by kernel_rfl) (by kernel_rfl) (by kernel_rfl) (fun _ _ _ h => h) (Or.inr ⟨by rfl, rfl⟩) (Kp.refl _) ?_
            try simp only [Act.put, List.setIfInBounds_toArray, List.set_cons_zero, List.set_cons_succ]
            refine wpAnyH_take (i := 6) (oi := { dst := some 29, op := Go.Op.move (Go.Operand.tmp 4), type := 3, pos := "ref.go:17", after := #[{ on := 1, ground := Go.Ground.guard }], guard := some (1, false) }) (v := undef) rfl (by kernel_rfl) (by kernel_rfl) (by kernel_rfl) (fun _ _ _ h => h) (Or.inr ⟨by rfl, rfl⟩) (Kp.refl _) ?_
            try simp only [Act.put, List.setIfInBounds_toArray, List.set_cons_zero, List.set_cons_succ]
            refine wpAnyH_take (i := 7) (oi := { dst := some 30, op := Go.Op.index 9 (Go.Operand.tmp 28) (Go.Operand.tmp 29), type := 5, pos := "ref.go:17", after := #[{ on := 5, ground := Go.Ground.data }, { on := 6, ground := Go.Ground.data }, { on := 1, ground := Go.Ground.guard }], guard := some (1, false) }) (v := undef) rfl (by kernel_rfl) (by kernel_rfl) (by kernel_rfl) (fun _ _ _ h => h) (Or.inr ⟨by rfl, rfl⟩) (Kp.refl _) ?_
            try simp only [Act.put, List.setIfInBounds_toArray, List.set_cons_zero, List.set_cons_succ]
            refine wpAnyH_take (i := 8) (oi := { dst := some 31, op := Go.Op.binOp Go.BinOp.eql 5 (Go.Operand.tmp 27) (Go.Operand.tmp 30) 5, type := 4, pos := "ref.go:17", after := #[{ on := 4, ground := Go.Ground.data }, { on := 7, ground := Go.Ground.data }, { on := 1, ground := Go.Ground.guard }], guard := some (1, false) }) (v := undef) rfl (by kernel_rfl) (by kernel_rfl) (by kernel_rfl) (fun _ _ _ h => h) (Or.inr ⟨by rfl, rfl⟩) (Kp.refl _) ?_
            try simp only [Act.put, List.setIfInBounds_toArray, List.set_cons_zero, List.set_cons_succ]
            refine wpAnyH_take (i := 9) (oi := { dst := some 32, op := Go.Op.pick (Go.Operand.tmp 24) (Go.Operand.const (Go.Value.bool true)) (Go.Operand.tmp 31), type := 4, pos := "ref.go:17", after := #[{ on := 1, ground := Go.Ground.data }, { on := 8, ground := Go.Ground.data }], guard := none }) (v := ?_) rfl (by kernel_rfl) (by kernel_rfl) (by kernel_rfl) (fun _ _ _ h => h) (Or.inl ⟨by rfl, ?_⟩) (Kp.refl _) ?_
            rotate_left 1
            · intro w5 hSw
              go_simp; all_goals (with_reducible rfl)
            try simp only [Act.put, List.setIfInBounds_toArray, List.set_cons_zero, List.set_cons_succ]
            refine wpAnyH_take (i := 10) (oi := { dst := some 5, op := Go.Op.assign (Go.Operand.tmp 32), type := 4, pos := "ref.go:17", after := #[{ on := 9, ground := Go.Ground.data }, { on := 1, ground := Go.Ground.chain }, { on := 0, ground := Go.Ground.phase }, { on := 1, ground := Go.Ground.phase }, { on := 2, ground := Go.Ground.phase }, { on := 3, ground := Go.Ground.phase }, { on := 4, ground := Go.Ground.phase }, { on := 5, ground := Go.Ground.phase }, { on := 6, ground := Go.Ground.phase }, { on := 7, ground := Go.Ground.phase }, { on := 8, ground := Go.Ground.phase }, { on := 9, ground := Go.Ground.phase }], guard := none }) (v := ?_) rfl (by kernel_rfl) (by kernel_rfl) (by kernel_rfl) (fun _ _ _ h => h) (Or.inl ⟨by rfl, ?_⟩) (Kp.refl _) ?_
            rotate_left 1
            · intro w5 hSw
              go_simp; all_goals (with_reducible rfl)
            try simp only [Act.put, List.setIfInBounds_toArray, List.set_cons_zero, List.set_cons_succ]
            refine wpAnyH_done (by kernel_rfl) ?_ _
            go_wp2_with fail
            go_roundw
            case rel => exact ⟨m + 1, by omega, by go_num, by rw [Hst.out]; rfl, hB2⟩
            case measure => simp [intOf]; omega
          | false =>
            go_upto_region 9 with (fail)
            refine held_start (by kernel_rfl) ?_
            refine wpAnyH_take (i := 0) (oi := { dst := some 23, op := Go.Op.move (Go.Operand.tmp 5), type := 4, pos := "ref.go:17", after := #[], guard := none }) (v := ?_) rfl (by kernel_rfl) (by kernel_rfl) (by kernel_rfl) (fun _ _ _ h => h) (Or.inl ⟨by rfl, ?_⟩) (Kp.refl _) ?_
            rotate_left 1
            · intro w5 hSw
              go_simp; all_goals (with_reducible rfl)
            try simp only [Act.put, List.setIfInBounds_toArray, List.set_cons_zero, List.set_cons_succ]
            refine wpAnyH_take (i := 1) (oi := { dst := some 24, op := Go.Op.move (Go.Operand.tmp 23), type := 4, pos := "ref.go:17", after := #[{ on := 0, ground := Go.Ground.data }], guard := none }) (v := ?_) rfl (by kernel_rfl) (by kernel_rfl) (by kernel_rfl) (fun _ _ _ h => h) (Or.inl ⟨by rfl, ?_⟩) (Kp.refl _) ?_
            rotate_left 1
            · intro w5 hSw
              go_simp; all_goals (with_reducible rfl)
            try simp only [Act.put, List.setIfInBounds_toArray, List.set_cons_zero, List.set_cons_succ]
            refine wpAnyH_take (i := 2) (oi := { dst := some 25, op := Go.Op.move (Go.Operand.tmp 3), type := 9, pos := "ref.go:17", after := #[{ on := 1, ground := Go.Ground.guard }], guard := some (1, false) }) (v := ?_) rfl (by kernel_rfl) (by kernel_rfl) (by kernel_rfl) (fun _ _ _ h => h) (Or.inl ⟨by rfl, ?_⟩) (Kp.refl _) ?_
            rotate_left 1
            · intro w5 hSw
              go_simp; all_goals (with_reducible rfl)
            try simp only [Act.put, List.setIfInBounds_toArray, List.set_cons_zero, List.set_cons_succ]
            refine wpAnyH_take (i := 3) (oi := { dst := some 26, op := Go.Op.move (Go.Operand.tmp 6), type := 3, pos := "ref.go:17", after := #[{ on := 1, ground := Go.Ground.guard }], guard := some (1, false) }) (v := ?_) rfl (by kernel_rfl) (by kernel_rfl) (by kernel_rfl) (fun _ _ _ h => h) (Or.inl ⟨by rfl, ?_⟩) (Kp.refl _) ?_
            rotate_left 1
            · intro w5 hSw
              go_simp; all_goals (with_reducible rfl)
            try simp only [Act.put, List.setIfInBounds_toArray, List.set_cons_zero, List.set_cons_succ]
            refine wpAnyH_take (i := 4) (oi := { dst := some 27, op := Go.Op.index 9 (Go.Operand.tmp 25) (Go.Operand.tmp 26), type := 5, pos := "ref.go:17", after := #[{ on := 2, ground := Go.Ground.data }, { on := 3, ground := Go.Ground.data }, { on := 1, ground := Go.Ground.guard }], guard := some (1, false) }) (v := ?_) rfl (by kernel_rfl) (by kernel_rfl) (by kernel_rfl) (fun _ _ _ h => h) (Or.inl ⟨by rfl, ?_⟩) (Kp.refl _) ?_
            rotate_left 1
            · intro w5 hSw
              have gm : (m : Int) < (M.size : Int) := HMl.out
              have hg := Hmg.out
              go_simp; all_goals (with_reducible rfl)
            try simp only [Act.put, List.setIfInBounds_toArray, List.set_cons_zero, List.set_cons_succ]
            refine wpAnyH_take (i := 5) (oi := { dst := some 28, op := Go.Op.move (Go.Operand.tmp 0), type := 9, pos := "ref.go:17", after := #[{ on := 1, ground := Go.Ground.guard }], guard := some (1, false) }) (v := ?_) rfl (by kernel_rfl) (by kernel_rfl) (by kernel_rfl) (fun _ _ _ h => h) (Or.inl ⟨by rfl, ?_⟩) (Kp.refl _) ?_
            rotate_left 1
            · intro w5 hSw
              go_simp; all_goals (with_reducible rfl)
            try simp only [Act.put, List.setIfInBounds_toArray, List.set_cons_zero, List.set_cons_succ]
            refine wpAnyH_take (i := 6) (oi := { dst := some 29, op := Go.Op.move (Go.Operand.tmp 4), type := 3, pos := "ref.go:17", after := #[{ on := 1, ground := Go.Ground.guard }], guard := some (1, false) }) (v := ?_) rfl (by kernel_rfl) (by kernel_rfl) (by kernel_rfl) (fun _ _ _ h => h) (Or.inl ⟨by rfl, ?_⟩) (Kp.refl _) ?_
            rotate_left 1
            · intro w5 hSw
              go_simp; all_goals (with_reducible rfl)
            try simp only [Act.put, List.setIfInBounds_toArray, List.set_cons_zero, List.set_cons_succ]
            refine wpAnyH_take (i := 7) (oi := { dst := some 30, op := Go.Op.index 9 (Go.Operand.tmp 28) (Go.Operand.tmp 29), type := 5, pos := "ref.go:17", after := #[{ on := 5, ground := Go.Ground.data }, { on := 6, ground := Go.Ground.data }, { on := 1, ground := Go.Ground.guard }], guard := some (1, false) }) (v := ?_) rfl (by kernel_rfl) (by kernel_rfl) (by kernel_rfl) (fun _ _ _ h => h) (Or.inl ⟨by rfl, ?_⟩) (Kp.refl _) ?_
            rotate_left 1
            · intro w5 hSw
              have gk : (k : Int) < (s.size : Int) := by omega
              have hg2 := hc
              go_simp; all_goals (with_reducible rfl)
            try simp only [Act.put, List.setIfInBounds_toArray, List.set_cons_zero, List.set_cons_succ]
            refine wpAnyH_take (i := 8) (oi := { dst := some 31, op := Go.Op.binOp Go.BinOp.eql 5 (Go.Operand.tmp 27) (Go.Operand.tmp 30) 5, type := 4, pos := "ref.go:17", after := #[{ on := 4, ground := Go.Ground.data }, { on := 7, ground := Go.Ground.data }, { on := 1, ground := Go.Ground.guard }], guard := some (1, false) }) (v := ?_) rfl (by kernel_rfl) (by kernel_rfl) (by kernel_rfl) (fun _ _ _ h => h) (Or.inl ⟨by rfl, ?_⟩) (Kp.refl _) ?_
            rotate_left 1
            · intro w5 hSw
              have he := Hbe.out
              go_simp; all_goals (with_reducible rfl)
            try simp only [Act.put, List.setIfInBounds_toArray, List.set_cons_zero, List.set_cons_succ]
            refine wpAnyH_take (i := 9) (oi := { dst := some 32, op := Go.Op.pick (Go.Operand.tmp 24) (Go.Operand.const (Go.Value.bool true)) (Go.Operand.tmp 31), type := 4, pos := "ref.go:17", after := #[{ on := 1, ground := Go.Ground.data }, { on := 8, ground := Go.Ground.data }], guard := none }) (v := ?_) rfl (by kernel_rfl) (by kernel_rfl) (by kernel_rfl) (fun _ _ _ h => h) (Or.inl ⟨by rfl, ?_⟩) (Kp.refl _) ?_
            rotate_left 1
            · intro w5 hSw
              go_simp; all_goals (with_reducible rfl)
            try simp only [Act.put, List.setIfInBounds_toArray, List.set_cons_zero, List.set_cons_succ]
            refine wpAnyH_take (i := 10) (oi := { dst := some 5, op := Go.Op.assign (Go.Operand.tmp 32), type := 4, pos := "ref.go:17", after := #[{ on := 9, ground := Go.Ground.data }, { on := 1, ground := Go.Ground.chain }, { on := 0, ground := Go.Ground.phase }, { on := 1, ground := Go.Ground.phase }, { on := 2, ground := Go.Ground.phase }, { on := 3, ground := Go.Ground.phase }, { on := 4, ground := Go.Ground.phase }, { on := 5, ground := Go.Ground.phase }, { on := 6, ground := Go.Ground.phase }, { on := 7, ground := Go.Ground.phase }, { on := 8, ground := Go.Ground.phase }, { on := 9, ground := Go.Ground.phase }], guard := none }) (v := ?_) rfl (by kernel_rfl) (by kernel_rfl) (by kernel_rfl) (fun _ _ _ h => h) (Or.inl ⟨by rfl, ?_⟩) (Kp.refl _) ?_
            rotate_left 1
            · intro w5 hSw
              go_simp; all_goals (with_reducible rfl)
            try simp only [Act.put, List.setIfInBounds_toArray, List.set_cons_zero, List.set_cons_succ]
            refine wpAnyH_done (by kernel_rfl) ?_ _
            go_wp2_with fail
            go_roundw
            case rel => exact ⟨m + 1, by omega, by go_num, by rw [Hst.out]; rfl, hB2⟩
            case measure => simp [intOf]; omega
        · obtain rfl : m = 15 := by omega
          have HMz : ¬ ((15 : Int) < (M.size : Int)) := by have := hMs.out; omega
          have hob : Hid (okB c = (alnD c || (marksL.take 15).contains c)) := rfl
          obtain ⟨ob, hb2⟩ : ∃ b, b = (alnD c || (marksL.take 15).contains c) := ⟨_, rfl⟩
          rw [← hb2] at hob ⊢
          clear hb2
          cases ob with
          | true =>
            have hG := Lib.hid (Hgo.out hob.out)
            clear Hgo Hno hob
            go_wp2_with fail
            go_roundw
            case rel => exact ⟨k + 1, by omega, by go_num, hG, hB⟩
            case measure => simp [intOf]; omega
          | false =>
            have hG := Lib.hid (Hno.out hob.out)
            clear Hgo Hno hob
            go_wp2_with fail
            go_ret
            exact ⟨by rw [hG.out]; rfl, hB.out⟩
    · obtain rfl : k = s.size := by omega
      have hall : (bs s).all okB = true := by
        have := hF.out
        rwa [List.take_of_length_le (by rw [bs_length]; exact Nat.le_refl _)] at this
      have hr2 : Hid (r = decide (0 < s.size)) := by
        show _ = _
        rw [Hr.out]; unfold tokD; rw [hall, Bool.true_and, decide_eq_decide, ← List.length_pos_iff, bs_length]
      clear hall hF
      go_wp2_with fail
      go_ret
      exact ⟨by rw [hr2.out]; rfl, hB.out⟩
end Go.Proofs.YtkmdimepbghpcaaDoor
