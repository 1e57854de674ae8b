/- Layer 16: DecLikes: the law's walk. -/
import Derived.Test.YtdbcklabinmgfaaDoorDecOfsW
import Derived.Test.YtdbcklabinmgfaaDoorLikeMath
namespace Go.Proofs.YtdbcklabinmgfaaDoor
open Go.RowKit Go.Shelf
set_option linter.unusedVariables false
set_option maxRecDepth 100000

theorem tmod900 (x : Int) : -899 ≤ x.tmod 900 ∧ x.tmod 900 ≤ 899 := by
  by_cases h : 0 ≤ x
  · rw [Int.tmod_eq_emod_of_nonneg h]; omega
  · obtain ⟨k, rfl⟩ : ∃ k : Nat, x = -(k : Int) := ⟨x.natAbs, by omega⟩
    rw [Int.neg_tmod, Int.tmod_eq_emod_of_nonneg (by omega)]
    omega
theorem of_str (n e : Int) (h : n.natAbs < 18446744073709551616) (w : World) (ht : Tab w) (hn : -9223372036854775808 ≤ n ∧ n < 9223372036854775808) (he : -9223372036854775808 ≤ e ∧ e < 9223372036854775808) :
    bs (strOf (ofC n e).2.1) = (ofC n e).2.1 ∧ (strOf (ofC n e).2.1).size ≤ 100 := by
  obtain ⟨h1, h2⟩ := ofC_small n e h
  exact ⟨bs_strOf _ h1, by rw [strOf_size]; exact h2⟩
set_option maxHeartbeats 16000000 in
theorem decLikes_walk (a b x : Int) (w : World) (ha : -2147483648 ≤ a ∧ a < 2147483648) (hb : -2147483648 ≤ b ∧ b < 2147483648) (hx : -32768 ≤ x ∧ x < 32768) (ht : Tab w) :
    Calls Tryd.prog 7 #[.int .i32 a, .int .i32 b, .int .i16 x] w fun e w' => e = .returned (.bool true) ∧ Below w.heap.size w w' := by
  have HL := Lib.hid live16_any
  have hTB := Lib.tabBelow_of_tabIs ht
  obtain ⟨e, he0⟩ : ∃ e, e = x.tmod 900 := ⟨_, rfl⟩
  have he : -899 ≤ e ∧ e ≤ 899 := by rw [he0]; exact tmod900 x
  have hofa : Hid (∀ W, Below w.heap.size w W → Calls Tryd.prog 20 #[.int .i64 a, .int .i64 e] W fun r w' => r = .returned (decV (ofC a e)) ∧ Below W.heap.size W w') := fun W hW => of_any a e W (hTB W hW) (by omega) (by omega)
  have hofb : Hid (∀ W, Below w.heap.size w W → Calls Tryd.prog 20 #[.int .i64 b, .int .i64 e] W fun r w' => r = .returned (decV (ofC b e)) ∧ Below W.heap.size W w') := fun W hW => of_any b e W (hTB W hW) (by omega) (by omega)
  have h10 : Hid (∀ W, Below w.heap.size w W → Calls Tryd.prog 20 #[.int .i64 (a * 10), .int .i64 (e - 1)] W fun r w' => r = .returned (decV (ofC a e)) ∧ Below W.heap.size W w') := fun W hW => by
    rw [← ofC_ten]
    exact of_any (a * 10) (e - 1) W (hTB W hW) (by omega) (by omega)
  have hlike := like_order a b e (by omega) (by omega) he
  obtain ⟨sa1, sa2⟩ := of_str a e (by omega) w ht (by omega) (by omega)
  obtain ⟨sb1, sb2⟩ := of_str b e (by omega) w ht (by omega) (by omega)
  obtain ⟨⟨an, ad, ae⟩, hA⟩ : ∃ d, d = ofC a e := ⟨_, rfl⟩
  obtain ⟨⟨bn, bd, be⟩, hB⟩ : ∃ d, d = ofC b e := ⟨_, rfl⟩
  rw [← hA] at hofa h10 hlike sa1 sa2
  rw [← hB] at hofb hlike sb1 sb2
  unfold decV at hofa hofb h10
  simp only at hofa hofb h10 sa1 sa2 sb1 sb2
  obtain ⟨as_, has⟩ : ∃ s, s = strOf ad := ⟨_, rfl⟩
  obtain ⟨bs_, hbs⟩ : ∃ s, s = strOf bd := ⟨_, rfl⟩
  rw [← has] at hofa h10 sa1 sa2
  rw [← hbs] at hofb sb1 sb2
  have HOr := Lib.hid fun W => order_any an bn as_ bs_ ae be W (by omega) (by omega)
  rw [sa1, sb1, hlike] at HOr
  have H10 := h10
  obtain ⟨cz, hcz⟩ : ∃ z, z = cmpZ a b := ⟨_, rfl⟩
  rw [← hcz] at HOr
  have hwa : IntKind.i64.wrap a = a := (IntWalk.i64_left _).trans (IntWalk.wrap64_in _ ⟨by omega, by omega⟩)
  have hwb : IntKind.i64.wrap b = b := (IntWalk.i64_left _).trans (IntWalk.wrap64_in _ ⟨by omega, by omega⟩)
  have hwx : IntKind.i64.wrap x = x := (IntWalk.i64_left _).trans (IntWalk.wrap64_in _ ⟨by omega, by omega⟩)
  have hwe : IntKind.i64.wrap e = e := (IntWalk.i64_left _).trans (IntWalk.wrap64_in _ ⟨by omega, by omega⟩)
  have hwe1 : IntKind.i64.wrap (e - 1) = e - 1 := (IntWalk.i64_left _).trans (IntWalk.wrap64_in _ ⟨by omega, by omega⟩)
  have hwa10 : IntKind.i64.wrap (a * 10) = a * 10 := (IntWalk.i64_left _).trans (IntWalk.wrap64_in _ ⟨by omega, by omega⟩)
  have hre : x.tmod 900 = e := he0.symm
  have Hcz := Lib.hid hcz
  clear hTB h10 hlike sa1 sa2 sb1 sb2 hA hB has hbs hcz he0
  go_enter Tryd.func7, Tryd.ntmps7
  go_wp2_with fail
  refine (hofa.out _ (Below.refl _ _)).mono ?_
  rintro r X1 ⟨rfl, hb1⟩
  have HB1 := Lib.hid hb1
  clear hb1
  go_wp2_with fail
  refine (hofb.out _ HB1.out).mono ?_
  rintro r X2 ⟨rfl, hb2⟩
  have HB2 := Lib.hid (keepBelow hb2 HB1.out)
  clear hb2 HB1 hofa hofb
  go_upto_region 2 with (fail)
  obtain ⟨ba, hba⟩ : ∃ z, z = X2.heap.size := ⟨_, rfl⟩
  obtain ⟨bb, hbb⟩ : ∃ z, z = X2.heap.size + 1 := ⟨_, rfl⟩
  obtain ⟨X3, hX3⟩ : ∃ z, z = (X2.alloc (.cells #[.bool an, .string as_, .int .i64 ae] 24)).alloc (.cells #[.bool bn, .string bs_, .int .i64 be] 24) := ⟨_, rfl⟩
  have hT := two_decs X2 X3 _ _ hX3
  rw [← hX3, ← hbb, ← hba]
  rw [← hbb, ← hba] at hT
  have HT : Hid (Two w ba bb #[.bool an, .string as_, .int .i64 ae] #[.bool bn, .string bs_, .int .i64 be] X3) := ⟨hT.a, hT.b, keepBelow hT.k HB2.out⟩
  clear hT hX3 hba hbb HB2
  go_upto_region 3 with (fail)
  obtain ⟨c1, hc1⟩ : ∃ c, c = decide (a < b) := ⟨_, rfl⟩
  obtain ⟨c2, hc2⟩ : ∃ c, c = decide (b < a) := ⟨_, rfl⟩
  have Hc1 := Lib.hid hc1
  have Hc2 := Lib.hid hc2
  clear hc1 hc2
  obtain ⟨w0, hw0⟩ : ∃ z, z = X3 := ⟨_, rfl⟩
  go_cut [22, 23, 24] (fun x22 x23 x24 W => x24 = .bool c1 ∧ w0 = W)
  case first =>
    as_aux_lemma =>
      go_wp2_with fail
      go_meet
      exact ⟨by rw [Hc1.out], hw0⟩
  case rest =>
    obtain ⟨rfl, rfl⟩ := hcut
    subst hw0
    go_upto_if 24 with (fail)
    obtain ⟨w0, hw0⟩ : ∃ z, z = w0 := ⟨_, rfl⟩
    go_cut [9] (fun x9 W => x9 = .int .i64 (if c1 = true then -1 else 0) ∧ w0 = W)
    case first =>
      as_aux_lemma =>
        cases c1 with
        | true =>
          go_wp2_with fail
          go_meet
          exact ⟨rfl, hw0⟩
        | false =>
          go_wp2_with fail
          go_meet
          exact ⟨rfl, hw0⟩
    case rest =>
      obtain ⟨rfl, rfl⟩ := hcut
      subst hw0
      obtain ⟨v9, hv9⟩ : ∃ z : Int, z = (if c1 = true then -1 else 0) := ⟨_, rfl⟩
      rw [← hv9]
      have Hv9 := Lib.hid hv9
      clear hv9
      go_upto_region 5 with (fail)
      obtain ⟨w0, hw0⟩ : ∃ z, z = w0 := ⟨_, rfl⟩
      go_cut [25, 26, 27] (fun x25 x26 x27 W => x27 = .bool c2 ∧ w0 = W)
      case first =>
        as_aux_lemma =>
          go_wp2_with fail
          go_meet
          exact ⟨by rw [Hc2.out], hw0⟩
      case rest =>
        obtain ⟨rfl, rfl⟩ := hcut
        subst hw0
        go_upto_if 27 with (fail)
        obtain ⟨w0, hw0⟩ : ∃ z, z = w0 := ⟨_, rfl⟩
        go_cut [9] (fun x9 W => x9 = .int .i64 cz ∧ w0 = W)
        case first =>
          as_aux_lemma =>
            cases c2 with
            | true =>
              have h2 := of_decide_eq_true Hc2.out.symm
              have hz : Hid (cz = 1) := by show _ = _; rw [Hcz.out]; unfold cmpZ; rw [if_neg (by omega), if_pos h2]
              go_wp2_with fail
              go_meet
              exact ⟨by rw [hz.out], hw0⟩
            | false =>
              have h2 := of_decide_eq_false Hc2.out.symm
              have hz : Hid (v9 = cz) := by
                show _ = _
                rw [Hcz.out, Hv9.out]
                unfold cmpZ
                cases c1 with
                | true => rw [if_pos rfl, if_pos (of_decide_eq_true Hc1.out.symm)]
                | false => rw [if_neg (by decide), if_neg (of_decide_eq_false Hc1.out.symm), if_neg h2]
              go_wp2_with fail
              go_meet
              exact ⟨by rw [hz.out], hw0⟩
        case rest =>
          obtain ⟨rfl, rfl⟩ := hcut
          subst hw0
          clear Hcz Hv9 Hc1 Hc2
          go_upto_region 7 with (fail)
          refine wp_region_held (S := Two w ba bb #[.bool an, .string as_, .int .i64 ae] #[.bool bn, .string bs_, .int .i64 be]) (by kernel_rfl) ?_
          refine wpAnyH_take (i := 0) (oi := { dst := some 28, op := Go.Op.load 24 (Go.Operand.tmp 7), type := 24, pos := "law.go:72", after := #[], guard := none }) (v := ?_) rfl (by kernel_rfl) (by kernel_rfl) (by kernel_rfl) (fun _ _ _ h => h) (Or.inl ⟨by rfl, ?_⟩) (HT.out.drew) ?_
          rotate_left 1
          · intro w5 hSw
            have q0 : w5.cell? ⟨ba, 0, none⟩ = some (.bool an) := hSw.a.cell 0
            have q1 : w5.cell? ⟨ba, 1, none⟩ = some (.string as_) := hSw.a.cell 1
            have q2 : w5.cell? ⟨ba, 2, none⟩ = some (.int .i64 ae) := hSw.a.cell 2
            go_simp; all_goals (with_reducible rfl)
          try simp only [Act.put, List.setIfInBounds_toArray, List.set_cons_zero, List.set_cons_succ]
          refine wpAnyH_take (i := 1) (oi := { dst := some 29, op := Go.Op.load 24 (Go.Operand.tmp 8), type := 24, pos := "law.go:72", after := #[], guard := none }) (v := ?_) rfl (by kernel_rfl) (by kernel_rfl) (by kernel_rfl) (fun _ _ _ h => h) (Or.inl ⟨by rfl, ?_⟩) (HT.out.drew) ?_
          rotate_left 1
          · intro w5 hSw
            have q0 : w5.cell? ⟨bb, 0, none⟩ = some (.bool bn) := hSw.b.cell 0
            have q1 : w5.cell? ⟨bb, 1, none⟩ = some (.string bs_) := hSw.b.cell 1
            have q2 : w5.cell? ⟨bb, 2, none⟩ = some (.int .i64 be) := hSw.b.cell 2
            go_simp; all_goals (with_reducible rfl)
          try simp only [Act.put, List.setIfInBounds_toArray, List.set_cons_zero, List.set_cons_succ]
          refine wpAnyH_take (i := 3) (oi := { dst := some 31, op := Go.Op.move (Go.Operand.tmp 9), type := 3, pos := "law.go:72", after := #[], guard := none }) (v := ?_) rfl (by kernel_rfl) (by kernel_rfl) (by kernel_rfl) (fun _ _ _ h => h) (Or.inl ⟨by rfl, ?_⟩) (HT.out.drew) ?_
          rotate_left 1
          · intro w5 hSw
            go_simp; all_goals (with_reducible rfl)
          try simp only [Act.put, List.setIfInBounds_toArray, List.set_cons_zero, List.set_cons_succ]
          refine wpAnyH_ready (rs := [2]) (by kernel_rfl) (by simp) ?_
          refine (AllReadyH.cons (o := { dst := some 30, op := Go.Op.call { callee := Go.Callee.value (Go.Operand.func 18), args := #[Go.Operand.tmp 28, Go.Operand.tmp 29], argTypes := #[24, 24] }, type := 3, pos := "law.go:72", after := #[{ on := 0, ground := Go.Ground.data }, { on := 1, ground := Go.Ground.data }], guard := none }) rfl (fun K hK => ?_) AllReadyH.nil)
          go_simp
          refine (HOr.out _).mono ?_; rintro r Y2 ⟨rfl, hb2⟩
          go_wp2_with fail
          refine hK.out _ _ (Two.step (HT.out.drew) hb2) (fun _ => ?_)
          clear hK K
          try simp only [Act.put, List.setIfInBounds_toArray, List.set_cons_zero, List.set_cons_succ]
          refine wpAnyH_take (i := 4) (oi := { dst := some 32, op := Go.Op.binOp Go.BinOp.eql 3 (Go.Operand.tmp 30) (Go.Operand.tmp 31) 3, type := 4, pos := "law.go:72", after := #[{ on := 2, ground := Go.Ground.data }, { on := 3, ground := Go.Ground.data }], guard := none }) (v := ?_) rfl (by kernel_rfl) (by kernel_rfl) (by kernel_rfl) (fun _ _ _ h => h) (Or.inl ⟨by rfl, ?_⟩) (Two.step (HT.out.drew) hb2) ?_
          rotate_left 1
          · intro w5 hSw
            go_simp; all_goals (with_reducible rfl)
          try simp only [Act.put, List.setIfInBounds_toArray, List.set_cons_zero, List.set_cons_succ]
          refine wpAnyH_take (i := 5) (oi := { dst := some 33, op := Go.Op.move (Go.Operand.tmp 32), type := 4, pos := "law.go:72", after := #[{ on := 4, ground := Go.Ground.data }, { on := 2, ground := Go.Ground.chain }], guard := none }) (v := ?_) rfl (by kernel_rfl) (by kernel_rfl) (by kernel_rfl) (fun _ _ _ h => h) (Or.inl ⟨by rfl, ?_⟩) (Two.step (HT.out.drew) hb2) ?_
          rotate_left 1
          · intro w5 hSw
            go_simp; all_goals (with_reducible rfl)
          try simp only [Act.put, List.setIfInBounds_toArray, List.set_cons_zero, List.set_cons_succ]
          refine wpAnyH_take (i := 6) (oi := { dst := some 34, op := Go.Op.move (Go.Operand.tmp 0), type := 21, pos := "law.go:72", after := #[{ on := 5, ground := Go.Ground.guard }], guard := some (5, true) }) (v := ?_) rfl (by kernel_rfl) (by kernel_rfl) (by kernel_rfl) (fun _ _ _ h => h) (Or.inl ⟨by rfl, ?_⟩) (Two.step (HT.out.drew) hb2) ?_
          rotate_left 1
          · intro w5 hSw
            go_simp; all_goals (with_reducible rfl)
          try simp only [Act.put, List.setIfInBounds_toArray, List.set_cons_zero, List.set_cons_succ]
          refine wpAnyH_take (i := 7) (oi := { dst := some 35, op := Go.Op.convert 21 3 (Go.Operand.tmp 34), type := 3, pos := "law.go:72", after := #[{ on := 6, ground := Go.Ground.data }, { on := 5, ground := Go.Ground.guard }], guard := some (5, true) }) (v := ?_) rfl (by kernel_rfl) (by kernel_rfl) (by kernel_rfl) (fun _ _ _ h => h) (Or.inl ⟨by rfl, ?_⟩) (Two.step (HT.out.drew) hb2) ?_
          rotate_left 1
          · intro w5 hSw
            go_simp; all_goals (with_reducible rfl)
          try simp only [Act.put, List.setIfInBounds_toArray, List.set_cons_zero, List.set_cons_succ]
          refine wpAnyH_take (i := 8) (oi := { dst := some 36, op := Go.Op.binOp Go.BinOp.mul 3 (Go.Operand.tmp 35) (Go.Operand.const (Go.Value.int Go.IntKind.i64 10)) 3, type := 3, pos := "law.go:72", after := #[{ on := 7, ground := Go.Ground.data }, { on := 5, ground := Go.Ground.guard }], guard := some (5, true) }) (v := ?_) rfl (by kernel_rfl) (by kernel_rfl) (by kernel_rfl) (fun _ _ _ h => h) (Or.inl ⟨by rfl, ?_⟩) (Two.step (HT.out.drew) hb2) ?_
          rotate_left 1
          · intro w5 hSw
            go_simp; all_goals (with_reducible rfl)
          try simp only [Act.put, List.setIfInBounds_toArray, List.set_cons_zero, List.set_cons_succ]
          refine wpAnyH_take (i := 9) (oi := { dst := some 37, op := Go.Op.move (Go.Operand.tmp 2), type := 41, pos := "law.go:72", after := #[{ on := 5, ground := Go.Ground.guard }], guard := some (5, true) }) (v := ?_) rfl (by kernel_rfl) (by kernel_rfl) (by kernel_rfl) (fun _ _ _ h => h) (Or.inl ⟨by rfl, ?_⟩) (Two.step (HT.out.drew) hb2) ?_
          rotate_left 1
          · intro w5 hSw
            go_simp; all_goals (with_reducible rfl)
          try simp only [Act.put, List.setIfInBounds_toArray, List.set_cons_zero, List.set_cons_succ]
          refine wpAnyH_take (i := 10) (oi := { dst := some 38, op := Go.Op.convert 41 3 (Go.Operand.tmp 37), type := 3, pos := "law.go:72", after := #[{ on := 9, ground := Go.Ground.data }, { on := 5, ground := Go.Ground.guard }], guard := some (5, true) }) (v := ?_) rfl (by kernel_rfl) (by kernel_rfl) (by kernel_rfl) (fun _ _ _ h => h) (Or.inl ⟨by rfl, ?_⟩) (Two.step (HT.out.drew) hb2) ?_
          rotate_left 1
          · intro w5 hSw
            go_simp; all_goals (with_reducible rfl)
          try simp only [Act.put, List.setIfInBounds_toArray, List.set_cons_zero, List.set_cons_succ]
          refine wpAnyH_take (i := 11) (oi := { dst := some 39, op := Go.Op.binOp Go.BinOp.rem 3 (Go.Operand.tmp 38) (Go.Operand.const (Go.Value.int Go.IntKind.i64 900)) 3, type := 3, pos := "law.go:72", after := #[{ on := 10, ground := Go.Ground.data }, { on := 5, ground := Go.Ground.guard }], guard := some (5, true) }) (v := ?_) rfl (by kernel_rfl) (by kernel_rfl) (by kernel_rfl) (fun _ _ _ h => h) (Or.inl ⟨by rfl, ?_⟩) (Two.step (HT.out.drew) hb2) ?_
          rotate_left 1
          · intro w5 hSw
            go_simp; all_goals (with_reducible rfl)
          try simp only [Act.put, List.setIfInBounds_toArray, List.set_cons_zero, List.set_cons_succ]
          refine wpAnyH_take (i := 12) (oi := { dst := some 40, op := Go.Op.binOp Go.BinOp.sub 3 (Go.Operand.tmp 39) (Go.Operand.const (Go.Value.int Go.IntKind.i64 1)) 3, type := 3, pos := "law.go:72", after := #[{ on := 11, ground := Go.Ground.data }, { on := 5, ground := Go.Ground.guard }], guard := some (5, true) }) (v := ?_) rfl (by kernel_rfl) (by kernel_rfl) (by kernel_rfl) (fun _ _ _ h => h) (Or.inl ⟨by rfl, ?_⟩) (Two.step (HT.out.drew) hb2) ?_
          rotate_left 1
          · intro w5 hSw
            go_simp; all_goals (with_reducible rfl)
          try simp only [Act.put, List.setIfInBounds_toArray, List.set_cons_zero, List.set_cons_succ]
          refine wpAnyH_take (i := 14) (oi := { dst := some 42, op := Go.Op.load 24 (Go.Operand.tmp 7), type := 24, pos := "law.go:72", after := #[{ on := 5, ground := Go.Ground.guard }], guard := some (5, true) }) (v := ?_) rfl (by kernel_rfl) (by kernel_rfl) (by kernel_rfl) (fun _ _ _ h => h) (Or.inl ⟨by rfl, ?_⟩) (Two.step (HT.out.drew) hb2) ?_
          rotate_left 1
          · intro w5 hSw
            have q0 : w5.cell? ⟨ba, 0, none⟩ = some (.bool an) := hSw.a.cell 0
            have q1 : w5.cell? ⟨ba, 1, none⟩ = some (.string as_) := hSw.a.cell 1
            have q2 : w5.cell? ⟨ba, 2, none⟩ = some (.int .i64 ae) := hSw.a.cell 2
            go_simp; all_goals (with_reducible rfl)
          try simp only [Act.put, List.setIfInBounds_toArray, List.set_cons_zero, List.set_cons_succ]
          refine wpAnyH_ready (rs := [13]) (by kernel_rfl) (by simp) ?_
          refine (AllReadyH.cons (o := { dst := some 41, op := Go.Op.call { callee := Go.Callee.value (Go.Operand.func 20), args := #[Go.Operand.tmp 36, Go.Operand.tmp 40], argTypes := #[3, 3] }, type := 24, pos := "law.go:72", after := #[{ on := 8, ground := Go.Ground.data }, { on := 12, ground := Go.Ground.data }, { on := 5, ground := Go.Ground.chain }, { on := 5, ground := Go.Ground.guard }], guard := some (5, true) }) rfl (fun K hK => ?_) AllReadyH.nil)
          go_simp
          refine (H10.out _ (Two.step (HT.out.drew) hb2).k).mono ?_; rintro r Y13 ⟨rfl, hb13⟩
          go_wp2_with fail
          refine hK.out _ _ (Two.step (Two.step (HT.out.drew) hb2) hb13) (fun _ => ?_)
          clear hK K
          try simp only [Act.put, List.setIfInBounds_toArray, List.set_cons_zero, List.set_cons_succ]
          refine wpAnyH_take (i := 15) (oi := { dst := some 43, op := Go.Op.binOp Go.BinOp.eql 24 (Go.Operand.tmp 41) (Go.Operand.tmp 42) 24, type := 4, pos := "law.go:72", after := #[{ on := 13, ground := Go.Ground.data }, { on := 14, ground := Go.Ground.data }, { on := 5, ground := Go.Ground.guard }], guard := some (5, true) }) (v := ?_) rfl (by kernel_rfl) (by kernel_rfl) (by kernel_rfl) (fun _ _ _ h => h) (Or.inl ⟨by rfl, ?_⟩) (Two.step (Two.step (HT.out.drew) hb2) hb13) ?_
          rotate_left 1
          · intro w5 hSw
            go_simp; all_goals (with_reducible rfl)
          try simp only [Act.put, List.setIfInBounds_toArray, List.set_cons_zero, List.set_cons_succ]
          refine wpAnyH_take (i := 16) (oi := { dst := some 44, op := Go.Op.pick (Go.Operand.tmp 33) (Go.Operand.tmp 43) (Go.Operand.const (Go.Value.bool false)), type := 4, pos := "law.go:72", after := #[{ on := 5, ground := Go.Ground.data }, { on := 15, ground := Go.Ground.data }], guard := none }) (v := ?_) rfl (by kernel_rfl) (by kernel_rfl) (by kernel_rfl) (fun _ _ _ h => h) (Or.inl ⟨by rfl, ?_⟩) (Two.step (Two.step (HT.out.drew) hb2) hb13) ?_
          rotate_left 1
          · intro w5 hSw
            go_simp; all_goals (with_reducible rfl)
          try simp only [Act.put, List.setIfInBounds_toArray, List.set_cons_zero, List.set_cons_succ]
          refine wpAnyH_take (i := 17) (oi := { dst := some 45, op := Go.Op.move (Go.Operand.tmp 44), type := 4, pos := "law.go:72", after := #[{ on := 16, ground := Go.Ground.data }, { on := 13, ground := Go.Ground.chain }], guard := none }) (v := ?_) rfl (by kernel_rfl) (by kernel_rfl) (by kernel_rfl) (fun _ _ _ h => h) (Or.inl ⟨by rfl, ?_⟩) (Two.step (Two.step (HT.out.drew) hb2) hb13) ?_
          rotate_left 1
          · intro w5 hSw
            go_simp; all_goals (with_reducible rfl)
          try simp only [Act.put, List.setIfInBounds_toArray, List.set_cons_zero, List.set_cons_succ]
          refine wpAnyH_ready (rs := [18]) (by kernel_rfl) (by simp) ?_
          refine (AllReadyH.cons (o := { dst := some 46, op := Go.Op.call { callee := Go.Callee.value (Go.Operand.func 8), args := #[], argTypes := #[] }, type := 4, pos := "law.go:72", after := #[{ on := 17, ground := Go.Ground.chain }, { on := 17, ground := Go.Ground.guard }], guard := some (17, true) }) rfl (fun K hK => ?_) AllReadyH.nil)
          go_simp
          refine (HL.out _).mono ?_; rintro r Y18 ⟨rfl, hb18⟩
          go_wp2_with fail
          refine hK.out _ _ (Two.step (Two.step (Two.step (HT.out.drew) hb2) hb13) hb18) (fun _ => ?_)
          clear hK K
          try simp only [Act.put, List.setIfInBounds_toArray, List.set_cons_zero, List.set_cons_succ]
          refine wpAnyH_take (i := 19) (oi := { dst := some 47, op := Go.Op.pick (Go.Operand.tmp 45) (Go.Operand.tmp 46) (Go.Operand.const (Go.Value.bool false)), type := 4, pos := "law.go:72", after := #[{ on := 17, ground := Go.Ground.data }, { on := 18, ground := Go.Ground.data }], guard := none }) (v := ?_) rfl (by kernel_rfl) (by kernel_rfl) (by kernel_rfl) (fun _ _ _ h => h) (Or.inl ⟨by rfl, ?_⟩) (Two.step (Two.step (Two.step (HT.out.drew) hb2) hb13) hb18) ?_
          rotate_left 1
          · intro w5 hSw
            go_simp; all_goals (with_reducible rfl)
          try simp only [Act.put, List.setIfInBounds_toArray, List.set_cons_zero, List.set_cons_succ]
          refine wpAnyH_take (i := 20) (oi := { dst := some 6, op := Go.Op.assign (Go.Operand.tmp 47), type := 4, pos := "law.go:72", after := #[{ on := 19, ground := Go.Ground.data }, { on := 18, ground := Go.Ground.chain }, { on := 0, ground := Go.Ground.phase }, { on := 1, ground := Go.Ground.phase }, { on := 2, ground := Go.Ground.phase }, { on := 3, ground := Go.Ground.phase }, { on := 4, ground := Go.Ground.phase }, { on := 5, ground := Go.Ground.phase }, { on := 6, ground := Go.Ground.phase }, { on := 7, ground := Go.Ground.phase }, { on := 8, ground := Go.Ground.phase }, { on := 9, ground := Go.Ground.phase }, { on := 10, ground := Go.Ground.phase }, { on := 11, ground := Go.Ground.phase }, { on := 12, ground := Go.Ground.phase }, { on := 13, ground := Go.Ground.phase }, { on := 14, ground := Go.Ground.phase }, { on := 15, ground := Go.Ground.phase }, { on := 16, ground := Go.Ground.phase }, { on := 17, ground := Go.Ground.phase }, { on := 18, ground := Go.Ground.phase }, { on := 19, ground := Go.Ground.phase }], guard := none }) (v := ?_) rfl (by kernel_rfl) (by kernel_rfl) (by kernel_rfl) (fun _ _ _ h => h) (Or.inl ⟨by rfl, ?_⟩) (Two.step (Two.step (Two.step (HT.out.drew) hb2) hb13) hb18) ?_
          rotate_left 1
          · intro w5 hSw
            go_simp; all_goals (with_reducible rfl)
          try simp only [Act.put, List.setIfInBounds_toArray, List.set_cons_zero, List.set_cons_succ]
          refine wpAnyH_done (by kernel_rfl) ?_ _
          go_wp2_with fail
          go_ret
          exact ⟨rfl, (Two.step (Two.step (Two.step (HT.out.drew) hb2) hb13) hb18).k⟩
theorem decLikes_walk2 (a b x : Int) (w : World) (ha : -2147483648 ≤ a ∧ a < 2147483648) (hb : -2147483648 ≤ b ∧ b < 2147483648) (hx : -32768 ≤ x ∧ x < 32768) (ht : Tab w) :
    Calls Tryd.prog 7 #[.int .i32 a, .int .i32 b, .int .i16 x] w fun e w' => e = .returned (.bool true) ∧ Below w.heap.size w w' := decLikes_walk a b x w ha hb hx ht
end Go.Proofs.YtdbcklabinmgfaaDoor
