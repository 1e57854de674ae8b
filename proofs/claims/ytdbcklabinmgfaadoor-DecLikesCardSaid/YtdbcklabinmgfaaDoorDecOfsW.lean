/- Layer 16: DecOfs: the law's walk. -/
import Derived.Test.YtdbcklabinmgfaaDoorOf2
namespace Go.Proofs.YtdbcklabinmgfaaDoor
open Go.RowKit Go.Shelf
set_option linter.unusedVariables false
set_option maxRecDepth 100000

theorem ofC_small (n e : Int) (h : n.natAbs < 18446744073709551616) : (∀ x ∈ (ofC n e).2.1, x < 256) ∧ (ofC n e).2.1.length ≤ 100 := by
  have := rightD_dig (ofC_right n e h)
  exact ⟨fun x hx => by have := this.1 x hx; omega, this.2⟩
set_option maxHeartbeats 8000000 in
theorem decOfs_walk (n ex : Int) (w : World) (hn : -9223372036854775808 ≤ n ∧ n < 9223372036854775808) (he : -9223372036854775808 ≤ ex ∧ ex < 9223372036854775808) (ht : Tab w) :
    Calls Tryd.prog 6 #[.int .i64 n, .int .i64 ex] w fun e w' => e = .returned (.bool true) ∧ Below w.heap.size w w' := by
  have HL := Lib.hid live16_any
  have hTB := Lib.tabBelow_of_tabIs ht
  have HOf := Lib.hid fun W => rof_any n ex W hn he
  have hof : ∀ W, Below w.heap.size w W → Calls Tryd.prog 20 #[.int .i64 n, .int .i64 ex] W fun r w' => r = .returned (decV (ofC n ex)) ∧ Below W.heap.size W w' := fun W hW => of_any n ex W (hTB W hW) hn he
  have hof0 : ∀ W, Below w.heap.size w W → Calls Tryd.prog 20 #[.int .i64 n, .int .i64 0] W fun r w' => r = .returned (decV (ofC n 0)) ∧ Below W.heap.size W w' := fun W hW => of_any n 0 W (hTB W hW) hn (by omega)
  have hint := fun h => ofC_int n h
  obtain ⟨hs8, hsl⟩ := ofC_small n 0 (by omega)
  obtain ⟨⟨dn, dd, de⟩, hD⟩ : ∃ d, d = ofC n ex := ⟨_, rfl⟩
  obtain ⟨⟨zn, zd, ze⟩, hZ⟩ : ∃ d, d = ofC n 0 := ⟨_, rfl⟩
  rw [← hD] at hof HOf
  rw [← hZ] at hof0 hint hs8 hsl
  simp only at hint hs8 hsl
  unfold decV at hof hof0 HOf
  simp only at hof hof0 HOf
  obtain ⟨ds, hds⟩ : ∃ s, s = strOf dd := ⟨_, rfl⟩
  obtain ⟨zs, hzs⟩ : ∃ s, s = strOf zd := ⟨_, rfl⟩
  have hzb : bs zs = zd := by rw [hzs]; exact bs_strOf zd hs8
  have hzl : zs.size ≤ 100 := by rw [hzs, strOf_size]; exact hsl
  rw [← hds] at hof HOf
  rw [← hzs] at hof0
  have HI := Lib.hid fun W => int_any zn zs ze W (by omega)
  rw [hzb] at HI
  obtain ⟨⟨k, ok⟩, hk⟩ : ∃ i, i = intC zn zd ze := ⟨_, rfl⟩
  rw [← hk] at HI hint
  simp only at HI
  have HOr := HOf
  have H1 := Lib.hid (hof w (Below.refl _ _))
  have H2 := Lib.hid hof0
  have Hint := Lib.hid hint
  clear hof hof0 hint hs8 hsl hD hZ hds hzs hzb hzl hk hTB HOf
  go_enter Tryd.func6, Tryd.ntmps6
  go_wp2_with fail
  refine H1.out.mono ?_
  rintro e X1 ⟨rfl, hb1⟩
  have HB1 := Lib.hid hb1
  clear hb1
  obtain ⟨b, hb⟩ : ∃ z, z = X1.heap.size := ⟨_, rfl⟩
  go_upto_region 2 with (fail)
  obtain ⟨Y1, hY1⟩ : ∃ z, z = X1.alloc (.cells #[.bool dn, .string ds, .int .i64 de] 24) := ⟨_, rfl⟩
  have hO : One w b #[.bool dn, .string ds, .int .i64 de] Y1 := by rw [hY1, hb]; exact ⟨Whole.new X1 _ _, HB1.out.alloc HB1.out.size _⟩
  rw [← hY1, ← hb]
  have HO := Lib.hid hO
  clear hO hY1 hb HB1 H1
  go_wp2_with fail
  refine (H2.out _ HO.out.k).mono ?_
  rintro e X2 ⟨rfl, hb2⟩
  have HO2 := Lib.hid (HO.out.step hb2)
  clear hb2
  go_wp2_with fail
  refine (HI.out _).mono ?_
  rintro e X3 ⟨rfl, hb3⟩
  have HO := Lib.hid (HO2.out.step hb3)
  clear hb3 H2 HI HO2
  go_upto_region 3 with (fail)
  obtain ⟨w0, hw0⟩ : ∃ z, z = X3 := ⟨_, rfl⟩
  go_cut [8, 18, 19, 20, 21, 22, 23, 24, 25, 26, 27, 28, 29, 30, 31] (fun x8 x18 x19 x20 x21 x22 x23 x24 x25 x26 x27 x28 x29 x30 x31 W => x8 = .bool true ∧ w0 = W)
  case first =>
    as_aux_lemma =>
      by_cases h1 : n < -4611686018427387904
      · have d1 : decide (n < -4611686018427387904) = true := decide_eq_true h1
        go_wp2_with fail
        go_meet
        exact ⟨rfl, hw0⟩
      · have d1 : decide (n < -4611686018427387904) = false := decide_eq_false h1
        by_cases h2 : 4611686018427387904 < n
        · have d2 : decide (4611686018427387904 < n) = true := decide_eq_true h2
          go_wp2_with fail
          go_meet
          exact ⟨rfl, hw0⟩
        · have d2 : decide (4611686018427387904 < n) = false := decide_eq_false h2
          have hk := Hint.out (by omega)
          injection hk with hk1 hk2
          subst hk1 hk2
          go_wp2_with fail
          go_meet
          exact ⟨by first | rfl | simp, hw0⟩
  case rest =>
    obtain ⟨rfl, rfl⟩ := hcut
    subst hw0
    clear Hint
    go_upto_region 4 with (fail)
    refine wp_region_held (S := One w b #[.bool dn, .string ds, .int .i64 de]) (by kernel_rfl) ?_
    refine wpAnyH_take (i := 0) (oi := { dst := some 32, op := Go.Op.load 24 (Go.Operand.tmp 5), type := 24, pos := "law.go:59", after := #[], guard := none }) (v := ?_) rfl (by kernel_rfl) (by kernel_rfl) (by kernel_rfl) (fun _ _ _ h => h) (Or.inl ⟨by rfl, ?_⟩) (HO.out.drew) ?_
    rotate_left 1
    · intro w5 hSw
      have q0 : w5.cell? ⟨b, 0, none⟩ = some (.bool dn) := hSw.a.cell 0
      have q1 : w5.cell? ⟨b, 1, none⟩ = some (.string ds) := hSw.a.cell 1
      have q2 : w5.cell? ⟨b, 2, none⟩ = some (.int .i64 de) := hSw.a.cell 2
      go_simp; all_goals (with_reducible rfl)
    try simp only [Act.put, List.setIfInBounds_toArray, List.set_cons_zero, List.set_cons_succ]
    refine wpAnyH_take (i := 1) (oi := { dst := some 33, op := Go.Op.move (Go.Operand.tmp 0), type := 3, pos := "law.go:59", after := #[], guard := none }) (v := ?_) rfl (by kernel_rfl) (by kernel_rfl) (by kernel_rfl) (fun _ _ _ h => h) (Or.inl ⟨by rfl, ?_⟩) (HO.out.drew) ?_
    rotate_left 1
    · intro w5 hSw
      go_simp; all_goals (with_reducible rfl)
    try simp only [Act.put, List.setIfInBounds_toArray, List.set_cons_zero, List.set_cons_succ]
    refine wpAnyH_take (i := 2) (oi := { dst := some 34, op := Go.Op.move (Go.Operand.tmp 1), type := 3, pos := "law.go:59", after := #[], guard := none }) (v := ?_) rfl (by kernel_rfl) (by kernel_rfl) (by kernel_rfl) (fun _ _ _ h => h) (Or.inl ⟨by rfl, ?_⟩) (HO.out.drew) ?_
    rotate_left 1
    · intro w5 hSw
      go_simp; all_goals (with_reducible rfl)
    try simp only [Act.put, List.setIfInBounds_toArray, List.set_cons_zero, List.set_cons_succ]
    refine wpAnyH_ready (rs := [3]) (by kernel_rfl) (by simp) ?_
    refine (AllReadyH.cons (o := { dst := some 35, op := Go.Op.call { callee := Go.Callee.value (Go.Operand.func 21), args := #[Go.Operand.tmp 33, Go.Operand.tmp 34], argTypes := #[3, 3] }, type := 24, pos := "law.go:59", after := #[{ on := 1, ground := Go.Ground.data }, { on := 2, ground := Go.Ground.data }], guard := none }) rfl (fun K hK => ?_) AllReadyH.nil)
    go_simp
    refine (HOr.out _).mono ?_; rintro e Y3 ⟨rfl, hb3⟩
    go_wp2_with fail
    refine hK.out _ _ (One.step (HO.out.drew) hb3) (fun _ => ?_)
    clear hK K
    try simp only [Act.put, List.setIfInBounds_toArray, List.set_cons_zero, List.set_cons_succ]
    refine wpAnyH_take (i := 4) (oi := { dst := some 36, op := Go.Op.binOp Go.BinOp.eql 24 (Go.Operand.tmp 32) (Go.Operand.tmp 35) 24, type := 4, pos := "law.go:59", after := #[{ on := 0, ground := Go.Ground.data }, { on := 3, ground := Go.Ground.data }], guard := none }) (v := ?_) rfl (by kernel_rfl) (by kernel_rfl) (by kernel_rfl) (fun _ _ _ h => h) (Or.inl ⟨by rfl, ?_⟩) (One.step (HO.out.drew) hb3) ?_
    rotate_left 1
    · intro w5 hSw
      go_simp; all_goals (with_reducible rfl)
    try simp only [Act.put, List.setIfInBounds_toArray, List.set_cons_zero, List.set_cons_succ]
    refine wpAnyH_take (i := 5) (oi := { dst := some 37, op := Go.Op.move (Go.Operand.tmp 36), type := 4, pos := "law.go:59", after := #[{ on := 4, ground := Go.Ground.data }, { on := 3, ground := Go.Ground.chain }], guard := none }) (v := ?_) rfl (by kernel_rfl) (by kernel_rfl) (by kernel_rfl) (fun _ _ _ h => h) (Or.inl ⟨by rfl, ?_⟩) (One.step (HO.out.drew) hb3) ?_
    rotate_left 1
    · intro w5 hSw
      go_simp; all_goals (with_reducible rfl)
    try simp only [Act.put, List.setIfInBounds_toArray, List.set_cons_zero, List.set_cons_succ]
    refine wpAnyH_take (i := 6) (oi := { dst := some 38, op := Go.Op.move (Go.Operand.tmp 8), type := 4, pos := "law.go:59", after := #[{ on := 5, ground := Go.Ground.guard }], guard := some (5, true) }) (v := ?_) rfl (by kernel_rfl) (by kernel_rfl) (by kernel_rfl) (fun _ _ _ h => h) (Or.inl ⟨by rfl, ?_⟩) (One.step (HO.out.drew) hb3) ?_
    rotate_left 1
    · intro w5 hSw
      go_simp; all_goals (with_reducible rfl)
    try simp only [Act.put, List.setIfInBounds_toArray, List.set_cons_zero, List.set_cons_succ]
    refine wpAnyH_take (i := 7) (oi := { dst := some 39, op := Go.Op.pick (Go.Operand.tmp 37) (Go.Operand.tmp 38) (Go.Operand.const (Go.Value.bool false)), type := 4, pos := "law.go:59", after := #[{ on := 5, ground := Go.Ground.data }, { on := 6, ground := Go.Ground.data }], guard := none }) (v := ?_) rfl (by kernel_rfl) (by kernel_rfl) (by kernel_rfl) (fun _ _ _ h => h) (Or.inl ⟨by rfl, ?_⟩) (One.step (HO.out.drew) hb3) ?_
    rotate_left 1
    · intro w5 hSw
      go_simp; all_goals (with_reducible rfl)
    try simp only [Act.put, List.setIfInBounds_toArray, List.set_cons_zero, List.set_cons_succ]
    refine wpAnyH_take (i := 8) (oi := { dst := some 40, op := Go.Op.move (Go.Operand.tmp 39), type := 4, pos := "law.go:59", after := #[{ on := 7, ground := Go.Ground.data }, { on := 5, ground := Go.Ground.chain }], guard := none }) (v := ?_) rfl (by kernel_rfl) (by kernel_rfl) (by kernel_rfl) (fun _ _ _ h => h) (Or.inl ⟨by rfl, ?_⟩) (One.step (HO.out.drew) hb3) ?_
    rotate_left 1
    · intro w5 hSw
      go_simp; all_goals (with_reducible rfl)
    try simp only [Act.put, List.setIfInBounds_toArray, List.set_cons_zero, List.set_cons_succ]
    refine wpAnyH_ready (rs := [9]) (by kernel_rfl) (by simp) ?_
    refine (AllReadyH.cons (o := { dst := some 41, op := Go.Op.call { callee := Go.Callee.value (Go.Operand.func 8), args := #[], argTypes := #[] }, type := 4, pos := "law.go:59", after := #[{ on := 8, ground := Go.Ground.chain }, { on := 8, ground := Go.Ground.guard }], guard := some (8, true) }) rfl (fun K hK => ?_) AllReadyH.nil)
    go_simp
    refine (HL.out _).mono ?_; rintro e Y9 ⟨rfl, hb9⟩
    go_wp2_with fail
    refine hK.out _ _ (One.step (One.step (HO.out.drew) hb3) hb9) (fun _ => ?_)
    clear hK K
    try simp only [Act.put, List.setIfInBounds_toArray, List.set_cons_zero, List.set_cons_succ]
    refine wpAnyH_take (i := 10) (oi := { dst := some 42, op := Go.Op.pick (Go.Operand.tmp 40) (Go.Operand.tmp 41) (Go.Operand.const (Go.Value.bool false)), type := 4, pos := "law.go:59", after := #[{ on := 8, ground := Go.Ground.data }, { on := 9, ground := Go.Ground.data }], guard := none }) (v := ?_) rfl (by kernel_rfl) (by kernel_rfl) (by kernel_rfl) (fun _ _ _ h => h) (Or.inl ⟨by rfl, ?_⟩) (One.step (One.step (HO.out.drew) hb3) hb9) ?_
    rotate_left 1
    · intro w5 hSw
      go_simp; all_goals (with_reducible rfl)
    try simp only [Act.put, List.setIfInBounds_toArray, List.set_cons_zero, List.set_cons_succ]
    refine wpAnyH_take (i := 11) (oi := { dst := some 4, op := Go.Op.assign (Go.Operand.tmp 42), type := 4, pos := "law.go:59", after := #[{ on := 10, ground := Go.Ground.data }, { on := 9, ground := Go.Ground.chain }, { on := 0, ground := Go.Ground.phase }, { on := 1, ground := Go.Ground.phase }, { on := 2, ground := Go.Ground.phase }, { on := 3, ground := Go.Ground.phase }, { on := 4, ground := Go.Ground.phase }, { on := 5, ground := Go.Ground.phase }, { on := 6, ground := Go.Ground.phase }, { on := 7, ground := Go.Ground.phase }, { on := 8, ground := Go.Ground.phase }, { on := 9, ground := Go.Ground.phase }, { on := 10, ground := Go.Ground.phase }], guard := none }) (v := ?_) rfl (by kernel_rfl) (by kernel_rfl) (by kernel_rfl) (fun _ _ _ h => h) (Or.inl ⟨by rfl, ?_⟩) (One.step (One.step (HO.out.drew) hb3) hb9) ?_
    rotate_left 1
    · intro w5 hSw
      go_simp; all_goals (with_reducible rfl)
    try simp only [Act.put, List.setIfInBounds_toArray, List.set_cons_zero, List.set_cons_succ]
    refine wpAnyH_done (by kernel_rfl) ?_ _
    go_wp2_with fail
    go_ret
    exact ⟨rfl, (One.step (One.step (HO.out.drew) hb3) hb9).k⟩
theorem decOfs_walk2 (n ex : Int) (w : World) (hn : -9223372036854775808 ≤ n ∧ n < 9223372036854775808) (he : -9223372036854775808 ≤ ex ∧ ex < 9223372036854775808) (ht : Tab w) :
    Calls Tryd.prog 6 #[.int .i64 n, .int .i64 ex] w fun e w' => e = .returned (.bool true) ∧ Below w.heap.size w w' := decOfs_walk n ex w hn he ht
end Go.Proofs.YtdbcklabinmgfaaDoor
