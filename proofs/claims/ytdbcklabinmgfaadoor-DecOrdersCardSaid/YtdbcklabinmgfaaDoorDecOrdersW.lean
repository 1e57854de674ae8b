/- Layer 16: DecOrders: the law's walk. -/
import Derived.Test.YtdbcklabinmgfaaDoorDecLive
import Derived.Test.YtdbcklabinmgfaaDoorOrd3
import Derived.Test.YtdbcklabinmgfaaDoorOpenDec
namespace Go.Proofs.YtdbcklabinmgfaaDoor
open Go.RowKit Go.Shelf Go.Lib
set_option linter.unusedVariables false
set_option maxRecDepth 100000

theorem ordD_le (a b : DV) : -1 ≤ ordD a b ∧ ordD a b ≤ 1 := by
  unfold ordD
  by_cases h : rightD a = true ∧ rightD b = true
  · rw [if_pos h]
    by_cases hs : signD a ≠ signD b
    · rw [if_pos hs]; exact cmpZ_le _ _
    · rw [if_neg hs]
      have h1 := orZ_le (cmpZ_le (pointD a) (pointD b)) (cbN_le a.2.1 b.2.1)
      have h2 := signD_le a
      have h3 : orZ (cmpZ (pointD a) (pointD b)) (cbN a.2.1 b.2.1) = -1 ∨ orZ (cmpZ (pointD a) (pointD b)) (cbN a.2.1 b.2.1) = 0 ∨ orZ (cmpZ (pointD a) (pointD b)) (cbN a.2.1 b.2.1) = 1 := by omega
      have h4 : signD a = -1 ∨ signD a = 0 ∨ signD a = 1 := by omega
      rcases h3 with e | e | e <;> rcases h4 with e' | e' | e' <;> rw [e, e'] <;> decide
  · rw [if_neg h]; decide
set_option maxHeartbeats 16000000 in
theorem decOrders_walk (na nb : Bool) (da db : ByteArray) (xa xb : Int) (w : World) :
    Calls Tryd.prog 5 #[.agg #[.bool na, .string da, .int .i64 xa], .agg #[.bool nb, .string db, .int .i64 xb]] w fun e w' => e = .returned (.bool true) ∧ Below w.heap.size w w' := by
  have HL := Lib.hid live16_any
  obtain ⟨ba, hba⟩ : ∃ z, z = w.heap.size := ⟨_, rfl⟩
  obtain ⟨bb, hbb⟩ : ∃ z, z = w.heap.size + 1 := ⟨_, rfl⟩
  obtain ⟨X0, hX0⟩ : ∃ z, z = (w.alloc (.cells #[.bool na, .string da, .int .i64 xa] 24)).alloc (.cells #[.bool nb, .string db, .int .i64 xb] 24) := ⟨_, rfl⟩
  have hT := two_decs w X0 _ _ hX0
  rw [← hbb, ← hba] at hT
  have HT := Lib.hid hT
  have HX0 := Lib.hid hX0
  have Hba := Lib.hid hba
  have Hbb := Lib.hid hbb
  have e1 : X0.cell? ⟨ba, 1, none⟩ = some (.string da) := hT.a.cell 1
  have e2 : X0.cell? ⟨bb, 1, none⟩ = some (.string db) := hT.b.cell 1
  clear hba hbb hX0 hT
  go_enter Tryd.func5, Tryd.ntmps5
  go_upto_region 1 with (fail)
  rw [← HX0.out, ← Hbb.out, ← Hba.out]
  clear HX0 Hba Hbb
  by_cases h1 : 300 < da.size
  · have d1 : decide (300 < (da.size : Int)) = true := decide_eq_true (by omega)
    go_wp2_with fail
    refine (HL.out _).mono ?_
    rintro e X ⟨rfl, hb⟩
    have HB := Lib.hid (keepBelow hb HT.out.k)
    clear hb
    go_wp2_with fail
    go_ret
    exact ⟨rfl, HB.out⟩
  · have d1 : decide (300 < (da.size : Int)) = false := decide_eq_false (by omega)
    by_cases h2 : 300 < db.size
    · have d2 : decide (300 < (db.size : Int)) = true := decide_eq_true (by omega)
      go_wp2_with fail
      refine (HL.out _).mono ?_
      rintro e X ⟨rfl, hb⟩
      have HB := Lib.hid (keepBelow hb HT.out.k)
      clear hb
      go_wp2_with fail
      go_ret
      exact ⟨rfl, HB.out⟩
    · have d2 : decide (300 < (db.size : Int)) = false := decide_eq_false (by omega)
      have hanti := ordD_anti (na, bs da, xa) (nb, bs db, xb)
      have hsame := ord_same (na, bs da, xa) (nb, bs db, xb)
      have hle := ordD_le (na, bs da, xa) (nb, bs db, xb)
      have HO1 := Lib.hid fun W => order_any na nb da db xa xb W (by omega) (by omega)
      have HR1 := Lib.hid fun W => rorder_any na nb da db xa xb W (by omega) (by omega)
      have HO2 := Lib.hid fun W => order_any nb na db da xb xa W (by omega) (by omega)
      obtain ⟨o, ho⟩ : ∃ o, o = ordD (na, bs da, xa) (nb, bs db, xb) := ⟨_, rfl⟩
      rw [← ho] at HO1 hle hanti hsame
      rw [hsame] at HR1
      rw [hanti] at HO2
      have hwn : IntKind.i64.wrap (-o) = -o := (IntWalk.i64_left (-o)).trans (IntWalk.wrap64_in (-o) ⟨by omega, by omega⟩)
      clear ho hanti hsame hle h1 h2
      go_upto_region 3 with (fail)
      clear e1 e2 d1 d2
      refine wp_region_held (S := Two w ba bb #[.bool na, .string da, .int .i64 xa] #[.bool nb, .string db, .int .i64 xb]) (by kernel_rfl) ?_
      refine wpAnyH_take (i := 0) (oi := { dst := some 16, op := Go.Op.load 24 (Go.Operand.tmp 2), type := 24, pos := "law.go:51", after := #[], guard := none }) (v := ?_) rfl (by kernel_rfl) (by kernel_rfl) (by kernel_rfl) (fun _ _ _ h => h) (Or.inl ⟨by rfl, ?_⟩) (HT.out.drew) ?_
      rotate_left 1
      · intro w5 hSw
        have q0 : w5.cell? ⟨ba, 0, none⟩ = some (.bool na) := hSw.a.cell 0
        have q1 : w5.cell? ⟨ba, 1, none⟩ = some (.string da) := hSw.a.cell 1
        have q2 : w5.cell? ⟨ba, 2, none⟩ = some (.int .i64 xa) := hSw.a.cell 2
        go_simp; all_goals (with_reducible rfl)
      try simp only [Act.put, List.setIfInBounds_toArray, List.set_cons_zero, List.set_cons_succ]
      refine wpAnyH_take (i := 1) (oi := { dst := some 17, op := Go.Op.load 24 (Go.Operand.tmp 3), type := 24, pos := "law.go:51", after := #[], guard := none }) (v := ?_) rfl (by kernel_rfl) (by kernel_rfl) (by kernel_rfl) (fun _ _ _ h => h) (Or.inl ⟨by rfl, ?_⟩) (HT.out.drew) ?_
      rotate_left 1
      · intro w5 hSw
        have q0 : w5.cell? ⟨bb, 0, none⟩ = some (.bool nb) := hSw.b.cell 0
        have q1 : w5.cell? ⟨bb, 1, none⟩ = some (.string db) := hSw.b.cell 1
        have q2 : w5.cell? ⟨bb, 2, none⟩ = some (.int .i64 xb) := hSw.b.cell 2
        go_simp; all_goals (with_reducible rfl)
      try simp only [Act.put, List.setIfInBounds_toArray, List.set_cons_zero, List.set_cons_succ]
      refine wpAnyH_take (i := 3) (oi := { dst := some 19, op := Go.Op.load 24 (Go.Operand.tmp 2), type := 24, pos := "law.go:51", after := #[], guard := none }) (v := ?_) rfl (by kernel_rfl) (by kernel_rfl) (by kernel_rfl) (fun _ _ _ h => h) (Or.inl ⟨by rfl, ?_⟩) (HT.out.drew) ?_
      rotate_left 1
      · intro w5 hSw
        have q0 : w5.cell? ⟨ba, 0, none⟩ = some (.bool na) := hSw.a.cell 0
        have q1 : w5.cell? ⟨ba, 1, none⟩ = some (.string da) := hSw.a.cell 1
        have q2 : w5.cell? ⟨ba, 2, none⟩ = some (.int .i64 xa) := hSw.a.cell 2
        go_simp; all_goals (with_reducible rfl)
      try simp only [Act.put, List.setIfInBounds_toArray, List.set_cons_zero, List.set_cons_succ]
      refine wpAnyH_take (i := 4) (oi := { dst := some 20, op := Go.Op.load 24 (Go.Operand.tmp 3), type := 24, pos := "law.go:51", after := #[], guard := none }) (v := ?_) rfl (by kernel_rfl) (by kernel_rfl) (by kernel_rfl) (fun _ _ _ h => h) (Or.inl ⟨by rfl, ?_⟩) (HT.out.drew) ?_
      rotate_left 1
      · intro w5 hSw
        have q0 : w5.cell? ⟨bb, 0, none⟩ = some (.bool nb) := hSw.b.cell 0
        have q1 : w5.cell? ⟨bb, 1, none⟩ = some (.string db) := hSw.b.cell 1
        have q2 : w5.cell? ⟨bb, 2, none⟩ = some (.int .i64 xb) := hSw.b.cell 2
        go_simp; all_goals (with_reducible rfl)
      try simp only [Act.put, List.setIfInBounds_toArray, List.set_cons_zero, List.set_cons_succ]
      refine wpAnyH_ready (rs := [2]) (by kernel_rfl) (by simp) ?_
      refine (AllReadyH.cons (o := { dst := some 18, op := Go.Op.call { callee := Go.Callee.value (Go.Operand.func 18), args := #[Go.Operand.tmp 16, Go.Operand.tmp 17], argTypes := #[24, 24] }, type := 3, pos := "law.go:51", after := #[{ on := 0, ground := Go.Ground.data }, { on := 1, ground := Go.Ground.data }], guard := none }) rfl (fun K hK => ?_) AllReadyH.nil)
      go_simp
      refine (HO1.out _).mono ?_; rintro e Y2 ⟨rfl, hb2⟩
      go_wp2_with fail
      refine hK.out _ _ (Two.step (HT.out.drew) hb2) (fun _ => ?_)
      clear hK K
      try simp only [Act.put, List.setIfInBounds_toArray, List.set_cons_zero, List.set_cons_succ]
      refine wpAnyH_ready (rs := [5]) (by kernel_rfl) (by simp) ?_
      refine (AllReadyH.cons (o := { dst := some 21, op := Go.Op.call { callee := Go.Callee.value (Go.Operand.func 19), args := #[Go.Operand.tmp 19, Go.Operand.tmp 20], argTypes := #[24, 24] }, type := 3, pos := "law.go:51", after := #[{ on := 3, ground := Go.Ground.data }, { on := 4, ground := Go.Ground.data }, { on := 2, ground := Go.Ground.chain }], guard := none }) rfl (fun K hK => ?_) AllReadyH.nil)
      go_simp
      refine (HR1.out _).mono ?_; rintro e Y5 ⟨rfl, hb5⟩
      go_wp2_with fail
      refine hK.out _ _ (Two.step (Two.step (HT.out.drew) hb2) hb5) (fun _ => ?_)
      clear hK K
      try simp only [Act.put, List.setIfInBounds_toArray, List.set_cons_zero, List.set_cons_succ]
      refine wpAnyH_take (i := 6) (oi := { dst := some 22, op := Go.Op.binOp Go.BinOp.eql 3 (Go.Operand.tmp 18) (Go.Operand.tmp 21) 3, type := 4, pos := "law.go:51", after := #[{ on := 2, ground := Go.Ground.data }, { on := 5, ground := Go.Ground.data }], guard := none }) (v := ?_) rfl (by kernel_rfl) (by kernel_rfl) (by kernel_rfl) (fun _ _ _ h => h) (Or.inl ⟨by rfl, ?_⟩) (Two.step (Two.step (HT.out.drew) hb2) hb5) ?_
      rotate_left 1
      · intro w5 hSw
        go_simp; all_goals (with_reducible rfl)
      try simp only [Act.put, List.setIfInBounds_toArray, List.set_cons_zero, List.set_cons_succ]
      refine wpAnyH_take (i := 7) (oi := { dst := some 23, op := Go.Op.move (Go.Operand.tmp 22), type := 4, pos := "law.go:51", after := #[{ on := 6, ground := Go.Ground.data }, { on := 5, ground := Go.Ground.chain }], guard := none }) (v := ?_) rfl (by kernel_rfl) (by kernel_rfl) (by kernel_rfl) (fun _ _ _ h => h) (Or.inl ⟨by rfl, ?_⟩) (Two.step (Two.step (HT.out.drew) hb2) hb5) ?_
      rotate_left 1
      · intro w5 hSw
        go_simp; all_goals (with_reducible rfl)
      try simp only [Act.put, List.setIfInBounds_toArray, List.set_cons_zero, List.set_cons_succ]
      refine wpAnyH_take (i := 8) (oi := { dst := some 24, op := Go.Op.load 24 (Go.Operand.tmp 3), type := 24, pos := "law.go:51", after := #[{ on := 7, ground := Go.Ground.guard }], guard := some (7, true) }) (v := ?_) rfl (by kernel_rfl) (by kernel_rfl) (by kernel_rfl) (fun _ _ _ h => h) (Or.inl ⟨by rfl, ?_⟩) (Two.step (Two.step (HT.out.drew) hb2) hb5) ?_
      rotate_left 1
      · intro w5 hSw
        have q0 : w5.cell? ⟨bb, 0, none⟩ = some (.bool nb) := hSw.b.cell 0
        have q1 : w5.cell? ⟨bb, 1, none⟩ = some (.string db) := hSw.b.cell 1
        have q2 : w5.cell? ⟨bb, 2, none⟩ = some (.int .i64 xb) := hSw.b.cell 2
        go_simp; all_goals (with_reducible rfl)
      try simp only [Act.put, List.setIfInBounds_toArray, List.set_cons_zero, List.set_cons_succ]
      refine wpAnyH_take (i := 9) (oi := { dst := some 25, op := Go.Op.load 24 (Go.Operand.tmp 2), type := 24, pos := "law.go:51", after := #[{ on := 7, ground := Go.Ground.guard }], guard := some (7, true) }) (v := ?_) rfl (by kernel_rfl) (by kernel_rfl) (by kernel_rfl) (fun _ _ _ h => h) (Or.inl ⟨by rfl, ?_⟩) (Two.step (Two.step (HT.out.drew) hb2) hb5) ?_
      rotate_left 1
      · intro w5 hSw
        have q0 : w5.cell? ⟨ba, 0, none⟩ = some (.bool na) := hSw.a.cell 0
        have q1 : w5.cell? ⟨ba, 1, none⟩ = some (.string da) := hSw.a.cell 1
        have q2 : w5.cell? ⟨ba, 2, none⟩ = some (.int .i64 xa) := hSw.a.cell 2
        go_simp; all_goals (with_reducible rfl)
      try simp only [Act.put, List.setIfInBounds_toArray, List.set_cons_zero, List.set_cons_succ]
      refine wpAnyH_take (i := 11) (oi := { dst := some 27, op := Go.Op.load 24 (Go.Operand.tmp 2), type := 24, pos := "law.go:51", after := #[{ on := 7, ground := Go.Ground.guard }], guard := some (7, true) }) (v := ?_) rfl (by kernel_rfl) (by kernel_rfl) (by kernel_rfl) (fun _ _ _ h => h) (Or.inl ⟨by rfl, ?_⟩) (Two.step (Two.step (HT.out.drew) hb2) hb5) ?_
      rotate_left 1
      · intro w5 hSw
        have q0 : w5.cell? ⟨ba, 0, none⟩ = some (.bool na) := hSw.a.cell 0
        have q1 : w5.cell? ⟨ba, 1, none⟩ = some (.string da) := hSw.a.cell 1
        have q2 : w5.cell? ⟨ba, 2, none⟩ = some (.int .i64 xa) := hSw.a.cell 2
        go_simp; all_goals (with_reducible rfl)
      try simp only [Act.put, List.setIfInBounds_toArray, List.set_cons_zero, List.set_cons_succ]
      refine wpAnyH_take (i := 12) (oi := { dst := some 28, op := Go.Op.load 24 (Go.Operand.tmp 3), type := 24, pos := "law.go:51", after := #[{ on := 7, ground := Go.Ground.guard }], guard := some (7, true) }) (v := ?_) rfl (by kernel_rfl) (by kernel_rfl) (by kernel_rfl) (fun _ _ _ h => h) (Or.inl ⟨by rfl, ?_⟩) (Two.step (Two.step (HT.out.drew) hb2) hb5) ?_
      rotate_left 1
      · intro w5 hSw
        have q0 : w5.cell? ⟨bb, 0, none⟩ = some (.bool nb) := hSw.b.cell 0
        have q1 : w5.cell? ⟨bb, 1, none⟩ = some (.string db) := hSw.b.cell 1
        have q2 : w5.cell? ⟨bb, 2, none⟩ = some (.int .i64 xb) := hSw.b.cell 2
        go_simp; all_goals (with_reducible rfl)
      try simp only [Act.put, List.setIfInBounds_toArray, List.set_cons_zero, List.set_cons_succ]
      refine wpAnyH_ready (rs := [10]) (by kernel_rfl) (by simp) ?_
      refine (AllReadyH.cons (o := { dst := some 26, op := Go.Op.call { callee := Go.Callee.value (Go.Operand.func 18), args := #[Go.Operand.tmp 24, Go.Operand.tmp 25], argTypes := #[24, 24] }, type := 3, pos := "law.go:51", after := #[{ on := 8, ground := Go.Ground.data }, { on := 9, ground := Go.Ground.data }, { on := 7, ground := Go.Ground.chain }, { on := 7, ground := Go.Ground.guard }], guard := some (7, true) }) rfl (fun K hK => ?_) AllReadyH.nil)
      go_simp
      refine (HO2.out _).mono ?_; rintro e Y10 ⟨rfl, hb10⟩
      go_wp2_with fail
      refine hK.out _ _ (Two.step (Two.step (Two.step (HT.out.drew) hb2) hb5) hb10) (fun _ => ?_)
      clear hK K
      try simp only [Act.put, List.setIfInBounds_toArray, List.set_cons_zero, List.set_cons_succ]
      refine wpAnyH_ready (rs := [13]) (by kernel_rfl) (by simp) ?_
      refine (AllReadyH.cons (o := { dst := some 29, op := Go.Op.call { callee := Go.Callee.value (Go.Operand.func 19), args := #[Go.Operand.tmp 27, Go.Operand.tmp 28], argTypes := #[24, 24] }, type := 3, pos := "law.go:51", after := #[{ on := 11, ground := Go.Ground.data }, { on := 12, ground := Go.Ground.data }, { on := 10, ground := Go.Ground.chain }, { on := 7, ground := Go.Ground.guard }], guard := some (7, true) }) rfl (fun K hK => ?_) AllReadyH.nil)
      go_simp
      refine (HR1.out _).mono ?_; rintro e Y13 ⟨rfl, hb13⟩
      go_wp2_with fail
      refine hK.out _ _ (Two.step (Two.step (Two.step (Two.step (HT.out.drew) hb2) hb5) hb10) hb13) (fun _ => ?_)
      clear hK K
      try simp only [Act.put, List.setIfInBounds_toArray, List.set_cons_zero, List.set_cons_succ]
      refine wpAnyH_take (i := 14) (oi := { dst := some 30, op := Go.Op.unOp Go.UnOp.neg 3 (Go.Operand.tmp 29), type := 3, pos := "law.go:51", after := #[{ on := 13, ground := Go.Ground.data }, { on := 7, ground := Go.Ground.guard }], guard := some (7, true) }) (v := ?_) rfl (by kernel_rfl) (by kernel_rfl) (by kernel_rfl) (fun _ _ _ h => h) (Or.inl ⟨by rfl, ?_⟩) (Two.step (Two.step (Two.step (Two.step (HT.out.drew) hb2) hb5) hb10) hb13) ?_
      rotate_left 1
      · intro w5 hSw
        go_simp; all_goals (with_reducible rfl)
      try simp only [Act.put, List.setIfInBounds_toArray, List.set_cons_zero, List.set_cons_succ]
      refine wpAnyH_take (i := 15) (oi := { dst := some 31, op := Go.Op.binOp Go.BinOp.eql 3 (Go.Operand.tmp 26) (Go.Operand.tmp 30) 3, type := 4, pos := "law.go:51", after := #[{ on := 10, ground := Go.Ground.data }, { on := 14, ground := Go.Ground.data }, { on := 7, ground := Go.Ground.guard }], guard := some (7, true) }) (v := ?_) rfl (by kernel_rfl) (by kernel_rfl) (by kernel_rfl) (fun _ _ _ h => h) (Or.inl ⟨by rfl, ?_⟩) (Two.step (Two.step (Two.step (Two.step (HT.out.drew) hb2) hb5) hb10) hb13) ?_
      rotate_left 1
      · intro w5 hSw
        go_simp; all_goals (with_reducible rfl)
      try simp only [Act.put, List.setIfInBounds_toArray, List.set_cons_zero, List.set_cons_succ]
      refine wpAnyH_take (i := 16) (oi := { dst := some 32, op := Go.Op.pick (Go.Operand.tmp 23) (Go.Operand.tmp 31) (Go.Operand.const (Go.Value.bool false)), type := 4, pos := "law.go:51", after := #[{ on := 7, ground := Go.Ground.data }, { on := 15, ground := Go.Ground.data }], guard := none }) (v := ?_) rfl (by kernel_rfl) (by kernel_rfl) (by kernel_rfl) (fun _ _ _ h => h) (Or.inl ⟨by rfl, ?_⟩) (Two.step (Two.step (Two.step (Two.step (HT.out.drew) hb2) hb5) hb10) hb13) ?_
      rotate_left 1
      · intro w5 hSw
        go_simp; all_goals (with_reducible rfl)
      try simp only [Act.put, List.setIfInBounds_toArray, List.set_cons_zero, List.set_cons_succ]
      refine wpAnyH_take (i := 17) (oi := { dst := some 33, op := Go.Op.move (Go.Operand.tmp 32), type := 4, pos := "law.go:51", after := #[{ on := 16, ground := Go.Ground.data }, { on := 13, ground := Go.Ground.chain }], guard := none }) (v := ?_) rfl (by kernel_rfl) (by kernel_rfl) (by kernel_rfl) (fun _ _ _ h => h) (Or.inl ⟨by rfl, ?_⟩) (Two.step (Two.step (Two.step (Two.step (HT.out.drew) hb2) hb5) hb10) hb13) ?_
      rotate_left 1
      · intro w5 hSw
        go_simp; all_goals (with_reducible rfl)
      try simp only [Act.put, List.setIfInBounds_toArray, List.set_cons_zero, List.set_cons_succ]
      refine wpAnyH_ready (rs := [18]) (by kernel_rfl) (by simp) ?_
      refine (AllReadyH.cons (o := { dst := some 34, op := Go.Op.call { callee := Go.Callee.value (Go.Operand.func 8), args := #[], argTypes := #[] }, type := 4, pos := "law.go:51", after := #[{ on := 17, ground := Go.Ground.chain }, { on := 17, ground := Go.Ground.guard }], guard := some (17, true) }) rfl (fun K hK => ?_) AllReadyH.nil)
      go_simp
      refine (HL.out _).mono ?_; rintro e Y18 ⟨rfl, hb18⟩
      go_wp2_with fail
      refine hK.out _ _ (Two.step (Two.step (Two.step (Two.step (Two.step (HT.out.drew) hb2) hb5) hb10) hb13) hb18) (fun _ => ?_)
      clear hK K
      try simp only [Act.put, List.setIfInBounds_toArray, List.set_cons_zero, List.set_cons_succ]
      refine wpAnyH_take (i := 19) (oi := { dst := some 35, op := Go.Op.pick (Go.Operand.tmp 33) (Go.Operand.tmp 34) (Go.Operand.const (Go.Value.bool false)), type := 4, pos := "law.go:51", after := #[{ on := 17, ground := Go.Ground.data }, { on := 18, ground := Go.Ground.data }], guard := none }) (v := ?_) rfl (by kernel_rfl) (by kernel_rfl) (by kernel_rfl) (fun _ _ _ h => h) (Or.inl ⟨by rfl, ?_⟩) (Two.step (Two.step (Two.step (Two.step (Two.step (HT.out.drew) hb2) hb5) hb10) hb13) hb18) ?_
      rotate_left 1
      · intro w5 hSw
        go_simp; all_goals (with_reducible rfl)
      try simp only [Act.put, List.setIfInBounds_toArray, List.set_cons_zero, List.set_cons_succ]
      refine wpAnyH_take (i := 20) (oi := { dst := some 4, op := Go.Op.assign (Go.Operand.tmp 35), type := 4, pos := "law.go:51", after := #[{ on := 19, ground := Go.Ground.data }, { on := 18, ground := Go.Ground.chain }, { on := 0, ground := Go.Ground.phase }, { on := 1, ground := Go.Ground.phase }, { on := 2, ground := Go.Ground.phase }, { on := 3, ground := Go.Ground.phase }, { on := 4, ground := Go.Ground.phase }, { on := 5, ground := Go.Ground.phase }, { on := 6, ground := Go.Ground.phase }, { on := 7, ground := Go.Ground.phase }, { on := 8, ground := Go.Ground.phase }, { on := 9, ground := Go.Ground.phase }, { on := 10, ground := Go.Ground.phase }, { on := 11, ground := Go.Ground.phase }, { on := 12, ground := Go.Ground.phase }, { on := 13, ground := Go.Ground.phase }, { on := 14, ground := Go.Ground.phase }, { on := 15, ground := Go.Ground.phase }, { on := 16, ground := Go.Ground.phase }, { on := 17, ground := Go.Ground.phase }, { on := 18, ground := Go.Ground.phase }, { on := 19, ground := Go.Ground.phase }], guard := none }) (v := ?_) rfl (by kernel_rfl) (by kernel_rfl) (by kernel_rfl) (fun _ _ _ h => h) (Or.inl ⟨by rfl, ?_⟩) (Two.step (Two.step (Two.step (Two.step (Two.step (HT.out.drew) hb2) hb5) hb10) hb13) hb18) ?_
      rotate_left 1
      · intro w5 hSw
        go_simp; all_goals (with_reducible rfl)
      try simp only [Act.put, List.setIfInBounds_toArray, List.set_cons_zero, List.set_cons_succ]
      refine wpAnyH_done (by kernel_rfl) ?_ _
      go_wp2_with fail
      go_ret
      exact ⟨rfl, (Two.step (Two.step (Two.step (Two.step (Two.step (HT.out.drew) hb2) hb5) hb10) hb13) hb18).k⟩
theorem decOrders_walk2 (u v : Value) (w : World) (hu : DecArg u) (hv : DecArg v) :
    Calls Tryd.prog 5 #[u, v] w fun e w' => e = .returned (.bool true) ∧ Below w.heap.size w w' := by
  obtain ⟨na, da, xa, rfl, _⟩ := hu
  obtain ⟨nb, db, xb, rfl, _⟩ := hv
  exact decOrders_walk na nb da db xa xb w
end Go.Proofs.YtdbcklabinmgfaaDoor
