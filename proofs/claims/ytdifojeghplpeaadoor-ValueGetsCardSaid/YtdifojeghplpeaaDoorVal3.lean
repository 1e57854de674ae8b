/- Walks over layer 8: Order. -/
import Derived.Test.YtdifojeghplpeaaDoorVal2
namespace Go.Proofs.YtdifojeghplpeaaDoor
open Go.RowKit
set_option linter.unusedVariables false
set_option maxRecDepth 100000

def ord (u v : V3) : Int := or3 (cmpI (plain u).1 (plain v).1) (cmpS (plain u).2.1 (plain v).2.1) (cmpI ((plain u).2.2 : Int) ((plain v).2.2 : Int))
set_option maxHeartbeats 8000000 in
theorem order_any (u v : V3) (w : World) : Calls Tryd.prog 18 #[vv u, vv v] w fun e w' => e = .returned (.int .i64 (ord u v)) ∧ Below w.heap.size w w' := by
  have HP1 := Lib.hid fun W => plain_any u W
  have HP2 := Lib.hid fun W => plain_any v W
  unfold ord
  unfold vv at HP1 HP2 ⊢
  obtain ⟨⟨p1, p2, p3⟩, hp⟩ : ∃ p, plain u = p := ⟨_, rfl⟩
  obtain ⟨⟨q1, q2, q3⟩, hq⟩ : ∃ p, plain v = p := ⟨_, rfl⟩
  rw [hp] at HP1
  rw [hq] at HP2
  rw [hp, hq]
  obtain ⟨u1, u2, u3⟩ := u
  obtain ⟨v1, v2, v3⟩ := v
  simp only at HP1 HP2 ⊢
  have HC1 := Lib.hid fun W => cmp_int p1 q1 W
  have HC2 := Lib.hid fun W => strCompare_any p2 q2 W
  have HC3 := Lib.hid fun W => cmp_u64 p3 q3 W
  clear hp hq
  go_enter Tryd.func18, Tryd.ntmps18
  go_upto_region 1 with (fail)
  obtain ⟨bu, hbu0⟩ : ∃ z, z = w.heap.size := ⟨_, rfl⟩
  obtain ⟨bv, hbv0⟩ : ∃ z, z = w.heap.size + 1 := ⟨_, rfl⟩
  obtain ⟨X, hX⟩ : ∃ z, z = (w.alloc (.cells #[.int .i64 u1, .string u2, .int .u64 (u3 : Int)] 24)).alloc (.cells #[.int .i64 v1, .string v2, .int .u64 (v3 : Int)] 24) := ⟨_, rfl⟩
  obtain ⟨hWu, hWv, hB⟩ := two_boxes w X _ _ hX
  rw [← hbu0] at hWu
  rw [← hbv0] at hWv
  have u0 : X.cell? ⟨bu, 0, none⟩ = some (.int .i64 u1) := hWu.cell 0
  have u1' : X.cell? ⟨bu, 1, none⟩ = some (.string u2) := hWu.cell 1
  have u2' : X.cell? ⟨bu, 2, none⟩ = some (.int .u64 (u3 : Int)) := hWu.cell 2
  have v0 : X.cell? ⟨bv, 0, none⟩ = some (.int .i64 v1) := hWv.cell 0
  have v1' : X.cell? ⟨bv, 1, none⟩ = some (.string v2) := hWv.cell 1
  have v2' : X.cell? ⟨bv, 2, none⟩ = some (.int .u64 (v3 : Int)) := hWv.cell 2
  have HB := Lib.hid hB
  have hne : bu ≠ bv := by omega
  have hlo : w.heap.size ≤ bu ∧ w.heap.size ≤ bv := by omega
  rw [← hX, ← hbv0, ← hbu0]
  clear hX hbu0 hbv0 hB
  refine wp_region_held (S := fun _ => True) (by kernel_rfl) ?_
  refine wpAnyH_ready (rs := [0, 2]) (by kernel_rfl) (by simp) ?_
  refine (AllReadyH.cons (o := { dst := some 5, op := Go.Op.load 24 (Go.Operand.tmp 2), type := 24, pos := "value.go:122", after := #[], guard := none }) rfl (fun K hK => ?_) (AllReadyH.cons (o := { dst := some 7, op := Go.Op.load 24 (Go.Operand.tmp 3), type := 24, pos := "value.go:122", after := #[], guard := none }) rfl (fun K hK => ?_) AllReadyH.nil))
  · go_simp
    refine hK.out _ _ (trivial) (fun _ => ?_)
    clear hK K
    try simp only [Act.put, List.setIfInBounds_toArray, List.set_cons_zero, List.set_cons_succ]
    refine wpAnyH_ready (rs := [1, 2]) (by kernel_rfl) (by simp) ?_
    refine (AllReadyH.cons (o := { dst := some 6, op := Go.Op.call { callee := Go.Callee.value (Go.Operand.func 13), args := #[Go.Operand.tmp 5], argTypes := #[24] }, type := 24, pos := "value.go:122", after := #[{ on := 0, ground := Go.Ground.data }], guard := none }) rfl (fun K hK => ?_) (AllReadyH.cons (o := { dst := some 7, op := Go.Op.load 24 (Go.Operand.tmp 3), type := 24, pos := "value.go:122", after := #[], guard := none }) rfl (fun K hK => ?_) AllReadyH.nil))
    · go_simp
      refine (HP1.out X.drew).mono ?_; rintro e Y ⟨rfl, hb1⟩; have hWuY := (hWu.drew).below hb1 hWu.lt; have hWvY := (hWv.drew).below hb1 hWv.lt
      go_wp2_with fail
      refine hK.out _ _ (trivial) (fun _ => ?_)
      clear hK K
      try simp only [Act.put, List.setIfInBounds_toArray, List.set_cons_zero, List.set_cons_succ]
      refine wpAnyH_ready (rs := [2]) (by kernel_rfl) (by simp) ?_
      refine (AllReadyH.cons (o := { dst := some 7, op := Go.Op.load 24 (Go.Operand.tmp 3), type := 24, pos := "value.go:122", after := #[], guard := none }) rfl (fun K hK => ?_) AllReadyH.nil)
      have qv0 : Y.cell? ⟨bv, 0, none⟩ = some (.int .i64 v1) := hWvY.cell 0
      have qv1 : Y.cell? ⟨bv, 1, none⟩ = some (.string v2) := hWvY.cell 1
      have qv2 : Y.cell? ⟨bv, 2, none⟩ = some (.int .u64 (v3 : Int)) := hWvY.cell 2
      go_simp
      refine hK.out _ _ (trivial) (fun _ => ?_)
      clear hK K
      try simp only [Act.put, List.setIfInBounds_toArray, List.set_cons_zero, List.set_cons_succ]
      refine wpAnyH_ready (rs := [3]) (by kernel_rfl) (by simp) ?_
      refine (AllReadyH.cons (o := { dst := some 8, op := Go.Op.call { callee := Go.Callee.value (Go.Operand.func 13), args := #[Go.Operand.tmp 7], argTypes := #[24] }, type := 24, pos := "value.go:122", after := #[{ on := 2, ground := Go.Ground.data }, { on := 1, ground := Go.Ground.chain }], guard := none }) rfl (fun K hK => ?_) AllReadyH.nil)
      go_simp
      refine (HP2.out Y).mono ?_; rintro e Z ⟨rfl, hb2⟩; have hWuZ := hWuY.below hb2 hWuY.lt; have hWvZ := hWvY.below hb2 hWvY.lt; have zu0 : Z.cell? ⟨bu, 0, none⟩ = some (.int .i64 u1) := hWuZ.cell 0; have fu0 : Z.frozen? ⟨bu, 0, none⟩ = false := hWuZ.frozen 0; have zu1 : Z.cell? ⟨bu, 1, none⟩ = some (.string u2) := hWuZ.cell 1; have fu1 : Z.frozen? ⟨bu, 1, none⟩ = false := hWuZ.frozen 1; have zu2 : Z.cell? ⟨bu, 2, none⟩ = some (.int .u64 (u3 : Int)) := hWuZ.cell 2; have fu2 : Z.frozen? ⟨bu, 2, none⟩ = false := hWuZ.frozen 2; have zv0 : Z.cell? ⟨bv, 0, none⟩ = some (.int .i64 v1) := hWvZ.cell 0; have fv0 : Z.frozen? ⟨bv, 0, none⟩ = false := hWvZ.frozen 0; have zv1 : Z.cell? ⟨bv, 1, none⟩ = some (.string v2) := hWvZ.cell 1; have fv1 : Z.frozen? ⟨bv, 1, none⟩ = false := hWvZ.frozen 1; have zv2 : Z.cell? ⟨bv, 2, none⟩ = some (.int .u64 (v3 : Int)) := hWvZ.cell 2; have fv2 : Z.frozen? ⟨bv, 2, none⟩ = false := hWvZ.frozen 2
      go_wp2_with fail
      refine hK.out _ _ (trivial) (fun _ => ?_)
      clear hK K
      try simp only [Act.put, List.setIfInBounds_toArray, List.set_cons_zero, List.set_cons_succ]
      refine wpAnyH_ready (rs := [4]) (by kernel_rfl) (by simp) ?_
      refine (AllReadyH.cons (o := { dst := none, op := Go.Op.store 24 (Go.Operand.tmp 2) (Go.Operand.tmp 6), type := 0, pos := "value.go:122", after := #[{ on := 1, ground := Go.Ground.data }, { on := 3, ground := Go.Ground.chain }, { on := 0, ground := Go.Ground.phase }, { on := 1, ground := Go.Ground.phase }, { on := 2, ground := Go.Ground.textOnly Go.Departure.lateStores }, { on := 3, ground := Go.Ground.textOnly Go.Departure.lateStoresUnsure }], guard := none }) rfl (fun K hK => ?_) AllReadyH.nil)
      go_simp
      refine hK.out _ _ (trivial) (fun _ => ?_)
      clear hK K
      try simp only [Act.put, List.setIfInBounds_toArray, List.set_cons_zero, List.set_cons_succ]
      refine wpAnyH_ready (rs := [5]) (by kernel_rfl) (by simp) ?_
      refine (AllReadyH.cons (o := { dst := none, op := Go.Op.store 24 (Go.Operand.tmp 3) (Go.Operand.tmp 8), type := 0, pos := "value.go:122", after := #[{ on := 3, ground := Go.Ground.data }, { on := 4, ground := Go.Ground.chain }, { on := 0, ground := Go.Ground.phase }, { on := 1, ground := Go.Ground.phase }, { on := 2, ground := Go.Ground.phase }, { on := 3, ground := Go.Ground.phase }, { on := 4, ground := Go.Ground.phase }], guard := none }) rfl (fun K hK => ?_) AllReadyH.nil)
      go_simp
      refine hK.out _ _ (trivial) (fun _ => ?_)
      clear hK K
      try simp only [Act.put, List.setIfInBounds_toArray, List.set_cons_zero, List.set_cons_succ]
      refine wpAnyH_done (by kernel_rfl) ?_ _
      clear zu0 fu0 zu1 fu1 zu2 fu2 zv0 fv0 zv1 fv1 zv2 fv2 u0 u1' u2' v0 v1' v2'
      go_upto_region 2 with (fail)
      obtain ⟨W6, hW6⟩ : ∃ z, z = ((((((Z.setCell ⟨bu, 0, none⟩ (.int .i64 p1)).setCell ⟨bu, 1, none⟩ (.string p2)).setCell ⟨bu, 2, none⟩ (.int .u64 (p3 : Int))).setCell ⟨bv, 0, none⟩ (.int .i64 q1)).setCell ⟨bv, 1, none⟩ (.string q2)).setCell ⟨bv, 2, none⟩ (.int .u64 (q3 : Int))) := ⟨_, rfl⟩
      have kU : Whole W6 bu 24 #[.int .i64 p1, .string p2, .int .u64 (p3 : Int)] := by
        have := ((((((hWuZ.set 0 (.int .i64 p1)).set 1 (.string p2)).set 2 (.int .u64 (p3 : Int))).far (p := ⟨bv, 0, none⟩) hne (.int .i64 q1)).far (p := ⟨bv, 1, none⟩) hne (.string q2)).far (p := ⟨bv, 2, none⟩) hne (.int .u64 (q3 : Int)))
        rw [hW6]
        simpa using this
      have kV : Whole W6 bv 24 #[.int .i64 q1, .string q2, .int .u64 (q3 : Int)] := by
        have := (((((hWvZ.far (p := ⟨bu, 0, none⟩) hne.symm (.int .i64 p1)).far (p := ⟨bu, 1, none⟩) hne.symm (.string p2)).far (p := ⟨bu, 2, none⟩) hne.symm (.int .u64 (p3 : Int))).set 0 (.int .i64 q1)).set 1 (.string q2)).set 2 (.int .u64 (q3 : Int))
        rw [hW6]
        simpa using this
      have kB : Hid (Below w.heap.size w W6) := by
        have h1 : Below X.heap.size X Z := (show Below X.heap.size X Y from ⟨hb1.os, hb1.tape, hb1.output, hb1.size, hb1.block⟩).trans (hb2.mono hb1.size)
        rw [hW6]
        exact (((((((HB.out.trans (h1.mono HB.out.size)).setCell (p := ⟨bu, 0, none⟩) hlo.1 _).setCell (p := ⟨bu, 1, none⟩) hlo.1 _).setCell (p := ⟨bu, 2, none⟩) hlo.1 _).setCell (p := ⟨bv, 0, none⟩) hlo.2 _).setCell (p := ⟨bv, 1, none⟩) hlo.2 _).setCell (p := ⟨bv, 2, none⟩) hlo.2 _)
      have yu0 : W6.drew.cell? ⟨bu, 0, none⟩ = some (.int .i64 p1) := kU.cell 0
      have yu1 : W6.drew.cell? ⟨bu, 1, none⟩ = some (.string p2) := kU.cell 1
      have yu2 : W6.drew.cell? ⟨bu, 2, none⟩ = some (.int .u64 (p3 : Int)) := kU.cell 2
      have yv0 : W6.drew.cell? ⟨bv, 0, none⟩ = some (.int .i64 q1) := kV.cell 0
      have yv1 : W6.drew.cell? ⟨bv, 1, none⟩ = some (.string q2) := kV.cell 1
      have yv2 : W6.drew.cell? ⟨bv, 2, none⟩ = some (.int .u64 (q3 : Int)) := kV.cell 2
      have hbu6 : bu < W6.drew.heap.size := kU.lt
      have hbv6 : bv < W6.drew.heap.size := kV.lt
      rw [← hW6]
      clear hW6 kU kV
      refine held_start (by kernel_rfl) ?_
      refine wpAnyH_take (i := 0) (oi := { dst := some 9, op := Go.Op.fieldAddr 24 (Go.Operand.tmp 2) 0, type := 0, pos := "value.go:123", after := #[], guard := none }) (v := ?_) rfl (by kernel_rfl) (by kernel_rfl) (by kernel_rfl) (fun _ _ _ h => h) (Or.inl ⟨by rfl, ?_⟩) (Kp.refl _) ?_
      rotate_left 1
      · intro w5 hSw
        go_simp; all_goals (with_reducible rfl)
      try simp only [Act.put, List.setIfInBounds_toArray, List.set_cons_zero, List.set_cons_succ]
      refine wpAnyH_take (i := 1) (oi := { dst := some 10, op := Go.Op.load 3 (Go.Operand.tmp 9), type := 3, pos := "value.go:123", after := #[{ on := 0, ground := Go.Ground.data }], guard := none }) (v := ?_) rfl (by kernel_rfl) (by kernel_rfl) (by kernel_rfl) (fun _ _ _ h => h) (Or.inl ⟨by rfl, ?_⟩) (Kp.refl _) ?_
      rotate_left 1
      · intro w5 hSw
        have q1 : w5.cell? ⟨bu, 0, none⟩ = some (.int .i64 p1) := (hSw.cell hbu6).trans yu0
        go_simp; all_goals (with_reducible rfl)
      try simp only [Act.put, List.setIfInBounds_toArray, List.set_cons_zero, List.set_cons_succ]
      refine wpAnyH_take (i := 2) (oi := { dst := some 11, op := Go.Op.fieldAddr 24 (Go.Operand.tmp 3) 0, type := 0, pos := "value.go:123", after := #[], guard := none }) (v := ?_) rfl (by kernel_rfl) (by kernel_rfl) (by kernel_rfl) (fun _ _ _ h => h) (Or.inl ⟨by rfl, ?_⟩) (Kp.refl _) ?_
      rotate_left 1
      · intro w5 hSw
        go_simp; all_goals (with_reducible rfl)
      try simp only [Act.put, List.setIfInBounds_toArray, List.set_cons_zero, List.set_cons_succ]
      refine wpAnyH_take (i := 3) (oi := { dst := some 12, op := Go.Op.load 3 (Go.Operand.tmp 11), type := 3, pos := "value.go:123", after := #[{ on := 2, ground := Go.Ground.data }], guard := none }) (v := ?_) rfl (by kernel_rfl) (by kernel_rfl) (by kernel_rfl) (fun _ _ _ h => h) (Or.inl ⟨by rfl, ?_⟩) (Kp.refl _) ?_
      rotate_left 1
      · intro w5 hSw
        have q3 : w5.cell? ⟨bv, 0, none⟩ = some (.int .i64 q1) := (hSw.cell hbv6).trans yv0
        go_simp; all_goals (with_reducible rfl)
      try simp only [Act.put, List.setIfInBounds_toArray, List.set_cons_zero, List.set_cons_succ]
      refine wpAnyH_take (i := 5) (oi := { dst := some 14, op := Go.Op.fieldAddr 24 (Go.Operand.tmp 2) 1, type := 0, pos := "value.go:123", after := #[], guard := none }) (v := ?_) rfl (by kernel_rfl) (by kernel_rfl) (by kernel_rfl) (fun _ _ _ h => h) (Or.inl ⟨by rfl, ?_⟩) (Kp.refl _) ?_
      rotate_left 1
      · intro w5 hSw
        go_simp; all_goals (with_reducible rfl)
      try simp only [Act.put, List.setIfInBounds_toArray, List.set_cons_zero, List.set_cons_succ]
      refine wpAnyH_take (i := 6) (oi := { dst := some 15, op := Go.Op.load 9 (Go.Operand.tmp 14), type := 9, pos := "value.go:123", after := #[{ on := 5, ground := Go.Ground.data }], guard := none }) (v := ?_) rfl (by kernel_rfl) (by kernel_rfl) (by kernel_rfl) (fun _ _ _ h => h) (Or.inl ⟨by rfl, ?_⟩) (Kp.refl _) ?_
      rotate_left 1
      · intro w5 hSw
        have q6 : w5.cell? ⟨bu, 1, none⟩ = some (.string p2) := (hSw.cell hbu6).trans yu1
        go_simp; all_goals (with_reducible rfl)
      try simp only [Act.put, List.setIfInBounds_toArray, List.set_cons_zero, List.set_cons_succ]
      refine wpAnyH_take (i := 7) (oi := { dst := some 16, op := Go.Op.fieldAddr 24 (Go.Operand.tmp 3) 1, type := 0, pos := "value.go:123", after := #[], guard := none }) (v := ?_) rfl (by kernel_rfl) (by kernel_rfl) (by kernel_rfl) (fun _ _ _ h => h) (Or.inl ⟨by rfl, ?_⟩) (Kp.refl _) ?_
      rotate_left 1
      · intro w5 hSw
        go_simp; all_goals (with_reducible rfl)
      try simp only [Act.put, List.setIfInBounds_toArray, List.set_cons_zero, List.set_cons_succ]
      refine wpAnyH_take (i := 8) (oi := { dst := some 17, op := Go.Op.load 9 (Go.Operand.tmp 16), type := 9, pos := "value.go:123", after := #[{ on := 7, ground := Go.Ground.data }], guard := none }) (v := ?_) rfl (by kernel_rfl) (by kernel_rfl) (by kernel_rfl) (fun _ _ _ h => h) (Or.inl ⟨by rfl, ?_⟩) (Kp.refl _) ?_
      rotate_left 1
      · intro w5 hSw
        have q8 : w5.cell? ⟨bv, 1, none⟩ = some (.string q2) := (hSw.cell hbv6).trans yv1
        go_simp; all_goals (with_reducible rfl)
      try simp only [Act.put, List.setIfInBounds_toArray, List.set_cons_zero, List.set_cons_succ]
      refine wpAnyH_take (i := 10) (oi := { dst := some 19, op := Go.Op.fieldAddr 24 (Go.Operand.tmp 2) 2, type := 0, pos := "value.go:123", after := #[], guard := none }) (v := ?_) rfl (by kernel_rfl) (by kernel_rfl) (by kernel_rfl) (fun _ _ _ h => h) (Or.inl ⟨by rfl, ?_⟩) (Kp.refl _) ?_
      rotate_left 1
      · intro w5 hSw
        go_simp; all_goals (with_reducible rfl)
      try simp only [Act.put, List.setIfInBounds_toArray, List.set_cons_zero, List.set_cons_succ]
      refine wpAnyH_take (i := 11) (oi := { dst := some 20, op := Go.Op.load 22 (Go.Operand.tmp 19), type := 22, pos := "value.go:123", after := #[{ on := 10, ground := Go.Ground.data }], guard := none }) (v := ?_) rfl (by kernel_rfl) (by kernel_rfl) (by kernel_rfl) (fun _ _ _ h => h) (Or.inl ⟨by rfl, ?_⟩) (Kp.refl _) ?_
      rotate_left 1
      · intro w5 hSw
        have q11 : w5.cell? ⟨bu, 2, none⟩ = some (.int .u64 (p3 : Int)) := (hSw.cell hbu6).trans yu2
        go_simp; all_goals (with_reducible rfl)
      try simp only [Act.put, List.setIfInBounds_toArray, List.set_cons_zero, List.set_cons_succ]
      refine wpAnyH_take (i := 12) (oi := { dst := some 21, op := Go.Op.fieldAddr 24 (Go.Operand.tmp 3) 2, type := 0, pos := "value.go:123", after := #[], guard := none }) (v := ?_) rfl (by kernel_rfl) (by kernel_rfl) (by kernel_rfl) (fun _ _ _ h => h) (Or.inl ⟨by rfl, ?_⟩) (Kp.refl _) ?_
      rotate_left 1
      · intro w5 hSw
        go_simp; all_goals (with_reducible rfl)
      try simp only [Act.put, List.setIfInBounds_toArray, List.set_cons_zero, List.set_cons_succ]
      refine wpAnyH_take (i := 13) (oi := { dst := some 22, op := Go.Op.load 22 (Go.Operand.tmp 21), type := 22, pos := "value.go:123", after := #[{ on := 12, ground := Go.Ground.data }], guard := none }) (v := ?_) rfl (by kernel_rfl) (by kernel_rfl) (by kernel_rfl) (fun _ _ _ h => h) (Or.inl ⟨by rfl, ?_⟩) (Kp.refl _) ?_
      rotate_left 1
      · intro w5 hSw
        have q13 : w5.cell? ⟨bv, 2, none⟩ = some (.int .u64 (q3 : Int)) := (hSw.cell hbv6).trans yv2
        go_simp; all_goals (with_reducible rfl)
      try simp only [Act.put, List.setIfInBounds_toArray, List.set_cons_zero, List.set_cons_succ]
      refine wpAnyH_ready (rs := [4]) (by kernel_rfl) (by simp) ?_
      refine AllReadyH.cons (o := { dst := some 13, op := Go.Op.call { callee := Go.Callee.value (Go.Operand.func 34), args := #[Go.Operand.tmp 10, Go.Operand.tmp 12], argTypes := #[3, 3] }, type := 3, pos := "value.go:123", after := #[{ on := 1, ground := Go.Ground.data }, { on := 3, ground := Go.Ground.data }], guard := none }) rfl (fun K hK => ?_) AllReadyH.nil
      go_simp
      refine (HC1.out _).mono ?_; rintro e W7 ⟨rfl, rfl⟩
      go_wp2_with fail
      refine hK.out _ _ (Below.refl _ _) (fun _ => held_more (Below.refl _ _) ?_)
      clear hK K
      try simp only [Act.put, List.setIfInBounds_toArray, List.set_cons_zero, List.set_cons_succ]
      refine wpAnyH_ready (rs := [9]) (by kernel_rfl) (by simp) ?_
      refine AllReadyH.cons (o := { dst := some 18, op := Go.Op.call { callee := Go.Callee.value (Go.Operand.func 35), args := #[Go.Operand.tmp 15, Go.Operand.tmp 17], argTypes := #[9, 9] }, type := 3, pos := "value.go:123", after := #[{ on := 6, ground := Go.Ground.data }, { on := 8, ground := Go.Ground.data }, { on := 4, ground := Go.Ground.chain }], guard := none }) rfl (fun K hK => ?_) AllReadyH.nil
      go_simp
      refine (HC2.out _).mono ?_; rintro e W7 ⟨rfl, rfl⟩
      go_wp2_with fail
      refine hK.out _ _ (Below.refl _ _) (fun _ => held_more (Below.refl _ _) ?_)
      clear hK K
      try simp only [Act.put, List.setIfInBounds_toArray, List.set_cons_zero, List.set_cons_succ]
      refine wpAnyH_ready (rs := [14]) (by kernel_rfl) (by simp) ?_
      refine AllReadyH.cons (o := { dst := some 23, op := Go.Op.call { callee := Go.Callee.value (Go.Operand.func 36), args := #[Go.Operand.tmp 20, Go.Operand.tmp 22], argTypes := #[22, 22] }, type := 3, pos := "value.go:123", after := #[{ on := 11, ground := Go.Ground.data }, { on := 13, ground := Go.Ground.data }, { on := 9, ground := Go.Ground.chain }], guard := none }) rfl (fun K hK => ?_) AllReadyH.nil
      go_simp
      refine (HC3.out _).mono ?_; rintro e W7 ⟨rfl, rfl⟩
      go_wp2_with fail
      refine hK.out _ _ (Below.refl _ _) (fun _ => held_more (Below.refl _ _) ?_)
      clear hK K
      try simp only [Act.put, List.setIfInBounds_toArray, List.set_cons_zero, List.set_cons_succ]
      refine wpAnyH_ready (rs := [15]) (by kernel_rfl) (by simp) ?_
      refine AllReadyH.cons (o := { dst := some 24, op := Go.Op.buildSlice 55 3 #[(0, Go.Operand.tmp 13), (1, Go.Operand.tmp 18), (2, Go.Operand.tmp 23)], type := 55, pos := "value.go:123", after := #[{ on := 4, ground := Go.Ground.data }, { on := 9, ground := Go.Ground.data }, { on := 14, ground := Go.Ground.data }], guard := none }) rfl (fun K hK => ?_) AllReadyH.nil
      go_simp
      refine hK.out _ _ ((Below.refl _ _).alloc (Nat.le_refl _) _) (fun _ => held_more ((Below.refl _ _).alloc (Nat.le_refl _) _) ?_)
      clear hK K
      try simp only [Act.put, List.setIfInBounds_toArray, List.set_cons_zero, List.set_cons_succ]
      refine wpAnyH_ready (rs := [16]) (by kernel_rfl) (by simp) ?_
      refine AllReadyH.cons (o := { dst := some 25, op := Go.Op.call { callee := Go.Callee.value (Go.Operand.func 33), args := #[Go.Operand.tmp 24], argTypes := #[55] }, type := 3, pos := "value.go:123", after := #[{ on := 15, ground := Go.Ground.data }, { on := 14, ground := Go.Ground.chain }], guard := none }) rfl (fun K hK => ?_) AllReadyH.nil
      go_simp
      refine (or_any (cmpI p1 q1) (cmpS p2 q2) (cmpI (p3 : Int) (q3 : Int)) _ _ (by simp) (by simp) (by simp)).mono ?_; rintro e W7 ⟨rfl, rfl⟩
      go_wp2_with fail
      refine hK.out _ _ (Below.refl _ _) (fun _ => held_more (Below.refl _ _) ?_)
      clear hK K
      try simp only [Act.put, List.setIfInBounds_toArray, List.set_cons_zero, List.set_cons_succ]
      refine wpAnyH_take (i := 17) (oi := { dst := some 4, op := Go.Op.assign (Go.Operand.tmp 25), type := 3, pos := "value.go:123", after := #[{ on := 16, ground := Go.Ground.data }, { on := 16, ground := Go.Ground.chain }, { on := 0, ground := Go.Ground.phase }, { on := 1, ground := Go.Ground.phase }, { on := 2, ground := Go.Ground.phase }, { on := 3, ground := Go.Ground.phase }, { on := 4, ground := Go.Ground.phase }, { on := 5, ground := Go.Ground.phase }, { on := 6, ground := Go.Ground.phase }, { on := 7, ground := Go.Ground.phase }, { on := 8, ground := Go.Ground.phase }, { on := 9, ground := Go.Ground.phase }, { on := 10, ground := Go.Ground.phase }, { on := 11, ground := Go.Ground.phase }, { on := 12, ground := Go.Ground.phase }, { on := 13, ground := Go.Ground.phase }, { on := 14, ground := Go.Ground.phase }, { on := 15, ground := Go.Ground.phase }, { on := 16, ground := Go.Ground.phase }], guard := none }) (v := ?_) rfl (by kernel_rfl) (by kernel_rfl) (by kernel_rfl) (fun _ _ _ h => h) (Or.inl ⟨by rfl, ?_⟩) (Kp.refl _) ?_
      rotate_left 1
      · intro w5 hSw
        go_simp; all_goals (with_reducible rfl)
      try simp only [Act.put, List.setIfInBounds_toArray, List.set_cons_zero, List.set_cons_succ]
      refine wpAnyH_done (by kernel_rfl) ?_ _
      clear yu0 yu1 yu2 yv0 yv1 yv2 hbu6 hbv6
      go_wp2_with fail
      go_ret
      exact ⟨rfl, by have h := kB.out; exact (show Below w.heap.size w W6.drew from ⟨h.os, h.tape, h.output, h.size, h.block⟩).alloc h.size _⟩
    · go_simp
      refine hK.out _ _ (trivial) (fun _ => ?_)
      clear hK K
      try simp only [Act.put, List.setIfInBounds_toArray, List.set_cons_zero, List.set_cons_succ]
      refine wpAnyH_ready (rs := [1]) (by kernel_rfl) (by simp) ?_
      refine (AllReadyH.cons (o := { dst := some 6, op := Go.Op.call { callee := Go.Callee.value (Go.Operand.func 13), args := #[Go.Operand.tmp 5], argTypes := #[24] }, type := 24, pos := "value.go:122", after := #[{ on := 0, ground := Go.Ground.data }], guard := none }) rfl (fun K hK => ?_) AllReadyH.nil)
      go_simp
      refine (HP1.out X.drew).mono ?_; rintro e Y ⟨rfl, hb1⟩; have hWuY := (hWu.drew).below hb1 hWu.lt; have hWvY := (hWv.drew).below hb1 hWv.lt
      go_wp2_with fail
      refine hK.out _ _ (trivial) (fun _ => ?_)
      clear hK K
      try simp only [Act.put, List.setIfInBounds_toArray, List.set_cons_zero, List.set_cons_succ]
      refine wpAnyH_ready (rs := [3]) (by kernel_rfl) (by simp) ?_
      refine (AllReadyH.cons (o := { dst := some 8, op := Go.Op.call { callee := Go.Callee.value (Go.Operand.func 13), args := #[Go.Operand.tmp 7], argTypes := #[24] }, type := 24, pos := "value.go:122", after := #[{ on := 2, ground := Go.Ground.data }, { on := 1, ground := Go.Ground.chain }], guard := none }) rfl (fun K hK => ?_) AllReadyH.nil)
      go_simp
      refine (HP2.out Y).mono ?_; rintro e Z ⟨rfl, hb2⟩; have hWuZ := hWuY.below hb2 hWuY.lt; have hWvZ := hWvY.below hb2 hWvY.lt; have zu0 : Z.cell? ⟨bu, 0, none⟩ = some (.int .i64 u1) := hWuZ.cell 0; have fu0 : Z.frozen? ⟨bu, 0, none⟩ = false := hWuZ.frozen 0; have zu1 : Z.cell? ⟨bu, 1, none⟩ = some (.string u2) := hWuZ.cell 1; have fu1 : Z.frozen? ⟨bu, 1, none⟩ = false := hWuZ.frozen 1; have zu2 : Z.cell? ⟨bu, 2, none⟩ = some (.int .u64 (u3 : Int)) := hWuZ.cell 2; have fu2 : Z.frozen? ⟨bu, 2, none⟩ = false := hWuZ.frozen 2; have zv0 : Z.cell? ⟨bv, 0, none⟩ = some (.int .i64 v1) := hWvZ.cell 0; have fv0 : Z.frozen? ⟨bv, 0, none⟩ = false := hWvZ.frozen 0; have zv1 : Z.cell? ⟨bv, 1, none⟩ = some (.string v2) := hWvZ.cell 1; have fv1 : Z.frozen? ⟨bv, 1, none⟩ = false := hWvZ.frozen 1; have zv2 : Z.cell? ⟨bv, 2, none⟩ = some (.int .u64 (v3 : Int)) := hWvZ.cell 2; have fv2 : Z.frozen? ⟨bv, 2, none⟩ = false := hWvZ.frozen 2
      go_wp2_with fail
      refine hK.out _ _ (trivial) (fun _ => ?_)
      clear hK K
      try simp only [Act.put, List.setIfInBounds_toArray, List.set_cons_zero, List.set_cons_succ]
      refine wpAnyH_ready (rs := [4]) (by kernel_rfl) (by simp) ?_
      refine (AllReadyH.cons (o := { dst := none, op := Go.Op.store 24 (Go.Operand.tmp 2) (Go.Operand.tmp 6), type := 0, pos := "value.go:122", after := #[{ on := 1, ground := Go.Ground.data }, { on := 3, ground := Go.Ground.chain }, { on := 0, ground := Go.Ground.phase }, { on := 1, ground := Go.Ground.phase }, { on := 2, ground := Go.Ground.textOnly Go.Departure.lateStores }, { on := 3, ground := Go.Ground.textOnly Go.Departure.lateStoresUnsure }], guard := none }) rfl (fun K hK => ?_) AllReadyH.nil)
      go_simp
      refine hK.out _ _ (trivial) (fun _ => ?_)
      clear hK K
      try simp only [Act.put, List.setIfInBounds_toArray, List.set_cons_zero, List.set_cons_succ]
      refine wpAnyH_ready (rs := [5]) (by kernel_rfl) (by simp) ?_
      refine (AllReadyH.cons (o := { dst := none, op := Go.Op.store 24 (Go.Operand.tmp 3) (Go.Operand.tmp 8), type := 0, pos := "value.go:122", after := #[{ on := 3, ground := Go.Ground.data }, { on := 4, ground := Go.Ground.chain }, { on := 0, ground := Go.Ground.phase }, { on := 1, ground := Go.Ground.phase }, { on := 2, ground := Go.Ground.phase }, { on := 3, ground := Go.Ground.phase }, { on := 4, ground := Go.Ground.phase }], guard := none }) rfl (fun K hK => ?_) AllReadyH.nil)
      go_simp
      refine hK.out _ _ (trivial) (fun _ => ?_)
      clear hK K
      try simp only [Act.put, List.setIfInBounds_toArray, List.set_cons_zero, List.set_cons_succ]
      refine wpAnyH_done (by kernel_rfl) ?_ _
      clear zu0 fu0 zu1 fu1 zu2 fu2 zv0 fv0 zv1 fv1 zv2 fv2 u0 u1' u2' v0 v1' v2'
      go_upto_region 2 with (fail)
      obtain ⟨W6, hW6⟩ : ∃ z, z = ((((((Z.setCell ⟨bu, 0, none⟩ (.int .i64 p1)).setCell ⟨bu, 1, none⟩ (.string p2)).setCell ⟨bu, 2, none⟩ (.int .u64 (p3 : Int))).setCell ⟨bv, 0, none⟩ (.int .i64 q1)).setCell ⟨bv, 1, none⟩ (.string q2)).setCell ⟨bv, 2, none⟩ (.int .u64 (q3 : Int))) := ⟨_, rfl⟩
      have kU : Whole W6 bu 24 #[.int .i64 p1, .string p2, .int .u64 (p3 : Int)] := by
        have := ((((((hWuZ.set 0 (.int .i64 p1)).set 1 (.string p2)).set 2 (.int .u64 (p3 : Int))).far (p := ⟨bv, 0, none⟩) hne (.int .i64 q1)).far (p := ⟨bv, 1, none⟩) hne (.string q2)).far (p := ⟨bv, 2, none⟩) hne (.int .u64 (q3 : Int)))
        rw [hW6]
        simpa using this
      have kV : Whole W6 bv 24 #[.int .i64 q1, .string q2, .int .u64 (q3 : Int)] := by
        have := (((((hWvZ.far (p := ⟨bu, 0, none⟩) hne.symm (.int .i64 p1)).far (p := ⟨bu, 1, none⟩) hne.symm (.string p2)).far (p := ⟨bu, 2, none⟩) hne.symm (.int .u64 (p3 : Int))).set 0 (.int .i64 q1)).set 1 (.string q2)).set 2 (.int .u64 (q3 : Int))
        rw [hW6]
        simpa using this
      have kB : Hid (Below w.heap.size w W6) := by
        have h1 : Below X.heap.size X Z := (show Below X.heap.size X Y from ⟨hb1.os, hb1.tape, hb1.output, hb1.size, hb1.block⟩).trans (hb2.mono hb1.size)
        rw [hW6]
        exact (((((((HB.out.trans (h1.mono HB.out.size)).setCell (p := ⟨bu, 0, none⟩) hlo.1 _).setCell (p := ⟨bu, 1, none⟩) hlo.1 _).setCell (p := ⟨bu, 2, none⟩) hlo.1 _).setCell (p := ⟨bv, 0, none⟩) hlo.2 _).setCell (p := ⟨bv, 1, none⟩) hlo.2 _).setCell (p := ⟨bv, 2, none⟩) hlo.2 _)
      have yu0 : W6.drew.cell? ⟨bu, 0, none⟩ = some (.int .i64 p1) := kU.cell 0
      have yu1 : W6.drew.cell? ⟨bu, 1, none⟩ = some (.string p2) := kU.cell 1
      have yu2 : W6.drew.cell? ⟨bu, 2, none⟩ = some (.int .u64 (p3 : Int)) := kU.cell 2
      have yv0 : W6.drew.cell? ⟨bv, 0, none⟩ = some (.int .i64 q1) := kV.cell 0
      have yv1 : W6.drew.cell? ⟨bv, 1, none⟩ = some (.string q2) := kV.cell 1
      have yv2 : W6.drew.cell? ⟨bv, 2, none⟩ = some (.int .u64 (q3 : Int)) := kV.cell 2
      have hbu6 : bu < W6.drew.heap.size := kU.lt
      have hbv6 : bv < W6.drew.heap.size := kV.lt
      rw [← hW6]
      clear hW6 kU kV
      refine held_start (by kernel_rfl) ?_
      refine wpAnyH_take (i := 0) (oi := { dst := some 9, op := Go.Op.fieldAddr 24 (Go.Operand.tmp 2) 0, type := 0, pos := "value.go:123", after := #[], guard := none }) (v := ?_) rfl (by kernel_rfl) (by kernel_rfl) (by kernel_rfl) (fun _ _ _ h => h) (Or.inl ⟨by rfl, ?_⟩) (Kp.refl _) ?_
      rotate_left 1
      · intro w5 hSw
        go_simp; all_goals (with_reducible rfl)
      try simp only [Act.put, List.setIfInBounds_toArray, List.set_cons_zero, List.set_cons_succ]
      refine wpAnyH_take (i := 1) (oi := { dst := some 10, op := Go.Op.load 3 (Go.Operand.tmp 9), type := 3, pos := "value.go:123", after := #[{ on := 0, ground := Go.Ground.data }], guard := none }) (v := ?_) rfl (by kernel_rfl) (by kernel_rfl) (by kernel_rfl) (fun _ _ _ h => h) (Or.inl ⟨by rfl, ?_⟩) (Kp.refl _) ?_
      rotate_left 1
      · intro w5 hSw
        have q1 : w5.cell? ⟨bu, 0, none⟩ = some (.int .i64 p1) := (hSw.cell hbu6).trans yu0
        go_simp; all_goals (with_reducible rfl)
      try simp only [Act.put, List.setIfInBounds_toArray, List.set_cons_zero, List.set_cons_succ]
      refine wpAnyH_take (i := 2) (oi := { dst := some 11, op := Go.Op.fieldAddr 24 (Go.Operand.tmp 3) 0, type := 0, pos := "value.go:123", after := #[], guard := none }) (v := ?_) rfl (by kernel_rfl) (by kernel_rfl) (by kernel_rfl) (fun _ _ _ h => h) (Or.inl ⟨by rfl, ?_⟩) (Kp.refl _) ?_
      rotate_left 1
      · intro w5 hSw
        go_simp; all_goals (with_reducible rfl)
      try simp only [Act.put, List.setIfInBounds_toArray, List.set_cons_zero, List.set_cons_succ]
      refine wpAnyH_take (i := 3) (oi := { dst := some 12, op := Go.Op.load 3 (Go.Operand.tmp 11), type := 3, pos := "value.go:123", after := #[{ on := 2, ground := Go.Ground.data }], guard := none }) (v := ?_) rfl (by kernel_rfl) (by kernel_rfl) (by kernel_rfl) (fun _ _ _ h => h) (Or.inl ⟨by rfl, ?_⟩) (Kp.refl _) ?_
      rotate_left 1
      · intro w5 hSw
        have q3 : w5.cell? ⟨bv, 0, none⟩ = some (.int .i64 q1) := (hSw.cell hbv6).trans yv0
        go_simp; all_goals (with_reducible rfl)
      try simp only [Act.put, List.setIfInBounds_toArray, List.set_cons_zero, List.set_cons_succ]
      refine wpAnyH_take (i := 5) (oi := { dst := some 14, op := Go.Op.fieldAddr 24 (Go.Operand.tmp 2) 1, type := 0, pos := "value.go:123", after := #[], guard := none }) (v := ?_) rfl (by kernel_rfl) (by kernel_rfl) (by kernel_rfl) (fun _ _ _ h => h) (Or.inl ⟨by rfl, ?_⟩) (Kp.refl _) ?_
      rotate_left 1
      · intro w5 hSw
        go_simp; all_goals (with_reducible rfl)
      try simp only [Act.put, List.setIfInBounds_toArray, List.set_cons_zero, List.set_cons_succ]
      refine wpAnyH_take (i := 6) (oi := { dst := some 15, op := Go.Op.load 9 (Go.Operand.tmp 14), type := 9, pos := "value.go:123", after := #[{ on := 5, ground := Go.Ground.data }], guard := none }) (v := ?_) rfl (by kernel_rfl) (by kernel_rfl) (by kernel_rfl) (fun _ _ _ h => h) (Or.inl ⟨by rfl, ?_⟩) (Kp.refl _) ?_
      rotate_left 1
      · intro w5 hSw
        have q6 : w5.cell? ⟨bu, 1, none⟩ = some (.string p2) := (hSw.cell hbu6).trans yu1
        go_simp; all_goals (with_reducible rfl)
      try simp only [Act.put, List.setIfInBounds_toArray, List.set_cons_zero, List.set_cons_succ]
      refine wpAnyH_take (i := 7) (oi := { dst := some 16, op := Go.Op.fieldAddr 24 (Go.Operand.tmp 3) 1, type := 0, pos := "value.go:123", after := #[], guard := none }) (v := ?_) rfl (by kernel_rfl) (by kernel_rfl) (by kernel_rfl) (fun _ _ _ h => h) (Or.inl ⟨by rfl, ?_⟩) (Kp.refl _) ?_
      rotate_left 1
      · intro w5 hSw
        go_simp; all_goals (with_reducible rfl)
      try simp only [Act.put, List.setIfInBounds_toArray, List.set_cons_zero, List.set_cons_succ]
      refine wpAnyH_take (i := 8) (oi := { dst := some 17, op := Go.Op.load 9 (Go.Operand.tmp 16), type := 9, pos := "value.go:123", after := #[{ on := 7, ground := Go.Ground.data }], guard := none }) (v := ?_) rfl (by kernel_rfl) (by kernel_rfl) (by kernel_rfl) (fun _ _ _ h => h) (Or.inl ⟨by rfl, ?_⟩) (Kp.refl _) ?_
      rotate_left 1
      · intro w5 hSw
        have q8 : w5.cell? ⟨bv, 1, none⟩ = some (.string q2) := (hSw.cell hbv6).trans yv1
        go_simp; all_goals (with_reducible rfl)
      try simp only [Act.put, List.setIfInBounds_toArray, List.set_cons_zero, List.set_cons_succ]
      refine wpAnyH_take (i := 10) (oi := { dst := some 19, op := Go.Op.fieldAddr 24 (Go.Operand.tmp 2) 2, type := 0, pos := "value.go:123", after := #[], guard := none }) (v := ?_) rfl (by kernel_rfl) (by kernel_rfl) (by kernel_rfl) (fun _ _ _ h => h) (Or.inl ⟨by rfl, ?_⟩) (Kp.refl _) ?_
      rotate_left 1
      · intro w5 hSw
        go_simp; all_goals (with_reducible rfl)
      try simp only [Act.put, List.setIfInBounds_toArray, List.set_cons_zero, List.set_cons_succ]
      refine wpAnyH_take (i := 11) (oi := { dst := some 20, op := Go.Op.load 22 (Go.Operand.tmp 19), type := 22, pos := "value.go:123", after := #[{ on := 10, ground := Go.Ground.data }], guard := none }) (v := ?_) rfl (by kernel_rfl) (by kernel_rfl) (by kernel_rfl) (fun _ _ _ h => h) (Or.inl ⟨by rfl, ?_⟩) (Kp.refl _) ?_
      rotate_left 1
      · intro w5 hSw
        have q11 : w5.cell? ⟨bu, 2, none⟩ = some (.int .u64 (p3 : Int)) := (hSw.cell hbu6).trans yu2
        go_simp; all_goals (with_reducible rfl)
      try simp only [Act.put, List.setIfInBounds_toArray, List.set_cons_zero, List.set_cons_succ]
      refine wpAnyH_take (i := 12) (oi := { dst := some 21, op := Go.Op.fieldAddr 24 (Go.Operand.tmp 3) 2, type := 0, pos := "value.go:123", after := #[], guard := none }) (v := ?_) rfl (by kernel_rfl) (by kernel_rfl) (by kernel_rfl) (fun _ _ _ h => h) (Or.inl ⟨by rfl, ?_⟩) (Kp.refl _) ?_
      rotate_left 1
      · intro w5 hSw
        go_simp; all_goals (with_reducible rfl)
      try simp only [Act.put, List.setIfInBounds_toArray, List.set_cons_zero, List.set_cons_succ]
      refine wpAnyH_take (i := 13) (oi := { dst := some 22, op := Go.Op.load 22 (Go.Operand.tmp 21), type := 22, pos := "value.go:123", after := #[{ on := 12, ground := Go.Ground.data }], guard := none }) (v := ?_) rfl (by kernel_rfl) (by kernel_rfl) (by kernel_rfl) (fun _ _ _ h => h) (Or.inl ⟨by rfl, ?_⟩) (Kp.refl _) ?_
      rotate_left 1
      · intro w5 hSw
        have q13 : w5.cell? ⟨bv, 2, none⟩ = some (.int .u64 (q3 : Int)) := (hSw.cell hbv6).trans yv2
        go_simp; all_goals (with_reducible rfl)
      try simp only [Act.put, List.setIfInBounds_toArray, List.set_cons_zero, List.set_cons_succ]
      refine wpAnyH_ready (rs := [4]) (by kernel_rfl) (by simp) ?_
      refine AllReadyH.cons (o := { dst := some 13, op := Go.Op.call { callee := Go.Callee.value (Go.Operand.func 34), args := #[Go.Operand.tmp 10, Go.Operand.tmp 12], argTypes := #[3, 3] }, type := 3, pos := "value.go:123", after := #[{ on := 1, ground := Go.Ground.data }, { on := 3, ground := Go.Ground.data }], guard := none }) rfl (fun K hK => ?_) AllReadyH.nil
      go_simp
      refine (HC1.out _).mono ?_; rintro e W7 ⟨rfl, rfl⟩
      go_wp2_with fail
      refine hK.out _ _ (Below.refl _ _) (fun _ => held_more (Below.refl _ _) ?_)
      clear hK K
      try simp only [Act.put, List.setIfInBounds_toArray, List.set_cons_zero, List.set_cons_succ]
      refine wpAnyH_ready (rs := [9]) (by kernel_rfl) (by simp) ?_
      refine AllReadyH.cons (o := { dst := some 18, op := Go.Op.call { callee := Go.Callee.value (Go.Operand.func 35), args := #[Go.Operand.tmp 15, Go.Operand.tmp 17], argTypes := #[9, 9] }, type := 3, pos := "value.go:123", after := #[{ on := 6, ground := Go.Ground.data }, { on := 8, ground := Go.Ground.data }, { on := 4, ground := Go.Ground.chain }], guard := none }) rfl (fun K hK => ?_) AllReadyH.nil
      go_simp
      refine (HC2.out _).mono ?_; rintro e W7 ⟨rfl, rfl⟩
      go_wp2_with fail
      refine hK.out _ _ (Below.refl _ _) (fun _ => held_more (Below.refl _ _) ?_)
      clear hK K
      try simp only [Act.put, List.setIfInBounds_toArray, List.set_cons_zero, List.set_cons_succ]
      refine wpAnyH_ready (rs := [14]) (by kernel_rfl) (by simp) ?_
      refine AllReadyH.cons (o := { dst := some 23, op := Go.Op.call { callee := Go.Callee.value (Go.Operand.func 36), args := #[Go.Operand.tmp 20, Go.Operand.tmp 22], argTypes := #[22, 22] }, type := 3, pos := "value.go:123", after := #[{ on := 11, ground := Go.Ground.data }, { on := 13, ground := Go.Ground.data }, { on := 9, ground := Go.Ground.chain }], guard := none }) rfl (fun K hK => ?_) AllReadyH.nil
      go_simp
      refine (HC3.out _).mono ?_; rintro e W7 ⟨rfl, rfl⟩
      go_wp2_with fail
      refine hK.out _ _ (Below.refl _ _) (fun _ => held_more (Below.refl _ _) ?_)
      clear hK K
      try simp only [Act.put, List.setIfInBounds_toArray, List.set_cons_zero, List.set_cons_succ]
      refine wpAnyH_ready (rs := [15]) (by kernel_rfl) (by simp) ?_
      refine AllReadyH.cons (o := { dst := some 24, op := Go.Op.buildSlice 55 3 #[(0, Go.Operand.tmp 13), (1, Go.Operand.tmp 18), (2, Go.Operand.tmp 23)], type := 55, pos := "value.go:123", after := #[{ on := 4, ground := Go.Ground.data }, { on := 9, ground := Go.Ground.data }, { on := 14, ground := Go.Ground.data }], guard := none }) rfl (fun K hK => ?_) AllReadyH.nil
      go_simp
      refine hK.out _ _ ((Below.refl _ _).alloc (Nat.le_refl _) _) (fun _ => held_more ((Below.refl _ _).alloc (Nat.le_refl _) _) ?_)
      clear hK K
      try simp only [Act.put, List.setIfInBounds_toArray, List.set_cons_zero, List.set_cons_succ]
      refine wpAnyH_ready (rs := [16]) (by kernel_rfl) (by simp) ?_
      refine AllReadyH.cons (o := { dst := some 25, op := Go.Op.call { callee := Go.Callee.value (Go.Operand.func 33), args := #[Go.Operand.tmp 24], argTypes := #[55] }, type := 3, pos := "value.go:123", after := #[{ on := 15, ground := Go.Ground.data }, { on := 14, ground := Go.Ground.chain }], guard := none }) rfl (fun K hK => ?_) AllReadyH.nil
      go_simp
      refine (or_any (cmpI p1 q1) (cmpS p2 q2) (cmpI (p3 : Int) (q3 : Int)) _ _ (by simp) (by simp) (by simp)).mono ?_; rintro e W7 ⟨rfl, rfl⟩
      go_wp2_with fail
      refine hK.out _ _ (Below.refl _ _) (fun _ => held_more (Below.refl _ _) ?_)
      clear hK K
      try simp only [Act.put, List.setIfInBounds_toArray, List.set_cons_zero, List.set_cons_succ]
      refine wpAnyH_take (i := 17) (oi := { dst := some 4, op := Go.Op.assign (Go.Operand.tmp 25), type := 3, pos := "value.go:123", after := #[{ on := 16, ground := Go.Ground.data }, { on := 16, ground := Go.Ground.chain }, { on := 0, ground := Go.Ground.phase }, { on := 1, ground := Go.Ground.phase }, { on := 2, ground := Go.Ground.phase }, { on := 3, ground := Go.Ground.phase }, { on := 4, ground := Go.Ground.phase }, { on := 5, ground := Go.Ground.phase }, { on := 6, ground := Go.Ground.phase }, { on := 7, ground := Go.Ground.phase }, { on := 8, ground := Go.Ground.phase }, { on := 9, ground := Go.Ground.phase }, { on := 10, ground := Go.Ground.phase }, { on := 11, ground := Go.Ground.phase }, { on := 12, ground := Go.Ground.phase }, { on := 13, ground := Go.Ground.phase }, { on := 14, ground := Go.Ground.phase }, { on := 15, ground := Go.Ground.phase }, { on := 16, ground := Go.Ground.phase }], guard := none }) (v := ?_) rfl (by kernel_rfl) (by kernel_rfl) (by kernel_rfl) (fun _ _ _ h => h) (Or.inl ⟨by rfl, ?_⟩) (Kp.refl _) ?_
      rotate_left 1
      · intro w5 hSw
        go_simp; all_goals (with_reducible rfl)
      try simp only [Act.put, List.setIfInBounds_toArray, List.set_cons_zero, List.set_cons_succ]
      refine wpAnyH_done (by kernel_rfl) ?_ _
      clear yu0 yu1 yu2 yv0 yv1 yv2 hbu6 hbv6
      go_wp2_with fail
      go_ret
      exact ⟨rfl, by have h := kB.out; exact (show Below w.heap.size w W6.drew from ⟨h.os, h.tape, h.output, h.size, h.block⟩).alloc h.size _⟩
  · go_simp
    refine hK.out _ _ (trivial) (fun _ => ?_)
    clear hK K
    try simp only [Act.put, List.setIfInBounds_toArray, List.set_cons_zero, List.set_cons_succ]
    refine wpAnyH_ready (rs := [0]) (by kernel_rfl) (by simp) ?_
    refine (AllReadyH.cons (o := { dst := some 5, op := Go.Op.load 24 (Go.Operand.tmp 2), type := 24, pos := "value.go:122", after := #[], guard := none }) rfl (fun K hK => ?_) AllReadyH.nil)
    go_simp
    refine hK.out _ _ (trivial) (fun _ => ?_)
    clear hK K
    try simp only [Act.put, List.setIfInBounds_toArray, List.set_cons_zero, List.set_cons_succ]
    refine wpAnyH_ready (rs := [1]) (by kernel_rfl) (by simp) ?_
    refine (AllReadyH.cons (o := { dst := some 6, op := Go.Op.call { callee := Go.Callee.value (Go.Operand.func 13), args := #[Go.Operand.tmp 5], argTypes := #[24] }, type := 24, pos := "value.go:122", after := #[{ on := 0, ground := Go.Ground.data }], guard := none }) rfl (fun K hK => ?_) AllReadyH.nil)
    go_simp
    refine (HP1.out X.drew).mono ?_; rintro e Y ⟨rfl, hb1⟩; have hWuY := (hWu.drew).below hb1 hWu.lt; have hWvY := (hWv.drew).below hb1 hWv.lt
    go_wp2_with fail
    refine hK.out _ _ (trivial) (fun _ => ?_)
    clear hK K
    try simp only [Act.put, List.setIfInBounds_toArray, List.set_cons_zero, List.set_cons_succ]
    refine wpAnyH_ready (rs := [3]) (by kernel_rfl) (by simp) ?_
    refine (AllReadyH.cons (o := { dst := some 8, op := Go.Op.call { callee := Go.Callee.value (Go.Operand.func 13), args := #[Go.Operand.tmp 7], argTypes := #[24] }, type := 24, pos := "value.go:122", after := #[{ on := 2, ground := Go.Ground.data }, { on := 1, ground := Go.Ground.chain }], guard := none }) rfl (fun K hK => ?_) AllReadyH.nil)
    go_simp
    refine (HP2.out Y).mono ?_; rintro e Z ⟨rfl, hb2⟩; have hWuZ := hWuY.below hb2 hWuY.lt; have hWvZ := hWvY.below hb2 hWvY.lt; have zu0 : Z.cell? ⟨bu, 0, none⟩ = some (.int .i64 u1) := hWuZ.cell 0; have fu0 : Z.frozen? ⟨bu, 0, none⟩ = false := hWuZ.frozen 0; have zu1 : Z.cell? ⟨bu, 1, none⟩ = some (.string u2) := hWuZ.cell 1; have fu1 : Z.frozen? ⟨bu, 1, none⟩ = false := hWuZ.frozen 1; have zu2 : Z.cell? ⟨bu, 2, none⟩ = some (.int .u64 (u3 : Int)) := hWuZ.cell 2; have fu2 : Z.frozen? ⟨bu, 2, none⟩ = false := hWuZ.frozen 2; have zv0 : Z.cell? ⟨bv, 0, none⟩ = some (.int .i64 v1) := hWvZ.cell 0; have fv0 : Z.frozen? ⟨bv, 0, none⟩ = false := hWvZ.frozen 0; have zv1 : Z.cell? ⟨bv, 1, none⟩ = some (.string v2) := hWvZ.cell 1; have fv1 : Z.frozen? ⟨bv, 1, none⟩ = false := hWvZ.frozen 1; have zv2 : Z.cell? ⟨bv, 2, none⟩ = some (.int .u64 (v3 : Int)) := hWvZ.cell 2; have fv2 : Z.frozen? ⟨bv, 2, none⟩ = false := hWvZ.frozen 2
    go_wp2_with fail
    refine hK.out _ _ (trivial) (fun _ => ?_)
    clear hK K
    try simp only [Act.put, List.setIfInBounds_toArray, List.set_cons_zero, List.set_cons_succ]
    refine wpAnyH_ready (rs := [4]) (by kernel_rfl) (by simp) ?_
    refine (AllReadyH.cons (o := { dst := none, op := Go.Op.store 24 (Go.Operand.tmp 2) (Go.Operand.tmp 6), type := 0, pos := "value.go:122", after := #[{ on := 1, ground := Go.Ground.data }, { on := 3, ground := Go.Ground.chain }, { on := 0, ground := Go.Ground.phase }, { on := 1, ground := Go.Ground.phase }, { on := 2, ground := Go.Ground.textOnly Go.Departure.lateStores }, { on := 3, ground := Go.Ground.textOnly Go.Departure.lateStoresUnsure }], guard := none }) rfl (fun K hK => ?_) AllReadyH.nil)
    go_simp
    refine hK.out _ _ (trivial) (fun _ => ?_)
    clear hK K
    try simp only [Act.put, List.setIfInBounds_toArray, List.set_cons_zero, List.set_cons_succ]
    refine wpAnyH_ready (rs := [5]) (by kernel_rfl) (by simp) ?_
    refine (AllReadyH.cons (o := { dst := none, op := Go.Op.store 24 (Go.Operand.tmp 3) (Go.Operand.tmp 8), type := 0, pos := "value.go:122", after := #[{ on := 3, ground := Go.Ground.data }, { on := 4, ground := Go.Ground.chain }, { on := 0, ground := Go.Ground.phase }, { on := 1, ground := Go.Ground.phase }, { on := 2, ground := Go.Ground.phase }, { on := 3, ground := Go.Ground.phase }, { on := 4, ground := Go.Ground.phase }], guard := none }) rfl (fun K hK => ?_) AllReadyH.nil)
    go_simp
    refine hK.out _ _ (trivial) (fun _ => ?_)
    clear hK K
    try simp only [Act.put, List.setIfInBounds_toArray, List.set_cons_zero, List.set_cons_succ]
    refine wpAnyH_done (by kernel_rfl) ?_ _
    clear zu0 fu0 zu1 fu1 zu2 fu2 zv0 fv0 zv1 fv1 zv2 fv2 u0 u1' u2' v0 v1' v2'
    go_upto_region 2 with (fail)
    obtain ⟨W6, hW6⟩ : ∃ z, z = ((((((Z.setCell ⟨bu, 0, none⟩ (.int .i64 p1)).setCell ⟨bu, 1, none⟩ (.string p2)).setCell ⟨bu, 2, none⟩ (.int .u64 (p3 : Int))).setCell ⟨bv, 0, none⟩ (.int .i64 q1)).setCell ⟨bv, 1, none⟩ (.string q2)).setCell ⟨bv, 2, none⟩ (.int .u64 (q3 : Int))) := ⟨_, rfl⟩
    have kU : Whole W6 bu 24 #[.int .i64 p1, .string p2, .int .u64 (p3 : Int)] := by
      have := ((((((hWuZ.set 0 (.int .i64 p1)).set 1 (.string p2)).set 2 (.int .u64 (p3 : Int))).far (p := ⟨bv, 0, none⟩) hne (.int .i64 q1)).far (p := ⟨bv, 1, none⟩) hne (.string q2)).far (p := ⟨bv, 2, none⟩) hne (.int .u64 (q3 : Int)))
      rw [hW6]
      simpa using this
    have kV : Whole W6 bv 24 #[.int .i64 q1, .string q2, .int .u64 (q3 : Int)] := by
      have := (((((hWvZ.far (p := ⟨bu, 0, none⟩) hne.symm (.int .i64 p1)).far (p := ⟨bu, 1, none⟩) hne.symm (.string p2)).far (p := ⟨bu, 2, none⟩) hne.symm (.int .u64 (p3 : Int))).set 0 (.int .i64 q1)).set 1 (.string q2)).set 2 (.int .u64 (q3 : Int))
      rw [hW6]
      simpa using this
    have kB : Hid (Below w.heap.size w W6) := by
      have h1 : Below X.heap.size X Z := (show Below X.heap.size X Y from ⟨hb1.os, hb1.tape, hb1.output, hb1.size, hb1.block⟩).trans (hb2.mono hb1.size)
      rw [hW6]
      exact (((((((HB.out.trans (h1.mono HB.out.size)).setCell (p := ⟨bu, 0, none⟩) hlo.1 _).setCell (p := ⟨bu, 1, none⟩) hlo.1 _).setCell (p := ⟨bu, 2, none⟩) hlo.1 _).setCell (p := ⟨bv, 0, none⟩) hlo.2 _).setCell (p := ⟨bv, 1, none⟩) hlo.2 _).setCell (p := ⟨bv, 2, none⟩) hlo.2 _)
    have yu0 : W6.drew.cell? ⟨bu, 0, none⟩ = some (.int .i64 p1) := kU.cell 0
    have yu1 : W6.drew.cell? ⟨bu, 1, none⟩ = some (.string p2) := kU.cell 1
    have yu2 : W6.drew.cell? ⟨bu, 2, none⟩ = some (.int .u64 (p3 : Int)) := kU.cell 2
    have yv0 : W6.drew.cell? ⟨bv, 0, none⟩ = some (.int .i64 q1) := kV.cell 0
    have yv1 : W6.drew.cell? ⟨bv, 1, none⟩ = some (.string q2) := kV.cell 1
    have yv2 : W6.drew.cell? ⟨bv, 2, none⟩ = some (.int .u64 (q3 : Int)) := kV.cell 2
    have hbu6 : bu < W6.drew.heap.size := kU.lt
    have hbv6 : bv < W6.drew.heap.size := kV.lt
    rw [← hW6]
    clear hW6 kU kV
    refine held_start (by kernel_rfl) ?_
    refine wpAnyH_take (i := 0) (oi := { dst := some 9, op := Go.Op.fieldAddr 24 (Go.Operand.tmp 2) 0, type := 0, pos := "value.go:123", after := #[], guard := none }) (v := ?_) rfl (by kernel_rfl) (by kernel_rfl) (by kernel_rfl) (fun _ _ _ h => h) (Or.inl ⟨by rfl, ?_⟩) (Kp.refl _) ?_
    rotate_left 1
    · intro w5 hSw
      go_simp; all_goals (with_reducible rfl)
    try simp only [Act.put, List.setIfInBounds_toArray, List.set_cons_zero, List.set_cons_succ]
    refine wpAnyH_take (i := 1) (oi := { dst := some 10, op := Go.Op.load 3 (Go.Operand.tmp 9), type := 3, pos := "value.go:123", after := #[{ on := 0, ground := Go.Ground.data }], guard := none }) (v := ?_) rfl (by kernel_rfl) (by kernel_rfl) (by kernel_rfl) (fun _ _ _ h => h) (Or.inl ⟨by rfl, ?_⟩) (Kp.refl _) ?_
    rotate_left 1
    · intro w5 hSw
      have q1 : w5.cell? ⟨bu, 0, none⟩ = some (.int .i64 p1) := (hSw.cell hbu6).trans yu0
      go_simp; all_goals (with_reducible rfl)
    try simp only [Act.put, List.setIfInBounds_toArray, List.set_cons_zero, List.set_cons_succ]
    refine wpAnyH_take (i := 2) (oi := { dst := some 11, op := Go.Op.fieldAddr 24 (Go.Operand.tmp 3) 0, type := 0, pos := "value.go:123", after := #[], guard := none }) (v := ?_) rfl (by kernel_rfl) (by kernel_rfl) (by kernel_rfl) (fun _ _ _ h => h) (Or.inl ⟨by rfl, ?_⟩) (Kp.refl _) ?_
    rotate_left 1
    · intro w5 hSw
      go_simp; all_goals (with_reducible rfl)
    try simp only [Act.put, List.setIfInBounds_toArray, List.set_cons_zero, List.set_cons_succ]
    refine wpAnyH_take (i := 3) (oi := { dst := some 12, op := Go.Op.load 3 (Go.Operand.tmp 11), type := 3, pos := "value.go:123", after := #[{ on := 2, ground := Go.Ground.data }], guard := none }) (v := ?_) rfl (by kernel_rfl) (by kernel_rfl) (by kernel_rfl) (fun _ _ _ h => h) (Or.inl ⟨by rfl, ?_⟩) (Kp.refl _) ?_
    rotate_left 1
    · intro w5 hSw
      have q3 : w5.cell? ⟨bv, 0, none⟩ = some (.int .i64 q1) := (hSw.cell hbv6).trans yv0
      go_simp; all_goals (with_reducible rfl)
    try simp only [Act.put, List.setIfInBounds_toArray, List.set_cons_zero, List.set_cons_succ]
    refine wpAnyH_take (i := 5) (oi := { dst := some 14, op := Go.Op.fieldAddr 24 (Go.Operand.tmp 2) 1, type := 0, pos := "value.go:123", after := #[], guard := none }) (v := ?_) rfl (by kernel_rfl) (by kernel_rfl) (by kernel_rfl) (fun _ _ _ h => h) (Or.inl ⟨by rfl, ?_⟩) (Kp.refl _) ?_
    rotate_left 1
    · intro w5 hSw
      go_simp; all_goals (with_reducible rfl)
    try simp only [Act.put, List.setIfInBounds_toArray, List.set_cons_zero, List.set_cons_succ]
    refine wpAnyH_take (i := 6) (oi := { dst := some 15, op := Go.Op.load 9 (Go.Operand.tmp 14), type := 9, pos := "value.go:123", after := #[{ on := 5, ground := Go.Ground.data }], guard := none }) (v := ?_) rfl (by kernel_rfl) (by kernel_rfl) (by kernel_rfl) (fun _ _ _ h => h) (Or.inl ⟨by rfl, ?_⟩) (Kp.refl _) ?_
    rotate_left 1
    · intro w5 hSw
      have q6 : w5.cell? ⟨bu, 1, none⟩ = some (.string p2) := (hSw.cell hbu6).trans yu1
      go_simp; all_goals (with_reducible rfl)
    try simp only [Act.put, List.setIfInBounds_toArray, List.set_cons_zero, List.set_cons_succ]
    refine wpAnyH_take (i := 7) (oi := { dst := some 16, op := Go.Op.fieldAddr 24 (Go.Operand.tmp 3) 1, type := 0, pos := "value.go:123", after := #[], guard := none }) (v := ?_) rfl (by kernel_rfl) (by kernel_rfl) (by kernel_rfl) (fun _ _ _ h => h) (Or.inl ⟨by rfl, ?_⟩) (Kp.refl _) ?_
    rotate_left 1
    · intro w5 hSw
      go_simp; all_goals (with_reducible rfl)
    try simp only [Act.put, List.setIfInBounds_toArray, List.set_cons_zero, List.set_cons_succ]
    refine wpAnyH_take (i := 8) (oi := { dst := some 17, op := Go.Op.load 9 (Go.Operand.tmp 16), type := 9, pos := "value.go:123", after := #[{ on := 7, ground := Go.Ground.data }], guard := none }) (v := ?_) rfl (by kernel_rfl) (by kernel_rfl) (by kernel_rfl) (fun _ _ _ h => h) (Or.inl ⟨by rfl, ?_⟩) (Kp.refl _) ?_
    rotate_left 1
    · intro w5 hSw
      have q8 : w5.cell? ⟨bv, 1, none⟩ = some (.string q2) := (hSw.cell hbv6).trans yv1
      go_simp; all_goals (with_reducible rfl)
    try simp only [Act.put, List.setIfInBounds_toArray, List.set_cons_zero, List.set_cons_succ]
    refine wpAnyH_take (i := 10) (oi := { dst := some 19, op := Go.Op.fieldAddr 24 (Go.Operand.tmp 2) 2, type := 0, pos := "value.go:123", after := #[], guard := none }) (v := ?_) rfl (by kernel_rfl) (by kernel_rfl) (by kernel_rfl) (fun _ _ _ h => h) (Or.inl ⟨by rfl, ?_⟩) (Kp.refl _) ?_
    rotate_left 1
    · intro w5 hSw
      go_simp; all_goals (with_reducible rfl)
    try simp only [Act.put, List.setIfInBounds_toArray, List.set_cons_zero, List.set_cons_succ]
    refine wpAnyH_take (i := 11) (oi := { dst := some 20, op := Go.Op.load 22 (Go.Operand.tmp 19), type := 22, pos := "value.go:123", after := #[{ on := 10, ground := Go.Ground.data }], guard := none }) (v := ?_) rfl (by kernel_rfl) (by kernel_rfl) (by kernel_rfl) (fun _ _ _ h => h) (Or.inl ⟨by rfl, ?_⟩) (Kp.refl _) ?_
    rotate_left 1
    · intro w5 hSw
      have q11 : w5.cell? ⟨bu, 2, none⟩ = some (.int .u64 (p3 : Int)) := (hSw.cell hbu6).trans yu2
      go_simp; all_goals (with_reducible rfl)
    try simp only [Act.put, List.setIfInBounds_toArray, List.set_cons_zero, List.set_cons_succ]
    refine wpAnyH_take (i := 12) (oi := { dst := some 21, op := Go.Op.fieldAddr 24 (Go.Operand.tmp 3) 2, type := 0, pos := "value.go:123", after := #[], guard := none }) (v := ?_) rfl (by kernel_rfl) (by kernel_rfl) (by kernel_rfl) (fun _ _ _ h => h) (Or.inl ⟨by rfl, ?_⟩) (Kp.refl _) ?_
    rotate_left 1
    · intro w5 hSw
      go_simp; all_goals (with_reducible rfl)
    try simp only [Act.put, List.setIfInBounds_toArray, List.set_cons_zero, List.set_cons_succ]
    refine wpAnyH_take (i := 13) (oi := { dst := some 22, op := Go.Op.load 22 (Go.Operand.tmp 21), type := 22, pos := "value.go:123", after := #[{ on := 12, ground := Go.Ground.data }], guard := none }) (v := ?_) rfl (by kernel_rfl) (by kernel_rfl) (by kernel_rfl) (fun _ _ _ h => h) (Or.inl ⟨by rfl, ?_⟩) (Kp.refl _) ?_
    rotate_left 1
    · intro w5 hSw
      have q13 : w5.cell? ⟨bv, 2, none⟩ = some (.int .u64 (q3 : Int)) := (hSw.cell hbv6).trans yv2
      go_simp; all_goals (with_reducible rfl)
    try simp only [Act.put, List.setIfInBounds_toArray, List.set_cons_zero, List.set_cons_succ]
    refine wpAnyH_ready (rs := [4]) (by kernel_rfl) (by simp) ?_
    refine AllReadyH.cons (o := { dst := some 13, op := Go.Op.call { callee := Go.Callee.value (Go.Operand.func 34), args := #[Go.Operand.tmp 10, Go.Operand.tmp 12], argTypes := #[3, 3] }, type := 3, pos := "value.go:123", after := #[{ on := 1, ground := Go.Ground.data }, { on := 3, ground := Go.Ground.data }], guard := none }) rfl (fun K hK => ?_) AllReadyH.nil
    go_simp
    refine (HC1.out _).mono ?_; rintro e W7 ⟨rfl, rfl⟩
    go_wp2_with fail
    refine hK.out _ _ (Below.refl _ _) (fun _ => held_more (Below.refl _ _) ?_)
    clear hK K
    try simp only [Act.put, List.setIfInBounds_toArray, List.set_cons_zero, List.set_cons_succ]
    refine wpAnyH_ready (rs := [9]) (by kernel_rfl) (by simp) ?_
    refine AllReadyH.cons (o := { dst := some 18, op := Go.Op.call { callee := Go.Callee.value (Go.Operand.func 35), args := #[Go.Operand.tmp 15, Go.Operand.tmp 17], argTypes := #[9, 9] }, type := 3, pos := "value.go:123", after := #[{ on := 6, ground := Go.Ground.data }, { on := 8, ground := Go.Ground.data }, { on := 4, ground := Go.Ground.chain }], guard := none }) rfl (fun K hK => ?_) AllReadyH.nil
    go_simp
    refine (HC2.out _).mono ?_; rintro e W7 ⟨rfl, rfl⟩
    go_wp2_with fail
    refine hK.out _ _ (Below.refl _ _) (fun _ => held_more (Below.refl _ _) ?_)
    clear hK K
    try simp only [Act.put, List.setIfInBounds_toArray, List.set_cons_zero, List.set_cons_succ]
    refine wpAnyH_ready (rs := [14]) (by kernel_rfl) (by simp) ?_
    refine AllReadyH.cons (o := { dst := some 23, op := Go.Op.call { callee := Go.Callee.value (Go.Operand.func 36), args := #[Go.Operand.tmp 20, Go.Operand.tmp 22], argTypes := #[22, 22] }, type := 3, pos := "value.go:123", after := #[{ on := 11, ground := Go.Ground.data }, { on := 13, ground := Go.Ground.data }, { on := 9, ground := Go.Ground.chain }], guard := none }) rfl (fun K hK => ?_) AllReadyH.nil
    go_simp
    refine (HC3.out _).mono ?_; rintro e W7 ⟨rfl, rfl⟩
    go_wp2_with fail
    refine hK.out _ _ (Below.refl _ _) (fun _ => held_more (Below.refl _ _) ?_)
    clear hK K
    try simp only [Act.put, List.setIfInBounds_toArray, List.set_cons_zero, List.set_cons_succ]
    refine wpAnyH_ready (rs := [15]) (by kernel_rfl) (by simp) ?_
    refine AllReadyH.cons (o := { dst := some 24, op := Go.Op.buildSlice 55 3 #[(0, Go.Operand.tmp 13), (1, Go.Operand.tmp 18), (2, Go.Operand.tmp 23)], type := 55, pos := "value.go:123", after := #[{ on := 4, ground := Go.Ground.data }, { on := 9, ground := Go.Ground.data }, { on := 14, ground := Go.Ground.data }], guard := none }) rfl (fun K hK => ?_) AllReadyH.nil
    go_simp
    refine hK.out _ _ ((Below.refl _ _).alloc (Nat.le_refl _) _) (fun _ => held_more ((Below.refl _ _).alloc (Nat.le_refl _) _) ?_)
    clear hK K
    try simp only [Act.put, List.setIfInBounds_toArray, List.set_cons_zero, List.set_cons_succ]
    refine wpAnyH_ready (rs := [16]) (by kernel_rfl) (by simp) ?_
    refine AllReadyH.cons (o := { dst := some 25, op := Go.Op.call { callee := Go.Callee.value (Go.Operand.func 33), args := #[Go.Operand.tmp 24], argTypes := #[55] }, type := 3, pos := "value.go:123", after := #[{ on := 15, ground := Go.Ground.data }, { on := 14, ground := Go.Ground.chain }], guard := none }) rfl (fun K hK => ?_) AllReadyH.nil
    go_simp
    refine (or_any (cmpI p1 q1) (cmpS p2 q2) (cmpI (p3 : Int) (q3 : Int)) _ _ (by simp) (by simp) (by simp)).mono ?_; rintro e W7 ⟨rfl, rfl⟩
    go_wp2_with fail
    refine hK.out _ _ (Below.refl _ _) (fun _ => held_more (Below.refl _ _) ?_)
    clear hK K
    try simp only [Act.put, List.setIfInBounds_toArray, List.set_cons_zero, List.set_cons_succ]
    refine wpAnyH_take (i := 17) (oi := { dst := some 4, op := Go.Op.assign (Go.Operand.tmp 25), type := 3, pos := "value.go:123", after := #[{ on := 16, ground := Go.Ground.data }, { on := 16, ground := Go.Ground.chain }, { on := 0, ground := Go.Ground.phase }, { on := 1, ground := Go.Ground.phase }, { on := 2, ground := Go.Ground.phase }, { on := 3, ground := Go.Ground.phase }, { on := 4, ground := Go.Ground.phase }, { on := 5, ground := Go.Ground.phase }, { on := 6, ground := Go.Ground.phase }, { on := 7, ground := Go.Ground.phase }, { on := 8, ground := Go.Ground.phase }, { on := 9, ground := Go.Ground.phase }, { on := 10, ground := Go.Ground.phase }, { on := 11, ground := Go.Ground.phase }, { on := 12, ground := Go.Ground.phase }, { on := 13, ground := Go.Ground.phase }, { on := 14, ground := Go.Ground.phase }, { on := 15, ground := Go.Ground.phase }, { on := 16, ground := Go.Ground.phase }], guard := none }) (v := ?_) rfl (by kernel_rfl) (by kernel_rfl) (by kernel_rfl) (fun _ _ _ h => h) (Or.inl ⟨by rfl, ?_⟩) (Kp.refl _) ?_
    rotate_left 1
    · intro w5 hSw
      go_simp; all_goals (with_reducible rfl)
    try simp only [Act.put, List.setIfInBounds_toArray, List.set_cons_zero, List.set_cons_succ]
    refine wpAnyH_done (by kernel_rfl) ?_ _
    clear yu0 yu1 yu2 yv0 yv1 yv2 hbu6 hbv6
    go_wp2_with fail
    go_ret
    exact ⟨rfl, by have h := kB.out; exact (show Below w.heap.size w W6.drew from ⟨h.os, h.tape, h.output, h.size, h.block⟩).alloc h.size _⟩
end Go.Proofs.YtdifojeghplpeaaDoor
