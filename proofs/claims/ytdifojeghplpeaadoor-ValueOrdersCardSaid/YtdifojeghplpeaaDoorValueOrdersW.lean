/- Layer 8: ValueOrders. -/
import Derived.Test.YtdifojeghplpeaaDoorVal7
import Derived.Test.YtdifojeghplpeaaDoorOpenVal
namespace Go.Proofs.YtdifojeghplpeaaDoor
open Go.RowKit
set_option linter.unusedVariables false
set_option maxRecDepth 100000

set_option maxHeartbeats 8000000 in
theorem valueOrders_walk (u v t : V3) (w : World) (hs1 : u.2.1.size ≤ 9223372036854775807) (hs2 : v.2.1.size ≤ 9223372036854775807) (hs3 : t.2.1.size ≤ 9223372036854775807) :
    Calls Tryd.prog 5 #[vv u, vv v, vv t] w fun e w' => e = .returned (.bool true) ∧ Below w.heap.size w w' := by
  have HS1 := Lib.hid fun W => same_any u v W
  have HS2 := Lib.hid fun W => rsame_any u v W
  have HO1 := Lib.hid fun W => order_any u v W
  have HO3 := Lib.hid fun W => order_any v u W
  have HOvt := Lib.hid fun W => order_any v t W
  have HOut := Lib.hid fun W => order_any u t W
  have HLV := Lib.hid fun W => live08_any W
  have HR := Lib.hid fun W => rorder_any u v W hs1 hs2
  have ho := ord_anti u v
  have hw := ord_wrap u v
  have htr := ord_trans u v t
  rw [ho] at HO3
  clear ho
  obtain ⟨no, hno⟩ : ∃ z, z = -ord u v := ⟨_, rfl⟩
  have hw0 : IntKind.i64.wrap (-ord u v) = no := hw.trans hno.symm
  rw [← hno] at HO3
  clear hw hno
  have hw := hw0
  clear hw0
  obtain ⟨sb, hsb⟩ : ∃ z, z = sameV u v := ⟨_, rfl⟩
  obtain ⟨o, hoe⟩ : ∃ z, z = ord u v := ⟨_, rfl⟩
  obtain ⟨o2, ho2⟩ : ∃ z, z = ord v t := ⟨_, rfl⟩
  obtain ⟨o3, ho3⟩ : ∃ z, z = ord u t := ⟨_, rfl⟩
  rw [← hsb] at HS1 HS2
  rw [← hoe] at HO1 HR hw htr
  rw [← ho2] at HOvt htr
  rw [← ho3] at HOut htr
  clear hsb hoe ho2 ho3
  obtain ⟨k1, s1, c1⟩ := u
  obtain ⟨k2, s2, c2⟩ := v
  obtain ⟨k3, s3, c3⟩ := t
  unfold vv at HS1 HS2 HO1 HO3 HOvt HOut HR ⊢
  simp only at HS1 HS2 HO1 HO3 HOvt HOut HR ⊢
  clear hs1 hs2 hs3
  go_enter Tryd.func5, Tryd.ntmps5
  go_upto_region 1 with (fail)
  obtain ⟨bu, hbu0⟩ : ∃ z, z = w.heap.size := ⟨_, rfl⟩
  obtain ⟨bv, hbv0⟩ : ∃ z, z = w.heap.size + 1 := ⟨_, rfl⟩
  obtain ⟨bt, hbt0⟩ : ∃ z, z = w.heap.size + 1 + 1 := ⟨_, rfl⟩
  obtain ⟨X, hX⟩ : ∃ z, z = ((w.alloc (.cells #[.int .i64 k1, .string s1, .int .u64 (c1 : Int)] 24)).alloc (.cells #[.int .i64 k2, .string s2, .int .u64 (c2 : Int)] 24)).alloc (.cells #[.int .i64 k3, .string s3, .int .u64 (c3 : Int)] 24) := ⟨_, rfl⟩
  obtain ⟨hWu, hWv, hWt, hB⟩ := three_boxes w X _ _ _ hX
  rw [← hbu0] at hWu
  rw [← hbv0] at hWv
  rw [← hbt0] at hWt
  have x0 : X.cell? ⟨bu, 0, none⟩ = some (.int .i64 k1) := hWu.cell 0
  have x1 : X.cell? ⟨bu, 1, none⟩ = some (.string s1) := hWu.cell 1
  have x2 : X.cell? ⟨bu, 2, none⟩ = some (.int .u64 (c1 : Int)) := hWu.cell 2
  have y0 : X.cell? ⟨bv, 0, none⟩ = some (.int .i64 k2) := hWv.cell 0
  have y1 : X.cell? ⟨bv, 1, none⟩ = some (.string s2) := hWv.cell 1
  have y2 : X.cell? ⟨bv, 2, none⟩ = some (.int .u64 (c2 : Int)) := hWv.cell 2
  have z0 : X.cell? ⟨bt, 0, none⟩ = some (.int .i64 k3) := hWt.cell 0
  have z1 : X.cell? ⟨bt, 1, none⟩ = some (.string s3) := hWt.cell 1
  have z2 : X.cell? ⟨bt, 2, none⟩ = some (.int .u64 (c3 : Int)) := hWt.cell 2
  have hlu : bu < X.heap.size := hWu.lt
  have hlv : bv < X.heap.size := hWv.lt
  have hlt : bt < X.heap.size := hWt.lt
  have HB := Lib.hid hB
  rw [← hX, ← hbt0, ← hbv0, ← hbu0]
  clear hX hbu0 hbv0 hbt0 hWu hWv hWt hB
  obtain ⟨q, hq⟩ : ∃ q, wrap64 ((s1.size : Int) + (s2.size : Int)) = q := ⟨_, rfl⟩
  go_wp2_with fail
  · refine (HLV.out _).mono ?_
    rintro e Y ⟨rfl, hb⟩
    have HF := Lib.hid (HB.out.trans (hb.mono HB.out.size))
    clear hb
    go_wp2_with fail
    go_ret
    exact ⟨rfl, HF.out⟩
  · by_cases g1 : 0 < o
    · have g2 : decide (0 < o) = true := decide_eq_true g1
      refine (HO1.out _).mono ?_
      rintro e Z ⟨rfl, hb⟩
      have HB := Lib.hid (HB.out.trans (hb.mono HB.out.size))
      have x0 := (hb.cell hlu).trans x0
      have x1 := (hb.cell hlu).trans x1
      have x2 := (hb.cell hlu).trans x2
      have y0 := (hb.cell hlv).trans y0
      have y1 := (hb.cell hlv).trans y1
      have y2 := (hb.cell hlv).trans y2
      have z0 := (hb.cell hlt).trans z0
      have z1 := (hb.cell hlt).trans z1
      have z2 := (hb.cell hlt).trans z2
      have hlu := Nat.lt_of_lt_of_le hlu hb.size
      have hlv := Nat.lt_of_lt_of_le hlv hb.size
      have hlt := Nat.lt_of_lt_of_le hlt hb.size
      clear hb
      go_upto_region 4 with (fail)
      have HBZ := HB
      have hbu : bu < Z.drew.heap.size := hlu
      have hbv : bv < Z.drew.heap.size := hlv
      have hbt : bt < Z.drew.heap.size := hlt
      clear HB
      refine held_start (by kernel_rfl) ?_
      refine wpAnyH_take (i := 0) (oi := { dst := some 39, op := Go.Op.load 24 (Go.Operand.tmp 3), type := 24, pos := "law.go:49", after := #[], guard := none }) (v := ?_) rfl (by kernel_rfl) (by kernel_rfl) (by kernel_rfl) (fun _ _ _ h => h) (Or.inl ⟨by rfl, ?_⟩) (Kp.refl _) ?_
      rotate_left 1
      · intro w5 hSw
        have q0 : w5.cell? ⟨bu, 0, none⟩ = some (.int .i64 k1) := (hSw.cell hbu).trans x0
        have q1 : w5.cell? ⟨bu, 1, none⟩ = some (.string s1) := (hSw.cell hbu).trans x1
        have q2 : w5.cell? ⟨bu, 2, none⟩ = some (.int .u64 (c1 : Int)) := (hSw.cell hbu).trans x2
        go_simp; all_goals (with_reducible rfl)
      try simp only [Act.put, List.setIfInBounds_toArray, List.set_cons_zero, List.set_cons_succ]
      refine wpAnyH_take (i := 1) (oi := { dst := some 40, op := Go.Op.load 24 (Go.Operand.tmp 4), type := 24, pos := "law.go:49", after := #[], guard := none }) (v := ?_) rfl (by kernel_rfl) (by kernel_rfl) (by kernel_rfl) (fun _ _ _ h => h) (Or.inl ⟨by rfl, ?_⟩) (Kp.refl _) ?_
      rotate_left 1
      · intro w5 hSw
        have q0 : w5.cell? ⟨bv, 0, none⟩ = some (.int .i64 k2) := (hSw.cell hbv).trans y0
        have q1 : w5.cell? ⟨bv, 1, none⟩ = some (.string s2) := (hSw.cell hbv).trans y1
        have q2 : w5.cell? ⟨bv, 2, none⟩ = some (.int .u64 (c2 : Int)) := (hSw.cell hbv).trans y2
        go_simp; all_goals (with_reducible rfl)
      try simp only [Act.put, List.setIfInBounds_toArray, List.set_cons_zero, List.set_cons_succ]
      refine wpAnyH_take (i := 3) (oi := { dst := some 42, op := Go.Op.load 24 (Go.Operand.tmp 3), type := 24, pos := "law.go:49", after := #[], guard := none }) (v := ?_) rfl (by kernel_rfl) (by kernel_rfl) (by kernel_rfl) (fun _ _ _ h => h) (Or.inl ⟨by rfl, ?_⟩) (Kp.refl _) ?_
      rotate_left 1
      · intro w5 hSw
        have q0 : w5.cell? ⟨bu, 0, none⟩ = some (.int .i64 k1) := (hSw.cell hbu).trans x0
        have q1 : w5.cell? ⟨bu, 1, none⟩ = some (.string s1) := (hSw.cell hbu).trans x1
        have q2 : w5.cell? ⟨bu, 2, none⟩ = some (.int .u64 (c1 : Int)) := (hSw.cell hbu).trans x2
        go_simp; all_goals (with_reducible rfl)
      try simp only [Act.put, List.setIfInBounds_toArray, List.set_cons_zero, List.set_cons_succ]
      refine wpAnyH_take (i := 4) (oi := { dst := some 43, op := Go.Op.load 24 (Go.Operand.tmp 4), type := 24, pos := "law.go:49", after := #[], guard := none }) (v := ?_) rfl (by kernel_rfl) (by kernel_rfl) (by kernel_rfl) (fun _ _ _ h => h) (Or.inl ⟨by rfl, ?_⟩) (Kp.refl _) ?_
      rotate_left 1
      · intro w5 hSw
        have q0 : w5.cell? ⟨bv, 0, none⟩ = some (.int .i64 k2) := (hSw.cell hbv).trans y0
        have q1 : w5.cell? ⟨bv, 1, none⟩ = some (.string s2) := (hSw.cell hbv).trans y1
        have q2 : w5.cell? ⟨bv, 2, none⟩ = some (.int .u64 (c2 : Int)) := (hSw.cell hbv).trans y2
        go_simp; all_goals (with_reducible rfl)
      try simp only [Act.put, List.setIfInBounds_toArray, List.set_cons_zero, List.set_cons_succ]
      refine wpAnyH_ready (rs := [2]) (by kernel_rfl) (by simp) ?_
      refine AllReadyH.cons (o := { dst := some 41, op := Go.Op.call { callee := Go.Callee.value (Go.Operand.func 19), args := #[Go.Operand.tmp 39, Go.Operand.tmp 40], argTypes := #[24, 24] }, type := 4, pos := "law.go:49", after := #[{ on := 0, ground := Go.Ground.data }, { on := 1, ground := Go.Ground.data }], guard := none }) rfl (fun K hK => ?_) AllReadyH.nil
      go_simp
      refine (HS1.out Z.drew).mono ?_; rintro e Y1 ⟨rfl, hb⟩; have hb1 := hb; clear hb
      go_wp2_with fail
      refine hK.out _ _ (hb1) (fun _ => ?_)
      clear hK K
      try simp only [Act.put, List.setIfInBounds_toArray, List.set_cons_zero, List.set_cons_succ]
      refine wpAnyH_ready (rs := [5]) (by kernel_rfl) (by simp) ?_
      refine AllReadyH.cons (o := { dst := some 44, op := Go.Op.call { callee := Go.Callee.value (Go.Operand.func 20), args := #[Go.Operand.tmp 42, Go.Operand.tmp 43], argTypes := #[24, 24] }, type := 4, pos := "law.go:49", after := #[{ on := 3, ground := Go.Ground.data }, { on := 4, ground := Go.Ground.data }, { on := 2, ground := Go.Ground.chain }], guard := none }) rfl (fun K hK => ?_) AllReadyH.nil
      go_simp
      refine (HS2.out Y1).mono ?_; rintro e Y2 ⟨rfl, hb⟩; have hb2 := keepBelow hb hb1; clear hb hb1
      go_wp2_with fail
      refine hK.out _ _ (hb2) (fun _ => ?_)
      clear hK K
      try simp only [Act.put, List.setIfInBounds_toArray, List.set_cons_zero, List.set_cons_succ]
      refine wpAnyH_take (i := 6) (oi := { dst := some 45, op := Go.Op.binOp Go.BinOp.eql 4 (Go.Operand.tmp 41) (Go.Operand.tmp 44) 4, type := 4, pos := "law.go:49", after := #[{ on := 2, ground := Go.Ground.data }, { on := 5, ground := Go.Ground.data }], guard := none }) (v := ?_) rfl (by kernel_rfl) (by kernel_rfl) (by kernel_rfl) (fun _ _ _ h => h) (Or.inl ⟨by rfl, ?_⟩) (hb2) ?_
      rotate_left 1
      · intro w5 hSw
        go_simp; all_goals (with_reducible rfl)
      try simp only [Act.put, List.setIfInBounds_toArray, List.set_cons_zero, List.set_cons_succ]
      refine wpAnyH_take (i := 7) (oi := { dst := some 46, op := Go.Op.move (Go.Operand.tmp 45), type := 4, pos := "law.go:49", after := #[{ on := 6, ground := Go.Ground.data }, { on := 5, ground := Go.Ground.chain }], guard := none }) (v := ?_) rfl (by kernel_rfl) (by kernel_rfl) (by kernel_rfl) (fun _ _ _ h => h) (Or.inl ⟨by rfl, ?_⟩) (hb2) ?_
      rotate_left 1
      · intro w5 hSw
        go_simp; all_goals (with_reducible rfl)
      try simp only [Act.put, List.setIfInBounds_toArray, List.set_cons_zero, List.set_cons_succ]
      refine wpAnyH_take (i := 8) (oi := { dst := some 47, op := Go.Op.load 24 (Go.Operand.tmp 3), type := 24, pos := "law.go:49", after := #[{ on := 7, ground := Go.Ground.guard }], guard := some (7, true) }) (v := ?_) rfl (by kernel_rfl) (by kernel_rfl) (by kernel_rfl) (fun _ _ _ h => h) (Or.inl ⟨by rfl, ?_⟩) (hb2) ?_
      rotate_left 1
      · intro w5 hSw
        have q0 : w5.cell? ⟨bu, 0, none⟩ = some (.int .i64 k1) := (hSw.cell hbu).trans x0
        have q1 : w5.cell? ⟨bu, 1, none⟩ = some (.string s1) := (hSw.cell hbu).trans x1
        have q2 : w5.cell? ⟨bu, 2, none⟩ = some (.int .u64 (c1 : Int)) := (hSw.cell hbu).trans x2
        go_simp; all_goals (with_reducible rfl)
      try simp only [Act.put, List.setIfInBounds_toArray, List.set_cons_zero, List.set_cons_succ]
      refine wpAnyH_take (i := 9) (oi := { dst := some 48, op := Go.Op.load 24 (Go.Operand.tmp 4), type := 24, pos := "law.go:49", after := #[{ on := 7, ground := Go.Ground.guard }], guard := some (7, true) }) (v := ?_) rfl (by kernel_rfl) (by kernel_rfl) (by kernel_rfl) (fun _ _ _ h => h) (Or.inl ⟨by rfl, ?_⟩) (hb2) ?_
      rotate_left 1
      · intro w5 hSw
        have q0 : w5.cell? ⟨bv, 0, none⟩ = some (.int .i64 k2) := (hSw.cell hbv).trans y0
        have q1 : w5.cell? ⟨bv, 1, none⟩ = some (.string s2) := (hSw.cell hbv).trans y1
        have q2 : w5.cell? ⟨bv, 2, none⟩ = some (.int .u64 (c2 : Int)) := (hSw.cell hbv).trans y2
        go_simp; all_goals (with_reducible rfl)
      try simp only [Act.put, List.setIfInBounds_toArray, List.set_cons_zero, List.set_cons_succ]
      refine wpAnyH_take (i := 11) (oi := { dst := some 50, op := Go.Op.load 24 (Go.Operand.tmp 3), type := 24, pos := "law.go:49", after := #[{ on := 7, ground := Go.Ground.guard }], guard := some (7, true) }) (v := ?_) rfl (by kernel_rfl) (by kernel_rfl) (by kernel_rfl) (fun _ _ _ h => h) (Or.inl ⟨by rfl, ?_⟩) (hb2) ?_
      rotate_left 1
      · intro w5 hSw
        have q0 : w5.cell? ⟨bu, 0, none⟩ = some (.int .i64 k1) := (hSw.cell hbu).trans x0
        have q1 : w5.cell? ⟨bu, 1, none⟩ = some (.string s1) := (hSw.cell hbu).trans x1
        have q2 : w5.cell? ⟨bu, 2, none⟩ = some (.int .u64 (c1 : Int)) := (hSw.cell hbu).trans x2
        go_simp; all_goals (with_reducible rfl)
      try simp only [Act.put, List.setIfInBounds_toArray, List.set_cons_zero, List.set_cons_succ]
      refine wpAnyH_take (i := 12) (oi := { dst := some 51, op := Go.Op.load 24 (Go.Operand.tmp 4), type := 24, pos := "law.go:49", after := #[{ on := 7, ground := Go.Ground.guard }], guard := some (7, true) }) (v := ?_) rfl (by kernel_rfl) (by kernel_rfl) (by kernel_rfl) (fun _ _ _ h => h) (Or.inl ⟨by rfl, ?_⟩) (hb2) ?_
      rotate_left 1
      · intro w5 hSw
        have q0 : w5.cell? ⟨bv, 0, none⟩ = some (.int .i64 k2) := (hSw.cell hbv).trans y0
        have q1 : w5.cell? ⟨bv, 1, none⟩ = some (.string s2) := (hSw.cell hbv).trans y1
        have q2 : w5.cell? ⟨bv, 2, none⟩ = some (.int .u64 (c2 : Int)) := (hSw.cell hbv).trans y2
        go_simp; all_goals (with_reducible rfl)
      try simp only [Act.put, List.setIfInBounds_toArray, List.set_cons_zero, List.set_cons_succ]
      refine wpAnyH_ready (rs := [10]) (by kernel_rfl) (by simp) ?_
      refine AllReadyH.cons (o := { dst := some 49, op := Go.Op.call { callee := Go.Callee.value (Go.Operand.func 18), args := #[Go.Operand.tmp 47, Go.Operand.tmp 48], argTypes := #[24, 24] }, type := 3, pos := "law.go:49", after := #[{ on := 8, ground := Go.Ground.data }, { on := 9, ground := Go.Ground.data }, { on := 7, ground := Go.Ground.chain }, { on := 7, ground := Go.Ground.guard }], guard := some (7, true) }) rfl (fun K hK => ?_) AllReadyH.nil
      go_simp
      refine (HO1.out Y2).mono ?_; rintro e Y3 ⟨rfl, hb⟩; have hb3 := keepBelow hb hb2; clear hb hb2
      go_wp2_with fail
      refine hK.out _ _ (hb3) (fun _ => ?_)
      clear hK K
      try simp only [Act.put, List.setIfInBounds_toArray, List.set_cons_zero, List.set_cons_succ]
      refine wpAnyH_ready (rs := [13]) (by kernel_rfl) (by simp) ?_
      refine AllReadyH.cons (o := { dst := some 52, op := Go.Op.call { callee := Go.Callee.value (Go.Operand.func 21), args := #[Go.Operand.tmp 50, Go.Operand.tmp 51], argTypes := #[24, 24] }, type := 3, pos := "law.go:49", after := #[{ on := 11, ground := Go.Ground.data }, { on := 12, ground := Go.Ground.data }, { on := 10, ground := Go.Ground.chain }, { on := 7, ground := Go.Ground.guard }], guard := some (7, true) }) rfl (fun K hK => ?_) AllReadyH.nil
      go_simp
      refine (HR.out Y3).mono ?_; rintro e Y4 ⟨rfl, hb⟩; have hb4 := keepBelow hb hb3; clear hb hb3
      go_wp2_with fail
      refine hK.out _ _ (hb4) (fun _ => ?_)
      clear hK K
      try simp only [Act.put, List.setIfInBounds_toArray, List.set_cons_zero, List.set_cons_succ]
      refine wpAnyH_take (i := 14) (oi := { dst := some 53, op := Go.Op.binOp Go.BinOp.eql 3 (Go.Operand.tmp 49) (Go.Operand.tmp 52) 3, type := 4, pos := "law.go:49", after := #[{ on := 10, ground := Go.Ground.data }, { on := 13, ground := Go.Ground.data }, { on := 7, ground := Go.Ground.guard }], guard := some (7, true) }) (v := ?_) rfl (by kernel_rfl) (by kernel_rfl) (by kernel_rfl) (fun _ _ _ h => h) (Or.inl ⟨by rfl, ?_⟩) (hb4) ?_
      rotate_left 1
      · intro w5 hSw
        go_simp; all_goals (with_reducible rfl)
      try simp only [Act.put, List.setIfInBounds_toArray, List.set_cons_zero, List.set_cons_succ]
      refine wpAnyH_take (i := 15) (oi := { dst := some 54, op := Go.Op.pick (Go.Operand.tmp 46) (Go.Operand.tmp 53) (Go.Operand.const (Go.Value.bool false)), type := 4, pos := "law.go:49", after := #[{ on := 7, ground := Go.Ground.data }, { on := 14, ground := Go.Ground.data }], guard := none }) (v := ?_) rfl (by kernel_rfl) (by kernel_rfl) (by kernel_rfl) (fun _ _ _ h => h) (Or.inl ⟨by rfl, ?_⟩) (hb4) ?_
      rotate_left 1
      · intro w5 hSw
        go_simp; all_goals (with_reducible rfl)
      try simp only [Act.put, List.setIfInBounds_toArray, List.set_cons_zero, List.set_cons_succ]
      refine wpAnyH_take (i := 16) (oi := { dst := some 55, op := Go.Op.move (Go.Operand.tmp 54), type := 4, pos := "law.go:49", after := #[{ on := 15, ground := Go.Ground.data }, { on := 13, ground := Go.Ground.chain }], guard := none }) (v := ?_) rfl (by kernel_rfl) (by kernel_rfl) (by kernel_rfl) (fun _ _ _ h => h) (Or.inl ⟨by rfl, ?_⟩) (hb4) ?_
      rotate_left 1
      · intro w5 hSw
        go_simp; all_goals (with_reducible rfl)
      try simp only [Act.put, List.setIfInBounds_toArray, List.set_cons_zero, List.set_cons_succ]
      refine wpAnyH_take (i := 17) (oi := { dst := some 56, op := Go.Op.load 24 (Go.Operand.tmp 4), type := 24, pos := "law.go:49", after := #[{ on := 16, ground := Go.Ground.guard }], guard := some (16, true) }) (v := ?_) rfl (by kernel_rfl) (by kernel_rfl) (by kernel_rfl) (fun _ _ _ h => h) (Or.inl ⟨by rfl, ?_⟩) (hb4) ?_
      rotate_left 1
      · intro w5 hSw
        have q0 : w5.cell? ⟨bv, 0, none⟩ = some (.int .i64 k2) := (hSw.cell hbv).trans y0
        have q1 : w5.cell? ⟨bv, 1, none⟩ = some (.string s2) := (hSw.cell hbv).trans y1
        have q2 : w5.cell? ⟨bv, 2, none⟩ = some (.int .u64 (c2 : Int)) := (hSw.cell hbv).trans y2
        go_simp; all_goals (with_reducible rfl)
      try simp only [Act.put, List.setIfInBounds_toArray, List.set_cons_zero, List.set_cons_succ]
      refine wpAnyH_take (i := 18) (oi := { dst := some 57, op := Go.Op.load 24 (Go.Operand.tmp 3), type := 24, pos := "law.go:49", after := #[{ on := 16, ground := Go.Ground.guard }], guard := some (16, true) }) (v := ?_) rfl (by kernel_rfl) (by kernel_rfl) (by kernel_rfl) (fun _ _ _ h => h) (Or.inl ⟨by rfl, ?_⟩) (hb4) ?_
      rotate_left 1
      · intro w5 hSw
        have q0 : w5.cell? ⟨bu, 0, none⟩ = some (.int .i64 k1) := (hSw.cell hbu).trans x0
        have q1 : w5.cell? ⟨bu, 1, none⟩ = some (.string s1) := (hSw.cell hbu).trans x1
        have q2 : w5.cell? ⟨bu, 2, none⟩ = some (.int .u64 (c1 : Int)) := (hSw.cell hbu).trans x2
        go_simp; all_goals (with_reducible rfl)
      try simp only [Act.put, List.setIfInBounds_toArray, List.set_cons_zero, List.set_cons_succ]
      refine wpAnyH_take (i := 20) (oi := { dst := some 59, op := Go.Op.load 24 (Go.Operand.tmp 3), type := 24, pos := "law.go:49", after := #[{ on := 16, ground := Go.Ground.guard }], guard := some (16, true) }) (v := ?_) rfl (by kernel_rfl) (by kernel_rfl) (by kernel_rfl) (fun _ _ _ h => h) (Or.inl ⟨by rfl, ?_⟩) (hb4) ?_
      rotate_left 1
      · intro w5 hSw
        have q0 : w5.cell? ⟨bu, 0, none⟩ = some (.int .i64 k1) := (hSw.cell hbu).trans x0
        have q1 : w5.cell? ⟨bu, 1, none⟩ = some (.string s1) := (hSw.cell hbu).trans x1
        have q2 : w5.cell? ⟨bu, 2, none⟩ = some (.int .u64 (c1 : Int)) := (hSw.cell hbu).trans x2
        go_simp; all_goals (with_reducible rfl)
      try simp only [Act.put, List.setIfInBounds_toArray, List.set_cons_zero, List.set_cons_succ]
      refine wpAnyH_take (i := 21) (oi := { dst := some 60, op := Go.Op.load 24 (Go.Operand.tmp 4), type := 24, pos := "law.go:49", after := #[{ on := 16, ground := Go.Ground.guard }], guard := some (16, true) }) (v := ?_) rfl (by kernel_rfl) (by kernel_rfl) (by kernel_rfl) (fun _ _ _ h => h) (Or.inl ⟨by rfl, ?_⟩) (hb4) ?_
      rotate_left 1
      · intro w5 hSw
        have q0 : w5.cell? ⟨bv, 0, none⟩ = some (.int .i64 k2) := (hSw.cell hbv).trans y0
        have q1 : w5.cell? ⟨bv, 1, none⟩ = some (.string s2) := (hSw.cell hbv).trans y1
        have q2 : w5.cell? ⟨bv, 2, none⟩ = some (.int .u64 (c2 : Int)) := (hSw.cell hbv).trans y2
        go_simp; all_goals (with_reducible rfl)
      try simp only [Act.put, List.setIfInBounds_toArray, List.set_cons_zero, List.set_cons_succ]
      refine wpAnyH_ready (rs := [19]) (by kernel_rfl) (by simp) ?_
      refine AllReadyH.cons (o := { dst := some 58, op := Go.Op.call { callee := Go.Callee.value (Go.Operand.func 18), args := #[Go.Operand.tmp 56, Go.Operand.tmp 57], argTypes := #[24, 24] }, type := 3, pos := "law.go:49", after := #[{ on := 17, ground := Go.Ground.data }, { on := 18, ground := Go.Ground.data }, { on := 16, ground := Go.Ground.chain }, { on := 16, ground := Go.Ground.guard }], guard := some (16, true) }) rfl (fun K hK => ?_) AllReadyH.nil
      go_simp
      refine (HO3.out Y4).mono ?_; rintro e Y5 ⟨rfl, hb⟩; have hb5 := keepBelow hb hb4; clear hb hb4
      go_wp2_with fail
      refine hK.out _ _ (hb5) (fun _ => ?_)
      clear hK K
      try simp only [Act.put, List.setIfInBounds_toArray, List.set_cons_zero, List.set_cons_succ]
      refine wpAnyH_ready (rs := [22]) (by kernel_rfl) (by simp) ?_
      refine AllReadyH.cons (o := { dst := some 61, op := Go.Op.call { callee := Go.Callee.value (Go.Operand.func 21), args := #[Go.Operand.tmp 59, Go.Operand.tmp 60], argTypes := #[24, 24] }, type := 3, pos := "law.go:49", after := #[{ on := 20, ground := Go.Ground.data }, { on := 21, ground := Go.Ground.data }, { on := 19, ground := Go.Ground.chain }, { on := 16, ground := Go.Ground.guard }], guard := some (16, true) }) rfl (fun K hK => ?_) AllReadyH.nil
      go_simp
      refine (HR.out Y5).mono ?_; rintro e Y6 ⟨rfl, hb⟩; have hb6 := keepBelow hb hb5; clear hb hb5
      go_wp2_with fail
      refine hK.out _ _ (hb6) (fun _ => ?_)
      clear hK K
      try simp only [Act.put, List.setIfInBounds_toArray, List.set_cons_zero, List.set_cons_succ]
      refine wpAnyH_take (i := 23) (oi := { dst := some 62, op := Go.Op.unOp Go.UnOp.neg 3 (Go.Operand.tmp 61), type := 3, pos := "law.go:49", after := #[{ on := 22, ground := Go.Ground.data }, { on := 16, ground := Go.Ground.guard }], guard := some (16, true) }) (v := ?_) rfl (by kernel_rfl) (by kernel_rfl) (by kernel_rfl) (fun _ _ _ h => h) (Or.inl ⟨by rfl, ?_⟩) (hb6) ?_
      rotate_left 1
      · intro w5 hSw
        go_simp; all_goals (with_reducible rfl)
      try simp only [Act.put, List.setIfInBounds_toArray, List.set_cons_zero, List.set_cons_succ]
      refine wpAnyH_take (i := 24) (oi := { dst := some 63, op := Go.Op.binOp Go.BinOp.eql 3 (Go.Operand.tmp 58) (Go.Operand.tmp 62) 3, type := 4, pos := "law.go:49", after := #[{ on := 19, ground := Go.Ground.data }, { on := 23, ground := Go.Ground.data }, { on := 16, ground := Go.Ground.guard }], guard := some (16, true) }) (v := ?_) rfl (by kernel_rfl) (by kernel_rfl) (by kernel_rfl) (fun _ _ _ h => h) (Or.inl ⟨by rfl, ?_⟩) (hb6) ?_
      rotate_left 1
      · intro w5 hSw
        go_simp; all_goals (with_reducible rfl)
      try simp only [Act.put, List.setIfInBounds_toArray, List.set_cons_zero, List.set_cons_succ]
      refine wpAnyH_take (i := 25) (oi := { dst := some 64, op := Go.Op.pick (Go.Operand.tmp 55) (Go.Operand.tmp 63) (Go.Operand.const (Go.Value.bool false)), type := 4, pos := "law.go:49", after := #[{ on := 16, ground := Go.Ground.data }, { on := 24, ground := Go.Ground.data }], guard := none }) (v := ?_) rfl (by kernel_rfl) (by kernel_rfl) (by kernel_rfl) (fun _ _ _ h => h) (Or.inl ⟨by rfl, ?_⟩) (hb6) ?_
      rotate_left 1
      · intro w5 hSw
        go_simp; all_goals (with_reducible rfl)
      try simp only [Act.put, List.setIfInBounds_toArray, List.set_cons_zero, List.set_cons_succ]
      refine wpAnyH_take (i := 26) (oi := { dst := some 65, op := Go.Op.move (Go.Operand.tmp 64), type := 4, pos := "law.go:49", after := #[{ on := 25, ground := Go.Ground.data }, { on := 22, ground := Go.Ground.chain }], guard := none }) (v := ?_) rfl (by kernel_rfl) (by kernel_rfl) (by kernel_rfl) (fun _ _ _ h => h) (Or.inl ⟨by rfl, ?_⟩) (hb6) ?_
      rotate_left 1
      · intro w5 hSw
        go_simp; all_goals (with_reducible rfl)
      try simp only [Act.put, List.setIfInBounds_toArray, List.set_cons_zero, List.set_cons_succ]
      refine wpAnyH_take (i := 27) (oi := { dst := some 66, op := Go.Op.move (Go.Operand.tmp 7), type := 4, pos := "law.go:49", after := #[{ on := 26, ground := Go.Ground.guard }], guard := some (26, true) }) (v := ?_) rfl (by kernel_rfl) (by kernel_rfl) (by kernel_rfl) (fun _ _ _ h => h) (Or.inl ⟨by rfl, ?_⟩) (hb6) ?_
      rotate_left 1
      · intro w5 hSw
        go_simp; all_goals (with_reducible rfl)
      try simp only [Act.put, List.setIfInBounds_toArray, List.set_cons_zero, List.set_cons_succ]
      refine wpAnyH_take (i := 28) (oi := { dst := some 67, op := Go.Op.pick (Go.Operand.tmp 65) (Go.Operand.tmp 66) (Go.Operand.const (Go.Value.bool false)), type := 4, pos := "law.go:49", after := #[{ on := 26, ground := Go.Ground.data }, { on := 27, ground := Go.Ground.data }], guard := none }) (v := ?_) rfl (by kernel_rfl) (by kernel_rfl) (by kernel_rfl) (fun _ _ _ h => h) (Or.inl ⟨by rfl, ?_⟩) (hb6) ?_
      rotate_left 1
      · intro w5 hSw
        go_simp; all_goals (with_reducible rfl)
      try simp only [Act.put, List.setIfInBounds_toArray, List.set_cons_zero, List.set_cons_succ]
      refine wpAnyH_take (i := 29) (oi := { dst := some 68, op := Go.Op.move (Go.Operand.tmp 67), type := 4, pos := "law.go:49", after := #[{ on := 28, ground := Go.Ground.data }, { on := 26, ground := Go.Ground.chain }], guard := none }) (v := ?_) rfl (by kernel_rfl) (by kernel_rfl) (by kernel_rfl) (fun _ _ _ h => h) (Or.inl ⟨by rfl, ?_⟩) (hb6) ?_
      rotate_left 1
      · intro w5 hSw
        go_simp; all_goals (with_reducible rfl)
      try simp only [Act.put, List.setIfInBounds_toArray, List.set_cons_zero, List.set_cons_succ]
      refine wpAnyH_ready (rs := [30]) (by kernel_rfl) (by simp) ?_
      refine AllReadyH.cons (o := { dst := some 69, op := Go.Op.call { callee := Go.Callee.value (Go.Operand.func 6), args := #[], argTypes := #[] }, type := 4, pos := "law.go:49", after := #[{ on := 29, ground := Go.Ground.chain }, { on := 29, ground := Go.Ground.guard }], guard := some (29, true) }) rfl (fun K hK => ?_) AllReadyH.nil
      go_simp
      refine (HLV.out Y6).mono ?_; rintro e Y7 ⟨rfl, hb⟩; have hb7 := keepBelow hb hb6; clear hb hb6
      go_wp2_with fail
      refine hK.out _ _ (hb7) (fun _ => ?_)
      clear hK K
      try simp only [Act.put, List.setIfInBounds_toArray, List.set_cons_zero, List.set_cons_succ]
      refine wpAnyH_take (i := 31) (oi := { dst := some 70, op := Go.Op.pick (Go.Operand.tmp 68) (Go.Operand.tmp 69) (Go.Operand.const (Go.Value.bool false)), type := 4, pos := "law.go:49", after := #[{ on := 29, ground := Go.Ground.data }, { on := 30, ground := Go.Ground.data }], guard := none }) (v := ?_) rfl (by kernel_rfl) (by kernel_rfl) (by kernel_rfl) (fun _ _ _ h => h) (Or.inl ⟨by rfl, ?_⟩) (hb7) ?_
      rotate_left 1
      · intro w5 hSw
        go_simp; all_goals (with_reducible rfl)
      try simp only [Act.put, List.setIfInBounds_toArray, List.set_cons_zero, List.set_cons_succ]
      refine wpAnyH_take (i := 32) (oi := { dst := some 6, op := Go.Op.assign (Go.Operand.tmp 70), type := 4, pos := "law.go:49", after := #[{ on := 31, ground := Go.Ground.data }, { on := 30, ground := Go.Ground.chain }, { on := 0, ground := Go.Ground.phase }, { on := 1, ground := Go.Ground.phase }, { on := 2, ground := Go.Ground.phase }, { on := 3, ground := Go.Ground.phase }, { on := 4, ground := Go.Ground.phase }, { on := 5, ground := Go.Ground.phase }, { on := 6, ground := Go.Ground.phase }, { on := 7, ground := Go.Ground.phase }, { on := 8, ground := Go.Ground.phase }, { on := 9, ground := Go.Ground.phase }, { on := 10, ground := Go.Ground.phase }, { on := 11, ground := Go.Ground.phase }, { on := 12, ground := Go.Ground.phase }, { on := 13, ground := Go.Ground.phase }, { on := 14, ground := Go.Ground.phase }, { on := 15, ground := Go.Ground.phase }, { on := 16, ground := Go.Ground.phase }, { on := 17, ground := Go.Ground.phase }, { on := 18, ground := Go.Ground.phase }, { on := 19, ground := Go.Ground.phase }, { on := 20, ground := Go.Ground.phase }, { on := 21, ground := Go.Ground.phase }, { on := 22, ground := Go.Ground.phase }, { on := 23, ground := Go.Ground.phase }, { on := 24, ground := Go.Ground.phase }, { on := 25, ground := Go.Ground.phase }, { on := 26, ground := Go.Ground.phase }, { on := 27, ground := Go.Ground.phase }, { on := 28, ground := Go.Ground.phase }, { on := 29, ground := Go.Ground.phase }, { on := 30, ground := Go.Ground.phase }, { on := 31, ground := Go.Ground.phase }], guard := none }) (v := ?_) rfl (by kernel_rfl) (by kernel_rfl) (by kernel_rfl) (fun _ _ _ h => h) (Or.inl ⟨by rfl, ?_⟩) (hb7) ?_
      rotate_left 1
      · intro w5 hSw
        go_simp; all_goals (with_reducible rfl)
      try simp only [Act.put, List.setIfInBounds_toArray, List.set_cons_zero, List.set_cons_succ]
      refine wpAnyH_done (by kernel_rfl) ?_ _
      have HF : Hid (Below w.heap.size w Y7) := HBZ.out.trans ((show Below Z.heap.size Z Y7 from ⟨hb7.os, hb7.tape, hb7.output, hb7.size, hb7.block⟩).mono HBZ.out.size)
      clear hb7
      go_wp2_with fail
      go_ret
      exact ⟨rfl, HF.out⟩
    · have g2 : decide (0 < o) = false := decide_eq_false g1
      refine (HO1.out _).mono ?_
      rintro e Y ⟨rfl, hb⟩
      have HB := Lib.hid (HB.out.trans (hb.mono HB.out.size))
      have x0 := (hb.cell hlu).trans x0
      have x1 := (hb.cell hlu).trans x1
      have x2 := (hb.cell hlu).trans x2
      have y0 := (hb.cell hlv).trans y0
      have y1 := (hb.cell hlv).trans y1
      have y2 := (hb.cell hlv).trans y2
      have z0 := (hb.cell hlt).trans z0
      have z1 := (hb.cell hlt).trans z1
      have z2 := (hb.cell hlt).trans z2
      have hlu := Nat.lt_of_lt_of_le hlu hb.size
      have hlv := Nat.lt_of_lt_of_le hlv hb.size
      have hlt := Nat.lt_of_lt_of_le hlt hb.size
      clear hb
      go_wp2_with fail
      by_cases g3 : 0 < o2
      · have g4 : decide (0 < o2) = true := decide_eq_true g3
        refine (HOvt.out _).mono ?_
        rintro e Z ⟨rfl, hb⟩
        have HB := Lib.hid (HB.out.trans (hb.mono HB.out.size))
        have x0 := (hb.cell hlu).trans x0
        have x1 := (hb.cell hlu).trans x1
        have x2 := (hb.cell hlu).trans x2
        have y0 := (hb.cell hlv).trans y0
        have y1 := (hb.cell hlv).trans y1
        have y2 := (hb.cell hlv).trans y2
        have z0 := (hb.cell hlt).trans z0
        have z1 := (hb.cell hlt).trans z1
        have z2 := (hb.cell hlt).trans z2
        have hlu := Nat.lt_of_lt_of_le hlu hb.size
        have hlv := Nat.lt_of_lt_of_le hlv hb.size
        have hlt := Nat.lt_of_lt_of_le hlt hb.size
        clear hb
        go_upto_region 4 with (fail)
        have HBZ := HB
        have hbu : bu < Z.drew.heap.size := hlu
        have hbv : bv < Z.drew.heap.size := hlv
        have hbt : bt < Z.drew.heap.size := hlt
        clear HB
        refine held_start (by kernel_rfl) ?_
        refine wpAnyH_take (i := 0) (oi := { dst := some 39, op := Go.Op.load 24 (Go.Operand.tmp 3), type := 24, pos := "law.go:49", after := #[], guard := none }) (v := ?_) rfl (by kernel_rfl) (by kernel_rfl) (by kernel_rfl) (fun _ _ _ h => h) (Or.inl ⟨by rfl, ?_⟩) (Kp.refl _) ?_
        rotate_left 1
        · intro w5 hSw
          have q0 : w5.cell? ⟨bu, 0, none⟩ = some (.int .i64 k1) := (hSw.cell hbu).trans x0
          have q1 : w5.cell? ⟨bu, 1, none⟩ = some (.string s1) := (hSw.cell hbu).trans x1
          have q2 : w5.cell? ⟨bu, 2, none⟩ = some (.int .u64 (c1 : Int)) := (hSw.cell hbu).trans x2
          go_simp; all_goals (with_reducible rfl)
        try simp only [Act.put, List.setIfInBounds_toArray, List.set_cons_zero, List.set_cons_succ]
        refine wpAnyH_take (i := 1) (oi := { dst := some 40, op := Go.Op.load 24 (Go.Operand.tmp 4), type := 24, pos := "law.go:49", after := #[], guard := none }) (v := ?_) rfl (by kernel_rfl) (by kernel_rfl) (by kernel_rfl) (fun _ _ _ h => h) (Or.inl ⟨by rfl, ?_⟩) (Kp.refl _) ?_
        rotate_left 1
        · intro w5 hSw
          have q0 : w5.cell? ⟨bv, 0, none⟩ = some (.int .i64 k2) := (hSw.cell hbv).trans y0
          have q1 : w5.cell? ⟨bv, 1, none⟩ = some (.string s2) := (hSw.cell hbv).trans y1
          have q2 : w5.cell? ⟨bv, 2, none⟩ = some (.int .u64 (c2 : Int)) := (hSw.cell hbv).trans y2
          go_simp; all_goals (with_reducible rfl)
        try simp only [Act.put, List.setIfInBounds_toArray, List.set_cons_zero, List.set_cons_succ]
        refine wpAnyH_take (i := 3) (oi := { dst := some 42, op := Go.Op.load 24 (Go.Operand.tmp 3), type := 24, pos := "law.go:49", after := #[], guard := none }) (v := ?_) rfl (by kernel_rfl) (by kernel_rfl) (by kernel_rfl) (fun _ _ _ h => h) (Or.inl ⟨by rfl, ?_⟩) (Kp.refl _) ?_
        rotate_left 1
        · intro w5 hSw
          have q0 : w5.cell? ⟨bu, 0, none⟩ = some (.int .i64 k1) := (hSw.cell hbu).trans x0
          have q1 : w5.cell? ⟨bu, 1, none⟩ = some (.string s1) := (hSw.cell hbu).trans x1
          have q2 : w5.cell? ⟨bu, 2, none⟩ = some (.int .u64 (c1 : Int)) := (hSw.cell hbu).trans x2
          go_simp; all_goals (with_reducible rfl)
        try simp only [Act.put, List.setIfInBounds_toArray, List.set_cons_zero, List.set_cons_succ]
        refine wpAnyH_take (i := 4) (oi := { dst := some 43, op := Go.Op.load 24 (Go.Operand.tmp 4), type := 24, pos := "law.go:49", after := #[], guard := none }) (v := ?_) rfl (by kernel_rfl) (by kernel_rfl) (by kernel_rfl) (fun _ _ _ h => h) (Or.inl ⟨by rfl, ?_⟩) (Kp.refl _) ?_
        rotate_left 1
        · intro w5 hSw
          have q0 : w5.cell? ⟨bv, 0, none⟩ = some (.int .i64 k2) := (hSw.cell hbv).trans y0
          have q1 : w5.cell? ⟨bv, 1, none⟩ = some (.string s2) := (hSw.cell hbv).trans y1
          have q2 : w5.cell? ⟨bv, 2, none⟩ = some (.int .u64 (c2 : Int)) := (hSw.cell hbv).trans y2
          go_simp; all_goals (with_reducible rfl)
        try simp only [Act.put, List.setIfInBounds_toArray, List.set_cons_zero, List.set_cons_succ]
        refine wpAnyH_ready (rs := [2]) (by kernel_rfl) (by simp) ?_
        refine AllReadyH.cons (o := { dst := some 41, op := Go.Op.call { callee := Go.Callee.value (Go.Operand.func 19), args := #[Go.Operand.tmp 39, Go.Operand.tmp 40], argTypes := #[24, 24] }, type := 4, pos := "law.go:49", after := #[{ on := 0, ground := Go.Ground.data }, { on := 1, ground := Go.Ground.data }], guard := none }) rfl (fun K hK => ?_) AllReadyH.nil
        go_simp
        refine (HS1.out Z.drew).mono ?_; rintro e Y1 ⟨rfl, hb⟩; have hb1 := hb; clear hb
        go_wp2_with fail
        refine hK.out _ _ (hb1) (fun _ => ?_)
        clear hK K
        try simp only [Act.put, List.setIfInBounds_toArray, List.set_cons_zero, List.set_cons_succ]
        refine wpAnyH_ready (rs := [5]) (by kernel_rfl) (by simp) ?_
        refine AllReadyH.cons (o := { dst := some 44, op := Go.Op.call { callee := Go.Callee.value (Go.Operand.func 20), args := #[Go.Operand.tmp 42, Go.Operand.tmp 43], argTypes := #[24, 24] }, type := 4, pos := "law.go:49", after := #[{ on := 3, ground := Go.Ground.data }, { on := 4, ground := Go.Ground.data }, { on := 2, ground := Go.Ground.chain }], guard := none }) rfl (fun K hK => ?_) AllReadyH.nil
        go_simp
        refine (HS2.out Y1).mono ?_; rintro e Y2 ⟨rfl, hb⟩; have hb2 := keepBelow hb hb1; clear hb hb1
        go_wp2_with fail
        refine hK.out _ _ (hb2) (fun _ => ?_)
        clear hK K
        try simp only [Act.put, List.setIfInBounds_toArray, List.set_cons_zero, List.set_cons_succ]
        refine wpAnyH_take (i := 6) (oi := { dst := some 45, op := Go.Op.binOp Go.BinOp.eql 4 (Go.Operand.tmp 41) (Go.Operand.tmp 44) 4, type := 4, pos := "law.go:49", after := #[{ on := 2, ground := Go.Ground.data }, { on := 5, ground := Go.Ground.data }], guard := none }) (v := ?_) rfl (by kernel_rfl) (by kernel_rfl) (by kernel_rfl) (fun _ _ _ h => h) (Or.inl ⟨by rfl, ?_⟩) (hb2) ?_
        rotate_left 1
        · intro w5 hSw
          go_simp; all_goals (with_reducible rfl)
        try simp only [Act.put, List.setIfInBounds_toArray, List.set_cons_zero, List.set_cons_succ]
        refine wpAnyH_take (i := 7) (oi := { dst := some 46, op := Go.Op.move (Go.Operand.tmp 45), type := 4, pos := "law.go:49", after := #[{ on := 6, ground := Go.Ground.data }, { on := 5, ground := Go.Ground.chain }], guard := none }) (v := ?_) rfl (by kernel_rfl) (by kernel_rfl) (by kernel_rfl) (fun _ _ _ h => h) (Or.inl ⟨by rfl, ?_⟩) (hb2) ?_
        rotate_left 1
        · intro w5 hSw
          go_simp; all_goals (with_reducible rfl)
        try simp only [Act.put, List.setIfInBounds_toArray, List.set_cons_zero, List.set_cons_succ]
        refine wpAnyH_take (i := 8) (oi := { dst := some 47, op := Go.Op.load 24 (Go.Operand.tmp 3), type := 24, pos := "law.go:49", after := #[{ on := 7, ground := Go.Ground.guard }], guard := some (7, true) }) (v := ?_) rfl (by kernel_rfl) (by kernel_rfl) (by kernel_rfl) (fun _ _ _ h => h) (Or.inl ⟨by rfl, ?_⟩) (hb2) ?_
        rotate_left 1
        · intro w5 hSw
          have q0 : w5.cell? ⟨bu, 0, none⟩ = some (.int .i64 k1) := (hSw.cell hbu).trans x0
          have q1 : w5.cell? ⟨bu, 1, none⟩ = some (.string s1) := (hSw.cell hbu).trans x1
          have q2 : w5.cell? ⟨bu, 2, none⟩ = some (.int .u64 (c1 : Int)) := (hSw.cell hbu).trans x2
          go_simp; all_goals (with_reducible rfl)
        try simp only [Act.put, List.setIfInBounds_toArray, List.set_cons_zero, List.set_cons_succ]
        refine wpAnyH_take (i := 9) (oi := { dst := some 48, op := Go.Op.load 24 (Go.Operand.tmp 4), type := 24, pos := "law.go:49", after := #[{ on := 7, ground := Go.Ground.guard }], guard := some (7, true) }) (v := ?_) rfl (by kernel_rfl) (by kernel_rfl) (by kernel_rfl) (fun _ _ _ h => h) (Or.inl ⟨by rfl, ?_⟩) (hb2) ?_
        rotate_left 1
        · intro w5 hSw
          have q0 : w5.cell? ⟨bv, 0, none⟩ = some (.int .i64 k2) := (hSw.cell hbv).trans y0
          have q1 : w5.cell? ⟨bv, 1, none⟩ = some (.string s2) := (hSw.cell hbv).trans y1
          have q2 : w5.cell? ⟨bv, 2, none⟩ = some (.int .u64 (c2 : Int)) := (hSw.cell hbv).trans y2
          go_simp; all_goals (with_reducible rfl)
        try simp only [Act.put, List.setIfInBounds_toArray, List.set_cons_zero, List.set_cons_succ]
        refine wpAnyH_take (i := 11) (oi := { dst := some 50, op := Go.Op.load 24 (Go.Operand.tmp 3), type := 24, pos := "law.go:49", after := #[{ on := 7, ground := Go.Ground.guard }], guard := some (7, true) }) (v := ?_) rfl (by kernel_rfl) (by kernel_rfl) (by kernel_rfl) (fun _ _ _ h => h) (Or.inl ⟨by rfl, ?_⟩) (hb2) ?_
        rotate_left 1
        · intro w5 hSw
          have q0 : w5.cell? ⟨bu, 0, none⟩ = some (.int .i64 k1) := (hSw.cell hbu).trans x0
          have q1 : w5.cell? ⟨bu, 1, none⟩ = some (.string s1) := (hSw.cell hbu).trans x1
          have q2 : w5.cell? ⟨bu, 2, none⟩ = some (.int .u64 (c1 : Int)) := (hSw.cell hbu).trans x2
          go_simp; all_goals (with_reducible rfl)
        try simp only [Act.put, List.setIfInBounds_toArray, List.set_cons_zero, List.set_cons_succ]
        refine wpAnyH_take (i := 12) (oi := { dst := some 51, op := Go.Op.load 24 (Go.Operand.tmp 4), type := 24, pos := "law.go:49", after := #[{ on := 7, ground := Go.Ground.guard }], guard := some (7, true) }) (v := ?_) rfl (by kernel_rfl) (by kernel_rfl) (by kernel_rfl) (fun _ _ _ h => h) (Or.inl ⟨by rfl, ?_⟩) (hb2) ?_
        rotate_left 1
        · intro w5 hSw
          have q0 : w5.cell? ⟨bv, 0, none⟩ = some (.int .i64 k2) := (hSw.cell hbv).trans y0
          have q1 : w5.cell? ⟨bv, 1, none⟩ = some (.string s2) := (hSw.cell hbv).trans y1
          have q2 : w5.cell? ⟨bv, 2, none⟩ = some (.int .u64 (c2 : Int)) := (hSw.cell hbv).trans y2
          go_simp; all_goals (with_reducible rfl)
        try simp only [Act.put, List.setIfInBounds_toArray, List.set_cons_zero, List.set_cons_succ]
        refine wpAnyH_ready (rs := [10]) (by kernel_rfl) (by simp) ?_
        refine AllReadyH.cons (o := { dst := some 49, op := Go.Op.call { callee := Go.Callee.value (Go.Operand.func 18), args := #[Go.Operand.tmp 47, Go.Operand.tmp 48], argTypes := #[24, 24] }, type := 3, pos := "law.go:49", after := #[{ on := 8, ground := Go.Ground.data }, { on := 9, ground := Go.Ground.data }, { on := 7, ground := Go.Ground.chain }, { on := 7, ground := Go.Ground.guard }], guard := some (7, true) }) rfl (fun K hK => ?_) AllReadyH.nil
        go_simp
        refine (HO1.out Y2).mono ?_; rintro e Y3 ⟨rfl, hb⟩; have hb3 := keepBelow hb hb2; clear hb hb2
        go_wp2_with fail
        refine hK.out _ _ (hb3) (fun _ => ?_)
        clear hK K
        try simp only [Act.put, List.setIfInBounds_toArray, List.set_cons_zero, List.set_cons_succ]
        refine wpAnyH_ready (rs := [13]) (by kernel_rfl) (by simp) ?_
        refine AllReadyH.cons (o := { dst := some 52, op := Go.Op.call { callee := Go.Callee.value (Go.Operand.func 21), args := #[Go.Operand.tmp 50, Go.Operand.tmp 51], argTypes := #[24, 24] }, type := 3, pos := "law.go:49", after := #[{ on := 11, ground := Go.Ground.data }, { on := 12, ground := Go.Ground.data }, { on := 10, ground := Go.Ground.chain }, { on := 7, ground := Go.Ground.guard }], guard := some (7, true) }) rfl (fun K hK => ?_) AllReadyH.nil
        go_simp
        refine (HR.out Y3).mono ?_; rintro e Y4 ⟨rfl, hb⟩; have hb4 := keepBelow hb hb3; clear hb hb3
        go_wp2_with fail
        refine hK.out _ _ (hb4) (fun _ => ?_)
        clear hK K
        try simp only [Act.put, List.setIfInBounds_toArray, List.set_cons_zero, List.set_cons_succ]
        refine wpAnyH_take (i := 14) (oi := { dst := some 53, op := Go.Op.binOp Go.BinOp.eql 3 (Go.Operand.tmp 49) (Go.Operand.tmp 52) 3, type := 4, pos := "law.go:49", after := #[{ on := 10, ground := Go.Ground.data }, { on := 13, ground := Go.Ground.data }, { on := 7, ground := Go.Ground.guard }], guard := some (7, true) }) (v := ?_) rfl (by kernel_rfl) (by kernel_rfl) (by kernel_rfl) (fun _ _ _ h => h) (Or.inl ⟨by rfl, ?_⟩) (hb4) ?_
        rotate_left 1
        · intro w5 hSw
          go_simp; all_goals (with_reducible rfl)
        try simp only [Act.put, List.setIfInBounds_toArray, List.set_cons_zero, List.set_cons_succ]
        refine wpAnyH_take (i := 15) (oi := { dst := some 54, op := Go.Op.pick (Go.Operand.tmp 46) (Go.Operand.tmp 53) (Go.Operand.const (Go.Value.bool false)), type := 4, pos := "law.go:49", after := #[{ on := 7, ground := Go.Ground.data }, { on := 14, ground := Go.Ground.data }], guard := none }) (v := ?_) rfl (by kernel_rfl) (by kernel_rfl) (by kernel_rfl) (fun _ _ _ h => h) (Or.inl ⟨by rfl, ?_⟩) (hb4) ?_
        rotate_left 1
        · intro w5 hSw
          go_simp; all_goals (with_reducible rfl)
        try simp only [Act.put, List.setIfInBounds_toArray, List.set_cons_zero, List.set_cons_succ]
        refine wpAnyH_take (i := 16) (oi := { dst := some 55, op := Go.Op.move (Go.Operand.tmp 54), type := 4, pos := "law.go:49", after := #[{ on := 15, ground := Go.Ground.data }, { on := 13, ground := Go.Ground.chain }], guard := none }) (v := ?_) rfl (by kernel_rfl) (by kernel_rfl) (by kernel_rfl) (fun _ _ _ h => h) (Or.inl ⟨by rfl, ?_⟩) (hb4) ?_
        rotate_left 1
        · intro w5 hSw
          go_simp; all_goals (with_reducible rfl)
        try simp only [Act.put, List.setIfInBounds_toArray, List.set_cons_zero, List.set_cons_succ]
        refine wpAnyH_take (i := 17) (oi := { dst := some 56, op := Go.Op.load 24 (Go.Operand.tmp 4), type := 24, pos := "law.go:49", after := #[{ on := 16, ground := Go.Ground.guard }], guard := some (16, true) }) (v := ?_) rfl (by kernel_rfl) (by kernel_rfl) (by kernel_rfl) (fun _ _ _ h => h) (Or.inl ⟨by rfl, ?_⟩) (hb4) ?_
        rotate_left 1
        · intro w5 hSw
          have q0 : w5.cell? ⟨bv, 0, none⟩ = some (.int .i64 k2) := (hSw.cell hbv).trans y0
          have q1 : w5.cell? ⟨bv, 1, none⟩ = some (.string s2) := (hSw.cell hbv).trans y1
          have q2 : w5.cell? ⟨bv, 2, none⟩ = some (.int .u64 (c2 : Int)) := (hSw.cell hbv).trans y2
          go_simp; all_goals (with_reducible rfl)
        try simp only [Act.put, List.setIfInBounds_toArray, List.set_cons_zero, List.set_cons_succ]
        refine wpAnyH_take (i := 18) (oi := { dst := some 57, op := Go.Op.load 24 (Go.Operand.tmp 3), type := 24, pos := "law.go:49", after := #[{ on := 16, ground := Go.Ground.guard }], guard := some (16, true) }) (v := ?_) rfl (by kernel_rfl) (by kernel_rfl) (by kernel_rfl) (fun _ _ _ h => h) (Or.inl ⟨by rfl, ?_⟩) (hb4) ?_
        rotate_left 1
        · intro w5 hSw
          have q0 : w5.cell? ⟨bu, 0, none⟩ = some (.int .i64 k1) := (hSw.cell hbu).trans x0
          have q1 : w5.cell? ⟨bu, 1, none⟩ = some (.string s1) := (hSw.cell hbu).trans x1
          have q2 : w5.cell? ⟨bu, 2, none⟩ = some (.int .u64 (c1 : Int)) := (hSw.cell hbu).trans x2
          go_simp; all_goals (with_reducible rfl)
        try simp only [Act.put, List.setIfInBounds_toArray, List.set_cons_zero, List.set_cons_succ]
        refine wpAnyH_take (i := 20) (oi := { dst := some 59, op := Go.Op.load 24 (Go.Operand.tmp 3), type := 24, pos := "law.go:49", after := #[{ on := 16, ground := Go.Ground.guard }], guard := some (16, true) }) (v := ?_) rfl (by kernel_rfl) (by kernel_rfl) (by kernel_rfl) (fun _ _ _ h => h) (Or.inl ⟨by rfl, ?_⟩) (hb4) ?_
        rotate_left 1
        · intro w5 hSw
          have q0 : w5.cell? ⟨bu, 0, none⟩ = some (.int .i64 k1) := (hSw.cell hbu).trans x0
          have q1 : w5.cell? ⟨bu, 1, none⟩ = some (.string s1) := (hSw.cell hbu).trans x1
          have q2 : w5.cell? ⟨bu, 2, none⟩ = some (.int .u64 (c1 : Int)) := (hSw.cell hbu).trans x2
          go_simp; all_goals (with_reducible rfl)
        try simp only [Act.put, List.setIfInBounds_toArray, List.set_cons_zero, List.set_cons_succ]
        refine wpAnyH_take (i := 21) (oi := { dst := some 60, op := Go.Op.load 24 (Go.Operand.tmp 4), type := 24, pos := "law.go:49", after := #[{ on := 16, ground := Go.Ground.guard }], guard := some (16, true) }) (v := ?_) rfl (by kernel_rfl) (by kernel_rfl) (by kernel_rfl) (fun _ _ _ h => h) (Or.inl ⟨by rfl, ?_⟩) (hb4) ?_
        rotate_left 1
        · intro w5 hSw
          have q0 : w5.cell? ⟨bv, 0, none⟩ = some (.int .i64 k2) := (hSw.cell hbv).trans y0
          have q1 : w5.cell? ⟨bv, 1, none⟩ = some (.string s2) := (hSw.cell hbv).trans y1
          have q2 : w5.cell? ⟨bv, 2, none⟩ = some (.int .u64 (c2 : Int)) := (hSw.cell hbv).trans y2
          go_simp; all_goals (with_reducible rfl)
        try simp only [Act.put, List.setIfInBounds_toArray, List.set_cons_zero, List.set_cons_succ]
        refine wpAnyH_ready (rs := [19]) (by kernel_rfl) (by simp) ?_
        refine AllReadyH.cons (o := { dst := some 58, op := Go.Op.call { callee := Go.Callee.value (Go.Operand.func 18), args := #[Go.Operand.tmp 56, Go.Operand.tmp 57], argTypes := #[24, 24] }, type := 3, pos := "law.go:49", after := #[{ on := 17, ground := Go.Ground.data }, { on := 18, ground := Go.Ground.data }, { on := 16, ground := Go.Ground.chain }, { on := 16, ground := Go.Ground.guard }], guard := some (16, true) }) rfl (fun K hK => ?_) AllReadyH.nil
        go_simp
        refine (HO3.out Y4).mono ?_; rintro e Y5 ⟨rfl, hb⟩; have hb5 := keepBelow hb hb4; clear hb hb4
        go_wp2_with fail
        refine hK.out _ _ (hb5) (fun _ => ?_)
        clear hK K
        try simp only [Act.put, List.setIfInBounds_toArray, List.set_cons_zero, List.set_cons_succ]
        refine wpAnyH_ready (rs := [22]) (by kernel_rfl) (by simp) ?_
        refine AllReadyH.cons (o := { dst := some 61, op := Go.Op.call { callee := Go.Callee.value (Go.Operand.func 21), args := #[Go.Operand.tmp 59, Go.Operand.tmp 60], argTypes := #[24, 24] }, type := 3, pos := "law.go:49", after := #[{ on := 20, ground := Go.Ground.data }, { on := 21, ground := Go.Ground.data }, { on := 19, ground := Go.Ground.chain }, { on := 16, ground := Go.Ground.guard }], guard := some (16, true) }) rfl (fun K hK => ?_) AllReadyH.nil
        go_simp
        refine (HR.out Y5).mono ?_; rintro e Y6 ⟨rfl, hb⟩; have hb6 := keepBelow hb hb5; clear hb hb5
        go_wp2_with fail
        refine hK.out _ _ (hb6) (fun _ => ?_)
        clear hK K
        try simp only [Act.put, List.setIfInBounds_toArray, List.set_cons_zero, List.set_cons_succ]
        refine wpAnyH_take (i := 23) (oi := { dst := some 62, op := Go.Op.unOp Go.UnOp.neg 3 (Go.Operand.tmp 61), type := 3, pos := "law.go:49", after := #[{ on := 22, ground := Go.Ground.data }, { on := 16, ground := Go.Ground.guard }], guard := some (16, true) }) (v := ?_) rfl (by kernel_rfl) (by kernel_rfl) (by kernel_rfl) (fun _ _ _ h => h) (Or.inl ⟨by rfl, ?_⟩) (hb6) ?_
        rotate_left 1
        · intro w5 hSw
          go_simp; all_goals (with_reducible rfl)
        try simp only [Act.put, List.setIfInBounds_toArray, List.set_cons_zero, List.set_cons_succ]
        refine wpAnyH_take (i := 24) (oi := { dst := some 63, op := Go.Op.binOp Go.BinOp.eql 3 (Go.Operand.tmp 58) (Go.Operand.tmp 62) 3, type := 4, pos := "law.go:49", after := #[{ on := 19, ground := Go.Ground.data }, { on := 23, ground := Go.Ground.data }, { on := 16, ground := Go.Ground.guard }], guard := some (16, true) }) (v := ?_) rfl (by kernel_rfl) (by kernel_rfl) (by kernel_rfl) (fun _ _ _ h => h) (Or.inl ⟨by rfl, ?_⟩) (hb6) ?_
        rotate_left 1
        · intro w5 hSw
          go_simp; all_goals (with_reducible rfl)
        try simp only [Act.put, List.setIfInBounds_toArray, List.set_cons_zero, List.set_cons_succ]
        refine wpAnyH_take (i := 25) (oi := { dst := some 64, op := Go.Op.pick (Go.Operand.tmp 55) (Go.Operand.tmp 63) (Go.Operand.const (Go.Value.bool false)), type := 4, pos := "law.go:49", after := #[{ on := 16, ground := Go.Ground.data }, { on := 24, ground := Go.Ground.data }], guard := none }) (v := ?_) rfl (by kernel_rfl) (by kernel_rfl) (by kernel_rfl) (fun _ _ _ h => h) (Or.inl ⟨by rfl, ?_⟩) (hb6) ?_
        rotate_left 1
        · intro w5 hSw
          go_simp; all_goals (with_reducible rfl)
        try simp only [Act.put, List.setIfInBounds_toArray, List.set_cons_zero, List.set_cons_succ]
        refine wpAnyH_take (i := 26) (oi := { dst := some 65, op := Go.Op.move (Go.Operand.tmp 64), type := 4, pos := "law.go:49", after := #[{ on := 25, ground := Go.Ground.data }, { on := 22, ground := Go.Ground.chain }], guard := none }) (v := ?_) rfl (by kernel_rfl) (by kernel_rfl) (by kernel_rfl) (fun _ _ _ h => h) (Or.inl ⟨by rfl, ?_⟩) (hb6) ?_
        rotate_left 1
        · intro w5 hSw
          go_simp; all_goals (with_reducible rfl)
        try simp only [Act.put, List.setIfInBounds_toArray, List.set_cons_zero, List.set_cons_succ]
        refine wpAnyH_take (i := 27) (oi := { dst := some 66, op := Go.Op.move (Go.Operand.tmp 7), type := 4, pos := "law.go:49", after := #[{ on := 26, ground := Go.Ground.guard }], guard := some (26, true) }) (v := ?_) rfl (by kernel_rfl) (by kernel_rfl) (by kernel_rfl) (fun _ _ _ h => h) (Or.inl ⟨by rfl, ?_⟩) (hb6) ?_
        rotate_left 1
        · intro w5 hSw
          go_simp; all_goals (with_reducible rfl)
        try simp only [Act.put, List.setIfInBounds_toArray, List.set_cons_zero, List.set_cons_succ]
        refine wpAnyH_take (i := 28) (oi := { dst := some 67, op := Go.Op.pick (Go.Operand.tmp 65) (Go.Operand.tmp 66) (Go.Operand.const (Go.Value.bool false)), type := 4, pos := "law.go:49", after := #[{ on := 26, ground := Go.Ground.data }, { on := 27, ground := Go.Ground.data }], guard := none }) (v := ?_) rfl (by kernel_rfl) (by kernel_rfl) (by kernel_rfl) (fun _ _ _ h => h) (Or.inl ⟨by rfl, ?_⟩) (hb6) ?_
        rotate_left 1
        · intro w5 hSw
          go_simp; all_goals (with_reducible rfl)
        try simp only [Act.put, List.setIfInBounds_toArray, List.set_cons_zero, List.set_cons_succ]
        refine wpAnyH_take (i := 29) (oi := { dst := some 68, op := Go.Op.move (Go.Operand.tmp 67), type := 4, pos := "law.go:49", after := #[{ on := 28, ground := Go.Ground.data }, { on := 26, ground := Go.Ground.chain }], guard := none }) (v := ?_) rfl (by kernel_rfl) (by kernel_rfl) (by kernel_rfl) (fun _ _ _ h => h) (Or.inl ⟨by rfl, ?_⟩) (hb6) ?_
        rotate_left 1
        · intro w5 hSw
          go_simp; all_goals (with_reducible rfl)
        try simp only [Act.put, List.setIfInBounds_toArray, List.set_cons_zero, List.set_cons_succ]
        refine wpAnyH_ready (rs := [30]) (by kernel_rfl) (by simp) ?_
        refine AllReadyH.cons (o := { dst := some 69, op := Go.Op.call { callee := Go.Callee.value (Go.Operand.func 6), args := #[], argTypes := #[] }, type := 4, pos := "law.go:49", after := #[{ on := 29, ground := Go.Ground.chain }, { on := 29, ground := Go.Ground.guard }], guard := some (29, true) }) rfl (fun K hK => ?_) AllReadyH.nil
        go_simp
        refine (HLV.out Y6).mono ?_; rintro e Y7 ⟨rfl, hb⟩; have hb7 := keepBelow hb hb6; clear hb hb6
        go_wp2_with fail
        refine hK.out _ _ (hb7) (fun _ => ?_)
        clear hK K
        try simp only [Act.put, List.setIfInBounds_toArray, List.set_cons_zero, List.set_cons_succ]
        refine wpAnyH_take (i := 31) (oi := { dst := some 70, op := Go.Op.pick (Go.Operand.tmp 68) (Go.Operand.tmp 69) (Go.Operand.const (Go.Value.bool false)), type := 4, pos := "law.go:49", after := #[{ on := 29, ground := Go.Ground.data }, { on := 30, ground := Go.Ground.data }], guard := none }) (v := ?_) rfl (by kernel_rfl) (by kernel_rfl) (by kernel_rfl) (fun _ _ _ h => h) (Or.inl ⟨by rfl, ?_⟩) (hb7) ?_
        rotate_left 1
        · intro w5 hSw
          go_simp; all_goals (with_reducible rfl)
        try simp only [Act.put, List.setIfInBounds_toArray, List.set_cons_zero, List.set_cons_succ]
        refine wpAnyH_take (i := 32) (oi := { dst := some 6, op := Go.Op.assign (Go.Operand.tmp 70), type := 4, pos := "law.go:49", after := #[{ on := 31, ground := Go.Ground.data }, { on := 30, ground := Go.Ground.chain }, { on := 0, ground := Go.Ground.phase }, { on := 1, ground := Go.Ground.phase }, { on := 2, ground := Go.Ground.phase }, { on := 3, ground := Go.Ground.phase }, { on := 4, ground := Go.Ground.phase }, { on := 5, ground := Go.Ground.phase }, { on := 6, ground := Go.Ground.phase }, { on := 7, ground := Go.Ground.phase }, { on := 8, ground := Go.Ground.phase }, { on := 9, ground := Go.Ground.phase }, { on := 10, ground := Go.Ground.phase }, { on := 11, ground := Go.Ground.phase }, { on := 12, ground := Go.Ground.phase }, { on := 13, ground := Go.Ground.phase }, { on := 14, ground := Go.Ground.phase }, { on := 15, ground := Go.Ground.phase }, { on := 16, ground := Go.Ground.phase }, { on := 17, ground := Go.Ground.phase }, { on := 18, ground := Go.Ground.phase }, { on := 19, ground := Go.Ground.phase }, { on := 20, ground := Go.Ground.phase }, { on := 21, ground := Go.Ground.phase }, { on := 22, ground := Go.Ground.phase }, { on := 23, ground := Go.Ground.phase }, { on := 24, ground := Go.Ground.phase }, { on := 25, ground := Go.Ground.phase }, { on := 26, ground := Go.Ground.phase }, { on := 27, ground := Go.Ground.phase }, { on := 28, ground := Go.Ground.phase }, { on := 29, ground := Go.Ground.phase }, { on := 30, ground := Go.Ground.phase }, { on := 31, ground := Go.Ground.phase }], guard := none }) (v := ?_) rfl (by kernel_rfl) (by kernel_rfl) (by kernel_rfl) (fun _ _ _ h => h) (Or.inl ⟨by rfl, ?_⟩) (hb7) ?_
        rotate_left 1
        · intro w5 hSw
          go_simp; all_goals (with_reducible rfl)
        try simp only [Act.put, List.setIfInBounds_toArray, List.set_cons_zero, List.set_cons_succ]
        refine wpAnyH_done (by kernel_rfl) ?_ _
        have HF : Hid (Below w.heap.size w Y7) := HBZ.out.trans ((show Below Z.heap.size Z Y7 from ⟨hb7.os, hb7.tape, hb7.output, hb7.size, hb7.block⟩).mono HBZ.out.size)
        clear hb7
        go_wp2_with fail
        go_ret
        exact ⟨rfl, HF.out⟩
      · have g4 : decide (0 < o2) = false := decide_eq_false g3
        refine (HOvt.out _).mono ?_
        rintro e Y2 ⟨rfl, hb⟩
        have HB := Lib.hid (HB.out.trans (hb.mono HB.out.size))
        have x0 := (hb.cell hlu).trans x0
        have x1 := (hb.cell hlu).trans x1
        have x2 := (hb.cell hlu).trans x2
        have y0 := (hb.cell hlv).trans y0
        have y1 := (hb.cell hlv).trans y1
        have y2 := (hb.cell hlv).trans y2
        have z0 := (hb.cell hlt).trans z0
        have z1 := (hb.cell hlt).trans z1
        have z2 := (hb.cell hlt).trans z2
        have hlu := Nat.lt_of_lt_of_le hlu hb.size
        have hlv := Nat.lt_of_lt_of_le hlv hb.size
        have hlt := Nat.lt_of_lt_of_le hlt hb.size
        clear hb
        go_wp2_with fail
        have g5 : decide (o3 ≤ 0) = true := decide_eq_true (htr (by omega) (by omega))
        refine (HOut.out _).mono ?_
        rintro e Z ⟨rfl, hb⟩
        have HB := Lib.hid (HB.out.trans (hb.mono HB.out.size))
        have x0 := (hb.cell hlu).trans x0
        have x1 := (hb.cell hlu).trans x1
        have x2 := (hb.cell hlu).trans x2
        have y0 := (hb.cell hlv).trans y0
        have y1 := (hb.cell hlv).trans y1
        have y2 := (hb.cell hlv).trans y2
        have z0 := (hb.cell hlt).trans z0
        have z1 := (hb.cell hlt).trans z1
        have z2 := (hb.cell hlt).trans z2
        have hlu := Nat.lt_of_lt_of_le hlu hb.size
        have hlv := Nat.lt_of_lt_of_le hlv hb.size
        have hlt := Nat.lt_of_lt_of_le hlt hb.size
        clear hb
        go_upto_region 4 with (fail)
        have HBZ := HB
        have hbu : bu < Z.drew.heap.size := hlu
        have hbv : bv < Z.drew.heap.size := hlv
        have hbt : bt < Z.drew.heap.size := hlt
        clear HB
        refine held_start (by kernel_rfl) ?_
        refine wpAnyH_take (i := 0) (oi := { dst := some 39, op := Go.Op.load 24 (Go.Operand.tmp 3), type := 24, pos := "law.go:49", after := #[], guard := none }) (v := ?_) rfl (by kernel_rfl) (by kernel_rfl) (by kernel_rfl) (fun _ _ _ h => h) (Or.inl ⟨by rfl, ?_⟩) (Kp.refl _) ?_
        rotate_left 1
        · intro w5 hSw
          have q0 : w5.cell? ⟨bu, 0, none⟩ = some (.int .i64 k1) := (hSw.cell hbu).trans x0
          have q1 : w5.cell? ⟨bu, 1, none⟩ = some (.string s1) := (hSw.cell hbu).trans x1
          have q2 : w5.cell? ⟨bu, 2, none⟩ = some (.int .u64 (c1 : Int)) := (hSw.cell hbu).trans x2
          go_simp; all_goals (with_reducible rfl)
        try simp only [Act.put, List.setIfInBounds_toArray, List.set_cons_zero, List.set_cons_succ]
        refine wpAnyH_take (i := 1) (oi := { dst := some 40, op := Go.Op.load 24 (Go.Operand.tmp 4), type := 24, pos := "law.go:49", after := #[], guard := none }) (v := ?_) rfl (by kernel_rfl) (by kernel_rfl) (by kernel_rfl) (fun _ _ _ h => h) (Or.inl ⟨by rfl, ?_⟩) (Kp.refl _) ?_
        rotate_left 1
        · intro w5 hSw
          have q0 : w5.cell? ⟨bv, 0, none⟩ = some (.int .i64 k2) := (hSw.cell hbv).trans y0
          have q1 : w5.cell? ⟨bv, 1, none⟩ = some (.string s2) := (hSw.cell hbv).trans y1
          have q2 : w5.cell? ⟨bv, 2, none⟩ = some (.int .u64 (c2 : Int)) := (hSw.cell hbv).trans y2
          go_simp; all_goals (with_reducible rfl)
        try simp only [Act.put, List.setIfInBounds_toArray, List.set_cons_zero, List.set_cons_succ]
        refine wpAnyH_take (i := 3) (oi := { dst := some 42, op := Go.Op.load 24 (Go.Operand.tmp 3), type := 24, pos := "law.go:49", after := #[], guard := none }) (v := ?_) rfl (by kernel_rfl) (by kernel_rfl) (by kernel_rfl) (fun _ _ _ h => h) (Or.inl ⟨by rfl, ?_⟩) (Kp.refl _) ?_
        rotate_left 1
        · intro w5 hSw
          have q0 : w5.cell? ⟨bu, 0, none⟩ = some (.int .i64 k1) := (hSw.cell hbu).trans x0
          have q1 : w5.cell? ⟨bu, 1, none⟩ = some (.string s1) := (hSw.cell hbu).trans x1
          have q2 : w5.cell? ⟨bu, 2, none⟩ = some (.int .u64 (c1 : Int)) := (hSw.cell hbu).trans x2
          go_simp; all_goals (with_reducible rfl)
        try simp only [Act.put, List.setIfInBounds_toArray, List.set_cons_zero, List.set_cons_succ]
        refine wpAnyH_take (i := 4) (oi := { dst := some 43, op := Go.Op.load 24 (Go.Operand.tmp 4), type := 24, pos := "law.go:49", after := #[], guard := none }) (v := ?_) rfl (by kernel_rfl) (by kernel_rfl) (by kernel_rfl) (fun _ _ _ h => h) (Or.inl ⟨by rfl, ?_⟩) (Kp.refl _) ?_
        rotate_left 1
        · intro w5 hSw
          have q0 : w5.cell? ⟨bv, 0, none⟩ = some (.int .i64 k2) := (hSw.cell hbv).trans y0
          have q1 : w5.cell? ⟨bv, 1, none⟩ = some (.string s2) := (hSw.cell hbv).trans y1
          have q2 : w5.cell? ⟨bv, 2, none⟩ = some (.int .u64 (c2 : Int)) := (hSw.cell hbv).trans y2
          go_simp; all_goals (with_reducible rfl)
        try simp only [Act.put, List.setIfInBounds_toArray, List.set_cons_zero, List.set_cons_succ]
        refine wpAnyH_ready (rs := [2]) (by kernel_rfl) (by simp) ?_
        refine AllReadyH.cons (o := { dst := some 41, op := Go.Op.call { callee := Go.Callee.value (Go.Operand.func 19), args := #[Go.Operand.tmp 39, Go.Operand.tmp 40], argTypes := #[24, 24] }, type := 4, pos := "law.go:49", after := #[{ on := 0, ground := Go.Ground.data }, { on := 1, ground := Go.Ground.data }], guard := none }) rfl (fun K hK => ?_) AllReadyH.nil
        go_simp
        refine (HS1.out Z.drew).mono ?_; rintro e Y1 ⟨rfl, hb⟩; have hb1 := hb; clear hb
        go_wp2_with fail
        refine hK.out _ _ (hb1) (fun _ => ?_)
        clear hK K
        try simp only [Act.put, List.setIfInBounds_toArray, List.set_cons_zero, List.set_cons_succ]
        refine wpAnyH_ready (rs := [5]) (by kernel_rfl) (by simp) ?_
        refine AllReadyH.cons (o := { dst := some 44, op := Go.Op.call { callee := Go.Callee.value (Go.Operand.func 20), args := #[Go.Operand.tmp 42, Go.Operand.tmp 43], argTypes := #[24, 24] }, type := 4, pos := "law.go:49", after := #[{ on := 3, ground := Go.Ground.data }, { on := 4, ground := Go.Ground.data }, { on := 2, ground := Go.Ground.chain }], guard := none }) rfl (fun K hK => ?_) AllReadyH.nil
        go_simp
        refine (HS2.out Y1).mono ?_; rintro e Y2 ⟨rfl, hb⟩; have hb2 := keepBelow hb hb1; clear hb hb1
        go_wp2_with fail
        refine hK.out _ _ (hb2) (fun _ => ?_)
        clear hK K
        try simp only [Act.put, List.setIfInBounds_toArray, List.set_cons_zero, List.set_cons_succ]
        refine wpAnyH_take (i := 6) (oi := { dst := some 45, op := Go.Op.binOp Go.BinOp.eql 4 (Go.Operand.tmp 41) (Go.Operand.tmp 44) 4, type := 4, pos := "law.go:49", after := #[{ on := 2, ground := Go.Ground.data }, { on := 5, ground := Go.Ground.data }], guard := none }) (v := ?_) rfl (by kernel_rfl) (by kernel_rfl) (by kernel_rfl) (fun _ _ _ h => h) (Or.inl ⟨by rfl, ?_⟩) (hb2) ?_
        rotate_left 1
        · intro w5 hSw
          go_simp; all_goals (with_reducible rfl)
        try simp only [Act.put, List.setIfInBounds_toArray, List.set_cons_zero, List.set_cons_succ]
        refine wpAnyH_take (i := 7) (oi := { dst := some 46, op := Go.Op.move (Go.Operand.tmp 45), type := 4, pos := "law.go:49", after := #[{ on := 6, ground := Go.Ground.data }, { on := 5, ground := Go.Ground.chain }], guard := none }) (v := ?_) rfl (by kernel_rfl) (by kernel_rfl) (by kernel_rfl) (fun _ _ _ h => h) (Or.inl ⟨by rfl, ?_⟩) (hb2) ?_
        rotate_left 1
        · intro w5 hSw
          go_simp; all_goals (with_reducible rfl)
        try simp only [Act.put, List.setIfInBounds_toArray, List.set_cons_zero, List.set_cons_succ]
        refine wpAnyH_take (i := 8) (oi := { dst := some 47, op := Go.Op.load 24 (Go.Operand.tmp 3), type := 24, pos := "law.go:49", after := #[{ on := 7, ground := Go.Ground.guard }], guard := some (7, true) }) (v := ?_) rfl (by kernel_rfl) (by kernel_rfl) (by kernel_rfl) (fun _ _ _ h => h) (Or.inl ⟨by rfl, ?_⟩) (hb2) ?_
        rotate_left 1
        · intro w5 hSw
          have q0 : w5.cell? ⟨bu, 0, none⟩ = some (.int .i64 k1) := (hSw.cell hbu).trans x0
          have q1 : w5.cell? ⟨bu, 1, none⟩ = some (.string s1) := (hSw.cell hbu).trans x1
          have q2 : w5.cell? ⟨bu, 2, none⟩ = some (.int .u64 (c1 : Int)) := (hSw.cell hbu).trans x2
          go_simp; all_goals (with_reducible rfl)
        try simp only [Act.put, List.setIfInBounds_toArray, List.set_cons_zero, List.set_cons_succ]
        refine wpAnyH_take (i := 9) (oi := { dst := some 48, op := Go.Op.load 24 (Go.Operand.tmp 4), type := 24, pos := "law.go:49", after := #[{ on := 7, ground := Go.Ground.guard }], guard := some (7, true) }) (v := ?_) rfl (by kernel_rfl) (by kernel_rfl) (by kernel_rfl) (fun _ _ _ h => h) (Or.inl ⟨by rfl, ?_⟩) (hb2) ?_
        rotate_left 1
        · intro w5 hSw
          have q0 : w5.cell? ⟨bv, 0, none⟩ = some (.int .i64 k2) := (hSw.cell hbv).trans y0
          have q1 : w5.cell? ⟨bv, 1, none⟩ = some (.string s2) := (hSw.cell hbv).trans y1
          have q2 : w5.cell? ⟨bv, 2, none⟩ = some (.int .u64 (c2 : Int)) := (hSw.cell hbv).trans y2
          go_simp; all_goals (with_reducible rfl)
        try simp only [Act.put, List.setIfInBounds_toArray, List.set_cons_zero, List.set_cons_succ]
        refine wpAnyH_take (i := 11) (oi := { dst := some 50, op := Go.Op.load 24 (Go.Operand.tmp 3), type := 24, pos := "law.go:49", after := #[{ on := 7, ground := Go.Ground.guard }], guard := some (7, true) }) (v := ?_) rfl (by kernel_rfl) (by kernel_rfl) (by kernel_rfl) (fun _ _ _ h => h) (Or.inl ⟨by rfl, ?_⟩) (hb2) ?_
        rotate_left 1
        · intro w5 hSw
          have q0 : w5.cell? ⟨bu, 0, none⟩ = some (.int .i64 k1) := (hSw.cell hbu).trans x0
          have q1 : w5.cell? ⟨bu, 1, none⟩ = some (.string s1) := (hSw.cell hbu).trans x1
          have q2 : w5.cell? ⟨bu, 2, none⟩ = some (.int .u64 (c1 : Int)) := (hSw.cell hbu).trans x2
          go_simp; all_goals (with_reducible rfl)
        try simp only [Act.put, List.setIfInBounds_toArray, List.set_cons_zero, List.set_cons_succ]
        refine wpAnyH_take (i := 12) (oi := { dst := some 51, op := Go.Op.load 24 (Go.Operand.tmp 4), type := 24, pos := "law.go:49", after := #[{ on := 7, ground := Go.Ground.guard }], guard := some (7, true) }) (v := ?_) rfl (by kernel_rfl) (by kernel_rfl) (by kernel_rfl) (fun _ _ _ h => h) (Or.inl ⟨by rfl, ?_⟩) (hb2) ?_
        rotate_left 1
        · intro w5 hSw
          have q0 : w5.cell? ⟨bv, 0, none⟩ = some (.int .i64 k2) := (hSw.cell hbv).trans y0
          have q1 : w5.cell? ⟨bv, 1, none⟩ = some (.string s2) := (hSw.cell hbv).trans y1
          have q2 : w5.cell? ⟨bv, 2, none⟩ = some (.int .u64 (c2 : Int)) := (hSw.cell hbv).trans y2
          go_simp; all_goals (with_reducible rfl)
        try simp only [Act.put, List.setIfInBounds_toArray, List.set_cons_zero, List.set_cons_succ]
        refine wpAnyH_ready (rs := [10]) (by kernel_rfl) (by simp) ?_
        refine AllReadyH.cons (o := { dst := some 49, op := Go.Op.call { callee := Go.Callee.value (Go.Operand.func 18), args := #[Go.Operand.tmp 47, Go.Operand.tmp 48], argTypes := #[24, 24] }, type := 3, pos := "law.go:49", after := #[{ on := 8, ground := Go.Ground.data }, { on := 9, ground := Go.Ground.data }, { on := 7, ground := Go.Ground.chain }, { on := 7, ground := Go.Ground.guard }], guard := some (7, true) }) rfl (fun K hK => ?_) AllReadyH.nil
        go_simp
        refine (HO1.out Y2).mono ?_; rintro e Y3 ⟨rfl, hb⟩; have hb3 := keepBelow hb hb2; clear hb hb2
        go_wp2_with fail
        refine hK.out _ _ (hb3) (fun _ => ?_)
        clear hK K
        try simp only [Act.put, List.setIfInBounds_toArray, List.set_cons_zero, List.set_cons_succ]
        refine wpAnyH_ready (rs := [13]) (by kernel_rfl) (by simp) ?_
        refine AllReadyH.cons (o := { dst := some 52, op := Go.Op.call { callee := Go.Callee.value (Go.Operand.func 21), args := #[Go.Operand.tmp 50, Go.Operand.tmp 51], argTypes := #[24, 24] }, type := 3, pos := "law.go:49", after := #[{ on := 11, ground := Go.Ground.data }, { on := 12, ground := Go.Ground.data }, { on := 10, ground := Go.Ground.chain }, { on := 7, ground := Go.Ground.guard }], guard := some (7, true) }) rfl (fun K hK => ?_) AllReadyH.nil
        go_simp
        refine (HR.out Y3).mono ?_; rintro e Y4 ⟨rfl, hb⟩; have hb4 := keepBelow hb hb3; clear hb hb3
        go_wp2_with fail
        refine hK.out _ _ (hb4) (fun _ => ?_)
        clear hK K
        try simp only [Act.put, List.setIfInBounds_toArray, List.set_cons_zero, List.set_cons_succ]
        refine wpAnyH_take (i := 14) (oi := { dst := some 53, op := Go.Op.binOp Go.BinOp.eql 3 (Go.Operand.tmp 49) (Go.Operand.tmp 52) 3, type := 4, pos := "law.go:49", after := #[{ on := 10, ground := Go.Ground.data }, { on := 13, ground := Go.Ground.data }, { on := 7, ground := Go.Ground.guard }], guard := some (7, true) }) (v := ?_) rfl (by kernel_rfl) (by kernel_rfl) (by kernel_rfl) (fun _ _ _ h => h) (Or.inl ⟨by rfl, ?_⟩) (hb4) ?_
        rotate_left 1
        · intro w5 hSw
          go_simp; all_goals (with_reducible rfl)
        try simp only [Act.put, List.setIfInBounds_toArray, List.set_cons_zero, List.set_cons_succ]
        refine wpAnyH_take (i := 15) (oi := { dst := some 54, op := Go.Op.pick (Go.Operand.tmp 46) (Go.Operand.tmp 53) (Go.Operand.const (Go.Value.bool false)), type := 4, pos := "law.go:49", after := #[{ on := 7, ground := Go.Ground.data }, { on := 14, ground := Go.Ground.data }], guard := none }) (v := ?_) rfl (by kernel_rfl) (by kernel_rfl) (by kernel_rfl) (fun _ _ _ h => h) (Or.inl ⟨by rfl, ?_⟩) (hb4) ?_
        rotate_left 1
        · intro w5 hSw
          go_simp; all_goals (with_reducible rfl)
        try simp only [Act.put, List.setIfInBounds_toArray, List.set_cons_zero, List.set_cons_succ]
        refine wpAnyH_take (i := 16) (oi := { dst := some 55, op := Go.Op.move (Go.Operand.tmp 54), type := 4, pos := "law.go:49", after := #[{ on := 15, ground := Go.Ground.data }, { on := 13, ground := Go.Ground.chain }], guard := none }) (v := ?_) rfl (by kernel_rfl) (by kernel_rfl) (by kernel_rfl) (fun _ _ _ h => h) (Or.inl ⟨by rfl, ?_⟩) (hb4) ?_
        rotate_left 1
        · intro w5 hSw
          go_simp; all_goals (with_reducible rfl)
        try simp only [Act.put, List.setIfInBounds_toArray, List.set_cons_zero, List.set_cons_succ]
        refine wpAnyH_take (i := 17) (oi := { dst := some 56, op := Go.Op.load 24 (Go.Operand.tmp 4), type := 24, pos := "law.go:49", after := #[{ on := 16, ground := Go.Ground.guard }], guard := some (16, true) }) (v := ?_) rfl (by kernel_rfl) (by kernel_rfl) (by kernel_rfl) (fun _ _ _ h => h) (Or.inl ⟨by rfl, ?_⟩) (hb4) ?_
        rotate_left 1
        · intro w5 hSw
          have q0 : w5.cell? ⟨bv, 0, none⟩ = some (.int .i64 k2) := (hSw.cell hbv).trans y0
          have q1 : w5.cell? ⟨bv, 1, none⟩ = some (.string s2) := (hSw.cell hbv).trans y1
          have q2 : w5.cell? ⟨bv, 2, none⟩ = some (.int .u64 (c2 : Int)) := (hSw.cell hbv).trans y2
          go_simp; all_goals (with_reducible rfl)
        try simp only [Act.put, List.setIfInBounds_toArray, List.set_cons_zero, List.set_cons_succ]
        refine wpAnyH_take (i := 18) (oi := { dst := some 57, op := Go.Op.load 24 (Go.Operand.tmp 3), type := 24, pos := "law.go:49", after := #[{ on := 16, ground := Go.Ground.guard }], guard := some (16, true) }) (v := ?_) rfl (by kernel_rfl) (by kernel_rfl) (by kernel_rfl) (fun _ _ _ h => h) (Or.inl ⟨by rfl, ?_⟩) (hb4) ?_
        rotate_left 1
        · intro w5 hSw
          have q0 : w5.cell? ⟨bu, 0, none⟩ = some (.int .i64 k1) := (hSw.cell hbu).trans x0
          have q1 : w5.cell? ⟨bu, 1, none⟩ = some (.string s1) := (hSw.cell hbu).trans x1
          have q2 : w5.cell? ⟨bu, 2, none⟩ = some (.int .u64 (c1 : Int)) := (hSw.cell hbu).trans x2
          go_simp; all_goals (with_reducible rfl)
        try simp only [Act.put, List.setIfInBounds_toArray, List.set_cons_zero, List.set_cons_succ]
        refine wpAnyH_take (i := 20) (oi := { dst := some 59, op := Go.Op.load 24 (Go.Operand.tmp 3), type := 24, pos := "law.go:49", after := #[{ on := 16, ground := Go.Ground.guard }], guard := some (16, true) }) (v := ?_) rfl (by kernel_rfl) (by kernel_rfl) (by kernel_rfl) (fun _ _ _ h => h) (Or.inl ⟨by rfl, ?_⟩) (hb4) ?_
        rotate_left 1
        · intro w5 hSw
          have q0 : w5.cell? ⟨bu, 0, none⟩ = some (.int .i64 k1) := (hSw.cell hbu).trans x0
          have q1 : w5.cell? ⟨bu, 1, none⟩ = some (.string s1) := (hSw.cell hbu).trans x1
          have q2 : w5.cell? ⟨bu, 2, none⟩ = some (.int .u64 (c1 : Int)) := (hSw.cell hbu).trans x2
          go_simp; all_goals (with_reducible rfl)
        try simp only [Act.put, List.setIfInBounds_toArray, List.set_cons_zero, List.set_cons_succ]
        refine wpAnyH_take (i := 21) (oi := { dst := some 60, op := Go.Op.load 24 (Go.Operand.tmp 4), type := 24, pos := "law.go:49", after := #[{ on := 16, ground := Go.Ground.guard }], guard := some (16, true) }) (v := ?_) rfl (by kernel_rfl) (by kernel_rfl) (by kernel_rfl) (fun _ _ _ h => h) (Or.inl ⟨by rfl, ?_⟩) (hb4) ?_
        rotate_left 1
        · intro w5 hSw
          have q0 : w5.cell? ⟨bv, 0, none⟩ = some (.int .i64 k2) := (hSw.cell hbv).trans y0
          have q1 : w5.cell? ⟨bv, 1, none⟩ = some (.string s2) := (hSw.cell hbv).trans y1
          have q2 : w5.cell? ⟨bv, 2, none⟩ = some (.int .u64 (c2 : Int)) := (hSw.cell hbv).trans y2
          go_simp; all_goals (with_reducible rfl)
        try simp only [Act.put, List.setIfInBounds_toArray, List.set_cons_zero, List.set_cons_succ]
        refine wpAnyH_ready (rs := [19]) (by kernel_rfl) (by simp) ?_
        refine AllReadyH.cons (o := { dst := some 58, op := Go.Op.call { callee := Go.Callee.value (Go.Operand.func 18), args := #[Go.Operand.tmp 56, Go.Operand.tmp 57], argTypes := #[24, 24] }, type := 3, pos := "law.go:49", after := #[{ on := 17, ground := Go.Ground.data }, { on := 18, ground := Go.Ground.data }, { on := 16, ground := Go.Ground.chain }, { on := 16, ground := Go.Ground.guard }], guard := some (16, true) }) rfl (fun K hK => ?_) AllReadyH.nil
        go_simp
        refine (HO3.out Y4).mono ?_; rintro e Y5 ⟨rfl, hb⟩; have hb5 := keepBelow hb hb4; clear hb hb4
        go_wp2_with fail
        refine hK.out _ _ (hb5) (fun _ => ?_)
        clear hK K
        try simp only [Act.put, List.setIfInBounds_toArray, List.set_cons_zero, List.set_cons_succ]
        refine wpAnyH_ready (rs := [22]) (by kernel_rfl) (by simp) ?_
        refine AllReadyH.cons (o := { dst := some 61, op := Go.Op.call { callee := Go.Callee.value (Go.Operand.func 21), args := #[Go.Operand.tmp 59, Go.Operand.tmp 60], argTypes := #[24, 24] }, type := 3, pos := "law.go:49", after := #[{ on := 20, ground := Go.Ground.data }, { on := 21, ground := Go.Ground.data }, { on := 19, ground := Go.Ground.chain }, { on := 16, ground := Go.Ground.guard }], guard := some (16, true) }) rfl (fun K hK => ?_) AllReadyH.nil
        go_simp
        refine (HR.out Y5).mono ?_; rintro e Y6 ⟨rfl, hb⟩; have hb6 := keepBelow hb hb5; clear hb hb5
        go_wp2_with fail
        refine hK.out _ _ (hb6) (fun _ => ?_)
        clear hK K
        try simp only [Act.put, List.setIfInBounds_toArray, List.set_cons_zero, List.set_cons_succ]
        refine wpAnyH_take (i := 23) (oi := { dst := some 62, op := Go.Op.unOp Go.UnOp.neg 3 (Go.Operand.tmp 61), type := 3, pos := "law.go:49", after := #[{ on := 22, ground := Go.Ground.data }, { on := 16, ground := Go.Ground.guard }], guard := some (16, true) }) (v := ?_) rfl (by kernel_rfl) (by kernel_rfl) (by kernel_rfl) (fun _ _ _ h => h) (Or.inl ⟨by rfl, ?_⟩) (hb6) ?_
        rotate_left 1
        · intro w5 hSw
          go_simp; all_goals (with_reducible rfl)
        try simp only [Act.put, List.setIfInBounds_toArray, List.set_cons_zero, List.set_cons_succ]
        refine wpAnyH_take (i := 24) (oi := { dst := some 63, op := Go.Op.binOp Go.BinOp.eql 3 (Go.Operand.tmp 58) (Go.Operand.tmp 62) 3, type := 4, pos := "law.go:49", after := #[{ on := 19, ground := Go.Ground.data }, { on := 23, ground := Go.Ground.data }, { on := 16, ground := Go.Ground.guard }], guard := some (16, true) }) (v := ?_) rfl (by kernel_rfl) (by kernel_rfl) (by kernel_rfl) (fun _ _ _ h => h) (Or.inl ⟨by rfl, ?_⟩) (hb6) ?_
        rotate_left 1
        · intro w5 hSw
          go_simp; all_goals (with_reducible rfl)
        try simp only [Act.put, List.setIfInBounds_toArray, List.set_cons_zero, List.set_cons_succ]
        refine wpAnyH_take (i := 25) (oi := { dst := some 64, op := Go.Op.pick (Go.Operand.tmp 55) (Go.Operand.tmp 63) (Go.Operand.const (Go.Value.bool false)), type := 4, pos := "law.go:49", after := #[{ on := 16, ground := Go.Ground.data }, { on := 24, ground := Go.Ground.data }], guard := none }) (v := ?_) rfl (by kernel_rfl) (by kernel_rfl) (by kernel_rfl) (fun _ _ _ h => h) (Or.inl ⟨by rfl, ?_⟩) (hb6) ?_
        rotate_left 1
        · intro w5 hSw
          go_simp; all_goals (with_reducible rfl)
        try simp only [Act.put, List.setIfInBounds_toArray, List.set_cons_zero, List.set_cons_succ]
        refine wpAnyH_take (i := 26) (oi := { dst := some 65, op := Go.Op.move (Go.Operand.tmp 64), type := 4, pos := "law.go:49", after := #[{ on := 25, ground := Go.Ground.data }, { on := 22, ground := Go.Ground.chain }], guard := none }) (v := ?_) rfl (by kernel_rfl) (by kernel_rfl) (by kernel_rfl) (fun _ _ _ h => h) (Or.inl ⟨by rfl, ?_⟩) (hb6) ?_
        rotate_left 1
        · intro w5 hSw
          go_simp; all_goals (with_reducible rfl)
        try simp only [Act.put, List.setIfInBounds_toArray, List.set_cons_zero, List.set_cons_succ]
        refine wpAnyH_take (i := 27) (oi := { dst := some 66, op := Go.Op.move (Go.Operand.tmp 7), type := 4, pos := "law.go:49", after := #[{ on := 26, ground := Go.Ground.guard }], guard := some (26, true) }) (v := ?_) rfl (by kernel_rfl) (by kernel_rfl) (by kernel_rfl) (fun _ _ _ h => h) (Or.inl ⟨by rfl, ?_⟩) (hb6) ?_
        rotate_left 1
        · intro w5 hSw
          go_simp; all_goals (with_reducible rfl)
        try simp only [Act.put, List.setIfInBounds_toArray, List.set_cons_zero, List.set_cons_succ]
        refine wpAnyH_take (i := 28) (oi := { dst := some 67, op := Go.Op.pick (Go.Operand.tmp 65) (Go.Operand.tmp 66) (Go.Operand.const (Go.Value.bool false)), type := 4, pos := "law.go:49", after := #[{ on := 26, ground := Go.Ground.data }, { on := 27, ground := Go.Ground.data }], guard := none }) (v := ?_) rfl (by kernel_rfl) (by kernel_rfl) (by kernel_rfl) (fun _ _ _ h => h) (Or.inl ⟨by rfl, ?_⟩) (hb6) ?_
        rotate_left 1
        · intro w5 hSw
          go_simp; all_goals (with_reducible rfl)
        try simp only [Act.put, List.setIfInBounds_toArray, List.set_cons_zero, List.set_cons_succ]
        refine wpAnyH_take (i := 29) (oi := { dst := some 68, op := Go.Op.move (Go.Operand.tmp 67), type := 4, pos := "law.go:49", after := #[{ on := 28, ground := Go.Ground.data }, { on := 26, ground := Go.Ground.chain }], guard := none }) (v := ?_) rfl (by kernel_rfl) (by kernel_rfl) (by kernel_rfl) (fun _ _ _ h => h) (Or.inl ⟨by rfl, ?_⟩) (hb6) ?_
        rotate_left 1
        · intro w5 hSw
          go_simp; all_goals (with_reducible rfl)
        try simp only [Act.put, List.setIfInBounds_toArray, List.set_cons_zero, List.set_cons_succ]
        refine wpAnyH_ready (rs := [30]) (by kernel_rfl) (by simp) ?_
        refine AllReadyH.cons (o := { dst := some 69, op := Go.Op.call { callee := Go.Callee.value (Go.Operand.func 6), args := #[], argTypes := #[] }, type := 4, pos := "law.go:49", after := #[{ on := 29, ground := Go.Ground.chain }, { on := 29, ground := Go.Ground.guard }], guard := some (29, true) }) rfl (fun K hK => ?_) AllReadyH.nil
        go_simp
        refine (HLV.out Y6).mono ?_; rintro e Y7 ⟨rfl, hb⟩; have hb7 := keepBelow hb hb6; clear hb hb6
        go_wp2_with fail
        refine hK.out _ _ (hb7) (fun _ => ?_)
        clear hK K
        try simp only [Act.put, List.setIfInBounds_toArray, List.set_cons_zero, List.set_cons_succ]
        refine wpAnyH_take (i := 31) (oi := { dst := some 70, op := Go.Op.pick (Go.Operand.tmp 68) (Go.Operand.tmp 69) (Go.Operand.const (Go.Value.bool false)), type := 4, pos := "law.go:49", after := #[{ on := 29, ground := Go.Ground.data }, { on := 30, ground := Go.Ground.data }], guard := none }) (v := ?_) rfl (by kernel_rfl) (by kernel_rfl) (by kernel_rfl) (fun _ _ _ h => h) (Or.inl ⟨by rfl, ?_⟩) (hb7) ?_
        rotate_left 1
        · intro w5 hSw
          go_simp; all_goals (with_reducible rfl)
        try simp only [Act.put, List.setIfInBounds_toArray, List.set_cons_zero, List.set_cons_succ]
        refine wpAnyH_take (i := 32) (oi := { dst := some 6, op := Go.Op.assign (Go.Operand.tmp 70), type := 4, pos := "law.go:49", after := #[{ on := 31, ground := Go.Ground.data }, { on := 30, ground := Go.Ground.chain }, { on := 0, ground := Go.Ground.phase }, { on := 1, ground := Go.Ground.phase }, { on := 2, ground := Go.Ground.phase }, { on := 3, ground := Go.Ground.phase }, { on := 4, ground := Go.Ground.phase }, { on := 5, ground := Go.Ground.phase }, { on := 6, ground := Go.Ground.phase }, { on := 7, ground := Go.Ground.phase }, { on := 8, ground := Go.Ground.phase }, { on := 9, ground := Go.Ground.phase }, { on := 10, ground := Go.Ground.phase }, { on := 11, ground := Go.Ground.phase }, { on := 12, ground := Go.Ground.phase }, { on := 13, ground := Go.Ground.phase }, { on := 14, ground := Go.Ground.phase }, { on := 15, ground := Go.Ground.phase }, { on := 16, ground := Go.Ground.phase }, { on := 17, ground := Go.Ground.phase }, { on := 18, ground := Go.Ground.phase }, { on := 19, ground := Go.Ground.phase }, { on := 20, ground := Go.Ground.phase }, { on := 21, ground := Go.Ground.phase }, { on := 22, ground := Go.Ground.phase }, { on := 23, ground := Go.Ground.phase }, { on := 24, ground := Go.Ground.phase }, { on := 25, ground := Go.Ground.phase }, { on := 26, ground := Go.Ground.phase }, { on := 27, ground := Go.Ground.phase }, { on := 28, ground := Go.Ground.phase }, { on := 29, ground := Go.Ground.phase }, { on := 30, ground := Go.Ground.phase }, { on := 31, ground := Go.Ground.phase }], guard := none }) (v := ?_) rfl (by kernel_rfl) (by kernel_rfl) (by kernel_rfl) (fun _ _ _ h => h) (Or.inl ⟨by rfl, ?_⟩) (hb7) ?_
        rotate_left 1
        · intro w5 hSw
          go_simp; all_goals (with_reducible rfl)
        try simp only [Act.put, List.setIfInBounds_toArray, List.set_cons_zero, List.set_cons_succ]
        refine wpAnyH_done (by kernel_rfl) ?_ _
        have HF : Hid (Below w.heap.size w Y7) := HBZ.out.trans ((show Below Z.heap.size Z Y7 from ⟨hb7.os, hb7.tape, hb7.output, hb7.size, hb7.block⟩).mono HBZ.out.size)
        clear hb7
        go_wp2_with fail
        go_ret
        exact ⟨rfl, HF.out⟩
  · refine (HLV.out _).mono ?_
    rintro e Y ⟨rfl, hb⟩
    have HF := Lib.hid (HB.out.trans (hb.mono HB.out.size))
    clear hb
    go_wp2_with fail
    go_ret
    exact ⟨rfl, HF.out⟩
theorem valueOrders_walk2 (u v t : Value) (w : World) (hu : ValArg u) (hv : ValArg v) (ht : ValArg t) :
    Calls Tryd.prog 5 #[u, v, t] w fun e w' => e = .returned (.bool true) ∧ Below w.heap.size w w' := by
  obtain ⟨x, rfl, hx, _⟩ := hu
  obtain ⟨y, rfl, hy, _⟩ := hv
  obtain ⟨z, rfl, hz, _⟩ := ht
  exact valueOrders_walk x y z w hx hy hz
end Go.Proofs.YtdifojeghplpeaaDoor
