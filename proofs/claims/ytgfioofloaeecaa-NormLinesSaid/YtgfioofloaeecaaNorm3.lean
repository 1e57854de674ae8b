/- Walks over layer 26: spots rounded. -/
import Derived.Test.YtgfioofloaeecaaNorm2
import Derived.Test.YtgfioofloaeecaaSpots
import Derived.Test.YtgfioofloaeecaaHeld
namespace Go.Proofs.Ytgfioofloaeecaa
open Go.RowKit
set_option linter.unusedVariables false
set_option maxRecDepth 100000

set_option maxHeartbeats 8000000 in
theorem nround_any (v : Value) (l : List Sp) (w : World) (h : RdS w w.heap.size v l) (hl : l.length ≤ 1000) (R : List P2) (hR : l.map rzS = R) :
    Calls Try.prog 9 #[v] w (PPost w R) := by
  obtain ⟨a0, c0, rfl, _, _, ha, hok⟩ := h
  obtain ⟨L0, hL0⟩ : ∃ L, L = l.length := ⟨_, rfl⟩
  have HA := Lib.hid ha
  have HK := Lib.hid hok
  have HL := Lib.hid hL0
  have HR := Lib.hid hR
  rw [← hL0] at hl ⊢
  clear hL0 ha hR hok
  go_enter Try.func9, Try.ntmps9
  go_wp2_with fail
  go_loopw [8, 3] (fun i u W => ∃ (k : Nat) (m : List P2) (v : Value), k ≤ L0 ∧ i = .int .i64 (k : Int) ∧ v = u ∧ Hid (OwnP W w.heap.size v m) ∧ m.length ≤ k ∧ Hid (Below w.heap.size w W) ∧ Hid (m ++ (l.drop k).map rzS = R)) (fun i _ _ => L0 - (intOf i).toNat)
  case atStart => exact ⟨0, [], _, Nat.zero_le _, rfl, rfl, OwnP.nil_ _ _, Nat.le_refl _, Below.refl _ _, HR.out⟩
  case round =>
    obtain ⟨k, m, v, hk, rfl, rfl, HO, hm, HBW, hs⟩ := hrel
    by_cases hlt : k < L0
    · have hkl : k < l.length := by have := HL.out; omega
      have hdr : l.drop k = l[k] :: l.drop (k + 1) := List.drop_eq_getElem_cons hkl
      obtain ⟨b1, o1, rfl, h1, p0, p1, p2, p3, p4, p5⟩ := (HA.out.below HBW.out).at k hkl
      rw [hdr] at hs
      have hokk := HK.out _ (List.getElem_mem hkl)
      generalize l[k]'hkl = s at *
      obtain ⟨qx, rx, dx, qy, ry, dy⟩ := s
      simp only [Sp.ok] at p0 p1 p2 p3 p4 p5 hokk
      obtain ⟨_, k1, k2, _, k3, k4⟩ := hokk
      have hk0 : (0 : Int) ≤ (k : Int) := by omega
      have hk1 : (k : Int) < (L0 : Int) := by omega
      have hz1 := Lib.hid fun W => rz_any qx rx dx W k1 k2
      have hz2 := Lib.hid fun W => rz_any qy ry dy W k3 k4
      have hs2 : (m ++ [(rz qx rx dx, rz qy ry dy)]) ++ (l.drop (k + 1)).map rzS = R := by have := hs.out; simpa [rzS] using this
      obtain ⟨ax, hax⟩ : ∃ ax, rz qx rx dx = ax := ⟨_, rfl⟩
      obtain ⟨ay, hay⟩ : ∃ ay, rz qy ry dy = ay := ⟨_, rfl⟩
      rw [hax] at hz1 hs2
      rw [hay] at hz2 hs2
      have Hs2 := Lib.hid hs2
      have Hm := Lib.hid hm
      clear hs hs2 hdr hm hax hay k1 k2 k3 k4
      go_upto_region 5 with (fail)
      obtain ⟨W0, hW0⟩ : ∃ W0, W0 = wr.alloc (.cells #[.int .i64 qx, .int .u64 (rx : Int), .int .u64 (dx : Int), .int .i64 qy, .int .u64 (ry : Int), .int .u64 (dy : Int)] 46) := ⟨_, rfl⟩
      obtain ⟨g, hg⟩ : ∃ g, g = wr.heap.size := ⟨_, rfl⟩
      have HA : Hid (Whole W0 g 46 #[.int .i64 qx, .int .u64 (rx : Int), .int .u64 (dx : Int), .int .i64 qy, .int .u64 (ry : Int), .int .u64 (dy : Int)]) := by rw [hW0, hg]; exact Whole.new wr _ _
      have HB0 : Hid (Below w.heap.size w W0.drew) := by rw [hW0]; exact (below_then HBW.out ((Below.refl _ _).alloc (Nat.le_refl _) _) HBW.out.size).drew
      have HO0 : Hid (OwnP W0.drew w.heap.size v m) := by rw [hW0]; exact HO.out.alloc _
      have Hvg : Hid (v.ownBlock ≠ some g) := fun e => by have := (HO.out.lt _ e).2; omega
      rw [← hW0, ← hg]
      clear hW0 hg p0 p1 p2 p3 p4 p5
      refine wp_region_held (S := fun W => Whole W g 46 #[.int .i64 qx, .int .u64 (rx : Int), .int .u64 (dx : Int), .int .i64 qy, .int .u64 (ry : Int), .int .u64 (dy : Int)]) (by kernel_rfl) ?_
      refine wpAnyH_take (i := 0) (oi := { dst := some 12, op := Go.Op.move (Go.Operand.tmp 3), type := 23, pos := "norm.go:14", after := #[], guard := none }) (v := ?_) rfl (by kernel_rfl) (by kernel_rfl) (by kernel_rfl) (fun _ _ _ h => h) (Or.inl ⟨by rfl, ?_⟩) (HA.out.drew) ?_
      rotate_left 1
      · intro w5 hSw
        go_simp; all_goals (with_reducible rfl)
      try simp only [Act.put, List.setIfInBounds_toArray, List.set_cons_zero, List.set_cons_succ]
      refine wpAnyH_take (i := 1) (oi := { dst := some 13, op := Go.Op.fieldAddr 46 (Go.Operand.tmp 5) 0, type := 0, pos := "norm.go:14", after := #[], guard := none }) (v := ?_) rfl (by kernel_rfl) (by kernel_rfl) (by kernel_rfl) (fun _ _ _ h => h) (Or.inl ⟨by rfl, ?_⟩) (HA.out.drew) ?_
      rotate_left 1
      · intro w5 hSw
        go_simp; all_goals (with_reducible rfl)
      try simp only [Act.put, List.setIfInBounds_toArray, List.set_cons_zero, List.set_cons_succ]
      refine wpAnyH_take (i := 2) (oi := { dst := some 14, op := Go.Op.load 44 (Go.Operand.tmp 13), type := 44, pos := "norm.go:14", after := #[{ on := 1, ground := Go.Ground.data }], guard := none }) (v := ?_) rfl (by kernel_rfl) (by kernel_rfl) (by kernel_rfl) (fun _ _ _ h => h) (Or.inl ⟨by rfl, ?_⟩) (HA.out.drew) ?_
      rotate_left 1
      · intro w5 hSw
        have c0 := hSw.cell 0
        have c1 := hSw.cell 1
        have c2 := hSw.cell 2
        simp only [List.getElem?_toArray, List.getElem?_cons_zero, List.getElem?_cons_succ] at c0 c1 c2
        go_simp; all_goals (with_reducible rfl)
      try simp only [Act.put, List.setIfInBounds_toArray, List.set_cons_zero, List.set_cons_succ]
      refine wpAnyH_take (i := 4) (oi := { dst := some 16, op := Go.Op.fieldAddr 46 (Go.Operand.tmp 5) 1, type := 0, pos := "norm.go:14", after := #[], guard := none }) (v := ?_) rfl (by kernel_rfl) (by kernel_rfl) (by kernel_rfl) (fun _ _ _ h => h) (Or.inl ⟨by rfl, ?_⟩) (HA.out.drew) ?_
      rotate_left 1
      · intro w5 hSw
        go_simp; all_goals (with_reducible rfl)
      try simp only [Act.put, List.setIfInBounds_toArray, List.set_cons_zero, List.set_cons_succ]
      refine wpAnyH_take (i := 5) (oi := { dst := some 17, op := Go.Op.load 44 (Go.Operand.tmp 16), type := 44, pos := "norm.go:14", after := #[{ on := 4, ground := Go.Ground.data }], guard := none }) (v := ?_) rfl (by kernel_rfl) (by kernel_rfl) (by kernel_rfl) (fun _ _ _ h => h) (Or.inl ⟨by rfl, ?_⟩) (HA.out.drew) ?_
      rotate_left 1
      · intro w5 hSw
        have c0 := hSw.cell 3
        have c1 := hSw.cell 4
        have c2 := hSw.cell 5
        simp only [List.getElem?_toArray, List.getElem?_cons_zero, List.getElem?_cons_succ] at c0 c1 c2
        go_simp; all_goals (with_reducible rfl)
      try simp only [Act.put, List.setIfInBounds_toArray, List.set_cons_zero, List.set_cons_succ]
      refine wpAnyH_ready (rs := [3]) (by kernel_rfl) (by simp) ?_
      refine AllReadyH.cons (o := { dst := some 15, op := Go.Op.call { callee := Go.Callee.value (Go.Operand.func 20), args := #[Go.Operand.tmp 14], argTypes := #[44] }, type := 3, pos := "norm.go:14", after := #[{ on := 2, ground := Go.Ground.data }], guard := none }) rfl (fun K hK => ?_) AllReadyH.nil
      go_simp
      refine (hz1.out _).mono ?_; rintro e X1 ⟨rfl, hb1⟩; have H1 := Lib.hid (HA.out.drew.below hb1 HA.out.drew.lt); have B1 := Lib.hid hb1; clear hb1
      go_wp2_with fail
      refine hK.out _ _ (H1.out) (fun _ => ?_)
      clear hK K
      try simp only [Act.put, List.setIfInBounds_toArray, List.set_cons_zero, List.set_cons_succ]
      refine wpAnyH_ready (rs := [6]) (by kernel_rfl) (by simp) ?_
      refine AllReadyH.cons (o := { dst := some 18, op := Go.Op.call { callee := Go.Callee.value (Go.Operand.func 20), args := #[Go.Operand.tmp 17], argTypes := #[44] }, type := 3, pos := "norm.go:14", after := #[{ on := 5, ground := Go.Ground.data }, { on := 3, ground := Go.Ground.chain }], guard := none }) rfl (fun K hK => ?_) AllReadyH.nil
      go_simp
      refine (hz2.out _).mono ?_; rintro e X2 ⟨rfl, hb2⟩; have H2 := Lib.hid (H1.out.below hb2 H1.out.lt); have B2 := Lib.hid (below_then B1.out hb2 B1.out.size); have hO2 : OwnP X2 w.heap.size v m := (HO0.out.below B1.out).below hb2; obtain ⟨v3, w3, hrun, hG⟩ := app_pt w.heap.size v m ax ay 1 hO2 (by have := Hm.out; omega) (by have := HB0.out.size; have := B2.out.size; omega); have H3 := Lib.hid (H2.out.only hG.only Hvg.out); have HG := Lib.hid hG; have Hrun := Lib.hid hrun; have HO2 := Lib.hid hO2; clear hb2 hO2 hG hrun
      go_wp2_with fail
      refine hK.out _ _ (H2.out) (fun _ => ?_)
      clear hK K
      try simp only [Act.put, List.setIfInBounds_toArray, List.set_cons_zero, List.set_cons_succ]
      refine wpAnyH_take (i := 7) (oi := { dst := some 19, op := Go.Op.build 27 #[(0, Go.Operand.tmp 15), (1, Go.Operand.tmp 18)], type := 27, pos := "norm.go:14", after := #[{ on := 3, ground := Go.Ground.data }, { on := 6, ground := Go.Ground.data }], guard := none }) (v := ?_) rfl (by kernel_rfl) (by kernel_rfl) (by kernel_rfl) (fun _ _ _ h => h) (Or.inl ⟨by rfl, ?_⟩) (H2.out) ?_
      rotate_left 1
      · intro w5 hSw
        go_simp; all_goals (with_reducible rfl)
      try simp only [Act.put, List.setIfInBounds_toArray, List.set_cons_zero, List.set_cons_succ]
      refine wpAnyH_ready (rs := [8]) (by kernel_rfl) (by simp) ?_
      refine AllReadyH.cons (o := { dst := some 20, op := Go.Op.buildSlice 23 1 #[(0, Go.Operand.tmp 19)], type := 23, pos := "norm.go:14", after := #[{ on := 7, ground := Go.Ground.data }], guard := none }) rfl (fun K hK => ?_) AllReadyH.nil
      go_simp
      refine hK.out _ _ (H2.out.alloc _) (fun _ => ?_)
      clear hK K
      try simp only [Act.put, List.setIfInBounds_toArray, List.set_cons_zero, List.set_cons_succ]
      refine wpAnyH_ready (rs := [9]) (by kernel_rfl) (by simp) ?_
      refine AllReadyH.cons (o := { dst := some 21, op := Go.Op.call { callee := Go.Callee.builtin Go.Builtin.append, args := #[Go.Operand.tmp 12, Go.Operand.tmp 20], argTypes := #[23, 23] }, type := 23, pos := "norm.go:14", after := #[{ on := 0, ground := Go.Ground.data }, { on := 8, ground := Go.Ground.data }, { on := 6, ground := Go.Ground.chain }], guard := none }) rfl (fun K hK => ?_) AllReadyH.nil
      refine held_app (by rfl) (.tmp 12) (.tmp 20) 23 rfl _ _ (v3) rfl rfl (Hrun.out) ?_
      refine hK.out _ _ (H3.out) (fun _ => ?_)
      clear hK K
      try simp only [Act.put, List.setIfInBounds_toArray, List.set_cons_zero, List.set_cons_succ]
      refine wpAnyH_take (i := 10) (oi := { dst := some 3, op := Go.Op.assign (Go.Operand.tmp 21), type := 23, pos := "norm.go:14", after := #[{ on := 9, ground := Go.Ground.data }, { on := 9, ground := Go.Ground.chain }, { on := 0, ground := Go.Ground.phase }, { on := 1, ground := Go.Ground.phase }, { on := 2, ground := Go.Ground.phase }, { on := 3, ground := Go.Ground.phase }, { on := 4, ground := Go.Ground.phase }, { on := 5, ground := Go.Ground.phase }, { on := 6, ground := Go.Ground.phase }, { on := 7, ground := Go.Ground.phase }, { on := 8, ground := Go.Ground.phase }, { on := 9, ground := Go.Ground.phase }], guard := none }) (v := ?_) rfl (by kernel_rfl) (by kernel_rfl) (by kernel_rfl) (fun _ _ _ h => h) (Or.inl ⟨by rfl, ?_⟩) (H3.out) ?_
      rotate_left 1
      · intro w5 hSw
        go_simp; all_goals (with_reducible rfl)
      try simp only [Act.put, List.setIfInBounds_toArray, List.set_cons_zero, List.set_cons_succ]
      refine wpAnyH_done (by kernel_rfl) ?_ _
      have HBf := Lib.hid ((below_then HB0.out B2.out HB0.out.size).trans (HG.out.below HO2.out (by have := HB0.out.size; have := B2.out.size; omega)))
      go_wp2_with fail
      go_roundw
      case rel => exact ⟨k + 1, m ++ [(ax, ay)], v3, hlt, by go_num, rfl, HG.out.own, by have := Hm.out; simp; omega, HBf, Hs2⟩
      case measure => simp [intOf]; omega
    · obtain rfl : k = L0 := by omega
      rw [List.drop_of_length_le (by have := HL.out; omega)] at hs
      have e : m = R := by have := hs.out; simpa using this
      subst e
      have H1 := Lib.hid HO.out.rd
      have HF := Lib.hid fun b e => (HO.out.lt b e).1
      clear HO
      go_wp2_with fail
      go_ret
      exact ⟨_, rfl, H1.out, HBW.out, HF.out⟩

set_option maxHeartbeats 16000000 in
theorem rroundS_any (v : Value) (l : List Sp) (w : World) (h : RdS w w.heap.size v l) (hl : l.length ≤ 1000) (R : List P2) (hR : l.map rzS = R) :
    Calls Try.prog 10 #[v] w (PPost w R) := by
  obtain ⟨i0, hi0, hz0, hz1, hz2⟩ := info_parts ptinfo
  obtain ⟨a0, c0, rfl, _, _, ha, hok⟩ := h
  obtain ⟨L0, hL0⟩ : ∃ L, L = l.length := ⟨_, rfl⟩
  have HA := Lib.hid ha
  have HK := Lib.hid hok
  have HL := Lib.hid hL0
  have HR := Lib.hid hR
  rw [← hL0] at hl ⊢
  clear hL0 ha hR hok
  go_enter Try.func10, Try.ntmps10
  go_wp2_with fail
  go_loopw [4, 3] (fun i u W => ∃ (k : Nat) (m : List P2) (v : Value), k ≤ L0 ∧ i = .int .i64 (k : Int) ∧ v = u ∧ Hid (OwnP W w.heap.size v m) ∧ m.length ≤ k ∧ Hid (Below w.heap.size w W) ∧ Hid (m ++ (l.drop k).map rzS = R)) (fun i _ _ => L0 - (intOf i).toNat)
  case atStart => exact ⟨0, [], _, Nat.zero_le _, rfl, rfl, OwnP.nil_ _ _, Nat.le_refl _, Below.refl _ _, HR.out⟩
  case round =>
    obtain ⟨k, m, v, hk, rfl, rfl, HO, hm, HBW, hs⟩ := hrel
    by_cases hlt : k < L0
    · have hkl : k < l.length := by have := HL.out; omega
      have hdr : l.drop k = l[k] :: l.drop (k + 1) := List.drop_eq_getElem_cons hkl
      obtain ⟨b1, o1, rfl, h1, p0, p1, p2, p3, p4, p5⟩ := HA.out.at k hkl
      rw [hdr] at hs
      have hokk := HK.out _ (List.getElem_mem hkl)
      generalize l[k]'hkl = s at *
      obtain ⟨qx, rx, dx, qy, ry, dy⟩ := s
      simp only [Sp.ok] at p0 p1 p2 p3 p4 p5 hokk
      obtain ⟨_, k1, k2, _, k3, k4⟩ := hokk
      have HP : Hid (∀ X, Below w.heap.size w X → X.cell? ⟨b1, o1 + k * 6, none⟩ = some (.int .i64 qx) ∧ X.cell? ⟨b1, o1 + k * 6 + 1, none⟩ = some (.int .u64 (rx : Int)) ∧ X.cell? ⟨b1, o1 + k * 6 + 2, none⟩ = some (.int .u64 (dx : Int)) ∧
          X.cell? ⟨b1, o1 + k * 6 + 3, none⟩ = some (.int .i64 qy) ∧ X.cell? ⟨b1, o1 + k * 6 + 4, none⟩ = some (.int .u64 (ry : Int)) ∧ X.cell? ⟨b1, o1 + k * 6 + 5, none⟩ = some (.int .u64 (dy : Int))) := fun X hb =>
        ⟨(hb.cell h1).trans p0, (hb.cell h1).trans p1, (hb.cell h1).trans p2, (hb.cell h1).trans p3, (hb.cell h1).trans p4, (hb.cell h1).trans p5⟩
      have hk0 : (0 : Int) ≤ (k : Int) := by omega
      have hk1 : (k : Int) < (L0 : Int) := by omega
      have hrx := Lib.hid fun W => rright_any qx rx dx W k1 k2
      have hry := Lib.hid fun W => rright_any qy ry dy W k3 k4
      have hs2 : (m ++ [(rz qx rx dx, rz qy ry dy)]) ++ (l.drop (k + 1)).map rzS = R := by have := hs.out; simpa [rzS] using this
      have Hm := Lib.hid hm
      clear hs hdr hm k1 k2 k3 k4 h1
      go_upto_region 6 with (fail)
      obtain ⟨X1, hX1⟩ : ∃ X, X = wr.alloc (.cells #[.int .i64 0, .int .i64 0] 27) := ⟨_, rfl⟩
      obtain ⟨g, hg⟩ : ∃ g, g = wr.heap.size := ⟨_, rfl⟩
      have HW1 : Hid (Whole X1 g 27 #[.int .i64 0, .int .i64 0]) := by rw [hX1, hg]; exact Whole.new wr _ _
      have HB1 : Hid (Below w.heap.size w X1) := by rw [hX1]; exact below_then HBW.out ((Below.refl _ _).alloc (Nat.le_refl _) _) HBW.out.size
      have HO1 : Hid (OwnP X1 w.heap.size v m) := by rw [hX1]; exact HO.out.alloc _
      have Hvg : Hid (v.ownBlock ≠ some g) := fun e => by have := (HO.out.lt _ e).2; omega
      have Hg : Hid (w.heap.size ≤ g) := by show _ ≤ _; rw [hg]; exact HBW.out.size
      rw [← hX1, ← hg]
      clear hX1 hg HO HBW
      by_cases okx : okF qx rx dx = true
      · have hnx := Lib.hid fun W => rround_any qx rx dx W okx
        rw [okx] at hrx
        rw [show rz qx rx dx = rnd qx rx dx from if_pos okx] at hs2
        generalize rnd qx rx dx = ax at *
        by_cases oky : okF qy ry dy = true
        · have hny := Lib.hid fun W => rround_any qy ry dy W oky
          rw [oky] at hry
          rw [show rz qy ry dy = rnd qy ry dy from if_pos oky] at hs2
          generalize rnd qy ry dy = ay at *
          have Hs2 := Lib.hid hs2
          clear hs2 okx oky
          clear p0 p1 p2 p3 p4 p5
          obtain ⟨p0, p1, p2, p3, p4, p5⟩ := HP.out _ HB1.out
          go_wp2_with fail
          refine (hrx.out _).mono ?_
          rintro e X2 ⟨rfl, hb2⟩
          have HB2 := Lib.hid (below_then HB1.out hb2 HB1.out.size)
          have HW2 := Lib.hid (HW1.out.below hb2 HW1.out.lt)
          have HO2 := Lib.hid (HO1.out.below hb2)
          obtain ⟨p0, p1, p2, p3, p4, p5⟩ := HP.out _ HB2.out
          clear hb2 HB1 HW1 HO1
          go_wp2_with fail
          refine (hnx.out _).mono ?_
          rintro e X3 ⟨rfl, hb3⟩
          have HB3 := Lib.hid (below_then HB2.out hb3 HB2.out.size)
          have HW3 := Lib.hid (HW2.out.below hb3 HW2.out.lt)
          have HO3 := Lib.hid (HO2.out.below hb3)
          obtain ⟨p0, p1, p2, p3, p4, p5⟩ := HP.out _ HB3.out
          clear hb3 HB2 HW2 HO2
          have b0 := HW3.out.cell 0
          have b1 := HW3.out.cell 1
          simp only [List.getElem?_toArray, List.getElem?_cons_zero, List.getElem?_cons_succ] at b0 b1
          have f0 := HW3.out.frozen 0
          have f1 := HW3.out.frozen 1
          have HW4 := Lib.hid (HW3.out.set 0 (.int .i64 ax))
          have HB4 := Lib.hid (HB3.out.setCell Hg.out (p := ⟨g, 0, none⟩) (.int .i64 ax))
          have HO4 := Lib.hid (HO3.out.only (Only.setCell (S := fun k => k = g) (Only.refl _ _) (p := ⟨g, 0, none⟩) (fun _ => rfl) (.int .i64 ax)) (fun b e1 e2 => Hvg.out (by rw [e1, e2])))
          go_upto_region 8 with (fail)
          obtain ⟨X4, hX⟩ : ∃ X, X = X3.setCell ⟨g, 0, none⟩ (.int .i64 ax) := ⟨_, rfl⟩
          rw [← hX] at HW4 HB4 HO4 ⊢
          clear hX b0 b1 f0 f1 p0 p1 p2 p3 p4 p5
          obtain ⟨p0, p1, p2, p3, p4, p5⟩ := HP.out _ HB4.out
          simp only [List.setIfInBounds_toArray, List.set_cons_zero, List.set_cons_succ] at HW4
          go_wp2_with fail
          refine (hry.out _).mono ?_
          rintro e X5 ⟨rfl, hb5⟩
          have HB5 := Lib.hid (below_then HB4.out hb5 HB4.out.size)
          have HW5 := Lib.hid (HW4.out.below hb5 HW4.out.lt)
          have HO5 := Lib.hid (HO4.out.below hb5)
          obtain ⟨p0, p1, p2, p3, p4, p5⟩ := HP.out _ HB5.out
          clear hb5 HB4 HW4 HO4
          go_wp2_with fail
          refine (hny.out _).mono ?_
          rintro e X6 ⟨rfl, hb6⟩
          have HB6 := Lib.hid (below_then HB5.out hb6 HB5.out.size)
          have HW6 := Lib.hid (HW5.out.below hb6 HW5.out.lt)
          have HO6 := Lib.hid (HO5.out.below hb6)
          obtain ⟨p0, p1, p2, p3, p4, p5⟩ := HP.out _ HB6.out
          clear hb6 HB5 HW5 HO5
          have b0 := HW6.out.cell 0
          have b1 := HW6.out.cell 1
          simp only [List.getElem?_toArray, List.getElem?_cons_zero, List.getElem?_cons_succ] at b0 b1
          have f0 := HW6.out.frozen 0
          have f1 := HW6.out.frozen 1
          have HW7 := Lib.hid (HW6.out.set 1 (.int .i64 ay))
          have HB7 := Lib.hid (HB6.out.setCell Hg.out (p := ⟨g, 1, none⟩) (.int .i64 ay))
          have HO7 := Lib.hid (HO6.out.only (Only.setCell (S := fun k => k = g) (Only.refl _ _) (p := ⟨g, 1, none⟩) (fun _ => rfl) (.int .i64 ay)) (fun b e1 e2 => Hvg.out (by rw [e1, e2])))
          go_upto_region 10 with (fail)
          obtain ⟨X7, hX⟩ : ∃ X, X = X6.setCell ⟨g, 1, none⟩ (.int .i64 ay) := ⟨_, rfl⟩
          rw [← hX] at HW7 HB7 HO7 ⊢
          clear hX b0 b1 f0 f1 p0 p1 p2 p3 p4 p5
          obtain ⟨p0, p1, p2, p3, p4, p5⟩ := HP.out _ HB7.out
          simp only [List.setIfInBounds_toArray, List.set_cons_zero, List.set_cons_succ] at HW7
          have b0 := HW7.out.cell 0
          have b1 := HW7.out.cell 1
          simp only [List.getElem?_toArray, List.getElem?_cons_zero, List.getElem?_cons_succ] at b0 b1
          have f0 := HW7.out.frozen 0
          have f1 := HW7.out.frozen 1
          have tst := own_sub HO7.out
          go_wp2_with (at_builtin; refine app_rec rfl (.tmp 39) (.tmp 41) 23 rfl w.heap.size 27 i0 _ 2 16 Try.underlying23 hi0 hz0 hz1 hz2 rfl (by decide) _ _ _ rfl tst [.int .i64 ax, .int .i64 ay] rfl 1 rfl (pts_one [(ax, ay)]) (by have := Hm.out; unfold maxLen; omega) (by have := Hm.out; omega) HB7.out.size ?_)
          intro v3 w3 h2 h3 h5
          have hG : GoneP X7 w.heap.size v (m ++ [(ax, ay)]) v3 w3 := GoneP.grown h2 (by simp) (by rw [pts_append]; rfl) h3 h5
          have HG := Lib.hid hG
          clear h2 h3 h5 hG tst
          go_wp2_with fail
          go_roundw
          case rel => exact ⟨k + 1, m ++ [(ax, ay)], v3, hlt, by go_num, rfl, HG.out.own, by have := Hm.out; simp; omega, HB7.out.trans (HG.out.below HO7.out HB7.out.size), Hs2⟩
          case measure => simp [intOf]; omega
        · rw [show okF qy ry dy = false by simpa using oky] at hry
          rw [show rz qy ry dy = 0 from if_neg oky] at hs2
          have Hs2 := Lib.hid hs2
          clear hs2 okx oky
          clear p0 p1 p2 p3 p4 p5
          obtain ⟨p0, p1, p2, p3, p4, p5⟩ := HP.out _ HB1.out
          go_wp2_with fail
          refine (hrx.out _).mono ?_
          rintro e X2 ⟨rfl, hb2⟩
          have HB2 := Lib.hid (below_then HB1.out hb2 HB1.out.size)
          have HW2 := Lib.hid (HW1.out.below hb2 HW1.out.lt)
          have HO2 := Lib.hid (HO1.out.below hb2)
          obtain ⟨p0, p1, p2, p3, p4, p5⟩ := HP.out _ HB2.out
          clear hb2 HB1 HW1 HO1
          go_wp2_with fail
          refine (hnx.out _).mono ?_
          rintro e X3 ⟨rfl, hb3⟩
          have HB3 := Lib.hid (below_then HB2.out hb3 HB2.out.size)
          have HW3 := Lib.hid (HW2.out.below hb3 HW2.out.lt)
          have HO3 := Lib.hid (HO2.out.below hb3)
          obtain ⟨p0, p1, p2, p3, p4, p5⟩ := HP.out _ HB3.out
          clear hb3 HB2 HW2 HO2
          have b0 := HW3.out.cell 0
          have b1 := HW3.out.cell 1
          simp only [List.getElem?_toArray, List.getElem?_cons_zero, List.getElem?_cons_succ] at b0 b1
          have f0 := HW3.out.frozen 0
          have f1 := HW3.out.frozen 1
          have HW4 := Lib.hid (HW3.out.set 0 (.int .i64 ax))
          have HB4 := Lib.hid (HB3.out.setCell Hg.out (p := ⟨g, 0, none⟩) (.int .i64 ax))
          have HO4 := Lib.hid (HO3.out.only (Only.setCell (S := fun k => k = g) (Only.refl _ _) (p := ⟨g, 0, none⟩) (fun _ => rfl) (.int .i64 ax)) (fun b e1 e2 => Hvg.out (by rw [e1, e2])))
          go_upto_region 8 with (fail)
          obtain ⟨X4, hX⟩ : ∃ X, X = X3.setCell ⟨g, 0, none⟩ (.int .i64 ax) := ⟨_, rfl⟩
          rw [← hX] at HW4 HB4 HO4 ⊢
          clear hX b0 b1 f0 f1 p0 p1 p2 p3 p4 p5
          obtain ⟨p0, p1, p2, p3, p4, p5⟩ := HP.out _ HB4.out
          simp only [List.setIfInBounds_toArray, List.set_cons_zero, List.set_cons_succ] at HW4
          go_wp2_with fail
          refine (hry.out _).mono ?_
          rintro e X5 ⟨rfl, hb5⟩
          have HB5 := Lib.hid (below_then HB4.out hb5 HB4.out.size)
          have HW5 := Lib.hid (HW4.out.below hb5 HW4.out.lt)
          have HO5 := Lib.hid (HO4.out.below hb5)
          obtain ⟨p0, p1, p2, p3, p4, p5⟩ := HP.out _ HB5.out
          clear hb5 HB4 HW4 HO4
          have b0 := HW5.out.cell 0
          have b1 := HW5.out.cell 1
          simp only [List.getElem?_toArray, List.getElem?_cons_zero, List.getElem?_cons_succ] at b0 b1
          have f0 := HW5.out.frozen 0
          have f1 := HW5.out.frozen 1
          have tst := own_sub HO5.out
          go_wp2_with (at_builtin; refine app_rec rfl (.tmp 39) (.tmp 41) 23 rfl w.heap.size 27 i0 _ 2 16 Try.underlying23 hi0 hz0 hz1 hz2 rfl (by decide) _ _ _ rfl tst [.int .i64 ax, .int .i64 0] rfl 1 rfl (pts_one [(ax, 0)]) (by have := Hm.out; unfold maxLen; omega) (by have := Hm.out; omega) HB5.out.size ?_)
          intro v3 w3 h2 h3 h5
          have hG : GoneP X5 w.heap.size v (m ++ [(ax, 0)]) v3 w3 := GoneP.grown h2 (by simp) (by rw [pts_append]; rfl) h3 h5
          have HG := Lib.hid hG
          clear h2 h3 h5 hG tst
          go_wp2_with fail
          go_roundw
          case rel => exact ⟨k + 1, m ++ [(ax, 0)], v3, hlt, by go_num, rfl, HG.out.own, by have := Hm.out; simp; omega, HB5.out.trans (HG.out.below HO5.out HB5.out.size), Hs2⟩
          case measure => simp [intOf]; omega
      · rw [show okF qx rx dx = false by simpa using okx] at hrx
        rw [show rz qx rx dx = 0 from if_neg okx] at hs2
        by_cases oky : okF qy ry dy = true
        · have hny := Lib.hid fun W => rround_any qy ry dy W oky
          rw [oky] at hry
          rw [show rz qy ry dy = rnd qy ry dy from if_pos oky] at hs2
          generalize rnd qy ry dy = ay at *
          have Hs2 := Lib.hid hs2
          clear hs2 okx oky
          clear p0 p1 p2 p3 p4 p5
          obtain ⟨p0, p1, p2, p3, p4, p5⟩ := HP.out _ HB1.out
          go_wp2_with fail
          refine (hrx.out _).mono ?_
          rintro e X2 ⟨rfl, hb2⟩
          have HB2 := Lib.hid (below_then HB1.out hb2 HB1.out.size)
          have HW2 := Lib.hid (HW1.out.below hb2 HW1.out.lt)
          have HO2 := Lib.hid (HO1.out.below hb2)
          obtain ⟨p0, p1, p2, p3, p4, p5⟩ := HP.out _ HB2.out
          clear hb2 HB1 HW1 HO1
          go_wp2_with fail
          refine (hry.out _).mono ?_
          rintro e X3 ⟨rfl, hb3⟩
          have HB3 := Lib.hid (below_then HB2.out hb3 HB2.out.size)
          have HW3 := Lib.hid (HW2.out.below hb3 HW2.out.lt)
          have HO3 := Lib.hid (HO2.out.below hb3)
          obtain ⟨p0, p1, p2, p3, p4, p5⟩ := HP.out _ HB3.out
          clear hb3 HB2 HW2 HO2
          go_wp2_with fail
          refine (hny.out _).mono ?_
          rintro e X4 ⟨rfl, hb4⟩
          have HB4 := Lib.hid (below_then HB3.out hb4 HB3.out.size)
          have HW4 := Lib.hid (HW3.out.below hb4 HW3.out.lt)
          have HO4 := Lib.hid (HO3.out.below hb4)
          obtain ⟨p0, p1, p2, p3, p4, p5⟩ := HP.out _ HB4.out
          clear hb4 HB3 HW3 HO3
          have b0 := HW4.out.cell 0
          have b1 := HW4.out.cell 1
          simp only [List.getElem?_toArray, List.getElem?_cons_zero, List.getElem?_cons_succ] at b0 b1
          have f0 := HW4.out.frozen 0
          have f1 := HW4.out.frozen 1
          have HW5 := Lib.hid (HW4.out.set 1 (.int .i64 ay))
          have HB5 := Lib.hid (HB4.out.setCell Hg.out (p := ⟨g, 1, none⟩) (.int .i64 ay))
          have HO5 := Lib.hid (HO4.out.only (Only.setCell (S := fun k => k = g) (Only.refl _ _) (p := ⟨g, 1, none⟩) (fun _ => rfl) (.int .i64 ay)) (fun b e1 e2 => Hvg.out (by rw [e1, e2])))
          go_upto_region 10 with (fail)
          obtain ⟨X5, hX⟩ : ∃ X, X = X4.setCell ⟨g, 1, none⟩ (.int .i64 ay) := ⟨_, rfl⟩
          rw [← hX] at HW5 HB5 HO5 ⊢
          clear hX b0 b1 f0 f1 p0 p1 p2 p3 p4 p5
          obtain ⟨p0, p1, p2, p3, p4, p5⟩ := HP.out _ HB5.out
          simp only [List.setIfInBounds_toArray, List.set_cons_zero, List.set_cons_succ] at HW5
          have b0 := HW5.out.cell 0
          have b1 := HW5.out.cell 1
          simp only [List.getElem?_toArray, List.getElem?_cons_zero, List.getElem?_cons_succ] at b0 b1
          have f0 := HW5.out.frozen 0
          have f1 := HW5.out.frozen 1
          have tst := own_sub HO5.out
          go_wp2_with (at_builtin; refine app_rec rfl (.tmp 39) (.tmp 41) 23 rfl w.heap.size 27 i0 _ 2 16 Try.underlying23 hi0 hz0 hz1 hz2 rfl (by decide) _ _ _ rfl tst [.int .i64 0, .int .i64 ay] rfl 1 rfl (pts_one [(0, ay)]) (by have := Hm.out; unfold maxLen; omega) (by have := Hm.out; omega) HB5.out.size ?_)
          intro v3 w3 h2 h3 h5
          have hG : GoneP X5 w.heap.size v (m ++ [(0, ay)]) v3 w3 := GoneP.grown h2 (by simp) (by rw [pts_append]; rfl) h3 h5
          have HG := Lib.hid hG
          clear h2 h3 h5 hG tst
          go_wp2_with fail
          go_roundw
          case rel => exact ⟨k + 1, m ++ [(0, ay)], v3, hlt, by go_num, rfl, HG.out.own, by have := Hm.out; simp; omega, HB5.out.trans (HG.out.below HO5.out HB5.out.size), Hs2⟩
          case measure => simp [intOf]; omega
        · rw [show okF qy ry dy = false by simpa using oky] at hry
          rw [show rz qy ry dy = 0 from if_neg oky] at hs2
          have Hs2 := Lib.hid hs2
          clear hs2 okx oky
          clear p0 p1 p2 p3 p4 p5
          obtain ⟨p0, p1, p2, p3, p4, p5⟩ := HP.out _ HB1.out
          go_wp2_with fail
          refine (hrx.out _).mono ?_
          rintro e X2 ⟨rfl, hb2⟩
          have HB2 := Lib.hid (below_then HB1.out hb2 HB1.out.size)
          have HW2 := Lib.hid (HW1.out.below hb2 HW1.out.lt)
          have HO2 := Lib.hid (HO1.out.below hb2)
          obtain ⟨p0, p1, p2, p3, p4, p5⟩ := HP.out _ HB2.out
          clear hb2 HB1 HW1 HO1
          go_wp2_with fail
          refine (hry.out _).mono ?_
          rintro e X3 ⟨rfl, hb3⟩
          have HB3 := Lib.hid (below_then HB2.out hb3 HB2.out.size)
          have HW3 := Lib.hid (HW2.out.below hb3 HW2.out.lt)
          have HO3 := Lib.hid (HO2.out.below hb3)
          obtain ⟨p0, p1, p2, p3, p4, p5⟩ := HP.out _ HB3.out
          clear hb3 HB2 HW2 HO2
          have b0 := HW3.out.cell 0
          have b1 := HW3.out.cell 1
          simp only [List.getElem?_toArray, List.getElem?_cons_zero, List.getElem?_cons_succ] at b0 b1
          have f0 := HW3.out.frozen 0
          have f1 := HW3.out.frozen 1
          have tst := own_sub HO3.out
          go_wp2_with (at_builtin; refine app_rec rfl (.tmp 39) (.tmp 41) 23 rfl w.heap.size 27 i0 _ 2 16 Try.underlying23 hi0 hz0 hz1 hz2 rfl (by decide) _ _ _ rfl tst [.int .i64 0, .int .i64 0] rfl 1 rfl (pts_one [(0, 0)]) (by have := Hm.out; unfold maxLen; omega) (by have := Hm.out; omega) HB3.out.size ?_)
          intro v3 w3 h2 h3 h5
          have hG : GoneP X3 w.heap.size v (m ++ [(0, 0)]) v3 w3 := GoneP.grown h2 (by simp) (by rw [pts_append]; rfl) h3 h5
          have HG := Lib.hid hG
          clear h2 h3 h5 hG tst
          go_wp2_with fail
          go_roundw
          case rel => exact ⟨k + 1, m ++ [(0, 0)], v3, hlt, by go_num, rfl, HG.out.own, by have := Hm.out; simp; omega, HB3.out.trans (HG.out.below HO3.out HB3.out.size), Hs2⟩
          case measure => simp [intOf]; omega
    · obtain rfl : k = L0 := by omega
      rw [List.drop_of_length_le (by have := HL.out; omega)] at hs
      have e : m = R := by have := hs.out; simpa using this
      subst e
      have H1 := Lib.hid HO.out.rd
      have HF := Lib.hid fun b e => (HO.out.lt b e).1
      clear HO
      go_wp2_with fail
      go_ret
      exact ⟨_, rfl, H1.out, HBW.out, HF.out⟩
end Go.Proofs.Ytgfioofloaeecaa
