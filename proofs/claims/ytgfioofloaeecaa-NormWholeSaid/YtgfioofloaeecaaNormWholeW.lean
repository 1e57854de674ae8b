/- Walks over layer 26: the law of whole numbers. -/
import Derived.Test.YtgfioofloaeecaaNormRoundsW
namespace Go.Proofs.Ytgfioofloaeecaa
open Go.RowKit
set_option linter.unusedVariables false
set_option maxRecDepth 100000

theorem far_in {x : Int} (h : farB x = false) : -4503599627370496 ≤ x ∧ x ≤ 4503599627370496 := by
  have := of_decide_eq_false h
  omega
theorem rz_whole {x : Int} (h : farB x = false) : rz x 0 1 = x := by
  have h1 := far_in h
  have h2 : okF x 0 1 = true := by
    unfold okF okQ
    rw [decide_eq_true h1]
    rfl
  unfold rz
  rw [if_pos h2]
  unfold rnd
  rw [if_neg (by omega)]
structure GoneS (w : World) (base : Nat) (v : Value) (l : List Sp) (v' : Value) (w' : World) : Prop where
  own : OwnS w' base v' l
  only : Only (fun k => v.ownBlock = some k) w w'
theorem GoneS.below {w w' : World} {base : Nat} {v v' : Value} {l m : List Sp} (h : GoneS w base v l v' w') (hown : OwnS w base v m) (hB : base ≤ w.heap.size) : Below base w w' :=
  h.only.below (fun b hb e => by have := (hown.lt b e).1; omega) hB
theorem own_subS {w : World} {base : Nat} {v : Value} {l : List Sp} (h : OwnS w base v l) : w.ownsRow base 46 6 v l.length (spots l) := h
/-- A spot is appended to a row of the call's own. -/
theorem app_spot {w : World} (base : Nat) (v : Value) (l : List Sp) (s : Sp) (c : Nat) (h : OwnS w base v l) (hl : l.length ≤ 1000000) (hB : base ≤ w.heap.size) :
    ∃ v' w', (Builtin.append_ #[22, 22] 22 #[v, .slice (some ⟨w.heap.size, 0, none⟩) 1 c]).run Try.prog (w.alloc (.cells s.cs.toArray 46)) = .ok v' w' ∧ GoneS w base v (l ++ [s]) v' w' := by
  obtain ⟨i0, hi0, hz0, hz1, hz2⟩ := info_parts spinfo
  have hV : Vals (w.alloc (.cells s.cs.toArray 46)) (w.heap.size + 1) 6 (some ⟨w.heap.size, 0, none⟩) 1 (spots [s]) := by
    have e : spots [s] = s.cs := by simp [spots]
    rw [e]
    exact (Vals.of_block (xs := s.cs) (heap_alloc_new w _) rfl).more (by simp)
  obtain ⟨v3, w3, hrun, h2, h3, h5⟩ := run_append_vals (P := Try.prog) (w := w.alloc (.cells s.cs.toArray 46)) base 22 22 46 i0 _ 6 48 Try.underlying22 hi0 hz0 hz1 hz2 rfl (by omega) v _ _ (World.ownsRow.alloc (own_subS h) _) (w.heap.size + 1) (some ⟨w.heap.size, 0, none⟩) 1 c _ hV (spots_one _) (by unfold maxLen; omega) (by omega) (by simp; omega)
  refine ⟨v3, w3, hrun, ?_, Only.of_grown ((World.grownBy_alloc w _ _).trans h3) (fun b e => e)⟩
  have e : spots (l ++ [s]) = spots l ++ spots [s] := spots_append l [s]
  unfold OwnS
  rw [e, List.length_append]
  exact h2

set_option maxHeartbeats 8000000 in
theorem normWhole_walk (u v : Value) (lo hi : Int) (w : World) (hu : ∃ p, RdP w w.heap.size u p) (hv : ∃ l, RdS w w.heap.size v l) (hlo : -9223372036854775808 ≤ lo ∧ lo < 9223372036854775808) (hhi : -9223372036854775808 ≤ hi ∧ hi < 9223372036854775808) :
    Calls Try.prog 5 #[u, v, .int .i64 lo, .int .i64 hi] w fun e w' => e = .returned (.bool true) ∧ Below w.heap.size w w' := by
  obtain ⟨l, hvl⟩ := hv
  obtain ⟨p, hup⟩ := hu
  have Hl := Lib.hid live26_any
  have HVL := Lib.hid hvl
  have HUP := Lib.hid hup
  obtain ⟨a, c, rfl, _, _, ha, hok⟩ := hvl
  obtain ⟨b, d, rfl, _, _, hb⟩ := hup
  have HS := Lib.hid ha
  have HK := Lib.hid hok
  clear hlo hhi ha hok
  by_cases h1 : 100 < p.length
  · have d1 : decide ((100 : Int) < (p.length : Int)) = true := decide_eq_true (by omega)
    have d2 : decide (100 < p.length) = true := decide_eq_true (by omega)
    clear hb
    go_enter Try.func5, Try.ntmps5
    go_wp2_with fail
    refine (Hl.out _).mono ?_
    rintro e X ⟨rfl, hX⟩
    have HX := Lib.hid hX
    clear hX
    go_wp2_with fail
    go_ret
    exact ⟨rfl, HX.out⟩
  · have d1 : decide ((100 : Int) < (p.length : Int)) = false := decide_eq_false (by omega)
    have d2 : decide (100 < p.length) = false := decide_eq_false (by omega)
    by_cases h2 : 100 < l.length
    · have d3 : decide ((100 : Int) < (l.length : Int)) = true := decide_eq_true (by omega)
      have d4 : decide (100 < l.length) = true := decide_eq_true (by omega)
      clear hb
      go_enter Try.func5, Try.ntmps5
      go_wp2_with fail
      refine (Hl.out _).mono ?_
      rintro e X ⟨rfl, hX⟩
      have HX := Lib.hid hX
      clear hX
      go_wp2_with fail
      go_ret
      exact ⟨rfl, HX.out⟩
    · have d3 : decide ((100 : Int) < (l.length : Int)) = false := decide_eq_false (by omega)
      have d4 : decide (100 < l.length) = false := decide_eq_false (by omega)
      obtain ⟨L0, hL0⟩ : ∃ L, L = p.length := ⟨_, rfl⟩
      obtain ⟨L1, hL1⟩ : ∃ L, L = l.length := ⟨_, rfl⟩
      have HA := Lib.hid hb
      have HL := Lib.hid hL0
      have HL1 := Lib.hid hL1
      rw [← hL0] at h1 d1 d2 HUP ⊢
      rw [← hL1] at h2 d3 d4 HVL ⊢
      have hfar := Lib.hid fun x y W => farP_any x y W
      clear hL0 hL1 hb
      go_enter Try.func5, Try.ntmps5
      go_wp2_with fail
      go_loopw [10, 9] (fun i u W => ∃ (k : Nat) (m : List Sp) (v : Value), k ≤ L0 ∧ i = .int .i64 (k : Int) ∧ v = u ∧ Hid (OwnS W w.heap.size v m) ∧ m.length ≤ k ∧ Hid (Below w.heap.size w W) ∧ Hid (m.map rzS ++ p.drop k = p) ∧ Hid (∀ s ∈ m, s.ok)) (fun i _ _ => L0 - (intOf i).toNat)
      case atStart => exact ⟨0, [], _, Nat.zero_le _, rfl, rfl, OwnS.nil_ _ _, Nat.le_refl _, Below.refl _ _, rfl, Lib.hid (by simp)⟩
      case round =>
        obtain ⟨k, m, v, hk, rfl, rfl, HO, hm, HBW, hs, Hmk⟩ := hrel
        by_cases hlt : k < L0
        · have hkl : k < p.length := by have := HL.out; omega
          have hdr : p.drop k = p[k] :: p.drop (k + 1) := List.drop_eq_getElem_cons hkl
          obtain ⟨b1, o1, rfl, hq1, p0, p1⟩ := HA.out.at k hkl
          have hs2 := hs.out
          rw [hdr] at hs2
          generalize p[k]'hkl = q at *
          obtain ⟨x, y⟩ := q
          simp only at p0 p1
          have HP : Hid (∀ X, Below w.heap.size w X → X.cell? ⟨b1, o1 + k * 2, none⟩ = some (.int .i64 x) ∧ X.cell? ⟨b1, o1 + k * 2 + 1, none⟩ = some (.int .i64 y)) := fun X hb => ⟨(hb.cell hq1).trans p0, (hb.cell hq1).trans p1⟩
          obtain ⟨p0, p1⟩ := HP.out _ HBW.out
          have hk0 : (0 : Int) ≤ (k : Int) := by omega
          have hk1 : (k : Int) < (L0 : Int) := by omega
          have Hm := Lib.hid hm
          clear hs hdr hm hq1
          go_wp2_with fail
          refine (hfar.out x y _).mono ?_
          rintro e X ⟨rfl, hX⟩
          have HB1 := Lib.hid (below_then HBW.out hX HBW.out.size)
          have HO1 := Lib.hid (HO.out.below hX)
          clear hX p0 p1 HBW HO
          cases hst : (farB x || farB y)
          · rw [Bool.or_eq_false_iff] at hst
            have e1 := rz_whole hst.1
            have e2 := rz_whole hst.2
            have b1 := far_in hst.1
            have b2 := far_in hst.2
            have Hs2 := Lib.hid (show (m ++ [(⟨x, 0, 1, y, 0, 1⟩ : Sp)]).map rzS ++ p.drop (k + 1) = p by simpa [rzS, e1, e2] using hs2)
            have Hmk2 := Lib.hid (show ∀ s ∈ m ++ [(⟨x, 0, 1, y, 0, 1⟩ : Sp)], s.ok from fun s h => by
              rcases List.mem_append.1 h with h | h
              · exact Hmk.out s h
              · rw [List.mem_singleton.1 h]; exact ⟨⟨by show _ ≤ x; omega, by show x < _; omega⟩, by show 0 < _; omega, by show 1 < _; omega, ⟨by show _ ≤ y; omega, by show y < _; omega⟩, by show 0 < _; omega, by show 1 < _; omega⟩)
            have hd : OwnS X.drew w.heap.size v m := HO1.out
            obtain ⟨v3, w3, hrun, hG⟩ := app_spot w.heap.size v m ⟨x, 0, 1, y, 0, 1⟩ 1 hd (by have := Hm.out; omega) HB1.out.size
            have Hrun := Lib.hid hrun
            have HG := Lib.hid hG
            have HB3 := Lib.hid (HB1.out.drew.trans (hG.below hd HB1.out.size))
            clear hs2 hst e1 e2 b1 b2 hd hrun hG
            go_wp2_with fail
            refine wp_region_held (S := Below w.heap.size w) (by kernel_rfl) ?_
            refine wpAnyH_take (i := 0) (oi := { dst := some 34, op := Go.Op.move (Go.Operand.tmp 9), type := 22, pos := "law.go:67", after := #[], guard := none }) (v := ?_) rfl (by kernel_rfl) (by kernel_rfl) (by kernel_rfl) (fun _ _ _ h => h) (Or.inl ⟨by rfl, ?_⟩) (HB1.out.drew) ?_
            rotate_left 1
            · intro w5 hSw
              go_simp; all_goals (with_reducible rfl)
            try simp only [Act.put, List.setIfInBounds_toArray, List.set_cons_zero, List.set_cons_succ]
            refine wpAnyH_take (i := 1) (oi := { dst := some 35, op := Go.Op.move (Go.Operand.tmp 0), type := 23, pos := "law.go:67", after := #[], guard := none }) (v := ?_) rfl (by kernel_rfl) (by kernel_rfl) (by kernel_rfl) (fun _ _ _ h => h) (Or.inl ⟨by rfl, ?_⟩) (HB1.out.drew) ?_
            rotate_left 1
            · intro w5 hSw
              go_simp; all_goals (with_reducible rfl)
            try simp only [Act.put, List.setIfInBounds_toArray, List.set_cons_zero, List.set_cons_succ]
            refine wpAnyH_take (i := 2) (oi := { dst := some 36, op := Go.Op.move (Go.Operand.tmp 10), type := 3, pos := "law.go:67", after := #[], guard := none }) (v := ?_) rfl (by kernel_rfl) (by kernel_rfl) (by kernel_rfl) (fun _ _ _ h => h) (Or.inl ⟨by rfl, ?_⟩) (HB1.out.drew) ?_
            rotate_left 1
            · intro w5 hSw
              go_simp; all_goals (with_reducible rfl)
            try simp only [Act.put, List.setIfInBounds_toArray, List.set_cons_zero, List.set_cons_succ]
            refine wpAnyH_take (i := 3) (oi := { dst := some 37, op := Go.Op.indexAddr 23 (Go.Operand.tmp 35) (Go.Operand.tmp 36), type := 0, pos := "law.go:67", after := #[{ on := 1, ground := Go.Ground.data }, { on := 2, ground := Go.Ground.data }], guard := none }) (v := ?_) rfl (by kernel_rfl) (by kernel_rfl) (by kernel_rfl) (fun _ _ _ h => h) (Or.inl ⟨by rfl, ?_⟩) (HB1.out.drew) ?_
            rotate_left 1
            · intro w5 hSw
              go_simp; all_goals (with_reducible rfl)
            try simp only [Act.put, List.setIfInBounds_toArray, List.set_cons_zero, List.set_cons_succ]
            refine wpAnyH_take (i := 4) (oi := { dst := some 38, op := Go.Op.fieldAddr 27 (Go.Operand.tmp 37) 0, type := 0, pos := "law.go:67", after := #[{ on := 3, ground := Go.Ground.data }], guard := none }) (v := ?_) rfl (by kernel_rfl) (by kernel_rfl) (by kernel_rfl) (fun _ _ _ h => h) (Or.inl ⟨by rfl, ?_⟩) (HB1.out.drew) ?_
            rotate_left 1
            · intro w5 hSw
              go_simp; all_goals (with_reducible rfl)
            try simp only [Act.put, List.setIfInBounds_toArray, List.set_cons_zero, List.set_cons_succ]
            refine wpAnyH_take (i := 5) (oi := { dst := some 39, op := Go.Op.load 3 (Go.Operand.tmp 38), type := 3, pos := "law.go:67", after := #[{ on := 4, ground := Go.Ground.data }], guard := none }) (v := ?_) rfl (by kernel_rfl) (by kernel_rfl) (by kernel_rfl) (fun _ _ _ h => h) (Or.inl ⟨by rfl, ?_⟩) (HB1.out.drew) ?_
            rotate_left 1
            · intro w5 hSw
              obtain ⟨p0, p1⟩ := HP.out _ hSw
              go_simp; all_goals (with_reducible rfl)
            try simp only [Act.put, List.setIfInBounds_toArray, List.set_cons_zero, List.set_cons_succ]
            refine wpAnyH_take (i := 6) (oi := { dst := some 40, op := Go.Op.build 44 #[(0, Go.Operand.tmp 39), (2, Go.Operand.const (Go.Value.int Go.IntKind.u64 1))], type := 44, pos := "law.go:67", after := #[{ on := 5, ground := Go.Ground.data }], guard := none }) (v := ?_) rfl (by kernel_rfl) (by kernel_rfl) (by kernel_rfl) (fun _ _ _ h => h) (Or.inl ⟨by rfl, ?_⟩) (HB1.out.drew) ?_
            rotate_left 1
            · intro w5 hSw
              go_simp; all_goals (with_reducible rfl)
            try simp only [Act.put, List.setIfInBounds_toArray, List.set_cons_zero, List.set_cons_succ]
            refine wpAnyH_take (i := 7) (oi := { dst := some 41, op := Go.Op.move (Go.Operand.tmp 0), type := 23, pos := "law.go:67", after := #[], guard := none }) (v := ?_) rfl (by kernel_rfl) (by kernel_rfl) (by kernel_rfl) (fun _ _ _ h => h) (Or.inl ⟨by rfl, ?_⟩) (HB1.out.drew) ?_
            rotate_left 1
            · intro w5 hSw
              go_simp; all_goals (with_reducible rfl)
            try simp only [Act.put, List.setIfInBounds_toArray, List.set_cons_zero, List.set_cons_succ]
            refine wpAnyH_take (i := 8) (oi := { dst := some 42, op := Go.Op.move (Go.Operand.tmp 10), type := 3, pos := "law.go:67", after := #[], guard := none }) (v := ?_) rfl (by kernel_rfl) (by kernel_rfl) (by kernel_rfl) (fun _ _ _ h => h) (Or.inl ⟨by rfl, ?_⟩) (HB1.out.drew) ?_
            rotate_left 1
            · intro w5 hSw
              go_simp; all_goals (with_reducible rfl)
            try simp only [Act.put, List.setIfInBounds_toArray, List.set_cons_zero, List.set_cons_succ]
            refine wpAnyH_take (i := 9) (oi := { dst := some 43, op := Go.Op.indexAddr 23 (Go.Operand.tmp 41) (Go.Operand.tmp 42), type := 0, pos := "law.go:67", after := #[{ on := 7, ground := Go.Ground.data }, { on := 8, ground := Go.Ground.data }], guard := none }) (v := ?_) rfl (by kernel_rfl) (by kernel_rfl) (by kernel_rfl) (fun _ _ _ h => h) (Or.inl ⟨by rfl, ?_⟩) (HB1.out.drew) ?_
            rotate_left 1
            · intro w5 hSw
              go_simp; all_goals (with_reducible rfl)
            try simp only [Act.put, List.setIfInBounds_toArray, List.set_cons_zero, List.set_cons_succ]
            refine wpAnyH_take (i := 10) (oi := { dst := some 44, op := Go.Op.fieldAddr 27 (Go.Operand.tmp 43) 1, type := 0, pos := "law.go:67", after := #[{ on := 9, ground := Go.Ground.data }], guard := none }) (v := ?_) rfl (by kernel_rfl) (by kernel_rfl) (by kernel_rfl) (fun _ _ _ h => h) (Or.inl ⟨by rfl, ?_⟩) (HB1.out.drew) ?_
            rotate_left 1
            · intro w5 hSw
              go_simp; all_goals (with_reducible rfl)
            try simp only [Act.put, List.setIfInBounds_toArray, List.set_cons_zero, List.set_cons_succ]
            refine wpAnyH_take (i := 11) (oi := { dst := some 45, op := Go.Op.load 3 (Go.Operand.tmp 44), type := 3, pos := "law.go:67", after := #[{ on := 10, ground := Go.Ground.data }], guard := none }) (v := ?_) rfl (by kernel_rfl) (by kernel_rfl) (by kernel_rfl) (fun _ _ _ h => h) (Or.inl ⟨by rfl, ?_⟩) (HB1.out.drew) ?_
            rotate_left 1
            · intro w5 hSw
              obtain ⟨p0, p1⟩ := HP.out _ hSw
              go_simp; all_goals (with_reducible rfl)
            try simp only [Act.put, List.setIfInBounds_toArray, List.set_cons_zero, List.set_cons_succ]
            refine wpAnyH_take (i := 12) (oi := { dst := some 46, op := Go.Op.build 44 #[(0, Go.Operand.tmp 45), (2, Go.Operand.const (Go.Value.int Go.IntKind.u64 1))], type := 44, pos := "law.go:67", after := #[{ on := 11, ground := Go.Ground.data }], guard := none }) (v := ?_) rfl (by kernel_rfl) (by kernel_rfl) (by kernel_rfl) (fun _ _ _ h => h) (Or.inl ⟨by rfl, ?_⟩) (HB1.out.drew) ?_
            rotate_left 1
            · intro w5 hSw
              go_simp; all_goals (with_reducible rfl)
            try simp only [Act.put, List.setIfInBounds_toArray, List.set_cons_zero, List.set_cons_succ]
            refine wpAnyH_take (i := 13) (oi := { dst := some 47, op := Go.Op.build 46 #[(0, Go.Operand.tmp 40), (1, Go.Operand.tmp 46)], type := 46, pos := "law.go:67", after := #[{ on := 6, ground := Go.Ground.data }, { on := 12, ground := Go.Ground.data }], guard := none }) (v := ?_) rfl (by kernel_rfl) (by kernel_rfl) (by kernel_rfl) (fun _ _ _ h => h) (Or.inl ⟨by rfl, ?_⟩) (HB1.out.drew) ?_
            rotate_left 1
            · intro w5 hSw
              go_simp; all_goals (with_reducible rfl)
            try simp only [Act.put, List.setIfInBounds_toArray, List.set_cons_zero, List.set_cons_succ]
            refine wpAnyH_ready (rs := [14]) (by kernel_rfl) (by simp) ?_
            refine AllReadyH.cons (o := { dst := some 48, op := Go.Op.buildSlice 22 1 #[(0, Go.Operand.tmp 47)], type := 22, pos := "law.go:67", after := #[{ on := 13, ground := Go.Ground.data }], guard := none }) rfl (fun K hK => ?_) AllReadyH.nil
            go_simp
            refine hK.out _ _ (HB1.out.drew.alloc HB1.out.drew.size _) (fun _ => ?_)
            clear hK K
            try simp only [Act.put, List.setIfInBounds_toArray, List.set_cons_zero, List.set_cons_succ]
            refine wpAnyH_ready (rs := [15]) (by kernel_rfl) (by simp) ?_
            refine AllReadyH.cons (o := { dst := some 49, op := Go.Op.call { callee := Go.Callee.builtin Go.Builtin.append, args := #[Go.Operand.tmp 34, Go.Operand.tmp 48], argTypes := #[22, 22] }, type := 22, pos := "law.go:67", after := #[{ on := 0, ground := Go.Ground.data }, { on := 14, ground := Go.Ground.data }], guard := none }) rfl (fun K hK => ?_) AllReadyH.nil
            refine held_app (by rfl) (.tmp 34) (.tmp 48) 22 rfl _ _ (v3) rfl rfl (Hrun.out) ?_
            refine hK.out _ _ (HB3.out) (fun _ => ?_)
            clear hK K
            try simp only [Act.put, List.setIfInBounds_toArray, List.set_cons_zero, List.set_cons_succ]
            refine wpAnyH_take (i := 16) (oi := { dst := some 9, op := Go.Op.assign (Go.Operand.tmp 49), type := 22, pos := "law.go:67", after := #[{ on := 15, ground := Go.Ground.data }, { on := 15, ground := Go.Ground.chain }, { on := 0, ground := Go.Ground.phase }, { on := 1, ground := Go.Ground.phase }, { on := 2, ground := Go.Ground.phase }, { on := 3, ground := Go.Ground.phase }, { on := 4, ground := Go.Ground.phase }, { on := 5, ground := Go.Ground.phase }, { on := 6, ground := Go.Ground.phase }, { on := 7, ground := Go.Ground.phase }, { on := 8, ground := Go.Ground.phase }, { on := 9, ground := Go.Ground.phase }, { on := 10, ground := Go.Ground.phase }, { on := 11, ground := Go.Ground.phase }, { on := 12, ground := Go.Ground.phase }, { on := 13, ground := Go.Ground.phase }, { on := 14, ground := Go.Ground.phase }, { on := 15, ground := Go.Ground.phase }], guard := none }) (v := ?_) rfl (by kernel_rfl) (by kernel_rfl) (by kernel_rfl) (fun _ _ _ h => h) (Or.inl ⟨by rfl, ?_⟩) (HB3.out) ?_
            rotate_left 1
            · intro w5 hSw
              go_simp; all_goals (with_reducible rfl)
            try simp only [Act.put, List.setIfInBounds_toArray, List.set_cons_zero, List.set_cons_succ]
            refine wpAnyH_done (by kernel_rfl) ?_ _
            go_wp2_with fail
            go_roundw
            case rel => exact ⟨k + 1, _, v3, hlt, by go_num, rfl, HG.out.own, by have := Hm.out; simp; omega, HB3, Hs2, Hmk2⟩
            case measure => simp [intOf]; omega
          · clear hs2
            go_wp2_with fail
            refine (Hl.out _).mono ?_
            rintro e Y ⟨rfl, hY⟩
            have HY := Lib.hid (below_then HB1.out hY HB1.out.size)
            clear hY
            go_wp2_with fail
            go_ret
            exact ⟨rfl, HY.out⟩
        · obtain rfl : k = L0 := by omega
          rw [List.drop_of_length_le (by have := HL.out; omega)] at hs
          have e : m.map rzS = p := by have := hs.out; simpa using this
          have E := Lib.hid e
          obtain ⟨X0, hX0⟩ : ∃ X, X = wr := ⟨_, rfl⟩
          have HV0 := Lib.hid (HO.out.rd Hmk.out)
          have Hm := Lib.hid hm
          obtain ⟨lr, hlr⟩ : ∃ lr, l.map rzS = lr := ⟨_, rfl⟩
          have Hlr := Lib.hid hlr
          have Hll : Hid (l.length ≤ 1000) := by have := HL1.out; show _ ≤ _; omega
          have Hpl : Hid (p.length ≤ 1000) := by have := HL.out; show _ ≤ _; omega
          have Hrl : Hid (lr.length = L1) := by show _ = _; rw [← hlr, List.length_map]; exact HL1.out.symm
          rw [← hX0] at HBW HV0 ⊢
          clear hX0 hs e hm hlr HO hfar
          have HB0 := HBW
          have hv9 := Lib.hid ((HVL.out.below HB0.out).more HB0.out.size)
          have Hq := Lib.hid (nround_any _ l X0 (by have := hv9.out; rw [HL1.out] at this; exact this) Hll.out lr Hlr.out)
          rw [← HL1.out] at Hq
          go_wp2_with fail
          refine Hq.out.mono ?_
          rintro e X1 ⟨r, rfl, hr, hX⟩
          have HB1 := Lib.hid (below_then HB0.out hX HB0.out.size)
          have RV0 := Lib.hid ((HV0.out.below hX).more hX.size)
          have Rr := Lib.hid hr
          obtain ⟨ra, rc, rfl, hrc1, hrc2, hra⟩ := hr
          rw [Hrl.out] at Rr ⊢
          have HRA := Lib.hid hra
          clear hX Hq hv9 HV0 hra hrc1 hrc2
          have Hq := Lib.hid (nround_any v m X1 RV0.out (by have := Hm.out; have := HL.out; have := Hpl.out; omega) p E.out)
          go_wp2_with fail
          refine Hq.out.mono ?_
          rintro e X2 ⟨r1, rfl, hr1, hX⟩
          have HB2 := Lib.hid (below_then HB1.out hX HB1.out.size)
          have H12 := Lib.hid hX
          have hu9 := Lib.hid ((HUP.out.below HB2.out).more HB2.out.size)
          rw [HL.out] at hu9
          have Hq := Lib.hid (samePts_any r1 _ p X2 hr1 hu9.out (by have := Hpl.out; omega))
          rw [← HL.out] at Hq
          clear hX hr1 hu9
          go_wp2_with fail
          refine Hq.out.mono ?_
          rintro e X3 ⟨rfl, hX⟩
          have HB3 := Lib.hid (below_then HB2.out hX HB2.out.size)
          have H13 := Lib.hid (below_then H12.out hX H12.out.size)
          clear hX Hq H12
          go_wp2_with fail
          have hbt := Lib.hid fun q r d W h1 h2 => between_any q r d lo hi W h1 h2
          have hin := Lib.hid fun x y W => rin24_any x y lo hi W
          go_loopw [12] (fun i W => ∃ k : Nat, k ≤ L1 ∧ i = .int .i64 (k : Int) ∧ Hid (Below X1.heap.size X1 W)) (fun i _ => L1 - (intOf i).toNat)
          case atStart => exact ⟨0, Nat.zero_le _, rfl, H13⟩
          case round =>
            obtain ⟨k, hk, rfl, HW1⟩ := hrel
            have HWW := Lib.hid (below_then HB1.out HW1.out HB1.out.size)
            by_cases hlt : k < L1
            · have hkl : k < l.length := by have := HL1.out; omega
              have hkr : k < lr.length := by have := Hrl.out; omega
              obtain ⟨b1, o1, rfl, hq1, p0, p1, p2, p3, p4, p5⟩ := HS.out.at k hkl
              obtain ⟨b2, o2, rfl, hq2, c0, c1⟩ := HRA.out.at k hkr
              have hrz : lr[k] = rzS l[k] := by
                have := Hlr.out
                subst this
                simp
              have hokk := HK.out _ (List.getElem_mem hkl)
              rw [hrz] at c0 c1
              generalize l[k]'hkl = s at *
              obtain ⟨qx, rx, dx, qy, ry, dy⟩ := s
              simp only [Sp.ok, rzS] at p0 p1 p2 p3 p4 p5 hokk c0 c1
              obtain ⟨_, k1, k2, _, k3, k4⟩ := hokk
              have HP : Hid (∀ X, Below w.heap.size w X → X.cell? ⟨b1, o1 + k * 6, none⟩ = some (.int .i64 qx) ∧ X.cell? ⟨b1, o1 + k * 6 + 1, none⟩ = some (.int .u64 (rx : Int)) ∧ X.cell? ⟨b1, o1 + k * 6 + 2, none⟩ = some (.int .u64 (dx : Int)) ∧
                  X.cell? ⟨b1, o1 + k * 6 + 3, none⟩ = some (.int .i64 qy) ∧ X.cell? ⟨b1, o1 + k * 6 + 4, none⟩ = some (.int .u64 (ry : Int)) ∧ X.cell? ⟨b1, o1 + k * 6 + 5, none⟩ = some (.int .u64 (dy : Int))) := fun X hb =>
                ⟨(hb.cell hq1).trans p0, (hb.cell hq1).trans p1, (hb.cell hq1).trans p2, (hb.cell hq1).trans p3, (hb.cell hq1).trans p4, (hb.cell hq1).trans p5⟩
              have HC : Hid (∀ X, Below X1.heap.size X1 X → X.cell? ⟨b2, o2 + k * 2, none⟩ = some (.int .i64 (rz qx rx dx)) ∧ X.cell? ⟨b2, o2 + k * 2 + 1, none⟩ = some (.int .i64 (rz qy ry dy))) := fun X hb => ⟨(hb.cell hq2).trans c0, (hb.cell hq2).trans c1⟩
              have hk0 : (0 : Int) ≤ (k : Int) := by omega
              have hk1 : (k : Int) < (L1 : Int) := by omega
              have hbx := Lib.hid fun W => hbt.out qx rx dx W k1 k2
              have hby := Lib.hid fun W => hbt.out qy ry dy W k3 k4
              have Hins : Hid (btw qx rx dx lo hi = true → btw qy ry dy lo hi = true → insB lo hi (rz qx rx dx, rz qy ry dy) = true) := fun e1 e2 => by
                have := btw_rz e1
                have := btw_rz e2
                exact decide_eq_true ⟨by show lo ≤ rz qx rx dx; omega, by show rz qx rx dx ≤ hi; omega, by show lo ≤ rz qy ry dy; omega, by show rz qy ry dy ≤ hi; omega⟩
              clear p0 p1 p2 p3 p4 p5 c0 c1 hq1 hq2 hkl hkr hrz k1 k2 k3 k4
              generalize rz qx rx dx = ax at *
              generalize rz qy ry dy = ay at *
              obtain ⟨p0, p1, p2, p3, p4, p5⟩ := HP.out _ HWW.out
              go_wp2_with fail
              refine (hbx.out _).mono ?_
              rintro e Y1 ⟨rfl, hY⟩
              have HY1 := Lib.hid (below_then HW1.out hY HW1.out.size)
              have HYW := Lib.hid (below_then HWW.out hY HWW.out.size)
              clear hY p0 p1 p2 p3 p4 p5
              cases hbtx : btw qx rx dx lo hi
              · clear hbx hby
                go_wp2_with fail
                go_roundw
                case rel => exact ⟨k + 1, hlt, by go_num, HY1⟩
                case measure => simp [intOf]; omega
              · obtain ⟨p0, p1, p2, p3, p4, p5⟩ := HP.out _ HYW.out
                clear hbx
                go_wp2_with fail
                refine (hby.out _).mono ?_
                rintro e Y2 ⟨rfl, hY⟩
                have HY2 := Lib.hid (below_then HY1.out hY HY1.out.size)
                clear hY p0 p1 p2 p3 p4 p5 hby
                cases hbty : btw qy ry dy lo hi
                · go_wp2_with fail
                  go_roundw
                  case rel => exact ⟨k + 1, hlt, by go_num, HY2⟩
                  case measure => simp [intOf]; omega
                · obtain ⟨c0, c1⟩ := HC.out _ HY2.out
                  have Hi2 := Lib.hid (Hins.out hbtx hbty)
                  clear hbtx hbty Hins
                  go_wp2_with fail
                  refine (hin.out ax ay _).mono ?_
                  rintro e Y3 ⟨rfl, hY⟩
                  have HY3 := Lib.hid (below_then HY2.out hY HY2.out.size)
                  rw [Hi2.out]
                  clear hY c0 c1
                  go_wp2_with fail
                  go_roundw
                  case rel => exact ⟨k + 1, hlt, by go_num, HY3⟩
                  case measure => simp [intOf]; omega
            · obtain rfl : k = L1 := by omega
              go_wp2_with fail
              refine (Hl.out _).mono ?_
              rintro e Y ⟨rfl, hY⟩
              have HY := Lib.hid (below_then HWW.out hY HWW.out.size)
              clear hY
              go_wp2_with fail
              go_ret
              exact ⟨rfl, HY.out⟩
end Go.Proofs.Ytgfioofloaeecaa
