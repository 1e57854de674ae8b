/- Walks over layer 12: the law of putting. -/
import Derived.Test.YtaafcmgkmdbefaaDirLaw
import Derived.Test.YtaafcmgkmdbefaaDirRefPut
import Derived.Test.YtaafcmgkmdbefaaHeld
namespace Go.Proofs.Ytaafcmgkmdbefaa
open Go.RowKit Var
set_option linter.unusedVariables false
set_option maxRecDepth 100000

theorem both_same (u v : Value) (l m : List En) (w : World) (hu : RdE w w.heap.size u l) (hv : RdE w w.heap.size v m) (s : Bool) (hs : decide (l = m) = s) :
    Calls Try.prog 10 #[u, v] w (fun e w' => e = .returned (.bool s) ∧ Below w.heap.size w w') ∧ Calls Try.prog 11 #[u, v] w fun e w' => e = .returned (.bool s) ∧ Below w.heap.size w w' := by
  subst hs
  exact ⟨same_any u v l m w hu hv, refSame_any u v l m w hu hv⟩

set_option maxHeartbeats 8000000 in
theorem dirPuts_walk (v u : Value) (w : World) (hv : ∃ l, RdE w w.heap.size v l) (hu : ∃ l, RdE w w.heap.size u l) :
    Calls Try.prog 3 #[v, u] w fun e w' => e = .returned (.bool true) ∧ Below w.heap.size w w' := by
  have Hl := Lib.hid live12_any
  obtain ⟨l, hl⟩ := hv
  obtain ⟨m, hm⟩ := hu
  have HV := Lib.hid hl
  have HU := Lib.hid hm
  obtain ⟨a, c, rfl, _, _, _, _⟩ := hl
  obtain ⟨b, d, rfl, _, _, _, _⟩ := hm
  obtain ⟨L, hL⟩ : ∃ L, L = l.length := ⟨_, rfl⟩
  obtain ⟨M, hM⟩ : ∃ M, M = m.length := ⟨_, rfl⟩
  have HL := Lib.hid hL
  rw [← hL] at HV ⊢
  rw [← hM] at HU ⊢
  clear hL hM
  by_cases h1 : 100 < L
  · have d1 : decide ((100 : Int) < (L : Int)) = true := decide_eq_true (by omega)
    have d2 : decide (100 < L) = true := decide_eq_true (by omega)
    go_enter Try.func3, Try.ntmps3
    go_wp2_with fail
    refine (Hl.out _).mono ?_
    rintro e X ⟨rfl, hX⟩
    have HX := Lib.hid hX
    clear hX
    go_wp2_with fail
    go_ret
    exact ⟨rfl, HX.out⟩
  · have d1 : decide ((100 : Int) < (L : Int)) = false := decide_eq_false (by omega)
    have d2 : decide (100 < L) = false := decide_eq_false (by omega)
    by_cases h2 : 100 < M
    · have d3 : decide ((100 : Int) < (M : Int)) = true := decide_eq_true (by omega)
      have d4 : decide (100 < M) = true := decide_eq_true (by omega)
      go_enter Try.func3, Try.ntmps3
      go_wp2_with fail
      refine (Hl.out _).mono ?_
      rintro e X ⟨rfl, hX⟩
      have HX := Lib.hid hX
      clear hX
      go_wp2_with fail
      go_ret
      exact ⟨rfl, HX.out⟩
    · have d3 : decide ((100 : Int) < (M : Int)) = false := decide_eq_false (by omega)
      have d4 : decide (100 < M) = false := decide_eq_false (by omega)
      obtain ⟨s, hs⟩ : ∃ s, decide (l = m) = s := ⟨_, rfl⟩
      obtain ⟨t, ht⟩ : ∃ t, rightE l = t := ⟨_, rfl⟩
      have Hs := Lib.hid hs
      have Ht := Lib.hid ht
      have Hlen : Hid (l.length ≤ 100) := by show _ ≤ _; have := HL.out; omega
      clear hs h1 h2
      cases t
      · have HP := Lib.hid (dput_no _ l w HV.out (by have := Hlen.out; omega) ht)
        clear ht
        go_enter Try.func3, Try.ntmps3
        go_wp2_with fail
        refine HP.out.mono ?_
        rintro e W1 ⟨p, rfl, hp, hb⟩
        have HV1 := Lib.hid ((HV.out.below hb).more hb.size)
        have HU1 := Lib.hid ((HU.out.below hb).more hb.size)
        have HB1 := Lib.hid hb
        obtain ⟨ap, cp, rfl, _, _, _, _⟩ := hp.nums
        clear hb HP HV HU hp
        go_wp2_with fail
        refine (right_any _ l _ HV1.out (by have := Hlen.out; omega) false Ht.out).mono ?_
        rintro e W2 ⟨rfl, hb⟩
        have HV2 := Lib.hid ((HV1.out.below hb).more hb.size)
        have HU2 := Lib.hid ((HU1.out.below hb).more hb.size)
        have HB2 := Lib.hid (below_then HB1.out hb HB1.out.size)
        clear hb HV1 HU1 HB1
        go_wp2_with fail
        refine (refRight_any _ l _ HV2.out (by have := Hlen.out; omega) false Ht.out).mono ?_
        rintro e W3 ⟨rfl, hb⟩
        have HV3 := Lib.hid ((HV2.out.below hb).more hb.size)
        have HU3 := Lib.hid ((HU2.out.below hb).more hb.size)
        have HB3 := Lib.hid (below_then HB2.out hb HB2.out.size)
        clear hb HV2 HU2 HB2
        go_wp2_with fail
        refine (both_same _ _ l m _ HV3.out HU3.out s Hs.out).1.mono ?_
        rintro e W4 ⟨rfl, hb⟩
        have HV4 := Lib.hid ((HV3.out.below hb).more hb.size)
        have HU4 := Lib.hid ((HU3.out.below hb).more hb.size)
        have HB4 := Lib.hid (below_then HB3.out hb HB3.out.size)
        clear hb HV3 HU3 HB3
        go_wp2_with fail
        refine (both_same _ _ l m _ HV4.out HU4.out s Hs.out).2.mono ?_
        rintro e W5 ⟨rfl, hb⟩
        have HV5 := Lib.hid ((HV4.out.below hb).more hb.size)
        have HB5 := Lib.hid (below_then HB4.out hb HB4.out.size)
        clear hb HV4 HU4 HB4 Hs
        have hss : (s != s) = false := by cases s <;> rfl
        cases s
        all_goals
          go_wp2_with fail
          refine (refRight_any _ l _ HV5.out (by have := Hlen.out; omega) false Ht.out).mono ?_
          rintro e W6 ⟨rfl, hb⟩
          have HB6 := Lib.hid (below_then HB5.out hb HB5.out.size)
          clear hb
          go_wp2_with fail
          refine (code12_any _ _).mono ?_
          rintro e Y ⟨rfl, rfl⟩
          go_wp2_with fail
          refine (Hl.out _).mono ?_
          rintro e X ⟨rfl, hb⟩
          have HB7 := Lib.hid (below_then HB6.out hb HB6.out.size)
          clear hb
          go_wp2_with fail
          go_ret
          exact ⟨rfl, HB7.out⟩
      · obtain ⟨P, hP⟩ : ∃ P, putE l = P := ⟨_, rfl⟩
        have HP := Lib.hid (dput_yes _ l w HV.out ht (by have := Hlen.out; omega) P hP)
        have hplt := putE_lt l
        have hgp := get_put ht
        have hpm := putE_most ht
        rw [hP] at hplt hgp hpm
        have Hplt := Lib.hid hplt
        have Hgp := Lib.hid hgp
        have Hpm : Hid (P.length ≤ 100000) := by show _ ≤ _; have := Hlen.out; omega
        have HPe := Lib.hid hP
        clear ht hP hplt hgp hpm
        go_enter Try.func3, Try.ntmps3
        go_wp2_with fail
        refine HP.out.mono ?_
        rintro e W1 ⟨p, rfl, hp, hb⟩
        have HV1 := Lib.hid ((HV.out.below hb).more hb.size)
        have HU1 := Lib.hid ((HU.out.below hb).more hb.size)
        have HB1 := Lib.hid hb
        obtain ⟨ap, cp, rfl, _, _, _, _⟩ := hp.nums
        have HP1 := Lib.hid hp
        clear hb HP HV HU hp
        go_wp2_with fail
        refine (right_any _ l _ HV1.out (by have := Hlen.out; omega) true Ht.out).mono ?_
        rintro e W2 ⟨rfl, hb⟩
        have HV2 := Lib.hid ((HV1.out.below hb).more hb.size)
        have HU2 := Lib.hid ((HU1.out.below hb).more hb.size)
        have HP2 := Lib.hid (HP1.out.below hb)
        have HB2 := Lib.hid (below_then HB1.out hb HB1.out.size)
        clear hb HV1 HU1 HB1 HP1
        go_wp2_with fail
        refine (refRight_any _ l _ HV2.out (by have := Hlen.out; omega) true Ht.out).mono ?_
        rintro e W3 ⟨rfl, hb⟩
        have HV3 := Lib.hid ((HV2.out.below hb).more hb.size)
        have HU3 := Lib.hid ((HU2.out.below hb).more hb.size)
        have HP3 := Lib.hid (HP2.out.below hb)
        have HB3 := Lib.hid (below_then HB2.out hb HB2.out.size)
        clear hb HV2 HU2 HB2 HP2
        go_wp2_with fail
        refine (both_same _ _ l m _ HV3.out HU3.out s Hs.out).1.mono ?_
        rintro e W4 ⟨rfl, hb⟩
        have HV4 := Lib.hid ((HV3.out.below hb).more hb.size)
        have HU4 := Lib.hid ((HU3.out.below hb).more hb.size)
        have HP4 := Lib.hid (HP3.out.below hb)
        have HB4 := Lib.hid (below_then HB3.out hb HB3.out.size)
        clear hb HV3 HU3 HB3 HP3
        go_wp2_with fail
        refine (both_same _ _ l m _ HV4.out HU4.out s Hs.out).2.mono ?_
        rintro e W5 ⟨rfl, hb⟩
        have HV5 := Lib.hid ((HV4.out.below hb).more hb.size)
        have HP5 := Lib.hid (HP4.out.below hb)
        have HB5 := Lib.hid (below_then HB4.out hb HB4.out.size)
        clear hb HV4 HU4 HB4 Hs HP4
        have hss : (s != s) = false := by cases s <;> rfl
        cases s
        all_goals
          go_wp2_with fail
          refine (refRight_any _ l _ HV5.out (by have := Hlen.out; omega) true Ht.out).mono ?_
          rintro e W6 ⟨rfl, hb⟩
          have HV6 := Lib.hid ((HV5.out.below hb).more hb.size)
          have HP6 := Lib.hid (HP5.out.below hb)
          have HB6 := Lib.hid (below_then HB5.out hb HB5.out.size)
          clear hb HV5 HP5 HB5
          have HG : Hid (Calls Try.prog 13 #[.slice ap P.length cp] W6 (GetPost W6 (l, 0))) := by
            obtain ⟨a6, c6, e6, _, _, _, hN6⟩ := HP6.out.nums
            injection e6 with e1 e2 e3
            subst e1 e3
            exact get_any _ _ P W6 hN6 Hplt.out Hpm.out _ Hgp.out
          unfold GetPost at HG
          go_wp2_with fail
          refine HG.out.mono ?_
          rintro e W7 ⟨k, rfl, hk, hb⟩
          have HK7 := Lib.hid hk
          have HV7 := Lib.hid ((HV6.out.below hb).more hb.size)
          have HP7 := Lib.hid (HP6.out.below hb)
          have HB7 := Lib.hid (below_then HB6.out hb HB6.out.size)
          clear hb hk HG HV6 HP6 HB6
          have k1 : Hid (Below W7.heap.size W7 W7.drew) := below_drewL (Below.refl _ _)
          have hRP : Hid (∀ W, Below W7.heap.size W7 W → Calls Try.prog 14 #[.slice a L c] W fun e w' => ∃ v', e = .returned v' ∧ Own8 w' W.heap.size v' P ∧ Below W.heap.size W w') := fun W hb =>
            refPut_any _ l W ((HV7.out.below hb).more hb.size) Ht.out (by have := Hlen.out; omega) P HPe.out
          have hRS : Hid (∀ W, Below W7.heap.size W7 W → Calls Try.prog 11 #[k, .slice a L c] W fun e w' => e = .returned (.bool true) ∧ Below W.heap.size W w') := fun W hb =>
            same_one _ _ l W ((HK7.out.below hb).more hb.size) ((HV7.out.below hb).more hb.size)
          go_wp2_with fail
          refine held_start (by kernel_rfl) ?_
          refine wpAnyH_take (i := 0) (oi := { dst := some 56, op := Go.Op.move (Go.Operand.tmp 6), type := 25, pos := "law.go:31", after := #[], guard := none }) (v := ?_) rfl (by kernel_rfl) (by kernel_rfl) (by kernel_rfl) (fun _ _ _ h => h) (Or.inl ⟨by rfl, ?_⟩) (Kp.refl _) ?_
          rotate_left 1
          · intro w5 hSw
            go_simp; all_goals (with_reducible rfl)
          try simp only [Act.put, List.setIfInBounds_toArray, List.set_cons_zero, List.set_cons_succ]
          refine wpAnyH_take (i := 2) (oi := { dst := some 58, op := Go.Op.move (Go.Operand.tmp 8), type := 25, pos := "law.go:31", after := #[], guard := none }) (v := ?_) rfl (by kernel_rfl) (by kernel_rfl) (by kernel_rfl) (fun _ _ _ h => h) (Or.inl ⟨by rfl, ?_⟩) (Kp.refl _) ?_
          rotate_left 1
          · intro w5 hSw
            go_simp; all_goals (with_reducible rfl)
          try simp only [Act.put, List.setIfInBounds_toArray, List.set_cons_zero, List.set_cons_succ]
          refine wpAnyH_ready (rs := [1]) (by kernel_rfl) (by simp) ?_
          refine AllReadyH.cons (o := { dst := some 57, op := Go.Op.call { callee := Go.Callee.value (Go.Operand.func 12), args := #[Go.Operand.tmp 56], argTypes := #[25] }, type := 3, pos := "law.go:31", after := #[{ on := 0, ground := Go.Ground.data }], guard := none }) rfl (fun K hK => ?_) AllReadyH.nil
          go_simp
          refine (code12_any _ _).mono ?_; rintro e Y ⟨rfl, rfl⟩
          go_wp2_with fail
          refine hK.out _ _ (Below.refl _ _) (fun _ => held_more (Below.refl _ _) ?_)
          clear hK K
          try simp only [Act.put, List.setIfInBounds_toArray, List.set_cons_zero, List.set_cons_succ]
          refine wpAnyH_ready (rs := [3]) (by kernel_rfl) (by simp) ?_
          refine AllReadyH.cons (o := { dst := some 59, op := Go.Op.call { callee := Go.Callee.value (Go.Operand.func 12), args := #[Go.Operand.tmp 58], argTypes := #[25] }, type := 3, pos := "law.go:31", after := #[{ on := 2, ground := Go.Ground.data }, { on := 1, ground := Go.Ground.chain }], guard := none }) rfl (fun K hK => ?_) AllReadyH.nil
          go_simp
          refine (code12_any _ _).mono ?_; rintro e Y ⟨rfl, rfl⟩
          go_wp2_with fail
          refine hK.out _ _ (Below.refl _ _) (fun _ => held_more (Below.refl _ _) ?_)
          clear hK K
          try simp only [Act.put, List.setIfInBounds_toArray, List.set_cons_zero, List.set_cons_succ]
          refine wpAnyH_take (i := 4) (oi := { dst := some 60, op := Go.Op.binOp Go.BinOp.add 3 (Go.Operand.tmp 57) (Go.Operand.tmp 59) 3, type := 3, pos := "law.go:31", after := #[{ on := 1, ground := Go.Ground.data }, { on := 3, ground := Go.Ground.data }], guard := none }) (v := ?_) rfl (by kernel_rfl) (by kernel_rfl) (by kernel_rfl) (fun _ _ _ h => h) (Or.inl ⟨by rfl, ?_⟩) (Kp.refl _) ?_
          rotate_left 1
          · intro w5 hSw
            go_simp; all_goals (with_reducible rfl)
          try simp only [Act.put, List.setIfInBounds_toArray, List.set_cons_zero, List.set_cons_succ]
          refine wpAnyH_take (i := 5) (oi := { dst := some 61, op := Go.Op.binOp Go.BinOp.eql 3 (Go.Operand.tmp 60) (Go.Operand.const (Go.Value.int Go.IntKind.i64 0)) 3, type := 4, pos := "law.go:31", after := #[{ on := 4, ground := Go.Ground.data }], guard := none }) (v := ?_) rfl (by kernel_rfl) (by kernel_rfl) (by kernel_rfl) (fun _ _ _ h => h) (Or.inl ⟨by rfl, ?_⟩) (Kp.refl _) ?_
          rotate_left 1
          · intro w5 hSw
            go_simp; all_goals (with_reducible rfl)
          try simp only [Act.put, List.setIfInBounds_toArray, List.set_cons_zero, List.set_cons_succ]
          refine wpAnyH_take (i := 6) (oi := { dst := some 62, op := Go.Op.move (Go.Operand.tmp 61), type := 4, pos := "law.go:31", after := #[{ on := 5, ground := Go.Ground.data }, { on := 3, ground := Go.Ground.chain }], guard := none }) (v := ?_) rfl (by kernel_rfl) (by kernel_rfl) (by kernel_rfl) (fun _ _ _ h => h) (Or.inl ⟨by rfl, ?_⟩) (Kp.refl _) ?_
          rotate_left 1
          · intro w5 hSw
            go_simp; all_goals (with_reducible rfl)
          try simp only [Act.put, List.setIfInBounds_toArray, List.set_cons_zero, List.set_cons_succ]
          refine wpAnyH_take (i := 7) (oi := { dst := some 63, op := Go.Op.move (Go.Operand.tmp 5), type := 24, pos := "law.go:31", after := #[{ on := 6, ground := Go.Ground.guard }], guard := some (6, true) }) (v := ?_) rfl (by kernel_rfl) (by kernel_rfl) (by kernel_rfl) (fun _ _ _ h => h) (Or.inl ⟨by rfl, ?_⟩) (Kp.refl _) ?_
          rotate_left 1
          · intro w5 hSw
            go_simp; all_goals (with_reducible rfl)
          try simp only [Act.put, List.setIfInBounds_toArray, List.set_cons_zero, List.set_cons_succ]
          refine wpAnyH_take (i := 8) (oi := { dst := some 64, op := Go.Op.convert 24 9 (Go.Operand.tmp 63), type := 9, pos := "law.go:31", after := #[{ on := 7, ground := Go.Ground.data }, { on := 6, ground := Go.Ground.guard }], guard := some (6, true) }) (v := ?_) rfl (by kernel_rfl) (by kernel_rfl) (by kernel_rfl) (fun _ _ _ h => h) (Or.inl ⟨by rfl, ?_⟩) (Kp.refl _) ?_
          rotate_left 1
          · intro w5 hSw
            have hs1 := str8 (HP7.out.below (keepBelow hSw k1.out)) Hplt.out
            go_simp; all_goals (with_reducible rfl)
          try simp only [Act.put, List.setIfInBounds_toArray, List.set_cons_zero, List.set_cons_succ]
          refine wpAnyH_take (i := 9) (oi := { dst := some 65, op := Go.Op.move (Go.Operand.tmp 0), type := 22, pos := "law.go:31", after := #[{ on := 6, ground := Go.Ground.guard }], guard := some (6, true) }) (v := ?_) rfl (by kernel_rfl) (by kernel_rfl) (by kernel_rfl) (fun _ _ _ h => h) (Or.inl ⟨by rfl, ?_⟩) (Kp.refl _) ?_
          rotate_left 1
          · intro w5 hSw
            go_simp; all_goals (with_reducible rfl)
          try simp only [Act.put, List.setIfInBounds_toArray, List.set_cons_zero, List.set_cons_succ]
          refine wpAnyH_ready (rs := [10]) (by kernel_rfl) (by simp) ?_
          refine AllReadyH.cons (o := { dst := some 66, op := Go.Op.call { callee := Go.Callee.value (Go.Operand.func 14), args := #[Go.Operand.tmp 65], argTypes := #[22] }, type := 24, pos := "law.go:31", after := #[{ on := 9, ground := Go.Ground.data }, { on := 6, ground := Go.Ground.chain }, { on := 6, ground := Go.Ground.guard }], guard := some (6, true) }) rfl (fun K hK => ?_) AllReadyH.nil
          go_simp
          refine (hRP.out _ k1.out).mono ?_; rintro e Y2 ⟨v2, rfl, ho2, hb2⟩; have B2 := Lib.hid hb2; have k2 := Lib.hid (keepBelow hb2 k1.out); have H2 := Lib.hid ho2; clear ho2; clear hb2
          go_wp2_with fail
          refine hK.out _ _ (B2.out) (fun _ => held_more (B2.out) ?_)
          clear hK K
          try simp only [Act.put, List.setIfInBounds_toArray, List.set_cons_zero, List.set_cons_succ]
          refine wpAnyH_take (i := 11) (oi := { dst := some 67, op := Go.Op.convert 24 9 (Go.Operand.tmp 66), type := 9, pos := "law.go:31", after := #[{ on := 10, ground := Go.Ground.data }, { on := 6, ground := Go.Ground.guard }], guard := some (6, true) }) (v := ?_) rfl (by kernel_rfl) (by kernel_rfl) (by kernel_rfl) (fun _ _ _ h => h) (Or.inl ⟨by rfl, ?_⟩) (Kp.refl _) ?_
          rotate_left 1
          · intro w5 hSw
            have hs2 := str8 (H2.out.below hSw) Hplt.out
            go_simp; all_goals (with_reducible rfl)
          try simp only [Act.put, List.setIfInBounds_toArray, List.set_cons_zero, List.set_cons_succ]
          refine wpAnyH_take (i := 12) (oi := { dst := some 68, op := Go.Op.binOp Go.BinOp.eql 9 (Go.Operand.tmp 64) (Go.Operand.tmp 67) 9, type := 4, pos := "law.go:31", after := #[{ on := 8, ground := Go.Ground.data }, { on := 11, ground := Go.Ground.data }, { on := 6, ground := Go.Ground.guard }], guard := some (6, true) }) (v := ?_) rfl (by kernel_rfl) (by kernel_rfl) (by kernel_rfl) (fun _ _ _ h => h) (Or.inl ⟨by rfl, ?_⟩) (Kp.refl _) ?_
          rotate_left 1
          · intro w5 hSw
            go_simp; all_goals (with_reducible rfl)
          try simp only [Act.put, List.setIfInBounds_toArray, List.set_cons_zero, List.set_cons_succ]
          refine wpAnyH_take (i := 13) (oi := { dst := some 69, op := Go.Op.pick (Go.Operand.tmp 62) (Go.Operand.tmp 68) (Go.Operand.const (Go.Value.bool false)), type := 4, pos := "law.go:31", after := #[{ on := 6, ground := Go.Ground.data }, { on := 12, ground := Go.Ground.data }], guard := none }) (v := ?_) rfl (by kernel_rfl) (by kernel_rfl) (by kernel_rfl) (fun _ _ _ h => h) (Or.inl ⟨by rfl, ?_⟩) (Kp.refl _) ?_
          rotate_left 1
          · intro w5 hSw
            go_simp; all_goals (with_reducible rfl)
          try simp only [Act.put, List.setIfInBounds_toArray, List.set_cons_zero, List.set_cons_succ]
          refine wpAnyH_take (i := 14) (oi := { dst := some 70, op := Go.Op.move (Go.Operand.tmp 69), type := 4, pos := "law.go:31", after := #[{ on := 13, ground := Go.Ground.data }, { on := 10, ground := Go.Ground.chain }], guard := none }) (v := ?_) rfl (by kernel_rfl) (by kernel_rfl) (by kernel_rfl) (fun _ _ _ h => h) (Or.inl ⟨by rfl, ?_⟩) (Kp.refl _) ?_
          rotate_left 1
          · intro w5 hSw
            go_simp; all_goals (with_reducible rfl)
          try simp only [Act.put, List.setIfInBounds_toArray, List.set_cons_zero, List.set_cons_succ]
          refine wpAnyH_take (i := 15) (oi := { dst := some 71, op := Go.Op.move (Go.Operand.tmp 7), type := 22, pos := "law.go:31", after := #[{ on := 14, ground := Go.Ground.guard }], guard := some (14, true) }) (v := ?_) rfl (by kernel_rfl) (by kernel_rfl) (by kernel_rfl) (fun _ _ _ h => h) (Or.inl ⟨by rfl, ?_⟩) (Kp.refl _) ?_
          rotate_left 1
          · intro w5 hSw
            go_simp; all_goals (with_reducible rfl)
          try simp only [Act.put, List.setIfInBounds_toArray, List.set_cons_zero, List.set_cons_succ]
          refine wpAnyH_take (i := 16) (oi := { dst := some 72, op := Go.Op.move (Go.Operand.tmp 0), type := 22, pos := "law.go:31", after := #[{ on := 14, ground := Go.Ground.guard }], guard := some (14, true) }) (v := ?_) rfl (by kernel_rfl) (by kernel_rfl) (by kernel_rfl) (fun _ _ _ h => h) (Or.inl ⟨by rfl, ?_⟩) (Kp.refl _) ?_
          rotate_left 1
          · intro w5 hSw
            go_simp; all_goals (with_reducible rfl)
          try simp only [Act.put, List.setIfInBounds_toArray, List.set_cons_zero, List.set_cons_succ]
          refine wpAnyH_ready (rs := [17]) (by kernel_rfl) (by simp) ?_
          refine AllReadyH.cons (o := { dst := some 73, op := Go.Op.call { callee := Go.Callee.value (Go.Operand.func 11), args := #[Go.Operand.tmp 71, Go.Operand.tmp 72], argTypes := #[22, 22] }, type := 4, pos := "law.go:31", after := #[{ on := 15, ground := Go.Ground.data }, { on := 16, ground := Go.Ground.data }, { on := 14, ground := Go.Ground.chain }, { on := 14, ground := Go.Ground.guard }], guard := some (14, true) }) rfl (fun K hK => ?_) AllReadyH.nil
          go_simp
          refine (hRS.out _ k2.out).mono ?_; rintro e Y3 ⟨rfl, hb3⟩; have B3 := Lib.hid hb3; have k3 := Lib.hid (keepBelow hb3 k2.out); clear hb3
          go_wp2_with fail
          refine hK.out _ _ (B3.out) (fun _ => held_more (B3.out) ?_)
          clear hK K
          try simp only [Act.put, List.setIfInBounds_toArray, List.set_cons_zero, List.set_cons_succ]
          refine wpAnyH_take (i := 18) (oi := { dst := some 74, op := Go.Op.pick (Go.Operand.tmp 70) (Go.Operand.tmp 73) (Go.Operand.const (Go.Value.bool false)), type := 4, pos := "law.go:31", after := #[{ on := 14, ground := Go.Ground.data }, { on := 17, ground := Go.Ground.data }], guard := none }) (v := ?_) rfl (by kernel_rfl) (by kernel_rfl) (by kernel_rfl) (fun _ _ _ h => h) (Or.inl ⟨by rfl, ?_⟩) (Kp.refl _) ?_
          rotate_left 1
          · intro w5 hSw
            go_simp; all_goals (with_reducible rfl)
          try simp only [Act.put, List.setIfInBounds_toArray, List.set_cons_zero, List.set_cons_succ]
          refine wpAnyH_take (i := 19) (oi := { dst := some 75, op := Go.Op.move (Go.Operand.tmp 74), type := 4, pos := "law.go:31", after := #[{ on := 18, ground := Go.Ground.data }, { on := 17, ground := Go.Ground.chain }], guard := none }) (v := ?_) rfl (by kernel_rfl) (by kernel_rfl) (by kernel_rfl) (fun _ _ _ h => h) (Or.inl ⟨by rfl, ?_⟩) (Kp.refl _) ?_
          rotate_left 1
          · intro w5 hSw
            go_simp; all_goals (with_reducible rfl)
          try simp only [Act.put, List.setIfInBounds_toArray, List.set_cons_zero, List.set_cons_succ]
          refine wpAnyH_ready (rs := [20]) (by kernel_rfl) (by simp) ?_
          refine AllReadyH.cons (o := { dst := some 76, op := Go.Op.call { callee := Go.Callee.value (Go.Operand.func 6), args := #[], argTypes := #[] }, type := 4, pos := "law.go:31", after := #[{ on := 19, ground := Go.Ground.chain }, { on := 19, ground := Go.Ground.guard }], guard := some (19, true) }) rfl (fun K hK => ?_) AllReadyH.nil
          go_simp
          refine (Hl.out _).mono ?_; rintro e Y4 ⟨rfl, hb4⟩; have B4 := Lib.hid hb4; have k4 := Lib.hid (keepBelow hb4 k3.out); clear hb4
          go_wp2_with fail
          refine hK.out _ _ (B4.out) (fun _ => held_more (B4.out) ?_)
          clear hK K
          try simp only [Act.put, List.setIfInBounds_toArray, List.set_cons_zero, List.set_cons_succ]
          refine wpAnyH_take (i := 21) (oi := { dst := some 77, op := Go.Op.pick (Go.Operand.tmp 75) (Go.Operand.tmp 76) (Go.Operand.const (Go.Value.bool false)), type := 4, pos := "law.go:31", after := #[{ on := 19, ground := Go.Ground.data }, { on := 20, ground := Go.Ground.data }], guard := none }) (v := ?_) rfl (by kernel_rfl) (by kernel_rfl) (by kernel_rfl) (fun _ _ _ h => h) (Or.inl ⟨by rfl, ?_⟩) (Kp.refl _) ?_
          rotate_left 1
          · intro w5 hSw
            go_simp; all_goals (with_reducible rfl)
          try simp only [Act.put, List.setIfInBounds_toArray, List.set_cons_zero, List.set_cons_succ]
          refine wpAnyH_take (i := 22) (oi := { dst := some 4, op := Go.Op.assign (Go.Operand.tmp 77), type := 4, pos := "law.go:31", after := #[{ on := 21, ground := Go.Ground.data }, { on := 20, ground := Go.Ground.chain }, { on := 0, ground := Go.Ground.phase }, { on := 1, ground := Go.Ground.phase }, { on := 2, ground := Go.Ground.phase }, { on := 3, ground := Go.Ground.phase }, { on := 4, ground := Go.Ground.phase }, { on := 5, ground := Go.Ground.phase }, { on := 6, ground := Go.Ground.phase }, { on := 7, ground := Go.Ground.phase }, { on := 8, ground := Go.Ground.phase }, { on := 9, ground := Go.Ground.phase }, { on := 10, ground := Go.Ground.phase }, { on := 11, ground := Go.Ground.phase }, { on := 12, ground := Go.Ground.phase }, { on := 13, ground := Go.Ground.phase }, { on := 14, ground := Go.Ground.phase }, { on := 15, ground := Go.Ground.phase }, { on := 16, ground := Go.Ground.phase }, { on := 17, ground := Go.Ground.phase }, { on := 18, ground := Go.Ground.phase }, { on := 19, ground := Go.Ground.phase }, { on := 20, ground := Go.Ground.phase }, { on := 21, ground := Go.Ground.phase }], guard := none }) (v := ?_) rfl (by kernel_rfl) (by kernel_rfl) (by kernel_rfl) (fun _ _ _ h => h) (Or.inl ⟨by rfl, ?_⟩) (Kp.refl _) ?_
          rotate_left 1
          · intro w5 hSw
            go_simp; all_goals (with_reducible rfl)
          try simp only [Act.put, List.setIfInBounds_toArray, List.set_cons_zero, List.set_cons_succ]
          refine wpAnyH_done (by kernel_rfl) ?_ _
          go_wp2_with fail
          go_ret
          exact ⟨rfl, below_then HB7.out k4.out HB7.out.size⟩
end Go.Proofs.Ytaafcmgkmdbefaa
