/- Layer 16: Order. -/
import Derived.Test.YtdbcklabinmgfaaDoorOrd1
namespace Go.Proofs.YtdbcklabinmgfaaDoor
open Go.RowKit
set_option linter.unusedVariables false
set_option maxRecDepth 100000

structure Two (w : World) (ba bb : Nat) (va vb : Array Value) (W : World) : Prop where
  a : Whole W ba 24 va
  b : Whole W bb 24 vb
  k : Below w.heap.size w W
theorem Two.step {w W Y : World} {ba bb : Nat} {va vb : Array Value} (h : Two w ba bb va vb W) (hb : Below W.heap.size W Y) : Two w ba bb va vb Y := ⟨h.a.below hb h.a.lt, h.b.below hb h.b.lt, keepBelow hb h.k⟩
theorem Two.drew {w W : World} {ba bb : Nat} {va vb : Array Value} (h : Two w ba bb va vb W) : Two w ba bb va vb W.drew := ⟨h.a.drew, h.b.drew, ⟨h.k.os, h.k.tape, h.k.output, h.k.size, h.k.block⟩⟩
theorem two_decs (w X : World) (c d : Array Value) (h : X = (w.alloc (.cells c 24)).alloc (.cells d 24)) : Two w w.heap.size (w.heap.size + 1) c d X := by
  subst h
  refine ⟨(Whole.new w _ _).alloc _, ?_, ((Below.refl _ _).alloc (Nat.le_refl _) _).alloc (by simp) _⟩
  have := Whole.new (w.alloc (.cells c 24)) 24 d
  rwa [World.size_alloc] at this
theorem cmpZ_le (a b : Int) : -1 ≤ cmpZ a b ∧ cmpZ a b ≤ 1 := by unfold cmpZ; by_cases h : a < b; rw [if_pos h]; decide; rw [if_neg h]; by_cases h2 : b < a; rw [if_pos h2]; decide; rw [if_neg h2]; decide
theorem cbN_le : ∀ l m : List Nat, -1 ≤ cbN l m ∧ cbN l m ≤ 1
  | [], [] => by decide
  | [], _ :: _ => by show -1 ≤ (-1 : Int) ∧ (-1 : Int) ≤ 1; decide
  | _ :: _, [] => by show -1 ≤ (1 : Int) ∧ (1 : Int) ≤ 1; decide
  | a :: l, b :: m => by
    have ih := cbN_le l m
    unfold cbN
    by_cases h : a < b
    · rw [if_pos h]; decide
    · rw [if_neg h]
      by_cases h2 : b < a
      · rw [if_pos h2]; decide
      · rw [if_neg h2]; exact ih
theorem orZ_le {a b : Int} (ha : -1 ≤ a ∧ a ≤ 1) (hb : -1 ≤ b ∧ b ≤ 1) : -1 ≤ orZ a b ∧ orZ a b ≤ 1 := by unfold orZ; by_cases h : a ≠ 0; rw [if_pos h]; exact ha; rw [if_neg h]; exact hb
theorem signD_le (d : DV) : -1 ≤ signD d ∧ signD d ≤ 1 := by unfold signD; by_cases h : d.2.1 = []; rw [if_pos h]; decide; rw [if_neg h]; by_cases h2 : d.1 = true; rw [if_pos h2]; decide; rw [if_neg h2]; decide
theorem mul_small {a b : Int} (ha : -1 ≤ a ∧ a ≤ 1) (hb : -1 ≤ b ∧ b ≤ 1) : wrap64 (a * b) = a * b := by
  have h1 : a = -1 ∨ a = 0 ∨ a = 1 := by omega
  have h2 : b = -1 ∨ b = 0 ∨ b = 1 := by omega
  rcases h1 with rfl | rfl | rfl <;> rcases h2 with rfl | rfl | rfl <;> exact IntWalk.wrap64_in _ ⟨by omega, by omega⟩
theorem rightD_exp {d : DV} (h : rightD d = true) : -1000 ≤ d.2.2 ∧ d.2.2 ≤ 1000 := by
  rcases rightD_cases h with rfl | h
  · decide
  · exact ⟨h.lo, h.hi⟩

set_option maxHeartbeats 16000000 in
theorem order_any (na nb : Bool) (da db : ByteArray) (xa xb : Int) (w : World) (hsa : da.size ≤ 1000000) (hsb : db.size ≤ 1000000) :
    Calls Tryd.prog 18 #[.agg #[.bool na, .string da, .int .i64 xa], .agg #[.bool nb, .string db, .int .i64 xb]] w fun e w' => e = .returned (.int .i64 (ordD (na, bs da, xa) (nb, bs db, xb))) ∧ Below w.heap.size w w' := by
  have HRa := Lib.hid fun W => right_any na da xa W hsa
  have HRb := Lib.hid fun W => right_any nb db xb W hsb
  have HSa := Lib.hid fun W => sign_any na da xa W
  have HSb := Lib.hid fun W => sign_any nb db xb W
  have HCc := Lib.hid fun W => strCompare_any da db W
  have hla := signD_le (na, bs da, xa)
  have hlb := signD_le (nb, bs db, xb)
  have hxa := @rightD_exp (na, bs da, xa)
  have hxb := @rightD_exp (nb, bs db, xb)
  obtain ⟨R, hR⟩ : ∃ R, R = ordD (na, bs da, xa) (nb, bs db, xb) := ⟨_, rfl⟩
  rw [← hR]
  unfold ordD at hR
  obtain ⟨ra, hra⟩ : ∃ r, r = rightD (na, bs da, xa) := ⟨_, rfl⟩
  obtain ⟨rb, hrb⟩ : ∃ r, r = rightD (nb, bs db, xb) := ⟨_, rfl⟩
  obtain ⟨sa, hsa'⟩ : ∃ r, r = signD (na, bs da, xa) := ⟨_, rfl⟩
  obtain ⟨sb, hsb'⟩ : ∃ r, r = signD (nb, bs db, xb) := ⟨_, rfl⟩
  rw [← hra] at HRa hR hxa
  rw [← hrb] at HRb hR hxb
  rw [← hsa'] at HSa hR hla
  rw [← hsb'] at HSb hR hlb
  clear hra hrb hsa' hsb'
  obtain ⟨pa, hpa⟩ : ∃ r, r = pointD (na, bs da, xa) := ⟨_, rfl⟩
  obtain ⟨pb, hpb⟩ : ∃ r, r = pointD (nb, bs db, xb) := ⟨_, rfl⟩
  obtain ⟨cc, hcc⟩ : ∃ r, r = cbN (bs da) (bs db) := ⟨_, rfl⟩
  have hlc := cbN_le (bs da) (bs db)
  rw [← hcc] at hR HCc hlc
  rw [← hpa, ← hpb] at hR
  have Hpa := Lib.hid hpa
  have Hpb := Lib.hid hpb
  have HR := Lib.hid hR
  clear hR hcc hpa hpb
  have HCs := Lib.hid fun W => cmp_int sa sb W
  have HCp := Lib.hid fun W => cmp_int pa pb W
  obtain ⟨ba, hba⟩ : ∃ z, z = w.heap.size := ⟨_, rfl⟩
  obtain ⟨bb, hbb⟩ : ∃ z, z = w.heap.size + 1 := ⟨_, rfl⟩
  obtain ⟨X0, hX0⟩ : ∃ z, z = (w.alloc (.cells #[.bool na, .string da, .int .i64 xa] 24)).alloc (.cells #[.bool nb, .string db, .int .i64 xb] 24) := ⟨_, rfl⟩
  have hT := two_decs w X0 _ _ hX0
  rw [← hbb, ← hba] at hT
  have HT := Lib.hid hT
  have HX0 := Lib.hid hX0
  have Hba := Lib.hid hba
  have Hbb := Lib.hid hbb
  clear hba hbb hX0 hT
  go_enter Tryd.func18, Tryd.ntmps18
  go_upto_region 1 with (fail)
  rw [← HX0.out, ← Hbb.out, ← Hba.out]
  clear HX0 Hba Hbb
  go_cut [6, 7, 8, 9, 10, 11, 12, 13] (fun x6 x7 x8 x9 x10 x11 x12 x13 W => x13 = .bool (!(ra && rb)) ∧ Hid (Two w ba bb #[.bool na, .string da, .int .i64 xa] #[.bool nb, .string db, .int .i64 xb] W))
  case first =>
    as_aux_lemma =>
      have q0 : X0.cell? ⟨ba, 0, none⟩ = some (.bool na) := HT.out.a.cell 0
      have q1 : X0.cell? ⟨ba, 1, none⟩ = some (.string da) := HT.out.a.cell 1
      have q2 : X0.cell? ⟨ba, 2, none⟩ = some (.int .i64 xa) := HT.out.a.cell 2
      cases ra with
      | false =>
        go_wp2_with fail
        refine (HRa.out _).mono ?_
        rintro e Y ⟨rfl, hb⟩
        have HT := Lib.hid (HT.out.step hb)
        go_wp2_with fail
        go_meet
        exact ⟨rfl, HT⟩
      | true =>
        go_wp2_with fail
        refine (HRa.out _).mono ?_
        rintro e Y ⟨rfl, hb⟩
        have HT := Lib.hid (HT.out.step hb)
        have z0 : Y.cell? ⟨bb, 0, none⟩ = some (.bool nb) := HT.out.b.cell 0
        have z1 : Y.cell? ⟨bb, 1, none⟩ = some (.string db) := HT.out.b.cell 1
        have z2 : Y.cell? ⟨bb, 2, none⟩ = some (.int .i64 xb) := HT.out.b.cell 2
        clear hb q0 q1 q2
        go_wp2_with fail
        refine (HRb.out _).mono ?_
        rintro e Z ⟨rfl, hb⟩
        have HT := Lib.hid (HT.out.step hb)
        clear hb z0 z1 z2
        go_wp2_with fail
        go_meet
        exact ⟨by simp, HT⟩
  case rest =>
    obtain ⟨rfl, HT2⟩ := hcut
    clear HT
    have HT := HT2
    clear HT2
    clear HRa HRb
    cases hq : (ra && rb) with
    | false =>
      have hR : Hid (R = 0) := by
        show _ = _
        rw [HR.out, if_neg]
        rintro ⟨h1, h2⟩
        rw [h1, h2] at hq
        cases hq
      clear HR
      go_wp2_with fail
      go_ret
      exact ⟨by rw [hR.out]; rfl, HT.out.k⟩
    | true =>
      have h1 : ra = true := by cases ra with | true => rfl | false => cases hq
      have h2 : rb = true := by cases rb with | true => rfl | false => rw [h1] at hq; cases hq
      have hR := HR.out
      rw [if_pos ⟨h1, h2⟩] at hR
      have hxa := hxa h1
      have hxb := hxb h2
      simp only at hxa hxb
      have HPa := Lib.hid fun W => point_any na da xa W hsa (by omega)
      have HPb := Lib.hid fun W => point_any nb db xb W hsb (by omega)
      rw [← Hpa.out] at HPa
      rw [← Hpb.out] at HPb
      have HR3 := Lib.hid hR
      clear HR hR hq hxa hxb Hpa Hpb h1 h2
      obtain ⟨nq, hnq⟩ : ∃ q, q = (sa != sb) := ⟨_, rfl⟩
      have Hnq := Lib.hid hnq
      clear hnq
      go_upto_region 3 with (fail)
      go_cut [14, 15, 16, 17, 18] (fun x14 x15 x16 x17 x18 W => x18 = .bool nq ∧ Hid (Two w ba bb #[.bool na, .string da, .int .i64 xa] #[.bool nb, .string db, .int .i64 xb] W))
      case first =>
        as_aux_lemma =>
          refine wp_region_held (S := Two w ba bb #[.bool na, .string da, .int .i64 xa] #[.bool nb, .string db, .int .i64 xb]) (by kernel_rfl) ?_
          refine wpAnyH_take (i := 0) (oi := { dst := some 14, op := Go.Op.load 24 (Go.Operand.tmp 2), type := 24, pos := "dec.go:66", after := #[], guard := none }) (v := ?_) rfl (by kernel_rfl) (by kernel_rfl) (by kernel_rfl) (fun _ _ _ h => h) (Or.inl ⟨by rfl, ?_⟩) (HT.out.drew) ?_
          rotate_left 1
          · intro w5 hSw
            have q0 : w5.cell? ⟨ba, 0, none⟩ = some (.bool na) := hSw.a.cell 0
            have q1 : w5.cell? ⟨ba, 1, none⟩ = some (.string da) := hSw.a.cell 1
            have q2 : w5.cell? ⟨ba, 2, none⟩ = some (.int .i64 xa) := hSw.a.cell 2
            go_simp; all_goals (with_reducible rfl)
          try simp only [Act.put, List.setIfInBounds_toArray, List.set_cons_zero, List.set_cons_succ]
          refine wpAnyH_take (i := 2) (oi := { dst := some 16, op := Go.Op.load 24 (Go.Operand.tmp 3), type := 24, pos := "dec.go:66", after := #[], guard := none }) (v := ?_) rfl (by kernel_rfl) (by kernel_rfl) (by kernel_rfl) (fun _ _ _ h => h) (Or.inl ⟨by rfl, ?_⟩) (HT.out.drew) ?_
          rotate_left 1
          · intro w5 hSw
            have q0 : w5.cell? ⟨bb, 0, none⟩ = some (.bool nb) := hSw.b.cell 0
            have q1 : w5.cell? ⟨bb, 1, none⟩ = some (.string db) := hSw.b.cell 1
            have q2 : w5.cell? ⟨bb, 2, none⟩ = some (.int .i64 xb) := hSw.b.cell 2
            go_simp; all_goals (with_reducible rfl)
          try simp only [Act.put, List.setIfInBounds_toArray, List.set_cons_zero, List.set_cons_succ]
          refine wpAnyH_ready (rs := [1]) (by kernel_rfl) (by simp) ?_
          refine (AllReadyH.cons (o := { dst := some 15, op := Go.Op.call { callee := Go.Callee.value (Go.Operand.func 37), args := #[Go.Operand.tmp 14], argTypes := #[24] }, type := 3, pos := "dec.go:66", after := #[{ on := 0, ground := Go.Ground.data }], guard := none }) rfl (fun K hK => ?_) AllReadyH.nil)
          go_simp
          refine (HSa.out _).mono ?_; rintro e Y1 ⟨rfl, hb1⟩
          go_wp2_with fail
          refine hK.out _ _ (Two.step (HT.out.drew) hb1) (fun _ => ?_)
          clear hK K
          try simp only [Act.put, List.setIfInBounds_toArray, List.set_cons_zero, List.set_cons_succ]
          refine wpAnyH_ready (rs := [3]) (by kernel_rfl) (by simp) ?_
          refine (AllReadyH.cons (o := { dst := some 17, op := Go.Op.call { callee := Go.Callee.value (Go.Operand.func 37), args := #[Go.Operand.tmp 16], argTypes := #[24] }, type := 3, pos := "dec.go:66", after := #[{ on := 2, ground := Go.Ground.data }, { on := 1, ground := Go.Ground.chain }], guard := none }) rfl (fun K hK => ?_) AllReadyH.nil)
          go_simp
          refine (HSb.out _).mono ?_; rintro e Y3 ⟨rfl, hb3⟩
          go_wp2_with fail
          refine hK.out _ _ (Two.step (Two.step (HT.out.drew) hb1) hb3) (fun _ => ?_)
          clear hK K
          try simp only [Act.put, List.setIfInBounds_toArray, List.set_cons_zero, List.set_cons_succ]
          refine wpAnyH_take (i := 4) (oi := { dst := some 18, op := Go.Op.binOp Go.BinOp.neq 3 (Go.Operand.tmp 15) (Go.Operand.tmp 17) 3, type := 4, pos := "dec.go:66", after := #[{ on := 1, ground := Go.Ground.data }, { on := 3, ground := Go.Ground.data }], guard := none }) (v := ?_) rfl (by kernel_rfl) (by kernel_rfl) (by kernel_rfl) (fun _ _ _ h => h) (Or.inl ⟨by rfl, ?_⟩) (Two.step (Two.step (HT.out.drew) hb1) hb3) ?_
          rotate_left 1
          · intro w5 hSw
            go_simp; all_goals (with_reducible rfl)
          try simp only [Act.put, List.setIfInBounds_toArray, List.set_cons_zero, List.set_cons_succ]
          refine wpAnyH_done (by kernel_rfl) ?_ _
          go_wp2_with fail
          go_meet
          exact ⟨by rw [Hnq.out], Two.step (Two.step (HT.out.drew) hb1) hb3⟩
      case rest =>
        obtain ⟨rfl, HT3⟩ := hcut
        clear HT
        have HT := HT3
        clear HT3
        have hq := Hnq.out.symm
        clear Hnq
        cases nq with
        | true =>
          have hne : sa ≠ sb := by simpa using hq
          have hR : Hid (R = cmpZ sa sb) := by show _ = _; rw [HR3.out, if_pos hne]
          clear HR3
          clear hq hne
          go_upto_region 4 with (fail)
          go_cut [4, 19, 20, 21, 22, 23] (fun x4 x19 x20 x21 x22 x23 W => x4 = .int .i64 (cmpZ sa sb) ∧ Hid (Two w ba bb #[.bool na, .string da, .int .i64 xa] #[.bool nb, .string db, .int .i64 xb] W))
          case first =>
            as_aux_lemma =>
              refine wp_region_held (S := Two w ba bb #[.bool na, .string da, .int .i64 xa] #[.bool nb, .string db, .int .i64 xb]) (by kernel_rfl) ?_
              refine wpAnyH_take (i := 0) (oi := { dst := some 19, op := Go.Op.load 24 (Go.Operand.tmp 2), type := 24, pos := "dec.go:67", after := #[], guard := none }) (v := ?_) rfl (by kernel_rfl) (by kernel_rfl) (by kernel_rfl) (fun _ _ _ h => h) (Or.inl ⟨by rfl, ?_⟩) (HT.out.drew) ?_
              rotate_left 1
              · intro w5 hSw
                have q0 : w5.cell? ⟨ba, 0, none⟩ = some (.bool na) := hSw.a.cell 0
                have q1 : w5.cell? ⟨ba, 1, none⟩ = some (.string da) := hSw.a.cell 1
                have q2 : w5.cell? ⟨ba, 2, none⟩ = some (.int .i64 xa) := hSw.a.cell 2
                go_simp; all_goals (with_reducible rfl)
              try simp only [Act.put, List.setIfInBounds_toArray, List.set_cons_zero, List.set_cons_succ]
              refine wpAnyH_take (i := 2) (oi := { dst := some 21, op := Go.Op.load 24 (Go.Operand.tmp 3), type := 24, pos := "dec.go:67", after := #[], guard := none }) (v := ?_) rfl (by kernel_rfl) (by kernel_rfl) (by kernel_rfl) (fun _ _ _ h => h) (Or.inl ⟨by rfl, ?_⟩) (HT.out.drew) ?_
              rotate_left 1
              · intro w5 hSw
                have q0 : w5.cell? ⟨bb, 0, none⟩ = some (.bool nb) := hSw.b.cell 0
                have q1 : w5.cell? ⟨bb, 1, none⟩ = some (.string db) := hSw.b.cell 1
                have q2 : w5.cell? ⟨bb, 2, none⟩ = some (.int .i64 xb) := hSw.b.cell 2
                go_simp; all_goals (with_reducible rfl)
              try simp only [Act.put, List.setIfInBounds_toArray, List.set_cons_zero, List.set_cons_succ]
              refine wpAnyH_ready (rs := [1]) (by kernel_rfl) (by simp) ?_
              refine (AllReadyH.cons (o := { dst := some 20, op := Go.Op.call { callee := Go.Callee.value (Go.Operand.func 37), args := #[Go.Operand.tmp 19], argTypes := #[24] }, type := 3, pos := "dec.go:67", after := #[{ on := 0, ground := Go.Ground.data }], guard := none }) rfl (fun K hK => ?_) AllReadyH.nil)
              go_simp
              refine (HSa.out _).mono ?_; rintro e Y1 ⟨rfl, hb1⟩
              go_wp2_with fail
              refine hK.out _ _ (Two.step (HT.out.drew) hb1) (fun _ => ?_)
              clear hK K
              try simp only [Act.put, List.setIfInBounds_toArray, List.set_cons_zero, List.set_cons_succ]
              refine wpAnyH_ready (rs := [3]) (by kernel_rfl) (by simp) ?_
              refine (AllReadyH.cons (o := { dst := some 22, op := Go.Op.call { callee := Go.Callee.value (Go.Operand.func 37), args := #[Go.Operand.tmp 21], argTypes := #[24] }, type := 3, pos := "dec.go:67", after := #[{ on := 2, ground := Go.Ground.data }, { on := 1, ground := Go.Ground.chain }], guard := none }) rfl (fun K hK => ?_) AllReadyH.nil)
              go_simp
              refine (HSb.out _).mono ?_; rintro e Y3 ⟨rfl, hb3⟩
              go_wp2_with fail
              refine hK.out _ _ (Two.step (Two.step (HT.out.drew) hb1) hb3) (fun _ => ?_)
              clear hK K
              try simp only [Act.put, List.setIfInBounds_toArray, List.set_cons_zero, List.set_cons_succ]
              refine wpAnyH_ready (rs := [4]) (by kernel_rfl) (by simp) ?_
              refine (AllReadyH.cons (o := { dst := some 23, op := Go.Op.call { callee := Go.Callee.value (Go.Operand.func 38), args := #[Go.Operand.tmp 20, Go.Operand.tmp 22], argTypes := #[3, 3] }, type := 3, pos := "dec.go:67", after := #[{ on := 1, ground := Go.Ground.data }, { on := 3, ground := Go.Ground.data }, { on := 3, ground := Go.Ground.chain }], guard := none }) rfl (fun K hK => ?_) AllReadyH.nil)
              go_simp
              refine (HCs.out _).mono ?_; rintro e Y4 ⟨rfl, rfl⟩
              go_wp2_with fail
              refine hK.out _ _ (Two.step (Two.step (HT.out.drew) hb1) hb3) (fun _ => ?_)
              clear hK K
              try simp only [Act.put, List.setIfInBounds_toArray, List.set_cons_zero, List.set_cons_succ]
              refine wpAnyH_take (i := 5) (oi := { dst := some 4, op := Go.Op.assign (Go.Operand.tmp 23), type := 3, pos := "dec.go:67", after := #[{ on := 4, ground := Go.Ground.data }, { on := 4, ground := Go.Ground.chain }, { on := 0, ground := Go.Ground.phase }, { on := 1, ground := Go.Ground.phase }, { on := 2, ground := Go.Ground.phase }, { on := 3, ground := Go.Ground.phase }, { on := 4, ground := Go.Ground.phase }], guard := none }) (v := ?_) rfl (by kernel_rfl) (by kernel_rfl) (by kernel_rfl) (fun _ _ _ h => h) (Or.inl ⟨by rfl, ?_⟩) (Two.step (Two.step (HT.out.drew) hb1) hb3) ?_
              rotate_left 1
              · intro w5 hSw
                go_simp; all_goals (with_reducible rfl)
              try simp only [Act.put, List.setIfInBounds_toArray, List.set_cons_zero, List.set_cons_succ]
              refine wpAnyH_done (by kernel_rfl) ?_ _
              go_wp2_with fail
              go_meet
              exact ⟨by first | rfl | simp, Two.step (Two.step (HT.out.drew) hb1) hb3⟩
          case rest =>
            obtain ⟨rfl, HT4⟩ := hcut
            clear HT
            go_wp2_with fail
            go_ret
            exact ⟨by rw [hR.out]; rfl, HT4.out.k⟩
        | false =>
          have he : sa = sb := by simpa using hq
          have hR : Hid (R = orZ (cmpZ pa pb) cc * sa) := by show _ = _; rw [HR3.out, if_neg (fun h => h he)]
          clear HR3
          have hm : wrap64 (orZ (cmpZ pa pb) cc * sa) = orZ (cmpZ pa pb) cc * sa := mul_small (orZ_le (cmpZ_le pa pb) hlc) hla
          clear hq he
          go_upto_region 5 with (fail)
          go_cut [5, 24, 25, 26, 27, 28, 29, 30, 31, 32, 33, 34, 35] (fun x5 x24 x25 x26 x27 x28 x29 x30 x31 x32 x33 x34 x35 W => x5 = .int .i64 (orZ (cmpZ pa pb) cc) ∧ Hid (Two w ba bb #[.bool na, .string da, .int .i64 xa] #[.bool nb, .string db, .int .i64 xb] W))
          case first =>
            as_aux_lemma =>
              refine wp_region_held (S := Two w ba bb #[.bool na, .string da, .int .i64 xa] #[.bool nb, .string db, .int .i64 xb]) (by kernel_rfl) ?_
              refine wpAnyH_take (i := 0) (oi := { dst := some 24, op := Go.Op.load 24 (Go.Operand.tmp 2), type := 24, pos := "dec.go:70", after := #[], guard := none }) (v := ?_) rfl (by kernel_rfl) (by kernel_rfl) (by kernel_rfl) (fun _ _ _ h => h) (Or.inl ⟨by rfl, ?_⟩) (HT.out.drew) ?_
              rotate_left 1
              · intro w5 hSw
                have q0 : w5.cell? ⟨ba, 0, none⟩ = some (.bool na) := hSw.a.cell 0
                have q1 : w5.cell? ⟨ba, 1, none⟩ = some (.string da) := hSw.a.cell 1
                have q2 : w5.cell? ⟨ba, 2, none⟩ = some (.int .i64 xa) := hSw.a.cell 2
                go_simp; all_goals (with_reducible rfl)
              try simp only [Act.put, List.setIfInBounds_toArray, List.set_cons_zero, List.set_cons_succ]
              refine wpAnyH_take (i := 2) (oi := { dst := some 26, op := Go.Op.load 24 (Go.Operand.tmp 3), type := 24, pos := "dec.go:70", after := #[], guard := none }) (v := ?_) rfl (by kernel_rfl) (by kernel_rfl) (by kernel_rfl) (fun _ _ _ h => h) (Or.inl ⟨by rfl, ?_⟩) (HT.out.drew) ?_
              rotate_left 1
              · intro w5 hSw
                have q0 : w5.cell? ⟨bb, 0, none⟩ = some (.bool nb) := hSw.b.cell 0
                have q1 : w5.cell? ⟨bb, 1, none⟩ = some (.string db) := hSw.b.cell 1
                have q2 : w5.cell? ⟨bb, 2, none⟩ = some (.int .i64 xb) := hSw.b.cell 2
                go_simp; all_goals (with_reducible rfl)
              try simp only [Act.put, List.setIfInBounds_toArray, List.set_cons_zero, List.set_cons_succ]
              refine wpAnyH_take (i := 5) (oi := { dst := some 29, op := Go.Op.fieldAddr 24 (Go.Operand.tmp 2) 1, type := 0, pos := "dec.go:70", after := #[], guard := none }) (v := ?_) rfl (by kernel_rfl) (by kernel_rfl) (by kernel_rfl) (fun _ _ _ h => h) (Or.inl ⟨by rfl, ?_⟩) (HT.out.drew) ?_
              rotate_left 1
              · intro w5 hSw
                go_simp; all_goals (with_reducible rfl)
              try simp only [Act.put, List.setIfInBounds_toArray, List.set_cons_zero, List.set_cons_succ]
              refine wpAnyH_take (i := 6) (oi := { dst := some 30, op := Go.Op.load 9 (Go.Operand.tmp 29), type := 9, pos := "dec.go:70", after := #[{ on := 5, ground := Go.Ground.data }], guard := none }) (v := ?_) rfl (by kernel_rfl) (by kernel_rfl) (by kernel_rfl) (fun _ _ _ h => h) (Or.inl ⟨by rfl, ?_⟩) (HT.out.drew) ?_
              rotate_left 1
              · intro w5 hSw
                have q0 : w5.cell? ⟨ba, 0, none⟩ = some (.bool na) := hSw.a.cell 0
                have q1 : w5.cell? ⟨ba, 1, none⟩ = some (.string da) := hSw.a.cell 1
                have q2 : w5.cell? ⟨ba, 2, none⟩ = some (.int .i64 xa) := hSw.a.cell 2
                go_simp; all_goals (with_reducible rfl)
              try simp only [Act.put, List.setIfInBounds_toArray, List.set_cons_zero, List.set_cons_succ]
              refine wpAnyH_take (i := 7) (oi := { dst := some 31, op := Go.Op.fieldAddr 24 (Go.Operand.tmp 3) 1, type := 0, pos := "dec.go:70", after := #[], guard := none }) (v := ?_) rfl (by kernel_rfl) (by kernel_rfl) (by kernel_rfl) (fun _ _ _ h => h) (Or.inl ⟨by rfl, ?_⟩) (HT.out.drew) ?_
              rotate_left 1
              · intro w5 hSw
                go_simp; all_goals (with_reducible rfl)
              try simp only [Act.put, List.setIfInBounds_toArray, List.set_cons_zero, List.set_cons_succ]
              refine wpAnyH_take (i := 8) (oi := { dst := some 32, op := Go.Op.load 9 (Go.Operand.tmp 31), type := 9, pos := "dec.go:70", after := #[{ on := 7, ground := Go.Ground.data }], guard := none }) (v := ?_) rfl (by kernel_rfl) (by kernel_rfl) (by kernel_rfl) (fun _ _ _ h => h) (Or.inl ⟨by rfl, ?_⟩) (HT.out.drew) ?_
              rotate_left 1
              · intro w5 hSw
                have q0 : w5.cell? ⟨bb, 0, none⟩ = some (.bool nb) := hSw.b.cell 0
                have q1 : w5.cell? ⟨bb, 1, none⟩ = some (.string db) := hSw.b.cell 1
                have q2 : w5.cell? ⟨bb, 2, none⟩ = some (.int .i64 xb) := hSw.b.cell 2
                go_simp; all_goals (with_reducible rfl)
              try simp only [Act.put, List.setIfInBounds_toArray, List.set_cons_zero, List.set_cons_succ]
              refine wpAnyH_ready (rs := [1]) (by kernel_rfl) (by simp) ?_
              refine (AllReadyH.cons (o := { dst := some 25, op := Go.Op.call { callee := Go.Callee.value (Go.Operand.func 29), args := #[Go.Operand.tmp 24], argTypes := #[24] }, type := 3, pos := "dec.go:70", after := #[{ on := 0, ground := Go.Ground.data }], guard := none }) rfl (fun K hK => ?_) AllReadyH.nil)
              go_simp
              refine (HPa.out _).mono ?_; rintro e Y1 ⟨rfl, hb1⟩
              go_wp2_with fail
              refine hK.out _ _ (Two.step (HT.out.drew) hb1) (fun _ => ?_)
              clear hK K
              try simp only [Act.put, List.setIfInBounds_toArray, List.set_cons_zero, List.set_cons_succ]
              refine wpAnyH_ready (rs := [3]) (by kernel_rfl) (by simp) ?_
              refine (AllReadyH.cons (o := { dst := some 27, op := Go.Op.call { callee := Go.Callee.value (Go.Operand.func 29), args := #[Go.Operand.tmp 26], argTypes := #[24] }, type := 3, pos := "dec.go:70", after := #[{ on := 2, ground := Go.Ground.data }, { on := 1, ground := Go.Ground.chain }], guard := none }) rfl (fun K hK => ?_) AllReadyH.nil)
              go_simp
              refine (HPb.out _).mono ?_; rintro e Y3 ⟨rfl, hb3⟩
              go_wp2_with fail
              refine hK.out _ _ (Two.step (Two.step (HT.out.drew) hb1) hb3) (fun _ => ?_)
              clear hK K
              try simp only [Act.put, List.setIfInBounds_toArray, List.set_cons_zero, List.set_cons_succ]
              refine wpAnyH_ready (rs := [4]) (by kernel_rfl) (by simp) ?_
              refine (AllReadyH.cons (o := { dst := some 28, op := Go.Op.call { callee := Go.Callee.value (Go.Operand.func 38), args := #[Go.Operand.tmp 25, Go.Operand.tmp 27], argTypes := #[3, 3] }, type := 3, pos := "dec.go:70", after := #[{ on := 1, ground := Go.Ground.data }, { on := 3, ground := Go.Ground.data }, { on := 3, ground := Go.Ground.chain }], guard := none }) rfl (fun K hK => ?_) AllReadyH.nil)
              go_simp
              refine (HCp.out _).mono ?_; rintro e Y4 ⟨rfl, rfl⟩
              go_wp2_with fail
              refine hK.out _ _ (Two.step (Two.step (HT.out.drew) hb1) hb3) (fun _ => ?_)
              clear hK K
              try simp only [Act.put, List.setIfInBounds_toArray, List.set_cons_zero, List.set_cons_succ]
              refine wpAnyH_ready (rs := [9]) (by kernel_rfl) (by simp) ?_
              refine (AllReadyH.cons (o := { dst := some 33, op := Go.Op.call { callee := Go.Callee.value (Go.Operand.func 40), args := #[Go.Operand.tmp 30, Go.Operand.tmp 32], argTypes := #[9, 9] }, type := 3, pos := "dec.go:70", after := #[{ on := 6, ground := Go.Ground.data }, { on := 8, ground := Go.Ground.data }, { on := 4, ground := Go.Ground.chain }], guard := none }) rfl (fun K hK => ?_) AllReadyH.nil)
              go_simp
              refine (HCc.out _).mono ?_; rintro e Y9 ⟨rfl, rfl⟩
              go_wp2_with fail
              refine hK.out _ _ (Two.step (Two.step (HT.out.drew) hb1) hb3) (fun _ => ?_)
              clear hK K
              try simp only [Act.put, List.setIfInBounds_toArray, List.set_cons_zero, List.set_cons_succ]
              refine wpAnyH_ready (rs := [10]) (by kernel_rfl) (by simp) ?_
              refine (AllReadyH.cons (o := { dst := some 34, op := Go.Op.buildSlice 87 2 #[(0, Go.Operand.tmp 28), (1, Go.Operand.tmp 33)], type := 87, pos := "dec.go:70", after := #[{ on := 4, ground := Go.Ground.data }, { on := 9, ground := Go.Ground.data }], guard := none }) rfl (fun K hK => ?_) AllReadyH.nil)
              go_simp
              refine hK.out _ _ (Two.step (Two.step (Two.step (HT.out.drew) hb1) hb3) ((Below.refl _ _).alloc (Nat.le_refl _) _)) (fun _ => ?_)
              clear hK K
              try simp only [Act.put, List.setIfInBounds_toArray, List.set_cons_zero, List.set_cons_succ]
              refine wpAnyH_ready (rs := [11]) (by kernel_rfl) (by simp) ?_
              refine (AllReadyH.cons (o := { dst := some 35, op := Go.Op.call { callee := Go.Callee.value (Go.Operand.func 39), args := #[Go.Operand.tmp 34], argTypes := #[87] }, type := 3, pos := "dec.go:70", after := #[{ on := 10, ground := Go.Ground.data }, { on := 9, ground := Go.Ground.chain }], guard := none }) rfl (fun K hK => ?_) AllReadyH.nil)
              go_simp
              refine (or2_any (cmpZ pa pb) cc _ _ (by simp) (by simp)).mono ?_; rintro e Y11 ⟨rfl, rfl⟩
              go_wp2_with fail
              refine hK.out _ _ (Two.step (Two.step (Two.step (HT.out.drew) hb1) hb3) ((Below.refl _ _).alloc (Nat.le_refl _) _)) (fun _ => ?_)
              clear hK K
              try simp only [Act.put, List.setIfInBounds_toArray, List.set_cons_zero, List.set_cons_succ]
              refine wpAnyH_take (i := 12) (oi := { dst := some 5, op := Go.Op.assign (Go.Operand.tmp 35), type := 3, pos := "dec.go:70", after := #[{ on := 11, ground := Go.Ground.data }, { on := 11, ground := Go.Ground.chain }, { on := 0, ground := Go.Ground.phase }, { on := 1, ground := Go.Ground.phase }, { on := 2, ground := Go.Ground.phase }, { on := 3, ground := Go.Ground.phase }, { on := 4, ground := Go.Ground.phase }, { on := 5, ground := Go.Ground.phase }, { on := 6, ground := Go.Ground.phase }, { on := 7, ground := Go.Ground.phase }, { on := 8, ground := Go.Ground.phase }, { on := 9, ground := Go.Ground.phase }, { on := 10, ground := Go.Ground.phase }, { on := 11, ground := Go.Ground.phase }], guard := none }) (v := ?_) rfl (by kernel_rfl) (by kernel_rfl) (by kernel_rfl) (fun _ _ _ h => h) (Or.inl ⟨by rfl, ?_⟩) (Two.step (Two.step (Two.step (HT.out.drew) hb1) hb3) ((Below.refl _ _).alloc (Nat.le_refl _) _)) ?_
              rotate_left 1
              · intro w5 hSw
                go_simp; all_goals (with_reducible rfl)
              try simp only [Act.put, List.setIfInBounds_toArray, List.set_cons_zero, List.set_cons_succ]
              refine wpAnyH_done (by kernel_rfl) ?_ _
              go_wp2_with fail
              go_meet
              exact ⟨by first | rfl | simp, Two.step (Two.step (Two.step (HT.out.drew) hb1) hb3) ((Below.refl _ _).alloc (Nat.le_refl _) _)⟩
          case rest =>
            obtain ⟨rfl, HT4⟩ := hcut
            clear HT
            have q0 : wc.cell? ⟨ba, 0, none⟩ = some (.bool na) := HT4.out.a.cell 0
            have q1 : wc.cell? ⟨ba, 1, none⟩ = some (.string da) := HT4.out.a.cell 1
            have q2 : wc.cell? ⟨ba, 2, none⟩ = some (.int .i64 xa) := HT4.out.a.cell 2
            go_wp2_with fail
            refine (HSa.out _).mono ?_
            rintro e Y ⟨rfl, hb⟩
            have HT5 := Lib.hid (HT4.out.step hb)
            clear hb q0 q1 q2
            go_wp2_with fail
            go_ret
            exact ⟨by rw [hR.out]; exact congrArg (fun z => Ending.returned (Value.int .i64 z)) hm, HT5.out.k⟩
end Go.Proofs.YtdbcklabinmgfaaDoor
