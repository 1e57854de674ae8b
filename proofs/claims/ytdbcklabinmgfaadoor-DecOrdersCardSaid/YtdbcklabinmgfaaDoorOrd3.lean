/- Layer 16: the reference's Order. -/
import Derived.Test.YtdbcklabinmgfaaDoorOrd2
namespace Go.Proofs.YtdbcklabinmgfaaDoor
open Go.RowKit
set_option linter.unusedVariables false
set_option maxRecDepth 100000

theorem dg_small (ds : ByteArray) (x p : Int) : -300 ≤ dg (bs ds) x p ∧ dg (bs ds) x p ≤ 300 := by
  unfold dg
  by_cases hc : 0 ≤ ((bs ds).length : Int) - 1 - (p - x) ∧ ((bs ds).length : Int) - 1 - (p - x) < ((bs ds).length : Int)
  · rw [if_pos hc]
    have := getD_lt (bs_lt ds) (((bs ds).length : Int) - 1 - (p - x)).toNat
    omega
  · rw [if_neg hc]; omega
theorem fdiff_step (u v : Int → Int) (p : Int) (n : Nat) : fdiff u v p (n + 1) = if u p < v p then -1 else if v p < u p then 1 else fdiff u v (p - 1) n := rfl

set_option maxHeartbeats 16000000 in
theorem rorder_any (na nb : Bool) (da db : ByteArray) (xa xb : Int) (w : World) (hsa : da.size ≤ 1000000) (hsb : db.size ≤ 1000000) :
    Calls Tryd.prog 19 #[.agg #[.bool na, .string da, .int .i64 xa], .agg #[.bool nb, .string db, .int .i64 xb]] w fun e w' => e = .returned (.int .i64 (ordR (na, bs da, xa) (nb, bs db, xb))) ∧ Below w.heap.size w w' := by
  have HRa := Lib.hid fun W => rright_any na da xa W hsa
  have HRb := Lib.hid fun W => rright_any nb db xb W hsb
  have hxa := @rightD_exp (na, bs da, xa)
  have hxb := @rightD_exp (nb, bs db, xb)
  obtain ⟨R, hR⟩ : ∃ R, R = ordR (na, bs da, xa) (nb, bs db, xb) := ⟨_, rfl⟩
  rw [← hR]
  unfold ordR at hR
  obtain ⟨ra, hra⟩ : ∃ r, r = rightD (na, bs da, xa) := ⟨_, rfl⟩
  obtain ⟨rb, hrb⟩ : ∃ r, r = rightD (nb, bs db, xb) := ⟨_, rfl⟩
  rw [← hra] at HRa hR hxa
  rw [← hrb] at HRb hR hxb
  clear hra hrb
  simp only at hR
  obtain ⟨u, hu⟩ : ∃ u, u = dg (bs da) xa := ⟨_, rfl⟩
  obtain ⟨v, hv⟩ : ∃ v, v = dg (bs db) xb := ⟨_, rfl⟩
  have hu3 : ∀ p, -300 ≤ u p ∧ u p ≤ 300 := fun p => by rw [hu]; exact dg_small da xa p
  have hv3 : ∀ p, -300 ≤ v p ∧ v p ≤ 300 := fun p => by rw [hv]; exact dg_small db xb p
  rw [← hu, ← hv] at hR
  have Hu3 := Lib.hid hu3
  have Hv3 := Lib.hid hv3
  have Hu := Lib.hid hu
  have Hv := Lib.hid hv
  have HR := Lib.hid hR
  clear hR hu hv hu3 hv3
  obtain ⟨ba, hba⟩ : ∃ z, z = w.heap.size := ⟨_, rfl⟩
  obtain ⟨bb, hbb⟩ : ∃ z, z = w.heap.size + 1 := ⟨_, rfl⟩
  obtain ⟨X0, hX0⟩ : ∃ z, z = (w.alloc (.cells #[.bool na, .string da, .int .i64 xa] 24)).alloc (.cells #[.bool nb, .string db, .int .i64 xb] 24) := ⟨_, rfl⟩
  have hT := two_decs w X0 _ _ hX0
  rw [← hbb, ← hba] at hT
  have HT := Lib.hid hT
  have HX0 := Lib.hid hX0
  have Hba := Lib.hid hba
  have Hbb := Lib.hid hbb
  clear hba hbb hX0 hT
  go_enter Tryd.func19, Tryd.ntmps19
  go_upto_region 1 with (fail)
  rw [← HX0.out, ← Hbb.out, ← Hba.out]
  clear HX0 Hba Hbb
  go_cut [8, 9, 10, 11, 12, 13, 14, 15] (fun x8 x9 x10 x11 x12 x13 x14 x15 W => x15 = .bool (!(ra && rb)) ∧ Hid (Two w ba bb #[.bool na, .string da, .int .i64 xa] #[.bool nb, .string db, .int .i64 xb] W))
  case first =>
    as_aux_lemma =>
      have q0 : X0.cell? ⟨ba, 0, none⟩ = some (.bool na) := HT.out.a.cell 0
      have q1 : X0.cell? ⟨ba, 1, none⟩ = some (.string da) := HT.out.a.cell 1
      have q2 : X0.cell? ⟨ba, 2, none⟩ = some (.int .i64 xa) := HT.out.a.cell 2
      cases ra with
      | false =>
        go_wp2_with fail
        refine (HRa.out _).mono ?_
        rintro e Y ⟨rfl, hb⟩
        have HT := Lib.hid (HT.out.step hb)
        go_wp2_with fail
        go_meet
        exact ⟨rfl, HT⟩
      | true =>
        go_wp2_with fail
        refine (HRa.out _).mono ?_
        rintro e Y ⟨rfl, hb⟩
        have HT := Lib.hid (HT.out.step hb)
        have z0 : Y.cell? ⟨bb, 0, none⟩ = some (.bool nb) := HT.out.b.cell 0
        have z1 : Y.cell? ⟨bb, 1, none⟩ = some (.string db) := HT.out.b.cell 1
        have z2 : Y.cell? ⟨bb, 2, none⟩ = some (.int .i64 xb) := HT.out.b.cell 2
        clear hb q0 q1 q2
        go_wp2_with fail
        refine (HRb.out _).mono ?_
        rintro e Z ⟨rfl, hb⟩
        have HT := Lib.hid (HT.out.step hb)
        clear hb z0 z1 z2
        go_wp2_with fail
        go_meet
        exact ⟨by simp, HT⟩
  case rest =>
    obtain ⟨rfl, HT2⟩ := hcut
    clear HT
    have HT := HT2
    clear HT2
    clear HRa HRb
    cases hq : (ra && rb) with
    | false =>
      have hR : Hid (R = 0) := by
        show _ = _
        rw [HR.out, if_neg]
        rintro ⟨h1, h2⟩
        rw [h1, h2] at hq
        cases hq
      clear HR
      go_wp2_with fail
      go_ret
      exact ⟨by rw [hR.out]; rfl, HT.out.k⟩
    | true =>
      have h1 : ra = true := by cases ra with | true => rfl | false => cases hq
      have h2 : rb = true := by cases rb with | true => rfl | false => rw [h1] at hq; cases hq
      have hR := HR.out
      rw [if_pos ⟨h1, h2⟩] at hR
      have hxa := hxa h1
      have hxb := hxb h2
      simp only at hxa hxb
      have HAa : Hid (∀ p W, -1000000 ≤ p ∧ p ≤ 1000000 → Calls Tryd.prog 31 #[.agg #[.bool na, .string da, .int .i64 xa], .int .i64 p] W fun e w' => e = .returned (.int .i64 (u p)) ∧ Below W.heap.size W w') := fun p W hp => by rw [Hu.out]; exact at_any na da xa p W hsa (by omega) hp
      have HAb : Hid (∀ p W, -1000000 ≤ p ∧ p ≤ 1000000 → Calls Tryd.prog 31 #[.agg #[.bool nb, .string db, .int .i64 xb], .int .i64 p] W fun e w' => e = .returned (.int .i64 (v p)) ∧ Below W.heap.size W w') := fun p W hp => by rw [Hv.out]; exact at_any nb db xb p W hsb (by omega) hp
      have HR3 := Lib.hid hR
      clear HR hR hq hxa hxb Hu Hv h1 h2
      go_wp2_with fail
      go_loopw [5, 6, 7] (fun x5 x6 x7 W => ∃ p : Int, (-1002 ≤ p ∧ p ≤ 1101) ∧ x5 = .int .i64 p ∧ Hid (fdiff (fun p => sgI na (u p)) (fun p => sgI nb (v p)) p (p + 1002).toNat = R) ∧ Hid (Two w ba bb #[.bool na, .string da, .int .i64 xa] #[.bool nb, .string db, .int .i64 xb] W)) (fun x5 _ _ _ => (intOf x5 + 1002).toNat)
      case atStart => exact ⟨1101, ⟨by omega, by omega⟩, rfl, HR3.out.symm, HT⟩
      case round =>
        clear HT
        obtain ⟨p, hp, rfl, hF, HT⟩ := hrel
        by_cases hge : -1001 ≤ p
        · have d1 : decide (-1001 ≤ p) = true := decide_eq_true hge
          have hp2 : -1000000 ≤ p ∧ p ≤ 1000000 := by omega
          have hF' := hF.out
          rw [show (p + 1002).toNat = (p + 1001).toNat + 1 by omega, fdiff_step] at hF'

          have hU := Hu3.out p
          have hV := Hv3.out p
          obtain ⟨U, hUe⟩ : ∃ z, z = u p := ⟨_, rfl⟩
          obtain ⟨V, hVe⟩ : ∃ z, z = v p := ⟨_, rfl⟩
          rw [← hUe] at hU hF'
          rw [← hVe] at hV hF'
          obtain ⟨US, hUS⟩ : ∃ z, z = sgI na U := ⟨_, rfl⟩
          obtain ⟨VS, hVS⟩ : ∃ z, z = sgI nb V := ⟨_, rfl⟩
          rw [← hUS, ← hVS] at hF'
          have HUS := Lib.hid hUS
          have HVS := Lib.hid hVS
          have HF := Lib.hid hF'
          have HUe := Lib.hid hUe
          have HVe := Lib.hid hVe
          clear hF' hF hUe hVe hUS hVS
          go_upto_region 6 with (fail)
          go_cut [6, 7, 20, 21, 22, 23, 24, 25] (fun x6 x7 x20 x21 x22 x23 x24 x25 W => x6 = .int .i64 U ∧ x7 = .int .i64 V ∧ Hid (Two w ba bb #[.bool na, .string da, .int .i64 xa] #[.bool nb, .string db, .int .i64 xb] W))
          case first =>
            as_aux_lemma =>
              refine wp_region_held (S := Two w ba bb #[.bool na, .string da, .int .i64 xa] #[.bool nb, .string db, .int .i64 xb]) (by kernel_rfl) ?_
              refine wpAnyH_take (i := 0) (oi := { dst := some 20, op := Go.Op.load 24 (Go.Operand.tmp 2), type := 24, pos := "ref.go:87", after := #[], guard := none }) (v := ?_) rfl (by kernel_rfl) (by kernel_rfl) (by kernel_rfl) (fun _ _ _ h => h) (Or.inl ⟨by rfl, ?_⟩) (HT.out.drew) ?_
              rotate_left 1
              · intro w5 hSw
                have q0 : w5.cell? ⟨ba, 0, none⟩ = some (.bool na) := hSw.a.cell 0
                have q1 : w5.cell? ⟨ba, 1, none⟩ = some (.string da) := hSw.a.cell 1
                have q2 : w5.cell? ⟨ba, 2, none⟩ = some (.int .i64 xa) := hSw.a.cell 2
                go_simp; all_goals (with_reducible rfl)
              try simp only [Act.put, List.setIfInBounds_toArray, List.set_cons_zero, List.set_cons_succ]
              refine wpAnyH_take (i := 1) (oi := { dst := some 21, op := Go.Op.move (Go.Operand.tmp 5), type := 3, pos := "ref.go:87", after := #[], guard := none }) (v := ?_) rfl (by kernel_rfl) (by kernel_rfl) (by kernel_rfl) (fun _ _ _ h => h) (Or.inl ⟨by rfl, ?_⟩) (HT.out.drew) ?_
              rotate_left 1
              · intro w5 hSw
                go_simp; all_goals (with_reducible rfl)
              try simp only [Act.put, List.setIfInBounds_toArray, List.set_cons_zero, List.set_cons_succ]
              refine wpAnyH_take (i := 3) (oi := { dst := some 23, op := Go.Op.load 24 (Go.Operand.tmp 3), type := 24, pos := "ref.go:87", after := #[], guard := none }) (v := ?_) rfl (by kernel_rfl) (by kernel_rfl) (by kernel_rfl) (fun _ _ _ h => h) (Or.inl ⟨by rfl, ?_⟩) (HT.out.drew) ?_
              rotate_left 1
              · intro w5 hSw
                have q0 : w5.cell? ⟨bb, 0, none⟩ = some (.bool nb) := hSw.b.cell 0
                have q1 : w5.cell? ⟨bb, 1, none⟩ = some (.string db) := hSw.b.cell 1
                have q2 : w5.cell? ⟨bb, 2, none⟩ = some (.int .i64 xb) := hSw.b.cell 2
                go_simp; all_goals (with_reducible rfl)
              try simp only [Act.put, List.setIfInBounds_toArray, List.set_cons_zero, List.set_cons_succ]
              refine wpAnyH_take (i := 4) (oi := { dst := some 24, op := Go.Op.move (Go.Operand.tmp 5), type := 3, pos := "ref.go:87", after := #[], guard := none }) (v := ?_) rfl (by kernel_rfl) (by kernel_rfl) (by kernel_rfl) (fun _ _ _ h => h) (Or.inl ⟨by rfl, ?_⟩) (HT.out.drew) ?_
              rotate_left 1
              · intro w5 hSw
                go_simp; all_goals (with_reducible rfl)
              try simp only [Act.put, List.setIfInBounds_toArray, List.set_cons_zero, List.set_cons_succ]
              refine wpAnyH_ready (rs := [2]) (by kernel_rfl) (by simp) ?_
              refine (AllReadyH.cons (o := { dst := some 22, op := Go.Op.call { callee := Go.Callee.value (Go.Operand.func 31), args := #[Go.Operand.tmp 20, Go.Operand.tmp 21], argTypes := #[24, 3] }, type := 3, pos := "ref.go:87", after := #[{ on := 0, ground := Go.Ground.data }, { on := 1, ground := Go.Ground.data }], guard := none }) rfl (fun K hK => ?_) AllReadyH.nil)
              go_simp
              refine (HAa.out p _ hp2).mono ?_; rintro e Y2 ⟨rfl, hb2⟩
              go_wp2_with fail
              refine hK.out _ _ (Two.step (HT.out.drew) hb2) (fun _ => ?_)
              clear hK K
              try simp only [Act.put, List.setIfInBounds_toArray, List.set_cons_zero, List.set_cons_succ]
              refine wpAnyH_ready (rs := [5]) (by kernel_rfl) (by simp) ?_
              refine (AllReadyH.cons (o := { dst := some 25, op := Go.Op.call { callee := Go.Callee.value (Go.Operand.func 31), args := #[Go.Operand.tmp 23, Go.Operand.tmp 24], argTypes := #[24, 3] }, type := 3, pos := "ref.go:87", after := #[{ on := 3, ground := Go.Ground.data }, { on := 4, ground := Go.Ground.data }, { on := 2, ground := Go.Ground.chain }], guard := none }) rfl (fun K hK => ?_) AllReadyH.nil)
              go_simp
              refine (HAb.out p _ hp2).mono ?_; rintro e Y5 ⟨rfl, hb5⟩
              go_wp2_with fail
              refine hK.out _ _ (Two.step (Two.step (HT.out.drew) hb2) hb5) (fun _ => ?_)
              clear hK K
              try simp only [Act.put, List.setIfInBounds_toArray, List.set_cons_zero, List.set_cons_succ]
              refine wpAnyH_take (i := 6) (oi := { dst := some 6, op := Go.Op.assign (Go.Operand.tmp 22), type := 3, pos := "ref.go:87", after := #[{ on := 2, ground := Go.Ground.data }, { on := 5, ground := Go.Ground.chain }, { on := 0, ground := Go.Ground.phase }, { on := 1, ground := Go.Ground.phase }, { on := 2, ground := Go.Ground.phase }, { on := 3, ground := Go.Ground.textOnly Go.Departure.lateStores }, { on := 4, ground := Go.Ground.textOnly Go.Departure.lateStores }, { on := 5, ground := Go.Ground.textOnly Go.Departure.lateStoresUnsure }], guard := none }) (v := ?_) rfl (by kernel_rfl) (by kernel_rfl) (by kernel_rfl) (fun _ _ _ h => h) (Or.inl ⟨by rfl, ?_⟩) (Two.step (Two.step (HT.out.drew) hb2) hb5) ?_
              rotate_left 1
              · intro w5 hSw
                go_simp; all_goals (with_reducible rfl)
              try simp only [Act.put, List.setIfInBounds_toArray, List.set_cons_zero, List.set_cons_succ]
              refine wpAnyH_take (i := 7) (oi := { dst := some 7, op := Go.Op.assign (Go.Operand.tmp 25), type := 3, pos := "ref.go:87", after := #[{ on := 5, ground := Go.Ground.data }, { on := 6, ground := Go.Ground.chain }, { on := 0, ground := Go.Ground.phase }, { on := 1, ground := Go.Ground.phase }, { on := 2, ground := Go.Ground.phase }, { on := 3, ground := Go.Ground.phase }, { on := 4, ground := Go.Ground.phase }, { on := 5, ground := Go.Ground.phase }, { on := 6, ground := Go.Ground.phase }], guard := none }) (v := ?_) rfl (by kernel_rfl) (by kernel_rfl) (by kernel_rfl) (fun _ _ _ h => h) (Or.inl ⟨by rfl, ?_⟩) (Two.step (Two.step (HT.out.drew) hb2) hb5) ?_
              rotate_left 1
              · intro w5 hSw
                go_simp; all_goals (with_reducible rfl)
              try simp only [Act.put, List.setIfInBounds_toArray, List.set_cons_zero, List.set_cons_succ]
              refine wpAnyH_done (by kernel_rfl) ?_ _
              go_wp2_with fail
              go_meet
              exact ⟨by rw [HUe.out], by rw [HVe.out], Two.step (Two.step (HT.out.drew) hb2) hb5⟩
          case rest =>
            obtain ⟨rfl, rfl, HT2⟩ := hcut
            clear HT HUe HVe
            have e0 : wc.cell? ⟨ba, 0, none⟩ = some (.bool na) := HT2.out.a.cell 0
            have e1 : wc.cell? ⟨bb, 0, none⟩ = some (.bool nb) := HT2.out.b.cell 0
            go_upto_if 27 with (fail)
            obtain ⟨w0, hw0⟩ : ∃ w0, w0 = wc := ⟨_, rfl⟩
            go_cut [6, 28, 29] (fun x6 x28 x29 W => x6 = .int .i64 US ∧ w0 = W)
            case first =>
              as_aux_lemma =>
                have w1 : wrap64 (-U) = -U := IntWalk.wrap64_in _ ⟨by omega, by omega⟩
                cases na with
                | true =>
                  go_wp2_with fail
                  go_meet
                  exact ⟨by rw [HUS.out]; rfl, hw0⟩
                | false =>
                  go_wp2_with fail
                  go_meet
                  exact ⟨by rw [HUS.out]; rfl, hw0⟩
            case rest =>
              obtain ⟨rfl, rfl⟩ := hcut
              subst hw0
              go_upto_if 31 with (fail)
              obtain ⟨w0, hw0⟩ : ∃ z, z = w0 := ⟨_, rfl⟩
              go_cut [7, 32, 33] (fun x7 x32 x33 W => x7 = .int .i64 VS ∧ w0 = W)
              case first =>
                as_aux_lemma =>
                  have w1 : wrap64 (-V) = -V := IntWalk.wrap64_in _ ⟨by omega, by omega⟩
                  cases nb with
                  | true =>
                    go_wp2_with fail
                    go_meet
                    exact ⟨by rw [HVS.out]; rfl, hw0⟩
                  | false =>
                    go_wp2_with fail
                    go_meet
                    exact ⟨by rw [HVS.out]; rfl, hw0⟩
              case rest =>
                obtain ⟨rfl, rfl⟩ := hcut
                subst hw0
                clear HUS HVS e0 e1
                by_cases h1 : US < VS
                · have d2 : decide (US < VS) = true := decide_eq_true h1
                  have hR : Hid (R = -1) := by show _ = _; rw [← HF.out, if_pos h1]
                  clear HF h1
                  go_wp2_with fail
                  go_ret
                  exact ⟨by rw [hR.out]; rfl, HT2.out.k⟩
                · have d2 : decide (US < VS) = false := decide_eq_false h1
                  by_cases h2 : VS < US
                  · have d3 : decide (VS < US) = true := decide_eq_true h2
                    have hR : Hid (R = 1) := by show _ = _; rw [← HF.out, if_neg h1, if_pos h2]
                    clear HF h1 h2
                    go_wp2_with fail
                    go_ret
                    exact ⟨by rw [hR.out]; rfl, HT2.out.k⟩
                  · have d3 : decide (VS < US) = false := decide_eq_false h2
                    have hF2 : Hid (fdiff (fun p => sgI na (u p)) (fun p => sgI nb (v p)) (p - 1) ((p - 1) + 1002).toNat = R) := by
                      show _ = _
                      rw [show (p - 1 + 1002).toNat = (p + 1001).toNat by omega, ← HF.out, if_neg h1, if_neg h2]
                    have w1 : wrap64 (p - 1) = p - 1 := IntWalk.wrap64_in _ ⟨by omega, by omega⟩
                    clear HF h1 h2
                    go_wp2_with fail
                    go_roundw
                    case rel => exact ⟨p - 1, ⟨by omega, by omega⟩, by go_num, hF2, HT2⟩
                    case measure => simp [intOf]; omega
        · have d1 : decide (-1001 ≤ p) = false := decide_eq_false hge
          have hR : Hid (R = 0) := by show _ = _; rw [← hF.out, show (p + 1002).toNat = 0 by omega]; rfl
          clear hF
          go_wp2_with fail
          go_ret
          exact ⟨by rw [hR.out]; rfl, HT.out.k⟩
end Go.Proofs.YtdbcklabinmgfaaDoor
