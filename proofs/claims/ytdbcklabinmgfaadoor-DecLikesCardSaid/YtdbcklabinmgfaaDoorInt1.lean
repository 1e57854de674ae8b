/- Layer 16: Int. -/
import Derived.Test.YtdbcklabinmgfaaDoorTxt1
import Derived.Test.YtdbcklabinmgfaaDoorIntMath
import Derived.Lib.OthersKept
import Derived.Laws.RangeAny
namespace Go.Proofs.YtdbcklabinmgfaaDoor
open Go.RowKit Go.Shelf
set_option linter.unusedVariables false
set_option maxRecDepth 100000

theorem intC_false {ng : Bool} {D : List Nat} {x : Int} (h : intQ ng D x = false) : intC ng D x = (0, false) := by unfold intC; rw [h]; rfl
theorem intC_big {ng : Bool} {D : List Nat} {x : Int} (h : ¬ intN D x ≤ 4611686018427387904) : intC ng D x = (0, false) := by
  unfold intC
  by_cases hq : intQ ng D x = true
  · rw [if_pos hq, if_neg h]
  · rw [if_neg hq]
theorem intC_ok {ng : Bool} {D : List Nat} {x : Int} (hq : intQ ng D x = true) (h : intN D x ≤ 4611686018427387904) : intC ng D x = (sgI ng (intN D x), true) := by unfold intC; rw [if_pos hq, if_pos h]
theorem One.iterAt {w W : World} {b g : Nat} {va : Array Value} (h : One w b va W) (hg : g ≠ b) (hlo : w.heap.size ≤ g) (s : ByteArray) (k : Nat) : One w b va (W.iterAt g s k) :=
  ⟨(Lib.iterAt_other W g b s k hg.symm).trans h.a, Lib.below_iterAt h.k hlo s k⟩
set_option maxHeartbeats 16000000 in
theorem int_any (ng : Bool) (ds : ByteArray) (x : Int) (w : World) (hs : ds.size ≤ 1000000) :
    Calls Tryd.prog 12 #[.agg #[.bool ng, .string ds, .int .i64 x]] w fun e w' => e = .returned (.tuple #[.int .i64 (intC ng (bs ds) x).1, .bool (intC ng (bs ds) x).2]) ∧ Below w.heap.size w w' := by
  have HRt := Lib.hid fun W => right_any ng ds x W hs
  have hxr := @rightD_exp (ng, bs ds, x)
  have hdl := @rightD_dig (ng, bs ds, x)
  obtain ⟨I, hI⟩ : ∃ I, I = intC ng (bs ds) x := ⟨_, rfl⟩
  rw [← hI]
  obtain ⟨q, hq⟩ : ∃ q, q = intQ ng (bs ds) x := ⟨_, rfl⟩
  have hq2 := hq
  unfold intQ at hq2
  rw [bs_length] at hq2
  obtain ⟨r, hr⟩ : ∃ r, r = rightD (ng, bs ds, x) := ⟨_, rfl⟩
  rw [← hr] at HRt hq2 hxr hdl
  simp only [bs_length] at hdl
  clear hr
  have HI := Lib.hid hI
  have Hq := Lib.hid hq
  have Hq2 := Lib.hid hq2
  have Hxr := Lib.hid hxr
  have Hdl := Lib.hid hdl
  clear hI hq hq2 hxr hdl
  obtain ⟨b, hb⟩ : ∃ z, z = w.heap.size := ⟨_, rfl⟩
  obtain ⟨X0, hX0⟩ : ∃ z, z = w.alloc (.cells #[.bool ng, .string ds, .int .i64 x] 24) := ⟨_, rfl⟩
  have hO : One w b #[.bool ng, .string ds, .int .i64 x] X0 := by rw [hX0, hb]; exact ⟨Whole.new w _ _, (Below.refl _ _).alloc (Nat.le_refl _) _⟩
  have HT := Lib.hid hO
  have HX0 := Lib.hid hX0
  have Hb := Lib.hid hb
  clear hb hX0 hO
  go_enter Tryd.func12, Tryd.ntmps12
  go_upto_region 1 with (fail)
  rw [← HX0.out, ← Hb.out]
  clear HX0 Hb
  go_cut [7, 8, 9, 10, 11, 12, 13, 14, 15, 16, 17, 18, 19] (fun x7 x8 x9 x10 x11 x12 x13 x14 x15 x16 x17 x18 x19 W => x19 = .bool (!q) ∧ One w b #[.bool ng, .string ds, .int .i64 x] W)
  case first =>
    as_aux_lemma =>
      have e0 : X0.cell? ⟨b, 0, none⟩ = some (.bool ng) := HT.out.a.cell 0
      have e1 : X0.cell? ⟨b, 1, none⟩ = some (.string ds) := HT.out.a.cell 1
      have e2 : X0.cell? ⟨b, 2, none⟩ = some (.int .i64 x) := HT.out.a.cell 2
      cases r with
      | false =>
        obtain rfl : q = false := by rw [Hq2.out]; rfl
        go_wp2_with fail
        refine (HRt.out _).mono ?_
        rintro e Y ⟨rfl, hb⟩
        have HT2 := Lib.hid (HT.out.step hb)
        go_wp2_with fail
        go_meet
        exact ⟨rfl, HT2.out⟩
      | true =>
        have hx := Hxr.out rfl
        simp only at hx
        have hl := (Hdl.out rfl).2
        go_wp2_with fail
        refine (HRt.out _).mono ?_
        rintro e Y ⟨rfl, hb⟩
        have HT2 := Lib.hid (HT.out.step hb)
        have y0 : Y.cell? ⟨b, 0, none⟩ = some (.bool ng) := HT2.out.a.cell 0
        have y1 : Y.cell? ⟨b, 1, none⟩ = some (.string ds) := HT2.out.a.cell 1
        have y2 : Y.cell? ⟨b, 2, none⟩ = some (.int .i64 x) := HT2.out.a.cell 2
        clear hb e0 e1 e2
        by_cases h0 : x < 0
        · have d0 : decide (x < 0) = true := decide_eq_true h0
          obtain rfl : q = false := by rw [Hq2.out, decide_eq_false (show ¬ 0 ≤ x by omega)]; rfl
          go_wp2_with fail
          go_meet
          exact ⟨rfl, HT2.out⟩
        · have d0 : decide (x < 0) = false := decide_eq_false h0
          have HPt := Lib.hid fun W => point_any ng ds x W hs (by omega)
          have hpe : pointD (ng, bs ds, x) = (ds.size : Int) + x := by unfold pointD; simp only; rw [bs_length]
          obtain ⟨P, hP⟩ : ∃ P, P = (ds.size : Int) + x := ⟨_, rfl⟩
          rw [hpe, ← hP] at HPt
          have hq3 := Hq2.out
          rw [decide_eq_true (show 0 ≤ x by omega), Bool.true_and, Bool.true_and, ← hP] at hq3
          clear hpe hP
          by_cases h19 : 19 < P
          · have d1 : decide (19 < P) = true := decide_eq_true h19
            obtain rfl : q = false := by rw [hq3]; exact decide_eq_false (by omega)
            clear hq3
            go_wp2_with fail
            refine (HPt.out _).mono ?_
            rintro e Z ⟨rfl, hb⟩
            have HT3 := Lib.hid (HT2.out.step hb)
            clear hb y0 y1 y2
            go_wp2_with fail
            go_meet
            exact ⟨by first | rfl | simp, HT3.out⟩
          · have d1 : decide (19 < P) = false := decide_eq_false h19
            obtain rfl : q = true := by rw [hq3]; exact decide_eq_true (by omega)
            clear hq3
            go_wp2_with fail
            refine (HPt.out _).mono ?_
            rintro e Z ⟨rfl, hb⟩
            have HT3 := Lib.hid (HT2.out.step hb)
            clear hb y0 y1 y2
            go_wp2_with fail
            go_meet
            exact ⟨by first | rfl | simp, HT3.out⟩
  case rest =>
    obtain ⟨rfl, hT1⟩ := hcut
    clear HT HRt Hxr Hdl Hq2
    have HT := Lib.hid hT1
    clear hT1
    cases q with
    | false =>
      have hI2 : Hid (I = (0, false)) := by show _ = _; rw [HI.out]; exact intC_false Hq.out.symm
      clear HI Hq
      go_wp2_with fail
      exact bodyPost_ret (v := .tuple #[.int .i64 0, .bool false]) (by simp [results, Tryd.results12, go_sem]) rfl ⟨by rw [hI2.out], HT.out.k⟩
    | true =>
      have hQ := Hq.out.symm
      have hok := intQ_ok hQ
      have hx0 := hok.x0
      have hp := hok.p
      rw [bs_length] at hp
      obtain ⟨xn, hxe⟩ : ∃ n : Nat, x = (n : Int) := ⟨x.toNat, by omega⟩
      have HRp := Lib.hid fun W => repeat_any xn W (by omega)
      rw [← hxe] at HRp
      obtain ⟨V, hV⟩ : ∃ V, V = intN (bs ds) x := ⟨_, rfl⟩
      have hVlt := hok.lt
      rw [← hV] at hVlt
      obtain ⟨sD, hsD0⟩ : ∃ s : ByteArray, s = ds ++ strOf (List.replicate xn 48) := ⟨_, rfl⟩
      have hbs : bs sD = allN (bs ds) x := by rw [hsD0, bs_app, bs_strOf _ (fun y hy => by rw [(List.mem_replicate.1 hy).2]; decide)]; unfold allN; rw [hxe, Int.toNat_natCast]
      have hall := hok.all
      rw [← hbs, bs_length] at hall
      unfold intN at hV
      rw [← hbs] at hV
      have Hdig := Lib.hid hall.1
      have hsz := hall.2
      have HV := Lib.hid hV
      have hsD : Hid (ds ++ strOf (List.replicate xn 48) = sD) := hsD0.symm
      have hxn : xn ≤ 19 := by omega
      have HIb : Hid (¬ V ≤ 4611686018427387904 → I = (0, false)) := fun h => by rw [HI.out]; exact intC_big (by unfold intN; rw [← hbs, ← HV.out]; exact h)
      have HIo : Hid (V ≤ 4611686018427387904 → I = (sgI ng (V : Int), true)) := fun h => by
        rw [HI.out, intC_ok hQ (by unfold intN; rw [← hbs, ← HV.out]; exact h)]
        unfold intN
        rw [← hbs, ← HV.out]
      clear HI Hq hQ hok hxe hbs hall hV hsD0
      go_upto_region 4 with (fail)
      go_cut [20, 21, 22, 23, 24, 25, 26] (fun x20 x21 x22 x23 x24 x25 x26 W => ∃ g : Nat, x26 = .pointer (some ⟨g, 0, none⟩) ∧ W.heap[g]? = some (.stringIter sD 0) ∧ w.heap.size ≤ g ∧ g ≠ b ∧ One w b #[.bool ng, .string ds, .int .i64 x] W)
      case first =>
        as_aux_lemma =>
          refine wp_region_held (S := One w b #[.bool ng, .string ds, .int .i64 x]) (by kernel_rfl) ?_
          refine wpAnyH_take (i := 0) (oi := { dst := some 20, op := Go.Op.fieldAddr 24 (Go.Operand.tmp 1) 1, type := 0, pos := "dec.go:210", after := #[], guard := none }) (v := ?_) rfl (by kernel_rfl) (by kernel_rfl) (by kernel_rfl) (fun _ _ _ h => h) (Or.inl ⟨by rfl, ?_⟩) (HT.out.drew) ?_
          rotate_left 1
          · intro w5 hSw
            go_simp; all_goals (with_reducible rfl)
          try simp only [Act.put, List.setIfInBounds_toArray, List.set_cons_zero, List.set_cons_succ]
          refine wpAnyH_take (i := 1) (oi := { dst := some 21, op := Go.Op.load 9 (Go.Operand.tmp 20), type := 9, pos := "dec.go:210", after := #[{ on := 0, ground := Go.Ground.data }], guard := none }) (v := ?_) rfl (by kernel_rfl) (by kernel_rfl) (by kernel_rfl) (fun _ _ _ h => h) (Or.inl ⟨by rfl, ?_⟩) (HT.out.drew) ?_
          rotate_left 1
          · intro w5 hSw
            have q1 : w5.cell? ⟨b, 1, none⟩ = some (.string ds) := hSw.a.cell 1
            go_simp; all_goals (with_reducible rfl)
          try simp only [Act.put, List.setIfInBounds_toArray, List.set_cons_zero, List.set_cons_succ]
          refine wpAnyH_take (i := 2) (oi := { dst := some 22, op := Go.Op.fieldAddr 24 (Go.Operand.tmp 1) 2, type := 0, pos := "dec.go:210", after := #[], guard := none }) (v := ?_) rfl (by kernel_rfl) (by kernel_rfl) (by kernel_rfl) (fun _ _ _ h => h) (Or.inl ⟨by rfl, ?_⟩) (HT.out.drew) ?_
          rotate_left 1
          · intro w5 hSw
            go_simp; all_goals (with_reducible rfl)
          try simp only [Act.put, List.setIfInBounds_toArray, List.set_cons_zero, List.set_cons_succ]
          refine wpAnyH_take (i := 3) (oi := { dst := some 23, op := Go.Op.load 3 (Go.Operand.tmp 22), type := 3, pos := "dec.go:210", after := #[{ on := 2, ground := Go.Ground.data }], guard := none }) (v := ?_) rfl (by kernel_rfl) (by kernel_rfl) (by kernel_rfl) (fun _ _ _ h => h) (Or.inl ⟨by rfl, ?_⟩) (HT.out.drew) ?_
          rotate_left 1
          · intro w5 hSw
            have q2 : w5.cell? ⟨b, 2, none⟩ = some (.int .i64 x) := hSw.a.cell 2
            go_simp; all_goals (with_reducible rfl)
          try simp only [Act.put, List.setIfInBounds_toArray, List.set_cons_zero, List.set_cons_succ]
          refine wpAnyH_ready (rs := [4]) (by kernel_rfl) (by simp) ?_
          refine (AllReadyH.cons (o := { dst := some 24, op := Go.Op.call { callee := Go.Callee.value (Go.Operand.func 30), args := #[Go.Operand.const (Go.Value.string { data := #[48] }), Go.Operand.tmp 23], argTypes := #[9, 3] }, type := 9, pos := "dec.go:210", after := #[{ on := 3, ground := Go.Ground.data }], guard := none }) rfl (fun K hK => ?_) AllReadyH.nil)
          go_simp
          refine (HRp.out _).mono ?_; rintro e Y4 ⟨rfl, hb4⟩
          go_wp2_with fail
          refine hK.out _ _ (One.step (HT.out.drew) hb4) (fun _ => ?_)
          clear hK K
          try simp only [Act.put, List.setIfInBounds_toArray, List.set_cons_zero, List.set_cons_succ]
          refine wpAnyH_take (i := 5) (oi := { dst := some 25, op := Go.Op.binOp Go.BinOp.add 9 (Go.Operand.tmp 21) (Go.Operand.tmp 24) 9, type := 9, pos := "dec.go:210", after := #[{ on := 1, ground := Go.Ground.data }, { on := 4, ground := Go.Ground.data }], guard := none }) (v := ?_) rfl (by kernel_rfl) (by kernel_rfl) (by kernel_rfl) (fun _ _ _ h => h) (Or.inl ⟨by rfl, ?_⟩) (One.step (HT.out.drew) hb4) ?_
          rotate_left 1
          · intro w5 hSw
            have ha := add_run ds (strOf (List.replicate xn 48)) (by omega) (by rw [strOf_size, List.length_replicate]; omega) w5
            go_simp; all_goals (with_reducible rfl)
          try simp only [Act.put, List.setIfInBounds_toArray, List.set_cons_zero, List.set_cons_succ]
          refine wpAnyH_ready (rs := [6]) (by kernel_rfl) (by simp) ?_
          refine (AllReadyH.cons (o := { dst := some 26, op := Go.Op.range 9 (Go.Operand.tmp 25), type := 0, pos := "dec.go:210", after := #[{ on := 5, ground := Go.Ground.data }], guard := none }) rfl (fun K hK => ?_) AllReadyH.nil)
          go_simp
          refine hK.out _ _ (One.step (One.step (HT.out.drew) hb4) ((Below.refl _ _).alloc (Nat.le_refl _) _)) (fun _ => ?_)
          clear hK K
          try simp only [Act.put, List.setIfInBounds_toArray, List.set_cons_zero, List.set_cons_succ]
          refine wpAnyH_done (by kernel_rfl) ?_ _
          have hY := One.step (HT.out.drew) hb4
          go_wp2_with fail
          go_meet
          exact ⟨_, by first | rfl | simp, by rw [hsD.out]; exact World.iter_heap Y4 _ 0, hY.k.size, (Nat.ne_of_lt hY.a.lt).symm, One.step hY ((Below.refl _ _).alloc (Nat.le_refl _) _)⟩
      case rest =>
        obtain ⟨g, rfl, hit, hlo, hgb, hT1⟩ := hcut
        clear HT HRp hsD
        have HT := Lib.hid hT1
        have Hit := Lib.hid hit
        clear hT1 hit
        go_wp2_with fail
        go_loopw [4, 6] (fun x4 x6 W => ∃ k n : Nat, k ≤ sD.size ∧ x4 = .int .u64 (n : Int) ∧ Hid (valN n ((bs sD).drop k) = V) ∧ Hid (W.heap[g]? = some (.stringIter sD k)) ∧ Hid (One w b #[.bool ng, .string ds, .int .i64 x] W)) (fun x4 x6 W => sD.size - W.iterPos g)
        case atStart => exact ⟨0, 0, Nat.zero_le _, rfl, HV.out.symm, Hit, HT⟩
        case round =>
          clear HT Hit
          obtain ⟨k, n, hks, rfl, hF, hK, hO⟩ := hrel
          by_cases hlt : k < sD.size
          · obtain ⟨c, hc⟩ : ∃ c, (sD[k]'hlt).toNat = c := ⟨_, rfl⟩
            have hF' := hF.out
            rw [drop_head (by rw [bs_length]; exact hlt), valN_cons, ← bs_get sD k hlt, hc] at hF'
            have hcd := Hdig.out c (by rw [← hc, bs_get sD k hlt, getD_lt' 0 (by rw [bs_length]; exact hlt)]; exact List.getElem_mem _)
            have hge := valN_ge ((bs sD).drop (k + 1)) (10 * n + (c - 48))
            rw [hF'] at hge
            have hnx := fun ty => Lib.run_next_ascii_at (P := Tryd.prog) wr g sD k ty hK.out hlt (by omega)
            rw [hc] at hnx
            have hF2 := Lib.hid hF'
            have hK2 := Lib.hid (Lib.iterAt_heap wr g sD k (k + 1) hK.out)
            have hO2 := Lib.hid (hO.out.iterAt hgb hlo sD (k + 1))
            have hpos : wr.iterPos g = k := by unfold World.iterPos; rw [hK.out]
            clear hF' hF
            go_wp2_with fail
            go_roundw
            case rel => exact ⟨k + 1, 10 * n + (c - 48), by omega, congrArg (Value.int .u64) (by omega), hF2, hK2, hO2⟩
            case measure =>
              have hpos2 : (wr.iterAt g sD (k + 1)).iterPos g = k + 1 := by unfold World.iterPos; rw [hK2.out]
              rw [hpos2, hpos]
              omega
          · obtain rfl : k = sD.size := by omega
            have hnx := fun ty => Lib.run_next_end_at (P := Tryd.prog) wr g sD sD.size ty hK.out hlt
            have hnV : Hid (n = V) := by
              have hF' := hF.out
              rw [List.drop_eq_nil_of_le (by rw [bs_length]; omega)] at hF'
              exact hF'
            have e0 : wr.cell? ⟨b, 0, none⟩ = some (.bool ng) := hO.out.a.cell 0
            clear hF hK
            obtain rfl : n = V := hnV.out
            by_cases hbig : n ≤ 4611686018427387904
            · have d1 : decide (4611686018427387904 < (n : Int)) = false := decide_eq_false (by omega)
              have hI2 := Lib.hid (HIo.out hbig)
              cases ng with
              | true =>
                go_wp2_with fail
                exact bodyPost_ret (v := .tuple #[.int .i64 (-(n : Int)), .bool true]) (by simp [results, Tryd.results12, go_sem]) rfl ⟨by rw [hI2.out]; rfl, hO.out.k⟩
              | false =>
                go_wp2_with fail
                exact bodyPost_ret (v := .tuple #[.int .i64 (n : Int), .bool true]) (by simp [results, Tryd.results12, go_sem]) rfl ⟨by rw [hI2.out]; rfl, hO.out.k⟩
            · have d1 : decide (4611686018427387904 < (n : Int)) = true := decide_eq_true (by omega)
              have hI2 := Lib.hid (HIb.out hbig)
              go_wp2_with fail
              exact bodyPost_ret (v := .tuple #[.int .i64 0, .bool false]) (by simp [results, Tryd.results12, go_sem]) rfl ⟨by rw [hI2.out], hO.out.k⟩
end Go.Proofs.YtdbcklabinmgfaaDoor
