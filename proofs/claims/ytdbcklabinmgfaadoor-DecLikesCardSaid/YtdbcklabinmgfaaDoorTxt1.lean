/- Layer 16: amount. -/
import Derived.Test.YtdbcklabinmgfaaDoorTxt0
namespace Go.Proofs.YtdbcklabinmgfaaDoor
open Go.RowKit Go.Shelf Go.Lib
set_option linter.unusedVariables false
set_option maxRecDepth 100000
set_option maxHeartbeats 16000000 in
theorem amount_any (ng : Bool) (ds : ByteArray) (x : Int) (it : ByteArray) (w : World) (h1 : 0 < ds.size) (hs : ds.size ≤ 100) (hx : -1000 ≤ x ∧ x ≤ 1000) (hit : it.size ≤ 10000000)
    (hI : ∀ W, Below w.heap.size w W → Calls Tryd.prog 60 #[.int .i64 ((ds.size : Int) + x - 1)] W fun e w' => e = .returned (.string it) ∧ Below W.heap.size W w') :
    Calls Tryd.prog 34 #[.agg #[.bool ng, .string ds, .int .i64 x]] w fun e w' => e = .returned (.string (strOf (amountC (bs ds) x (bs it)))) ∧ Below w.heap.size w w' := by
  have HP := Lib.hid fun W => point_any ng ds x W (by omega) (by omega)
  obtain ⟨P, hP⟩ : ∃ P, P = (ds.size : Int) + x := ⟨_, rfl⟩
  have hPp : pointD (ng, bs ds, x) = P := by unfold pointD; simp only; rw [bs_length, hP]
  rw [hPp] at HP
  obtain ⟨T, hT⟩ : ∃ T, T = strOf (amountC (bs ds) x (bs it)) := ⟨_, rfl⟩
  rw [← hT]
  unfold amountC at hT
  rw [bs_length, ← hP] at hT
  rw [← hP] at hI
  have hPb : -1000 ≤ P ∧ P ≤ 1100 := by omega
  have HT0 := Lib.hid hT
  obtain ⟨c1, hc1⟩ : ∃ c, c = decide (0 ≤ x ∧ P ≤ 21) := ⟨_, rfl⟩
  obtain ⟨c2, hc2⟩ : ∃ c, c = decide (1 ≤ P ∧ P < (ds.size : Int)) := ⟨_, rfl⟩
  obtain ⟨c3, hc3⟩ : ∃ c, c = decide (-6 ≤ P ∧ P ≤ 0) := ⟨_, rfl⟩
  have Hc1 := Lib.hid hc1
  have Hc2 := Lib.hid hc2
  have Hc3 := Lib.hid hc3
  obtain ⟨b, hb⟩ : ∃ z, z = w.heap.size := ⟨_, rfl⟩
  obtain ⟨X0, hX0⟩ : ∃ z, z = w.alloc (.cells #[.bool ng, .string ds, .int .i64 x] 24) := ⟨_, rfl⟩
  have hO : One w b #[.bool ng, .string ds, .int .i64 x] X0 := by rw [hX0, hb]; exact ⟨Whole.new w _ _, (Below.refl _ _).alloc (Nat.le_refl _) _⟩
  have HT := Lib.hid hO
  have HX0 := Lib.hid hX0
  have Hb := Lib.hid hb
  have HPe := Lib.hid hP
  clear hT hPp hc1 hc2 hc3 hb hX0 hO hP
  go_enter Tryd.func34, Tryd.ntmps34
  go_upto_region 1 with (fail)
  rw [← HX0.out, ← Hb.out]
  clear HX0 Hb
  go_cut [3, 4, 5, 6, 7, 8, 9] (fun x3 x4 x5 x6 x7 x8 x9 W => x3 = .int .i64 (ds.size : Int) ∧ x4 = .int .i64 P ∧ One w b #[.bool ng, .string ds, .int .i64 x] W)
  case first =>
    as_aux_lemma =>
      refine wp_region_held (S := One w b #[.bool ng, .string ds, .int .i64 x]) (by kernel_rfl) ?_
      refine wpAnyH_take (i := 0) (oi := { dst := some 5, op := Go.Op.fieldAddr 24 (Go.Operand.tmp 1) 1, type := 0, pos := "dec.go:189", after := #[], guard := none }) (v := ?_) rfl (by kernel_rfl) (by kernel_rfl) (by kernel_rfl) (fun _ _ _ h => h) (Or.inl ⟨by rfl, ?_⟩) (HT.out.drew) ?_
      rotate_left 1
      · intro w5 hSw
        go_simp; all_goals (with_reducible rfl)
      try simp only [Act.put, List.setIfInBounds_toArray, List.set_cons_zero, List.set_cons_succ]
      refine wpAnyH_take (i := 1) (oi := { dst := some 6, op := Go.Op.load 9 (Go.Operand.tmp 5), type := 9, pos := "dec.go:189", after := #[{ on := 0, ground := Go.Ground.data }], guard := none }) (v := ?_) rfl (by kernel_rfl) (by kernel_rfl) (by kernel_rfl) (fun _ _ _ h => h) (Or.inl ⟨by rfl, ?_⟩) (HT.out.drew) ?_
      rotate_left 1
      · intro w5 hSw
        have q1 : w5.cell? ⟨b, 1, none⟩ = some (.string ds) := hSw.a.cell 1
        go_simp; all_goals (with_reducible rfl)
      try simp only [Act.put, List.setIfInBounds_toArray, List.set_cons_zero, List.set_cons_succ]
      refine wpAnyH_take (i := 2) (oi := { dst := some 7, op := Go.Op.call { callee := Go.Callee.builtin Go.Builtin.len, args := #[Go.Operand.tmp 6], argTypes := #[9] }, type := 3, pos := "dec.go:189", after := #[{ on := 1, ground := Go.Ground.data }], guard := none }) (v := ?_) rfl (by kernel_rfl) (by kernel_rfl) (by kernel_rfl) (fun _ _ _ h => h) (Or.inl ⟨by rfl, ?_⟩) (HT.out.drew) ?_
      rotate_left 1
      · intro w5 hSw
        go_simp; all_goals (with_reducible rfl)
      try simp only [Act.put, List.setIfInBounds_toArray, List.set_cons_zero, List.set_cons_succ]
      refine wpAnyH_take (i := 3) (oi := { dst := some 8, op := Go.Op.load 24 (Go.Operand.tmp 1), type := 24, pos := "dec.go:189", after := #[], guard := none }) (v := ?_) rfl (by kernel_rfl) (by kernel_rfl) (by kernel_rfl) (fun _ _ _ h => h) (Or.inl ⟨by rfl, ?_⟩) (HT.out.drew) ?_
      rotate_left 1
      · intro w5 hSw
        have q0 : w5.cell? ⟨b, 0, none⟩ = some (.bool ng) := hSw.a.cell 0
        have q1 : w5.cell? ⟨b, 1, none⟩ = some (.string ds) := hSw.a.cell 1
        have q2 : w5.cell? ⟨b, 2, none⟩ = some (.int .i64 x) := hSw.a.cell 2
        go_simp; all_goals (with_reducible rfl)
      try simp only [Act.put, List.setIfInBounds_toArray, List.set_cons_zero, List.set_cons_succ]
      refine wpAnyH_ready (rs := [4]) (by kernel_rfl) (by simp) ?_
      refine (AllReadyH.cons (o := { dst := some 9, op := Go.Op.call { callee := Go.Callee.value (Go.Operand.func 29), args := #[Go.Operand.tmp 8], argTypes := #[24] }, type := 3, pos := "dec.go:189", after := #[{ on := 3, ground := Go.Ground.data }], guard := none }) rfl (fun K hK => ?_) AllReadyH.nil)
      go_simp
      refine (HP.out _).mono ?_; rintro e Y4 ⟨rfl, hb4⟩
      go_wp2_with fail
      refine hK.out _ _ (One.step (HT.out.drew) hb4) (fun _ => ?_)
      clear hK K
      try simp only [Act.put, List.setIfInBounds_toArray, List.set_cons_zero, List.set_cons_succ]
      refine wpAnyH_take (i := 5) (oi := { dst := some 3, op := Go.Op.assign (Go.Operand.tmp 7), type := 3, pos := "dec.go:189", after := #[{ on := 2, ground := Go.Ground.data }, { on := 4, ground := Go.Ground.chain }, { on := 0, ground := Go.Ground.phase }, { on := 1, ground := Go.Ground.phase }, { on := 2, ground := Go.Ground.phase }, { on := 3, ground := Go.Ground.textOnly Go.Departure.lateStores }, { on := 4, ground := Go.Ground.textOnly Go.Departure.lateStoresUnsure }], guard := none }) (v := ?_) rfl (by kernel_rfl) (by kernel_rfl) (by kernel_rfl) (fun _ _ _ h => h) (Or.inl ⟨by rfl, ?_⟩) (One.step (HT.out.drew) hb4) ?_
      rotate_left 1
      · intro w5 hSw
        go_simp; all_goals (with_reducible rfl)
      try simp only [Act.put, List.setIfInBounds_toArray, List.set_cons_zero, List.set_cons_succ]
      refine wpAnyH_take (i := 6) (oi := { dst := some 4, op := Go.Op.assign (Go.Operand.tmp 9), type := 3, pos := "dec.go:189", after := #[{ on := 4, ground := Go.Ground.data }, { on := 5, ground := Go.Ground.chain }, { on := 0, ground := Go.Ground.phase }, { on := 1, ground := Go.Ground.phase }, { on := 2, ground := Go.Ground.phase }, { on := 3, ground := Go.Ground.phase }, { on := 4, ground := Go.Ground.phase }, { on := 5, ground := Go.Ground.phase }], guard := none }) (v := ?_) rfl (by kernel_rfl) (by kernel_rfl) (by kernel_rfl) (fun _ _ _ h => h) (Or.inl ⟨by rfl, ?_⟩) (One.step (HT.out.drew) hb4) ?_
      rotate_left 1
      · intro w5 hSw
        go_simp; all_goals (with_reducible rfl)
      try simp only [Act.put, List.setIfInBounds_toArray, List.set_cons_zero, List.set_cons_succ]
      refine wpAnyH_done (by kernel_rfl) ?_ _
      go_wp2_with fail
      go_meet
      exact ⟨rfl, rfl, One.step (HT.out.drew) hb4⟩
  case rest =>
    obtain ⟨rfl, rfl, HT1⟩ := hcut
    clear HT HP
    have HT := Lib.hid HT1
    clear HT1
    have e2 : wc.cell? ⟨b, 2, none⟩ = some (.int .i64 x) := HT.out.a.cell 2
    go_upto_region 2 with (fail)
    obtain ⟨w0, hw0⟩ : ∃ w0, w0 = wc := ⟨_, rfl⟩
    go_cut [10, 11, 12, 13, 14, 15, 16, 17] (fun x10 x11 x12 x13 x14 x15 x16 x17 W => x10 = .bool c1 ∧ w0 = W)
    case first =>
      as_aux_lemma =>
        by_cases q1 : 0 ≤ x
        · have d1 : decide (0 ≤ x) = true := decide_eq_true q1
          by_cases q2 : P ≤ 21
          · have d2 : decide (P ≤ 21) = true := decide_eq_true q2
            obtain rfl : c1 = true := by rw [Hc1.out]; exact decide_eq_true ⟨q1, q2⟩
            go_wp2_with fail
            go_meet
            exact ⟨rfl, hw0⟩
          · have d2 : decide (P ≤ 21) = false := decide_eq_false q2
            obtain rfl : c1 = false := by rw [Hc1.out]; exact decide_eq_false (fun h => q2 h.2)
            go_wp2_with fail
            go_meet
            exact ⟨rfl, hw0⟩
        · have d1 : decide (0 ≤ x) = false := decide_eq_false q1
          obtain rfl : c1 = false := by rw [Hc1.out]; exact decide_eq_false (fun h => q1 h.1)
          go_wp2_with fail
          go_meet
          exact ⟨rfl, hw0⟩
    case rest =>
      obtain ⟨rfl, rfl⟩ := hcut
      subst hw0
      clear e2
      have HC1 := Hc1.out.symm
      clear Hc1
      cases c1 with
      | true =>
        have hc := of_decide_eq_true HC1
        obtain ⟨xn, hxe⟩ : ∃ n : Nat, x = (n : Int) := ⟨x.toNat, by omega⟩
        have hxn : xn ≤ 1000 := by omega
        have HRp := Lib.hid fun W => repeat_any xn W (by omega)
        rw [← hxe] at HRp
        have hT : Hid (T = ds ++ strOf (List.replicate xn 48)) := by
          show _ = _
          rw [HT0.out, if_pos hc, hxe, Int.toNat_natCast, ← strOf_app, strOf_bs]
        clear HC1 HT0 hc hI hxe
        go_upto_region 3 with (fail)
        go_cut [2, 18, 19, 20, 21, 22, 23] (fun x2 x18 x19 x20 x21 x22 x23 W => x2 = .string T ∧ One w b #[.bool ng, .string ds, .int .i64 x] W)
        case first =>
          as_aux_lemma =>
            refine wp_region_held (S := One w b #[.bool ng, .string ds, .int .i64 x]) (by kernel_rfl) ?_
            refine wpAnyH_take (i := 0) (oi := { dst := some 18, op := Go.Op.fieldAddr 24 (Go.Operand.tmp 1) 1, type := 0, pos := "dec.go:192", after := #[], guard := none }) (v := ?_) rfl (by kernel_rfl) (by kernel_rfl) (by kernel_rfl) (fun _ _ _ h => h) (Or.inl ⟨by rfl, ?_⟩) (HT.out.drew) ?_
            rotate_left 1
            · intro w5 hSw
              go_simp; all_goals (with_reducible rfl)
            try simp only [Act.put, List.setIfInBounds_toArray, List.set_cons_zero, List.set_cons_succ]
            refine wpAnyH_take (i := 1) (oi := { dst := some 19, op := Go.Op.load 9 (Go.Operand.tmp 18), type := 9, pos := "dec.go:192", after := #[{ on := 0, ground := Go.Ground.data }], guard := none }) (v := ?_) rfl (by kernel_rfl) (by kernel_rfl) (by kernel_rfl) (fun _ _ _ h => h) (Or.inl ⟨by rfl, ?_⟩) (HT.out.drew) ?_
            rotate_left 1
            · intro w5 hSw
              have q1 : w5.cell? ⟨b, 1, none⟩ = some (.string ds) := hSw.a.cell 1
              go_simp; all_goals (with_reducible rfl)
            try simp only [Act.put, List.setIfInBounds_toArray, List.set_cons_zero, List.set_cons_succ]
            refine wpAnyH_take (i := 2) (oi := { dst := some 20, op := Go.Op.fieldAddr 24 (Go.Operand.tmp 1) 2, type := 0, pos := "dec.go:192", after := #[], guard := none }) (v := ?_) rfl (by kernel_rfl) (by kernel_rfl) (by kernel_rfl) (fun _ _ _ h => h) (Or.inl ⟨by rfl, ?_⟩) (HT.out.drew) ?_
            rotate_left 1
            · intro w5 hSw
              go_simp; all_goals (with_reducible rfl)
            try simp only [Act.put, List.setIfInBounds_toArray, List.set_cons_zero, List.set_cons_succ]
            refine wpAnyH_take (i := 3) (oi := { dst := some 21, op := Go.Op.load 3 (Go.Operand.tmp 20), type := 3, pos := "dec.go:192", after := #[{ on := 2, ground := Go.Ground.data }], guard := none }) (v := ?_) rfl (by kernel_rfl) (by kernel_rfl) (by kernel_rfl) (fun _ _ _ h => h) (Or.inl ⟨by rfl, ?_⟩) (HT.out.drew) ?_
            rotate_left 1
            · intro w5 hSw
              have q2 : w5.cell? ⟨b, 2, none⟩ = some (.int .i64 x) := hSw.a.cell 2
              go_simp; all_goals (with_reducible rfl)
            try simp only [Act.put, List.setIfInBounds_toArray, List.set_cons_zero, List.set_cons_succ]
            refine wpAnyH_ready (rs := [4]) (by kernel_rfl) (by simp) ?_
            refine (AllReadyH.cons (o := { dst := some 22, op := Go.Op.call { callee := Go.Callee.value (Go.Operand.func 30), args := #[Go.Operand.const (Go.Value.string { data := #[48] }), Go.Operand.tmp 21], argTypes := #[9, 3] }, type := 9, pos := "dec.go:192", after := #[{ on := 3, ground := Go.Ground.data }], guard := none }) rfl (fun K hK => ?_) AllReadyH.nil)
            go_simp
            refine (HRp.out _).mono ?_; rintro e Y4 ⟨rfl, hb4⟩
            go_wp2_with fail
            refine hK.out _ _ (One.step (HT.out.drew) hb4) (fun _ => ?_)
            clear hK K
            try simp only [Act.put, List.setIfInBounds_toArray, List.set_cons_zero, List.set_cons_succ]
            refine wpAnyH_take (i := 5) (oi := { dst := some 23, op := Go.Op.binOp Go.BinOp.add 9 (Go.Operand.tmp 19) (Go.Operand.tmp 22) 9, type := 9, pos := "dec.go:192", after := #[{ on := 1, ground := Go.Ground.data }, { on := 4, ground := Go.Ground.data }], guard := none }) (v := ?_) rfl (by kernel_rfl) (by kernel_rfl) (by kernel_rfl) (fun _ _ _ h => h) (Or.inl ⟨by rfl, ?_⟩) (One.step (HT.out.drew) hb4) ?_
            rotate_left 1
            · intro w5 hSw
              have ha := add_run ds (strOf (List.replicate xn 48)) (by omega) (by rw [strOf_size, List.length_replicate]; omega) w5
              go_simp; all_goals (with_reducible rfl)
            try simp only [Act.put, List.setIfInBounds_toArray, List.set_cons_zero, List.set_cons_succ]
            refine wpAnyH_take (i := 6) (oi := { dst := some 2, op := Go.Op.assign (Go.Operand.tmp 23), type := 9, pos := "dec.go:192", after := #[{ on := 5, ground := Go.Ground.data }, { on := 4, ground := Go.Ground.chain }, { on := 0, ground := Go.Ground.phase }, { on := 1, ground := Go.Ground.phase }, { on := 2, ground := Go.Ground.phase }, { on := 3, ground := Go.Ground.phase }, { on := 4, ground := Go.Ground.phase }, { on := 5, ground := Go.Ground.phase }], guard := none }) (v := ?_) rfl (by kernel_rfl) (by kernel_rfl) (by kernel_rfl) (fun _ _ _ h => h) (Or.inl ⟨by rfl, ?_⟩) (One.step (HT.out.drew) hb4) ?_
            rotate_left 1
            · intro w5 hSw
              go_simp; all_goals (with_reducible rfl)
            try simp only [Act.put, List.setIfInBounds_toArray, List.set_cons_zero, List.set_cons_succ]
            refine wpAnyH_done (by kernel_rfl) ?_ _
            go_wp2_with fail
            go_meet
            exact ⟨by rw [hT.out], One.step (HT.out.drew) hb4⟩
        case rest =>
          obtain ⟨rfl, HT2⟩ := hcut
          go_wp2_with fail
          go_ret
          exact ⟨rfl, HT2.k⟩
      | false =>
        have hn1 := of_decide_eq_false HC1
        have hT0 := HT0.out
        rw [if_neg hn1] at hT0
        have HT0 := Lib.hid hT0
        clear HC1 hn1 hT0
        go_upto_region 4 with (fail)
        obtain ⟨w0, hw0⟩ : ∃ z, z = w0 := ⟨_, rfl⟩
        go_cut [24, 25, 26, 27, 28, 29, 30, 31] (fun x24 x25 x26 x27 x28 x29 x30 x31 W => x24 = .bool c2 ∧ w0 = W)
        case first =>
          as_aux_lemma =>
            by_cases q1 : 1 ≤ P
            · have d1 : decide (1 ≤ P) = true := decide_eq_true q1
              by_cases q2 : P < (ds.size : Int)
              · have d2 : decide (P < (ds.size : Int)) = true := decide_eq_true q2
                obtain rfl : c2 = true := by rw [Hc2.out]; exact decide_eq_true ⟨q1, q2⟩
                go_wp2_with fail
                go_meet
                exact ⟨rfl, hw0⟩
              · have d2 : decide (P < (ds.size : Int)) = false := decide_eq_false q2
                obtain rfl : c2 = false := by rw [Hc2.out]; exact decide_eq_false (fun h => q2 h.2)
                go_wp2_with fail
                go_meet
                exact ⟨rfl, hw0⟩
            · have d1 : decide (1 ≤ P) = false := decide_eq_false q1
              obtain rfl : c2 = false := by rw [Hc2.out]; exact decide_eq_false (fun h => q1 h.1)
              go_wp2_with fail
              go_meet
              exact ⟨rfl, hw0⟩
        case rest =>
          obtain ⟨rfl, rfl⟩ := hcut
          subst hw0
          have HC2 := Hc2.out.symm
          clear Hc2
          cases c2 with
          | true =>
            have hc := of_decide_eq_true HC2
            obtain ⟨pn, rfl⟩ : ∃ n : Nat, P = (n : Int) := ⟨P.toNat, by omega⟩
            have hT : Hid (T = ds.extract 0 pn ++ ⟨#[46]⟩ ++ ds.extract pn ds.size) := by
              show _ = _
              rw [HT0.out, if_pos hc, Int.toNat_natCast, ext_take, ext_drop, strOf_lit [46] #[46] rfl, strOf_app, strOf_app]
            have hsl0 : (0 : Int) ≤ (pn : Int) := by omega
            have hsl1 : (pn : Int) ≤ (ds.size : Int) := by omega
            have hpn : pn ≤ ds.size := by omega
            clear HC2 HT0 hc hI
            go_upto_region 5 with (fail)
            go_cut [2, 32, 33, 34, 35, 36, 37, 38, 39, 40, 41] (fun x2 x32 x33 x34 x35 x36 x37 x38 x39 x40 x41 W => x2 = .string T ∧ One w b #[.bool ng, .string ds, .int .i64 x] W)
            case first =>
              as_aux_lemma =>
                refine wp_region_held (S := One w b #[.bool ng, .string ds, .int .i64 x]) (by kernel_rfl) ?_
                refine wpAnyH_take (i := 0) (oi := { dst := some 32, op := Go.Op.fieldAddr 24 (Go.Operand.tmp 1) 1, type := 0, pos := "dec.go:194", after := #[], guard := none }) (v := ?_) rfl (by kernel_rfl) (by kernel_rfl) (by kernel_rfl) (fun _ _ _ h => h) (Or.inl ⟨by rfl, ?_⟩) (HT.out.drew) ?_
                rotate_left 1
                · intro w5 hSw
                  go_simp; all_goals (with_reducible rfl)
                try simp only [Act.put, List.setIfInBounds_toArray, List.set_cons_zero, List.set_cons_succ]
                refine wpAnyH_take (i := 1) (oi := { dst := some 33, op := Go.Op.load 9 (Go.Operand.tmp 32), type := 9, pos := "dec.go:194", after := #[{ on := 0, ground := Go.Ground.data }], guard := none }) (v := ?_) rfl (by kernel_rfl) (by kernel_rfl) (by kernel_rfl) (fun _ _ _ h => h) (Or.inl ⟨by rfl, ?_⟩) (HT.out.drew) ?_
                rotate_left 1
                · intro w5 hSw
                  have q1 : w5.cell? ⟨b, 1, none⟩ = some (.string ds) := hSw.a.cell 1
                  go_simp; all_goals (with_reducible rfl)
                try simp only [Act.put, List.setIfInBounds_toArray, List.set_cons_zero, List.set_cons_succ]
                refine wpAnyH_take (i := 2) (oi := { dst := some 34, op := Go.Op.move (Go.Operand.tmp 4), type := 3, pos := "dec.go:194", after := #[], guard := none }) (v := ?_) rfl (by kernel_rfl) (by kernel_rfl) (by kernel_rfl) (fun _ _ _ h => h) (Or.inl ⟨by rfl, ?_⟩) (HT.out.drew) ?_
                rotate_left 1
                · intro w5 hSw
                  go_simp; all_goals (with_reducible rfl)
                try simp only [Act.put, List.setIfInBounds_toArray, List.set_cons_zero, List.set_cons_succ]
                refine wpAnyH_take (i := 3) (oi := { dst := some 35, op := Go.Op.slice 9 (Go.Operand.tmp 33) none (some (Go.Operand.tmp 34)) none, type := 9, pos := "dec.go:194", after := #[{ on := 1, ground := Go.Ground.data }, { on := 2, ground := Go.Ground.data }], guard := none }) (v := ?_) rfl (by kernel_rfl) (by kernel_rfl) (by kernel_rfl) (fun _ _ _ h => h) (Or.inl ⟨by rfl, ?_⟩) (HT.out.drew) ?_
                rotate_left 1
                · intro w5 hSw
                  go_simp; all_goals (with_reducible rfl)
                try simp only [Act.put, List.setIfInBounds_toArray, List.set_cons_zero, List.set_cons_succ]
                refine wpAnyH_take (i := 4) (oi := { dst := some 36, op := Go.Op.binOp Go.BinOp.add 9 (Go.Operand.tmp 35) (Go.Operand.const (Go.Value.string { data := #[46] })) 9, type := 9, pos := "dec.go:194", after := #[{ on := 3, ground := Go.Ground.data }], guard := none }) (v := ?_) rfl (by kernel_rfl) (by kernel_rfl) (by kernel_rfl) (fun _ _ _ h => h) (Or.inl ⟨by rfl, ?_⟩) (HT.out.drew) ?_
                rotate_left 1
                · intro w5 hSw
                  have ha := add_run (ds.extract 0 pn) ⟨#[46]⟩ (by rw [ext_size ds _ _ (by omega) (by omega)]; omega) (by decide) w5
                  go_simp; all_goals (with_reducible rfl)
                try simp only [Act.put, List.setIfInBounds_toArray, List.set_cons_zero, List.set_cons_succ]
                refine wpAnyH_take (i := 5) (oi := { dst := some 37, op := Go.Op.fieldAddr 24 (Go.Operand.tmp 1) 1, type := 0, pos := "dec.go:194", after := #[], guard := none }) (v := ?_) rfl (by kernel_rfl) (by kernel_rfl) (by kernel_rfl) (fun _ _ _ h => h) (Or.inl ⟨by rfl, ?_⟩) (HT.out.drew) ?_
                rotate_left 1
                · intro w5 hSw
                  go_simp; all_goals (with_reducible rfl)
                try simp only [Act.put, List.setIfInBounds_toArray, List.set_cons_zero, List.set_cons_succ]
                refine wpAnyH_take (i := 6) (oi := { dst := some 38, op := Go.Op.load 9 (Go.Operand.tmp 37), type := 9, pos := "dec.go:194", after := #[{ on := 5, ground := Go.Ground.data }], guard := none }) (v := ?_) rfl (by kernel_rfl) (by kernel_rfl) (by kernel_rfl) (fun _ _ _ h => h) (Or.inl ⟨by rfl, ?_⟩) (HT.out.drew) ?_
                rotate_left 1
                · intro w5 hSw
                  have q1 : w5.cell? ⟨b, 1, none⟩ = some (.string ds) := hSw.a.cell 1
                  go_simp; all_goals (with_reducible rfl)
                try simp only [Act.put, List.setIfInBounds_toArray, List.set_cons_zero, List.set_cons_succ]
                refine wpAnyH_take (i := 7) (oi := { dst := some 39, op := Go.Op.move (Go.Operand.tmp 4), type := 3, pos := "dec.go:194", after := #[], guard := none }) (v := ?_) rfl (by kernel_rfl) (by kernel_rfl) (by kernel_rfl) (fun _ _ _ h => h) (Or.inl ⟨by rfl, ?_⟩) (HT.out.drew) ?_
                rotate_left 1
                · intro w5 hSw
                  go_simp; all_goals (with_reducible rfl)
                try simp only [Act.put, List.setIfInBounds_toArray, List.set_cons_zero, List.set_cons_succ]
                refine wpAnyH_take (i := 8) (oi := { dst := some 40, op := Go.Op.slice 9 (Go.Operand.tmp 38) (some (Go.Operand.tmp 39)) none none, type := 9, pos := "dec.go:194", after := #[{ on := 6, ground := Go.Ground.data }, { on := 7, ground := Go.Ground.data }], guard := none }) (v := ?_) rfl (by kernel_rfl) (by kernel_rfl) (by kernel_rfl) (fun _ _ _ h => h) (Or.inl ⟨by rfl, ?_⟩) (HT.out.drew) ?_
                rotate_left 1
                · intro w5 hSw
                  go_simp; all_goals (with_reducible rfl)
                try simp only [Act.put, List.setIfInBounds_toArray, List.set_cons_zero, List.set_cons_succ]
                refine wpAnyH_take (i := 9) (oi := { dst := some 41, op := Go.Op.binOp Go.BinOp.add 9 (Go.Operand.tmp 36) (Go.Operand.tmp 40) 9, type := 9, pos := "dec.go:194", after := #[{ on := 4, ground := Go.Ground.data }, { on := 8, ground := Go.Ground.data }], guard := none }) (v := ?_) rfl (by kernel_rfl) (by kernel_rfl) (by kernel_rfl) (fun _ _ _ h => h) (Or.inl ⟨by rfl, ?_⟩) (HT.out.drew) ?_
                rotate_left 1
                · intro w5 hSw
                  have ha := add_run (ds.extract 0 pn ++ ⟨#[46]⟩) (ds.extract pn ds.size) (by rw [ByteArray.size_append, ext_size ds _ _ (by omega) (by omega)]; have : (⟨#[46]⟩ : ByteArray).size = 1 := rfl; omega) (by rw [ext_size ds _ _ (by omega) (by omega)]; omega) w5
                  go_simp; all_goals (with_reducible rfl)
                try simp only [Act.put, List.setIfInBounds_toArray, List.set_cons_zero, List.set_cons_succ]
                refine wpAnyH_take (i := 10) (oi := { dst := some 2, op := Go.Op.assign (Go.Operand.tmp 41), type := 9, pos := "dec.go:194", after := #[{ on := 9, ground := Go.Ground.data }, { on := 0, ground := Go.Ground.phase }, { on := 1, ground := Go.Ground.phase }, { on := 2, ground := Go.Ground.phase }, { on := 3, ground := Go.Ground.phase }, { on := 4, ground := Go.Ground.phase }, { on := 5, ground := Go.Ground.phase }, { on := 6, ground := Go.Ground.phase }, { on := 7, ground := Go.Ground.phase }, { on := 8, ground := Go.Ground.phase }, { on := 9, ground := Go.Ground.phase }], guard := none }) (v := ?_) rfl (by kernel_rfl) (by kernel_rfl) (by kernel_rfl) (fun _ _ _ h => h) (Or.inl ⟨by rfl, ?_⟩) (HT.out.drew) ?_
                rotate_left 1
                · intro w5 hSw
                  go_simp; all_goals (with_reducible rfl)
                try simp only [Act.put, List.setIfInBounds_toArray, List.set_cons_zero, List.set_cons_succ]
                refine wpAnyH_done (by kernel_rfl) ?_ _
                go_wp2_with fail
                go_meet
                exact ⟨by rw [hT.out], HT.out.drew⟩
            case rest =>
              obtain ⟨rfl, HT2⟩ := hcut
              go_wp2_with fail
              go_ret
              exact ⟨rfl, HT2.k⟩
          | false =>
            have hn1 := of_decide_eq_false HC2
            have hT0 := HT0.out
            rw [if_neg hn1] at hT0
            have HT0 := Lib.hid hT0
            clear HC2 hn1 hT0
            go_upto_region 6 with (fail)
            obtain ⟨w0, hw0⟩ : ∃ z, z = w0 := ⟨_, rfl⟩
            go_cut [42, 43, 44, 45, 46, 47, 48] (fun x42 x43 x44 x45 x46 x47 x48 W => x42 = .bool c3 ∧ w0 = W)
            case first =>
              as_aux_lemma =>
                by_cases q1 : -6 ≤ P
                · have d1 : decide (-6 ≤ P) = true := decide_eq_true q1
                  by_cases q2 : P ≤ 0
                  · have d2 : decide (P ≤ 0) = true := decide_eq_true q2
                    obtain rfl : c3 = true := by rw [Hc3.out]; exact decide_eq_true ⟨q1, q2⟩
                    go_wp2_with fail
                    go_meet
                    exact ⟨rfl, hw0⟩
                  · have d2 : decide (P ≤ 0) = false := decide_eq_false q2
                    obtain rfl : c3 = false := by rw [Hc3.out]; exact decide_eq_false (fun h => q2 h.2)
                    go_wp2_with fail
                    go_meet
                    exact ⟨rfl, hw0⟩
                · have d1 : decide (-6 ≤ P) = false := decide_eq_false q1
                  obtain rfl : c3 = false := by rw [Hc3.out]; exact decide_eq_false (fun h => q1 h.1)
                  go_wp2_with fail
                  go_meet
                  exact ⟨rfl, hw0⟩
            case rest =>
              obtain ⟨rfl, rfl⟩ := hcut
              subst hw0
              have HC3 := Hc3.out.symm
              clear Hc3
              cases c3 with
              | true =>
                have hc := of_decide_eq_true HC3
                obtain ⟨mn, hmn⟩ : ∃ n : Nat, -P = (n : Int) := ⟨(-P).toNat, by omega⟩
                have hmn6 : mn ≤ 6 := by omega
                have HRp := Lib.hid fun W => repeat_any mn W (by omega)
                have hT : Hid (T = ⟨#[48, 46]⟩ ++ strOf (List.replicate mn 48) ++ ds) := by
                  show _ = _
                  rw [HT0.out, if_pos hc, hmn, Int.toNat_natCast, ← strOf_app, ← strOf_app, strOf_bs, strOf_lit [48, 46] #[48, 46] rfl]
                have hwn : IntKind.i64.wrap (-P) = (mn : Int) := by rw [← hmn]; exact (IntWalk.i64_left (-P)).trans (IntWalk.wrap64_in (-P) ⟨by omega, by omega⟩)
                clear HC3 HT0 hc hI hmn
                go_upto_region 7 with (fail)
                go_cut [2, 49, 50, 51, 52, 53, 54, 55] (fun x2 x49 x50 x51 x52 x53 x54 x55 W => x2 = .string T ∧ One w b #[.bool ng, .string ds, .int .i64 x] W)
                case first =>
                  as_aux_lemma =>
                    refine wp_region_held (S := One w b #[.bool ng, .string ds, .int .i64 x]) (by kernel_rfl) ?_
                    refine wpAnyH_take (i := 0) (oi := { dst := some 49, op := Go.Op.move (Go.Operand.tmp 4), type := 3, pos := "dec.go:196", after := #[], guard := none }) (v := ?_) rfl (by kernel_rfl) (by kernel_rfl) (by kernel_rfl) (fun _ _ _ h => h) (Or.inl ⟨by rfl, ?_⟩) (HT.out.drew) ?_
                    rotate_left 1
                    · intro w5 hSw
                      go_simp; all_goals (with_reducible rfl)
                    try simp only [Act.put, List.setIfInBounds_toArray, List.set_cons_zero, List.set_cons_succ]
                    refine wpAnyH_take (i := 1) (oi := { dst := some 50, op := Go.Op.unOp Go.UnOp.neg 3 (Go.Operand.tmp 49), type := 3, pos := "dec.go:196", after := #[{ on := 0, ground := Go.Ground.data }], guard := none }) (v := ?_) rfl (by kernel_rfl) (by kernel_rfl) (by kernel_rfl) (fun _ _ _ h => h) (Or.inl ⟨by rfl, ?_⟩) (HT.out.drew) ?_
                    rotate_left 1
                    · intro w5 hSw
                      go_simp; all_goals (with_reducible rfl)
                    try simp only [Act.put, List.setIfInBounds_toArray, List.set_cons_zero, List.set_cons_succ]
                    refine wpAnyH_take (i := 4) (oi := { dst := some 53, op := Go.Op.fieldAddr 24 (Go.Operand.tmp 1) 1, type := 0, pos := "dec.go:196", after := #[], guard := none }) (v := ?_) rfl (by kernel_rfl) (by kernel_rfl) (by kernel_rfl) (fun _ _ _ h => h) (Or.inl ⟨by rfl, ?_⟩) (HT.out.drew) ?_
                    rotate_left 1
                    · intro w5 hSw
                      go_simp; all_goals (with_reducible rfl)
                    try simp only [Act.put, List.setIfInBounds_toArray, List.set_cons_zero, List.set_cons_succ]
                    refine wpAnyH_take (i := 5) (oi := { dst := some 54, op := Go.Op.load 9 (Go.Operand.tmp 53), type := 9, pos := "dec.go:196", after := #[{ on := 4, ground := Go.Ground.data }], guard := none }) (v := ?_) rfl (by kernel_rfl) (by kernel_rfl) (by kernel_rfl) (fun _ _ _ h => h) (Or.inl ⟨by rfl, ?_⟩) (HT.out.drew) ?_
                    rotate_left 1
                    · intro w5 hSw
                      have q1 : w5.cell? ⟨b, 1, none⟩ = some (.string ds) := hSw.a.cell 1
                      go_simp; all_goals (with_reducible rfl)
                    try simp only [Act.put, List.setIfInBounds_toArray, List.set_cons_zero, List.set_cons_succ]
                    refine wpAnyH_ready (rs := [2]) (by kernel_rfl) (by simp) ?_
                    refine (AllReadyH.cons (o := { dst := some 51, op := Go.Op.call { callee := Go.Callee.value (Go.Operand.func 30), args := #[Go.Operand.const (Go.Value.string { data := #[48] }), Go.Operand.tmp 50], argTypes := #[9, 3] }, type := 9, pos := "dec.go:196", after := #[{ on := 1, ground := Go.Ground.data }], guard := none }) rfl (fun K hK => ?_) AllReadyH.nil)
                    go_simp
                    refine (HRp.out _).mono ?_; rintro e Y2 ⟨rfl, hb2⟩
                    go_wp2_with fail
                    refine hK.out _ _ (One.step (HT.out.drew) hb2) (fun _ => ?_)
                    clear hK K
                    try simp only [Act.put, List.setIfInBounds_toArray, List.set_cons_zero, List.set_cons_succ]
                    refine wpAnyH_take (i := 3) (oi := { dst := some 52, op := Go.Op.binOp Go.BinOp.add 9 (Go.Operand.const (Go.Value.string { data := #[48, 46] })) (Go.Operand.tmp 51) 9, type := 9, pos := "dec.go:196", after := #[{ on := 2, ground := Go.Ground.data }], guard := none }) (v := ?_) rfl (by kernel_rfl) (by kernel_rfl) (by kernel_rfl) (fun _ _ _ h => h) (Or.inl ⟨by rfl, ?_⟩) (One.step (HT.out.drew) hb2) ?_
                    rotate_left 1
                    · intro w5 hSw
                      have ha := add_run ⟨#[48, 46]⟩ (strOf (List.replicate mn 48)) (by decide) (by rw [strOf_size, List.length_replicate]; omega) w5
                      go_simp; all_goals (with_reducible rfl)
                    try simp only [Act.put, List.setIfInBounds_toArray, List.set_cons_zero, List.set_cons_succ]
                    refine wpAnyH_take (i := 6) (oi := { dst := some 55, op := Go.Op.binOp Go.BinOp.add 9 (Go.Operand.tmp 52) (Go.Operand.tmp 54) 9, type := 9, pos := "dec.go:196", after := #[{ on := 3, ground := Go.Ground.data }, { on := 5, ground := Go.Ground.data }], guard := none }) (v := ?_) rfl (by kernel_rfl) (by kernel_rfl) (by kernel_rfl) (fun _ _ _ h => h) (Or.inl ⟨by rfl, ?_⟩) (One.step (HT.out.drew) hb2) ?_
                    rotate_left 1
                    · intro w5 hSw
                      have ha := add_run (⟨#[48, 46]⟩ ++ strOf (List.replicate mn 48)) ds (by rw [ByteArray.size_append, strOf_size, List.length_replicate]; have : (⟨#[48, 46]⟩ : ByteArray).size = 2 := rfl; omega) (by omega) w5
                      go_simp; all_goals (with_reducible rfl)
                    try simp only [Act.put, List.setIfInBounds_toArray, List.set_cons_zero, List.set_cons_succ]
                    refine wpAnyH_take (i := 7) (oi := { dst := some 2, op := Go.Op.assign (Go.Operand.tmp 55), type := 9, pos := "dec.go:196", after := #[{ on := 6, ground := Go.Ground.data }, { on := 2, ground := Go.Ground.chain }, { on := 0, ground := Go.Ground.phase }, { on := 1, ground := Go.Ground.phase }, { on := 2, ground := Go.Ground.phase }, { on := 3, ground := Go.Ground.phase }, { on := 4, ground := Go.Ground.phase }, { on := 5, ground := Go.Ground.phase }, { on := 6, ground := Go.Ground.phase }], guard := none }) (v := ?_) rfl (by kernel_rfl) (by kernel_rfl) (by kernel_rfl) (fun _ _ _ h => h) (Or.inl ⟨by rfl, ?_⟩) (One.step (HT.out.drew) hb2) ?_
                    rotate_left 1
                    · intro w5 hSw
                      go_simp; all_goals (with_reducible rfl)
                    try simp only [Act.put, List.setIfInBounds_toArray, List.set_cons_zero, List.set_cons_succ]
                    refine wpAnyH_done (by kernel_rfl) ?_ _
                    go_wp2_with fail
                    go_meet
                    exact ⟨by rw [hT.out], One.step (HT.out.drew) hb2⟩
                case rest =>
                  obtain ⟨rfl, HT2⟩ := hcut
                  go_wp2_with fail
                  go_ret
                  exact ⟨rfl, HT2.k⟩
              | false =>
                have hn1 := of_decide_eq_false HC3
                have hT0 := HT0.out
                rw [if_neg hn1] at hT0
                have hwp : IntKind.i64.wrap (P - 1) = P - 1 := (IntWalk.i64_left (P - 1)).trans (IntWalk.wrap64_in (P - 1) ⟨by omega, by omega⟩)
                clear HC3 hn1 HT0
                by_cases hk : ds.size = 1
                · have d8 : ((ds.size : Int) == 1) = true := by rw [hk]; rfl
                  have d9 : (ds.size == 1) = true := by rw [hk]; rfl
                  have hT : Hid (T = ds ++ ⟨#[101]⟩ ++ it) := by
                    show _ = _
                    rw [hT0, if_pos hk, ← strOf_app, ← strOf_app, strOf_bs, strOf_bs, strOf_lit [101] #[101] rfl]
                  clear hT0 hk
                  go_upto_region 9 with (fail)
                  go_cut [2, 59, 60, 61, 62, 63, 64, 65] (fun x2 x59 x60 x61 x62 x63 x64 x65 W => x2 = .string T ∧ One w b #[.bool ng, .string ds, .int .i64 x] W)
                  case first =>
                    as_aux_lemma =>
                      refine wp_region_held (S := One w b #[.bool ng, .string ds, .int .i64 x]) (by kernel_rfl) ?_
                      refine wpAnyH_take (i := 0) (oi := { dst := some 59, op := Go.Op.fieldAddr 24 (Go.Operand.tmp 1) 1, type := 0, pos := "dec.go:198", after := #[], guard := none }) (v := ?_) rfl (by kernel_rfl) (by kernel_rfl) (by kernel_rfl) (fun _ _ _ h => h) (Or.inl ⟨by rfl, ?_⟩) (HT.out.drew) ?_
                      rotate_left 1
                      · intro w5 hSw
                        go_simp; all_goals (with_reducible rfl)
                      try simp only [Act.put, List.setIfInBounds_toArray, List.set_cons_zero, List.set_cons_succ]
                      refine wpAnyH_take (i := 1) (oi := { dst := some 60, op := Go.Op.load 9 (Go.Operand.tmp 59), type := 9, pos := "dec.go:198", after := #[{ on := 0, ground := Go.Ground.data }], guard := none }) (v := ?_) rfl (by kernel_rfl) (by kernel_rfl) (by kernel_rfl) (fun _ _ _ h => h) (Or.inl ⟨by rfl, ?_⟩) (HT.out.drew) ?_
                      rotate_left 1
                      · intro w5 hSw
                        have q1 : w5.cell? ⟨b, 1, none⟩ = some (.string ds) := hSw.a.cell 1
                        go_simp; all_goals (with_reducible rfl)
                      try simp only [Act.put, List.setIfInBounds_toArray, List.set_cons_zero, List.set_cons_succ]
                      refine wpAnyH_take (i := 2) (oi := { dst := some 61, op := Go.Op.binOp Go.BinOp.add 9 (Go.Operand.tmp 60) (Go.Operand.const (Go.Value.string { data := #[101] })) 9, type := 9, pos := "dec.go:198", after := #[{ on := 1, ground := Go.Ground.data }], guard := none }) (v := ?_) rfl (by kernel_rfl) (by kernel_rfl) (by kernel_rfl) (fun _ _ _ h => h) (Or.inl ⟨by rfl, ?_⟩) (HT.out.drew) ?_
                      rotate_left 1
                      · intro w5 hSw
                        have ha := add_run ds ⟨#[101]⟩ (by omega) (by decide) w5
                        go_simp; all_goals (with_reducible rfl)
                      try simp only [Act.put, List.setIfInBounds_toArray, List.set_cons_zero, List.set_cons_succ]
                      refine wpAnyH_take (i := 3) (oi := { dst := some 62, op := Go.Op.move (Go.Operand.tmp 4), type := 3, pos := "dec.go:198", after := #[], guard := none }) (v := ?_) rfl (by kernel_rfl) (by kernel_rfl) (by kernel_rfl) (fun _ _ _ h => h) (Or.inl ⟨by rfl, ?_⟩) (HT.out.drew) ?_
                      rotate_left 1
                      · intro w5 hSw
                        go_simp; all_goals (with_reducible rfl)
                      try simp only [Act.put, List.setIfInBounds_toArray, List.set_cons_zero, List.set_cons_succ]
                      refine wpAnyH_take (i := 4) (oi := { dst := some 63, op := Go.Op.binOp Go.BinOp.sub 3 (Go.Operand.tmp 62) (Go.Operand.const (Go.Value.int Go.IntKind.i64 1)) 3, type := 3, pos := "dec.go:198", after := #[{ on := 3, ground := Go.Ground.data }], guard := none }) (v := ?_) rfl (by kernel_rfl) (by kernel_rfl) (by kernel_rfl) (fun _ _ _ h => h) (Or.inl ⟨by rfl, ?_⟩) (HT.out.drew) ?_
                      rotate_left 1
                      · intro w5 hSw
                        go_simp; all_goals (with_reducible rfl)
                      try simp only [Act.put, List.setIfInBounds_toArray, List.set_cons_zero, List.set_cons_succ]
                      refine wpAnyH_ready (rs := [5]) (by kernel_rfl) (by simp) ?_
                      refine (AllReadyH.cons (o := { dst := some 64, op := Go.Op.call { callee := Go.Callee.value (Go.Operand.func 60), args := #[Go.Operand.tmp 63], argTypes := #[3] }, type := 9, pos := "dec.go:198", after := #[{ on := 4, ground := Go.Ground.data }], guard := none }) rfl (fun K hK => ?_) AllReadyH.nil)
                      go_simp
                      refine (hI _ (HT.out.drew).k).mono ?_; rintro e Y5 ⟨rfl, hb5⟩
                      go_wp2_with fail
                      refine hK.out _ _ (One.step (HT.out.drew) hb5) (fun _ => ?_)
                      clear hK K
                      try simp only [Act.put, List.setIfInBounds_toArray, List.set_cons_zero, List.set_cons_succ]
                      refine wpAnyH_take (i := 6) (oi := { dst := some 65, op := Go.Op.binOp Go.BinOp.add 9 (Go.Operand.tmp 61) (Go.Operand.tmp 64) 9, type := 9, pos := "dec.go:198", after := #[{ on := 2, ground := Go.Ground.data }, { on := 5, ground := Go.Ground.data }], guard := none }) (v := ?_) rfl (by kernel_rfl) (by kernel_rfl) (by kernel_rfl) (fun _ _ _ h => h) (Or.inl ⟨by rfl, ?_⟩) (One.step (HT.out.drew) hb5) ?_
                      rotate_left 1
                      · intro w5 hSw
                        have ha := add_run (ds ++ ⟨#[101]⟩) it (by rw [ByteArray.size_append]; have : (⟨#[101]⟩ : ByteArray).size = 1 := rfl; omega) hit w5
                        go_simp; all_goals (with_reducible rfl)
                      try simp only [Act.put, List.setIfInBounds_toArray, List.set_cons_zero, List.set_cons_succ]
                      refine wpAnyH_take (i := 7) (oi := { dst := some 2, op := Go.Op.assign (Go.Operand.tmp 65), type := 9, pos := "dec.go:198", after := #[{ on := 6, ground := Go.Ground.data }, { on := 5, ground := Go.Ground.chain }, { on := 0, ground := Go.Ground.phase }, { on := 1, ground := Go.Ground.phase }, { on := 2, ground := Go.Ground.phase }, { on := 3, ground := Go.Ground.phase }, { on := 4, ground := Go.Ground.phase }, { on := 5, ground := Go.Ground.phase }, { on := 6, ground := Go.Ground.phase }], guard := none }) (v := ?_) rfl (by kernel_rfl) (by kernel_rfl) (by kernel_rfl) (fun _ _ _ h => h) (Or.inl ⟨by rfl, ?_⟩) (One.step (HT.out.drew) hb5) ?_
                      rotate_left 1
                      · intro w5 hSw
                        go_simp; all_goals (with_reducible rfl)
                      try simp only [Act.put, List.setIfInBounds_toArray, List.set_cons_zero, List.set_cons_succ]
                      refine wpAnyH_done (by kernel_rfl) ?_ _
                      go_wp2_with fail
                      go_meet
                      exact ⟨by rw [hT.out], One.step (HT.out.drew) hb5⟩
                  case rest =>
                    obtain ⟨rfl, HT2⟩ := hcut
                    go_wp2_with fail
                    go_ret
                    exact ⟨rfl, HT2.k⟩
                · have d8 : ((ds.size : Int) == 1) = false := beq_eq_false_iff_ne.mpr (by omega)
                  have d9 : (ds.size == 1) = false := beq_eq_false_iff_ne.mpr hk
                  have hT : Hid (T = ds.extract 0 1 ++ ⟨#[46]⟩ ++ ds.extract 1 ds.size ++ ⟨#[101]⟩ ++ it) := by
                    show _ = _
                    rw [hT0, if_neg hk, ext_take, ext_drop, strOf_lit [46] #[46] rfl, strOf_lit [101] #[101] rfl, strOf_app, strOf_app, strOf_app, ← strOf_bs it, strOf_app, strOf_bs]
                  have hsl0 : (1 : Int) ≤ (ds.size : Int) := by omega
                  clear hT0
                  go_upto_region 10 with (fail)
                  go_cut [2, 66, 67, 68, 69, 70, 71, 72, 73, 74, 75, 76, 77, 78] (fun x2 x66 x67 x68 x69 x70 x71 x72 x73 x74 x75 x76 x77 x78 W => x2 = .string T ∧ One w b #[.bool ng, .string ds, .int .i64 x] W)
                  case first =>
                    as_aux_lemma =>
                      refine wp_region_held (S := One w b #[.bool ng, .string ds, .int .i64 x]) (by kernel_rfl) ?_
                      refine wpAnyH_take (i := 0) (oi := { dst := some 66, op := Go.Op.fieldAddr 24 (Go.Operand.tmp 1) 1, type := 0, pos := "dec.go:200", after := #[], guard := none }) (v := ?_) rfl (by kernel_rfl) (by kernel_rfl) (by kernel_rfl) (fun _ _ _ h => h) (Or.inl ⟨by rfl, ?_⟩) (HT.out.drew) ?_
                      rotate_left 1
                      · intro w5 hSw
                        go_simp; all_goals (with_reducible rfl)
                      try simp only [Act.put, List.setIfInBounds_toArray, List.set_cons_zero, List.set_cons_succ]
                      refine wpAnyH_take (i := 1) (oi := { dst := some 67, op := Go.Op.load 9 (Go.Operand.tmp 66), type := 9, pos := "dec.go:200", after := #[{ on := 0, ground := Go.Ground.data }], guard := none }) (v := ?_) rfl (by kernel_rfl) (by kernel_rfl) (by kernel_rfl) (fun _ _ _ h => h) (Or.inl ⟨by rfl, ?_⟩) (HT.out.drew) ?_
                      rotate_left 1
                      · intro w5 hSw
                        have q1 : w5.cell? ⟨b, 1, none⟩ = some (.string ds) := hSw.a.cell 1
                        go_simp; all_goals (with_reducible rfl)
                      try simp only [Act.put, List.setIfInBounds_toArray, List.set_cons_zero, List.set_cons_succ]
                      refine wpAnyH_take (i := 2) (oi := { dst := some 68, op := Go.Op.slice 9 (Go.Operand.tmp 67) none (some (Go.Operand.const (Go.Value.int Go.IntKind.i64 1))) none, type := 9, pos := "dec.go:200", after := #[{ on := 1, ground := Go.Ground.data }], guard := none }) (v := ?_) rfl (by kernel_rfl) (by kernel_rfl) (by kernel_rfl) (fun _ _ _ h => h) (Or.inl ⟨by rfl, ?_⟩) (HT.out.drew) ?_
                      rotate_left 1
                      · intro w5 hSw
                        go_simp; all_goals (with_reducible rfl)
                      try simp only [Act.put, List.setIfInBounds_toArray, List.set_cons_zero, List.set_cons_succ]
                      refine wpAnyH_take (i := 3) (oi := { dst := some 69, op := Go.Op.binOp Go.BinOp.add 9 (Go.Operand.tmp 68) (Go.Operand.const (Go.Value.string { data := #[46] })) 9, type := 9, pos := "dec.go:200", after := #[{ on := 2, ground := Go.Ground.data }], guard := none }) (v := ?_) rfl (by kernel_rfl) (by kernel_rfl) (by kernel_rfl) (fun _ _ _ h => h) (Or.inl ⟨by rfl, ?_⟩) (HT.out.drew) ?_
                      rotate_left 1
                      · intro w5 hSw
                        have ha := add_run (ds.extract 0 1) ⟨#[46]⟩ (by rw [ext_size ds _ _ (by omega) (by omega)]; omega) (by decide) w5
                        go_simp; all_goals (with_reducible rfl)
                      try simp only [Act.put, List.setIfInBounds_toArray, List.set_cons_zero, List.set_cons_succ]
                      refine wpAnyH_take (i := 4) (oi := { dst := some 70, op := Go.Op.fieldAddr 24 (Go.Operand.tmp 1) 1, type := 0, pos := "dec.go:200", after := #[], guard := none }) (v := ?_) rfl (by kernel_rfl) (by kernel_rfl) (by kernel_rfl) (fun _ _ _ h => h) (Or.inl ⟨by rfl, ?_⟩) (HT.out.drew) ?_
                      rotate_left 1
                      · intro w5 hSw
                        go_simp; all_goals (with_reducible rfl)
                      try simp only [Act.put, List.setIfInBounds_toArray, List.set_cons_zero, List.set_cons_succ]
                      refine wpAnyH_take (i := 5) (oi := { dst := some 71, op := Go.Op.load 9 (Go.Operand.tmp 70), type := 9, pos := "dec.go:200", after := #[{ on := 4, ground := Go.Ground.data }], guard := none }) (v := ?_) rfl (by kernel_rfl) (by kernel_rfl) (by kernel_rfl) (fun _ _ _ h => h) (Or.inl ⟨by rfl, ?_⟩) (HT.out.drew) ?_
                      rotate_left 1
                      · intro w5 hSw
                        have q1 : w5.cell? ⟨b, 1, none⟩ = some (.string ds) := hSw.a.cell 1
                        go_simp; all_goals (with_reducible rfl)
                      try simp only [Act.put, List.setIfInBounds_toArray, List.set_cons_zero, List.set_cons_succ]
                      refine wpAnyH_take (i := 6) (oi := { dst := some 72, op := Go.Op.slice 9 (Go.Operand.tmp 71) (some (Go.Operand.const (Go.Value.int Go.IntKind.i64 1))) none none, type := 9, pos := "dec.go:200", after := #[{ on := 5, ground := Go.Ground.data }], guard := none }) (v := ?_) rfl (by kernel_rfl) (by kernel_rfl) (by kernel_rfl) (fun _ _ _ h => h) (Or.inl ⟨by rfl, ?_⟩) (HT.out.drew) ?_
                      rotate_left 1
                      · intro w5 hSw
                        go_simp; all_goals (with_reducible rfl)
                      try simp only [Act.put, List.setIfInBounds_toArray, List.set_cons_zero, List.set_cons_succ]
                      refine wpAnyH_take (i := 7) (oi := { dst := some 73, op := Go.Op.binOp Go.BinOp.add 9 (Go.Operand.tmp 69) (Go.Operand.tmp 72) 9, type := 9, pos := "dec.go:200", after := #[{ on := 3, ground := Go.Ground.data }, { on := 6, ground := Go.Ground.data }], guard := none }) (v := ?_) rfl (by kernel_rfl) (by kernel_rfl) (by kernel_rfl) (fun _ _ _ h => h) (Or.inl ⟨by rfl, ?_⟩) (HT.out.drew) ?_
                      rotate_left 1
                      · intro w5 hSw
                        have ha := add_run (ds.extract 0 1 ++ ⟨#[46]⟩) (ds.extract 1 ds.size) (by rw [ByteArray.size_append, ext_size ds _ _ (by omega) (by omega)]; have : (⟨#[46]⟩ : ByteArray).size = 1 := rfl; omega) (by rw [ext_size ds _ _ (by omega) (by omega)]; omega) w5
                        go_simp; all_goals (with_reducible rfl)
                      try simp only [Act.put, List.setIfInBounds_toArray, List.set_cons_zero, List.set_cons_succ]
                      refine wpAnyH_take (i := 8) (oi := { dst := some 74, op := Go.Op.binOp Go.BinOp.add 9 (Go.Operand.tmp 73) (Go.Operand.const (Go.Value.string { data := #[101] })) 9, type := 9, pos := "dec.go:200", after := #[{ on := 7, ground := Go.Ground.data }], guard := none }) (v := ?_) rfl (by kernel_rfl) (by kernel_rfl) (by kernel_rfl) (fun _ _ _ h => h) (Or.inl ⟨by rfl, ?_⟩) (HT.out.drew) ?_
                      rotate_left 1
                      · intro w5 hSw
                        have ha := add_run (ds.extract 0 1 ++ ⟨#[46]⟩ ++ ds.extract 1 ds.size) ⟨#[101]⟩ (by rw [ByteArray.size_append, ByteArray.size_append, ext_size ds _ _ (by omega) (by omega), ext_size ds _ _ (by omega) (by omega)]; have : (⟨#[46]⟩ : ByteArray).size = 1 := rfl; omega) (by decide) w5
                        go_simp; all_goals (with_reducible rfl)
                      try simp only [Act.put, List.setIfInBounds_toArray, List.set_cons_zero, List.set_cons_succ]
                      refine wpAnyH_take (i := 9) (oi := { dst := some 75, op := Go.Op.move (Go.Operand.tmp 4), type := 3, pos := "dec.go:200", after := #[], guard := none }) (v := ?_) rfl (by kernel_rfl) (by kernel_rfl) (by kernel_rfl) (fun _ _ _ h => h) (Or.inl ⟨by rfl, ?_⟩) (HT.out.drew) ?_
                      rotate_left 1
                      · intro w5 hSw
                        go_simp; all_goals (with_reducible rfl)
                      try simp only [Act.put, List.setIfInBounds_toArray, List.set_cons_zero, List.set_cons_succ]
                      refine wpAnyH_take (i := 10) (oi := { dst := some 76, op := Go.Op.binOp Go.BinOp.sub 3 (Go.Operand.tmp 75) (Go.Operand.const (Go.Value.int Go.IntKind.i64 1)) 3, type := 3, pos := "dec.go:200", after := #[{ on := 9, ground := Go.Ground.data }], guard := none }) (v := ?_) rfl (by kernel_rfl) (by kernel_rfl) (by kernel_rfl) (fun _ _ _ h => h) (Or.inl ⟨by rfl, ?_⟩) (HT.out.drew) ?_
                      rotate_left 1
                      · intro w5 hSw
                        go_simp; all_goals (with_reducible rfl)
                      try simp only [Act.put, List.setIfInBounds_toArray, List.set_cons_zero, List.set_cons_succ]
                      refine wpAnyH_ready (rs := [11]) (by kernel_rfl) (by simp) ?_
                      refine (AllReadyH.cons (o := { dst := some 77, op := Go.Op.call { callee := Go.Callee.value (Go.Operand.func 60), args := #[Go.Operand.tmp 76], argTypes := #[3] }, type := 9, pos := "dec.go:200", after := #[{ on := 10, ground := Go.Ground.data }], guard := none }) rfl (fun K hK => ?_) AllReadyH.nil)
                      go_simp
                      refine (hI _ (HT.out.drew).k).mono ?_; rintro e Y11 ⟨rfl, hb11⟩
                      go_wp2_with fail
                      refine hK.out _ _ (One.step (HT.out.drew) hb11) (fun _ => ?_)
                      clear hK K
                      try simp only [Act.put, List.setIfInBounds_toArray, List.set_cons_zero, List.set_cons_succ]
                      refine wpAnyH_take (i := 12) (oi := { dst := some 78, op := Go.Op.binOp Go.BinOp.add 9 (Go.Operand.tmp 74) (Go.Operand.tmp 77) 9, type := 9, pos := "dec.go:200", after := #[{ on := 8, ground := Go.Ground.data }, { on := 11, ground := Go.Ground.data }], guard := none }) (v := ?_) rfl (by kernel_rfl) (by kernel_rfl) (by kernel_rfl) (fun _ _ _ h => h) (Or.inl ⟨by rfl, ?_⟩) (One.step (HT.out.drew) hb11) ?_
                      rotate_left 1
                      · intro w5 hSw
                        have ha := add_run (ds.extract 0 1 ++ ⟨#[46]⟩ ++ ds.extract 1 ds.size ++ ⟨#[101]⟩) it (by rw [ByteArray.size_append, ByteArray.size_append, ByteArray.size_append, ext_size ds _ _ (by omega) (by omega), ext_size ds _ _ (by omega) (by omega)]; have : (⟨#[46]⟩ : ByteArray).size = 1 := rfl; have : (⟨#[101]⟩ : ByteArray).size = 1 := rfl; omega) hit w5
                        go_simp; all_goals (with_reducible rfl)
                      try simp only [Act.put, List.setIfInBounds_toArray, List.set_cons_zero, List.set_cons_succ]
                      refine wpAnyH_take (i := 13) (oi := { dst := some 2, op := Go.Op.assign (Go.Operand.tmp 78), type := 9, pos := "dec.go:200", after := #[{ on := 12, ground := Go.Ground.data }, { on := 11, ground := Go.Ground.chain }, { on := 0, ground := Go.Ground.phase }, { on := 1, ground := Go.Ground.phase }, { on := 2, ground := Go.Ground.phase }, { on := 3, ground := Go.Ground.phase }, { on := 4, ground := Go.Ground.phase }, { on := 5, ground := Go.Ground.phase }, { on := 6, ground := Go.Ground.phase }, { on := 7, ground := Go.Ground.phase }, { on := 8, ground := Go.Ground.phase }, { on := 9, ground := Go.Ground.phase }, { on := 10, ground := Go.Ground.phase }, { on := 11, ground := Go.Ground.phase }, { on := 12, ground := Go.Ground.phase }], guard := none }) (v := ?_) rfl (by kernel_rfl) (by kernel_rfl) (by kernel_rfl) (fun _ _ _ h => h) (Or.inl ⟨by rfl, ?_⟩) (One.step (HT.out.drew) hb11) ?_
                      rotate_left 1
                      · intro w5 hSw
                        go_simp; all_goals (with_reducible rfl)
                      try simp only [Act.put, List.setIfInBounds_toArray, List.set_cons_zero, List.set_cons_succ]
                      refine wpAnyH_done (by kernel_rfl) ?_ _
                      go_wp2_with fail
                      go_meet
                      exact ⟨by rw [hT.out], One.step (HT.out.drew) hb11⟩
                  case rest =>
                    obtain ⟨rfl, HT2⟩ := hcut
                    go_wp2_with fail
                    go_ret
                    exact ⟨rfl, HT2.k⟩
end Go.Proofs.YtdbcklabinmgfaaDoor
