/- Layer 16: the reference's Text. -/
import Derived.Test.YtdbcklabinmgfaaDoorTxt3
import Derived.Test.YtdbcklabinmgfaaDoorTxtMath2
namespace Go.Proofs.YtdbcklabinmgfaaDoor
open Go.RowKit Go.Shelf Go.Lib
set_option linter.unusedVariables false
set_option maxRecDepth 100000

theorem itoa_size (n : Int) (h : -1000000 ≤ n ∧ n ≤ 1000000) : (⟨(Lib.itoa n).toArray⟩ : ByteArray).size ≤ 102 := by
  show (Lib.itoa n).toArray.size ≤ _
  rw [List.size_toArray]
  unfold Lib.itoa
  by_cases h0 : n < 0
  · rw [if_pos h0, List.length_cons]
    have := decDigits_size n.natAbs (by omega)
    have h2 : (Lib.decDigits n.natAbs).toArray.size ≤ 10 := this
    rw [List.size_toArray] at h2
    omega
  · rw [if_neg h0]
    have := decDigits_size n.toNat (by omega)
    have h2 : (Lib.decDigits n.toNat).toArray.size ≤ 10 := this
    rw [List.size_toArray] at h2
    omega
theorem bs_itoa (n : Int) : bs ⟨(Lib.itoa n).toArray⟩ = itN n := rfl
set_option maxHeartbeats 16000000 in
theorem rtext_any (ng : Bool) (ds : ByteArray) (x : Int) (w : World) (hs : ds.size ≤ 1000000) :
    Calls Tryd.prog 17 #[.agg #[.bool ng, .string ds, .int .i64 x]] w fun e w' => e = .returned (.string (strOf (textC ng (bs ds) x (itN ((ds.size : Int) + x - 1))))) ∧ Below w.heap.size w w' := by
  have HRt := Lib.hid fun W => rright_any ng ds x W hs
  obtain ⟨T, hT⟩ : ∃ T, T = strOf (textC ng (bs ds) x (itN ((ds.size : Int) + x - 1))) := ⟨_, rfl⟩
  rw [← hT]
  unfold textC at hT
  have hcs := @rightD_cases (ng, bs ds, x)
  obtain ⟨r, hr⟩ : ∃ r, r = rightD (ng, bs ds, x) := ⟨_, rfl⟩
  rw [← hr] at HRt hT hcs
  clear hr
  obtain ⟨b, hb⟩ : ∃ z, z = w.heap.size := ⟨_, rfl⟩
  obtain ⟨X0, hX0⟩ : ∃ z, z = w.alloc (.cells #[.bool ng, .string ds, .int .i64 x] 24) := ⟨_, rfl⟩
  have hO : One w b #[.bool ng, .string ds, .int .i64 x] X0 := by rw [hX0, hb]; exact ⟨Whole.new w _ _, (Below.refl _ _).alloc (Nat.le_refl _) _⟩
  have HO := Lib.hid hO
  have e0 : X0.cell? ⟨b, 0, none⟩ = some (.bool ng) := hO.a.cell 0
  have e1 : X0.cell? ⟨b, 1, none⟩ = some (.string ds) := hO.a.cell 1
  have e2 : X0.cell? ⟨b, 2, none⟩ = some (.int .i64 x) := hO.a.cell 2
  have HX0 := Lib.hid hX0
  have Hb := Lib.hid hb
  have HT0 := Lib.hid hT
  have Hcs := Lib.hid hcs
  clear hb hX0 hO hT hcs
  go_enter Tryd.func17, Tryd.ntmps17
  go_upto_region 1 with (fail)
  rw [← HX0.out, ← Hb.out]
  clear HX0 Hb
  go_wp2_with fail
  refine (HRt.out _).mono ?_
  rintro e W1 ⟨rfl, hb1⟩
  have HT := Lib.hid (HO.out.step hb1)
  have e0 : W1.cell? ⟨b, 0, none⟩ = some (.bool ng) := HT.out.a.cell 0
  have e1 : W1.cell? ⟨b, 1, none⟩ = some (.string ds) := HT.out.a.cell 1
  have e2 : W1.cell? ⟨b, 2, none⟩ = some (.int .i64 x) := HT.out.a.cell 2
  clear hb1 HRt HO
  cases r with
  | false =>
    have hT : Hid (T = ⟨#[]⟩) := by show _ = _; rw [HT0.out, if_neg (by decide)]; rfl
    clear HT0
    go_wp2_with fail
    go_ret
    exact ⟨by rw [hT.out]; rfl, HT.out.k⟩
  | true =>
    by_cases hd : ds.size = 0
    · have hT : Hid (T = ⟨#[48]⟩) := by show _ = _; rw [HT0.out, if_pos rfl, bs_zero hd, if_pos rfl]; rfl
      have d1 : ((ds.size : Int) == 0) = true := by rw [hd]; rfl
      have d2 : (ds.size == 0) = true := by rw [hd]; rfl
      clear HT0 hd
      go_wp2_with fail
      go_ret
      exact ⟨by rw [hT.out]; rfl, HT.out.k⟩
    · have d1 : ((ds.size : Int) == 0) = false := beq_eq_false_iff_ne.mpr (by omega)
      have d2 : (ds.size == 0) = false := beq_eq_false_iff_ne.mpr hd
      have hbne := bs_pos (ds := ds) (by omega)
      have hRD : RD (bs ds) x := by
        rcases Hcs.out rfl with h | h
        · injection h with _ h; injection h with h _; exact absurd h hbne
        · exact h
      have hl := hRD.len
      rw [bs_length] at hl
      have hx : -1000 ≤ x ∧ x ≤ 1000 := ⟨hRD.lo, hRD.hi⟩
      have hT := HT0.out
      rw [if_pos rfl, if_neg hbne] at hT
      have hAl := amountC_le (bs ds) x (itN ((ds.size : Int) + x - 1)) (by rw [bs_length]; exact hl) (by rw [← bs_itoa, bs_length]; have := itoa_size ((ds.size : Int) + x - 1) (by omega); omega) hx
      obtain ⟨A, hAe⟩ : ∃ A, A = strOf (amountC (bs ds) x (itN ((ds.size : Int) + x - 1))) := ⟨_, rfl⟩
      have hAs : A.size ≤ 10000 := by rw [hAe, strOf_size]; omega
      have hT2 : Hid (T = if ng = true then ⟨#[45]⟩ ++ A else A) := by
        show _ = _
        rw [hT]
        cases ng with
        | true => rw [if_pos rfl, if_pos rfl, ← strOf_app, hAe]; rfl
        | false => rw [if_neg (by decide), if_neg (by decide), hAe]; rfl
      obtain ⟨it, hite⟩ : ∃ it : ByteArray, it = ⟨(Lib.itoa ((ds.size : Int) + x - 1)).toArray⟩ := ⟨_, rfl⟩
      have hbit : itN ((ds.size : Int) + x - 1) = bs it := by rw [hite]; rfl
      have hit : it.size ≤ 10000000 := by rw [hite]; have := itoa_size ((ds.size : Int) + x - 1) (by omega); omega
      have hI : ∀ W, Calls Tryd.prog 36 #[.int .i64 ((ds.size : Int) + x - 1)] W fun e w' => e = .returned (.string it) ∧ Below W.heap.size W w' := fun W => by rw [hite]; exact number_any _ (by omega) W
      rw [hbit] at hAe
      unfold amountC at hAe
      rw [bs_length] at hAe
      have hpos : 0 < ds.size := by omega
      clear HT0 hT hAl hd hbne hRD hite hbit e0 e1
      obtain ⟨P, hP⟩ : ∃ P, P = (ds.size : Int) + x := ⟨_, rfl⟩
      have hPw : wrap64 ((ds.size : Int) + x) = P := by rw [hP]; exact IntWalk.wrap64_in _ ⟨by omega, by omega⟩
      rw [← hP] at hAe hI
      have hPb : -1000 ≤ P ∧ P ≤ 1100 := by omega
      have HA0 := Lib.hid hAe
      obtain ⟨c1, hc1⟩ : ∃ c, c = decide (0 ≤ x ∧ P ≤ 21) := ⟨_, rfl⟩
      obtain ⟨c2, hc2⟩ : ∃ c, c = decide (1 ≤ P ∧ P < (ds.size : Int)) := ⟨_, rfl⟩
      obtain ⟨c3, hc3⟩ : ∃ c, c = decide (-6 ≤ P ∧ P ≤ 0) := ⟨_, rfl⟩
      have Hc1 := Lib.hid hc1
      have Hc2 := Lib.hid hc2
      have Hc3 := Lib.hid hc3
      have HPe := Lib.hid hP
      clear hAe hc1 hc2 hc3 hP
      have e1 : W1.cell? ⟨b, 1, none⟩ = some (.string ds) := HT.out.a.cell 1
      go_upto_region 6 with (fail)
      obtain ⟨w0, hw0⟩ : ∃ w0, w0 = W1 := ⟨_, rfl⟩
      go_cut [4, 14, 15, 16, 17] (fun x4 x14 x15 x16 x17 W => x4 = .int .i64 P ∧ w0 = W)
      case first =>
        as_aux_lemma =>
          rw [HPe.out] at hPw
          go_wp2_with fail
          go_meet
          exact ⟨by rw [HPe.out], hw0⟩
      case rest =>
        obtain ⟨rfl, rfl⟩ := hcut
        subst hw0
        clear hPw e1
        go_upto_region 8 with (fail)
        obtain ⟨w0, hw0⟩ : ∃ z, z = w0 := ⟨_, rfl⟩
        go_cut [18, 19, 20, 21, 22, 23, 24] (fun x18 x19 x20 x21 x22 x23 x24 W => x24 = .bool c1 ∧ w0 = W)
        case first =>
          as_aux_lemma =>
            by_cases q1 : 0 ≤ x
            · have d1 : decide (0 ≤ x) = true := decide_eq_true q1
              by_cases q2 : P ≤ 21
              · have d2 : decide (P ≤ 21) = true := decide_eq_true q2
                obtain rfl : c1 = true := by rw [Hc1.out]; exact decide_eq_true ⟨q1, q2⟩
                go_wp2_with fail
                go_meet
                exact ⟨rfl, hw0⟩
              · have d2 : decide (P ≤ 21) = false := decide_eq_false q2
                obtain rfl : c1 = false := by rw [Hc1.out]; exact decide_eq_false (fun h => q2 h.2)
                go_wp2_with fail
                go_meet
                exact ⟨rfl, hw0⟩
            · have d1 : decide (0 ≤ x) = false := decide_eq_false q1
              obtain rfl : c1 = false := by rw [Hc1.out]; exact decide_eq_false (fun h => q1 h.1)
              go_wp2_with fail
              go_meet
              exact ⟨rfl, hw0⟩
        case rest =>
          obtain ⟨rfl, rfl⟩ := hcut
          subst hw0
          clear e2
          go_upto_if 24 with (fail)
          go_cut [5, 25, 26, 27, 28, 29, 30, 31, 32, 33, 34, 35, 36, 37, 38, 39, 40, 41, 42, 43, 44, 45, 46, 47, 48, 49, 50, 51, 52, 53, 54, 55, 56, 57, 58, 59, 60, 61, 62, 63, 64, 65, 66, 67, 68, 69, 70, 71, 72, 73, 74, 75, 76, 77, 78, 79, 80, 81, 82, 83] (fun x5 x25 x26 x27 x28 x29 x30 x31 x32 x33 x34 x35 x36 x37 x38 x39 x40 x41 x42 x43 x44 x45 x46 x47 x48 x49 x50 x51 x52 x53 x54 x55 x56 x57 x58 x59 x60 x61 x62 x63 x64 x65 x66 x67 x68 x69 x70 x71 x72 x73 x74 x75 x76 x77 x78 x79 x80 x81 x82 x83 W => x5 = .string A ∧ One w b #[.bool ng, .string ds, .int .i64 x] W)
          case first =>
            as_aux_lemma =>
              clear hT2
              have HC1 := Hc1.out.symm
              clear Hc1
              cases c1 with
              | true =>
                have hc := of_decide_eq_true HC1
                obtain ⟨xn, hxe⟩ : ∃ n : Nat, x = (n : Int) := ⟨x.toNat, by omega⟩
                have hxn : xn ≤ 1000 := by omega
                have HRp := Lib.hid fun W => rzeros_any xn W (by omega)
                rw [← hxe] at HRp
                have hA : Hid (A = ds ++ strOf (List.replicate xn 48)) := by
                  show _ = _
                  rw [HA0.out, if_pos hc, hxe, Int.toNat_natCast, ← strOf_app, strOf_bs]
                clear HC1 HA0 hc hI hxe
                go_upto_region 9 with (fail)
                refine wp_region_held (S := One w b #[.bool ng, .string ds, .int .i64 x]) (by kernel_rfl) ?_
                refine wpAnyH_take (i := 0) (oi := { dst := some 25, op := Go.Op.fieldAddr 24 (Go.Operand.tmp 1) 1, type := 0, pos := "ref.go:192", after := #[], guard := none }) (v := ?_) rfl (by kernel_rfl) (by kernel_rfl) (by kernel_rfl) (fun _ _ _ h => h) (Or.inl ⟨by rfl, ?_⟩) (HT.out.drew) ?_
                rotate_left 1
                · intro w5 hSw
                  go_simp; all_goals (with_reducible rfl)
                try simp only [Act.put, List.setIfInBounds_toArray, List.set_cons_zero, List.set_cons_succ]
                refine wpAnyH_take (i := 1) (oi := { dst := some 26, op := Go.Op.load 9 (Go.Operand.tmp 25), type := 9, pos := "ref.go:192", after := #[{ on := 0, ground := Go.Ground.data }], guard := none }) (v := ?_) rfl (by kernel_rfl) (by kernel_rfl) (by kernel_rfl) (fun _ _ _ h => h) (Or.inl ⟨by rfl, ?_⟩) (HT.out.drew) ?_
                rotate_left 1
                · intro w5 hSw
                  have q1 : w5.cell? ⟨b, 1, none⟩ = some (.string ds) := hSw.a.cell 1
                  go_simp; all_goals (with_reducible rfl)
                try simp only [Act.put, List.setIfInBounds_toArray, List.set_cons_zero, List.set_cons_succ]
                refine wpAnyH_take (i := 2) (oi := { dst := some 27, op := Go.Op.fieldAddr 24 (Go.Operand.tmp 1) 2, type := 0, pos := "ref.go:192", after := #[], guard := none }) (v := ?_) rfl (by kernel_rfl) (by kernel_rfl) (by kernel_rfl) (fun _ _ _ h => h) (Or.inl ⟨by rfl, ?_⟩) (HT.out.drew) ?_
                rotate_left 1
                · intro w5 hSw
                  go_simp; all_goals (with_reducible rfl)
                try simp only [Act.put, List.setIfInBounds_toArray, List.set_cons_zero, List.set_cons_succ]
                refine wpAnyH_take (i := 3) (oi := { dst := some 28, op := Go.Op.load 3 (Go.Operand.tmp 27), type := 3, pos := "ref.go:192", after := #[{ on := 2, ground := Go.Ground.data }], guard := none }) (v := ?_) rfl (by kernel_rfl) (by kernel_rfl) (by kernel_rfl) (fun _ _ _ h => h) (Or.inl ⟨by rfl, ?_⟩) (HT.out.drew) ?_
                rotate_left 1
                · intro w5 hSw
                  have q2 : w5.cell? ⟨b, 2, none⟩ = some (.int .i64 x) := hSw.a.cell 2
                  go_simp; all_goals (with_reducible rfl)
                try simp only [Act.put, List.setIfInBounds_toArray, List.set_cons_zero, List.set_cons_succ]
                refine wpAnyH_ready (rs := [4]) (by kernel_rfl) (by simp) ?_
                refine (AllReadyH.cons (o := { dst := some 29, op := Go.Op.call { callee := Go.Callee.value (Go.Operand.func 35), args := #[Go.Operand.tmp 28], argTypes := #[3] }, type := 9, pos := "ref.go:192", after := #[{ on := 3, ground := Go.Ground.data }], guard := none }) rfl (fun K hK => ?_) AllReadyH.nil)
                go_simp
                refine (HRp.out _).mono ?_; rintro e Y4 ⟨rfl, rfl⟩
                go_wp2_with fail
                refine hK.out _ _ (HT.out.drew) (fun _ => ?_)
                clear hK K
                try simp only [Act.put, List.setIfInBounds_toArray, List.set_cons_zero, List.set_cons_succ]
                refine wpAnyH_take (i := 5) (oi := { dst := some 30, op := Go.Op.binOp Go.BinOp.add 9 (Go.Operand.tmp 26) (Go.Operand.tmp 29) 9, type := 9, pos := "ref.go:192", after := #[{ on := 1, ground := Go.Ground.data }, { on := 4, ground := Go.Ground.data }], guard := none }) (v := ?_) rfl (by kernel_rfl) (by kernel_rfl) (by kernel_rfl) (fun _ _ _ h => h) (Or.inl ⟨by rfl, ?_⟩) (HT.out.drew) ?_
                rotate_left 1
                · intro w5 hSw
                  have ha := add_run ds (strOf (List.replicate xn 48)) (by omega) (by rw [strOf_size, List.length_replicate]; omega) w5
                  go_simp; all_goals (with_reducible rfl)
                try simp only [Act.put, List.setIfInBounds_toArray, List.set_cons_zero, List.set_cons_succ]
                refine wpAnyH_take (i := 6) (oi := { dst := some 5, op := Go.Op.assign (Go.Operand.tmp 30), type := 9, pos := "ref.go:192", after := #[{ on := 5, ground := Go.Ground.data }, { on := 4, ground := Go.Ground.chain }, { on := 0, ground := Go.Ground.phase }, { on := 1, ground := Go.Ground.phase }, { on := 2, ground := Go.Ground.phase }, { on := 3, ground := Go.Ground.phase }, { on := 4, ground := Go.Ground.phase }, { on := 5, ground := Go.Ground.phase }], guard := none }) (v := ?_) rfl (by kernel_rfl) (by kernel_rfl) (by kernel_rfl) (fun _ _ _ h => h) (Or.inl ⟨by rfl, ?_⟩) (HT.out.drew) ?_
                rotate_left 1
                · intro w5 hSw
                  go_simp; all_goals (with_reducible rfl)
                try simp only [Act.put, List.setIfInBounds_toArray, List.set_cons_zero, List.set_cons_succ]
                refine wpAnyH_done (by kernel_rfl) ?_ _
                go_wp2_with fail
                go_meet
                exact ⟨by rw [hA.out], HT.out.drew⟩
              | false =>
                have hn1 := of_decide_eq_false HC1
                have hA0 := HA0.out
                rw [if_neg hn1] at hA0
                have HA0 := Lib.hid hA0
                clear HC1 hn1 hA0
                go_upto_region 10 with (fail)
                obtain ⟨w0, hw0⟩ : ∃ z, z = w0 := ⟨_, rfl⟩
                go_cut [31, 32, 33, 34, 35, 36, 37, 38] (fun x31 x32 x33 x34 x35 x36 x37 x38 W => x38 = .bool c2 ∧ w0 = W)
                case first =>
                  as_aux_lemma =>
                    by_cases q1 : 1 ≤ P
                    · have d1 : decide (1 ≤ P) = true := decide_eq_true q1
                      by_cases q2 : P ≤ (ds.size : Int) - 1
                      · have d2 : decide (P ≤ (ds.size : Int) - 1) = true := decide_eq_true q2
                        obtain rfl : c2 = true := by rw [Hc2.out]; exact decide_eq_true ⟨q1, by omega⟩
                        go_wp2_with fail
                        go_meet
                        exact ⟨rfl, hw0⟩
                      · have d2 : decide (P ≤ (ds.size : Int) - 1) = false := decide_eq_false q2
                        obtain rfl : c2 = false := by rw [Hc2.out]; exact decide_eq_false (fun h => q2 (by omega))
                        go_wp2_with fail
                        go_meet
                        exact ⟨rfl, hw0⟩
                    · have d1 : decide (1 ≤ P) = false := decide_eq_false q1
                      obtain rfl : c2 = false := by rw [Hc2.out]; exact decide_eq_false (fun h => q1 h.1)
                      go_wp2_with fail
                      go_meet
                      exact ⟨rfl, hw0⟩
                case rest =>
                  obtain ⟨rfl, rfl⟩ := hcut
                  subst hw0
                  have HC2 := Hc2.out.symm
                  clear Hc2
                  cases c2 with
                  | true =>
                    have hc := of_decide_eq_true HC2
                    obtain ⟨pn, rfl⟩ : ∃ n : Nat, P = (n : Int) := ⟨P.toNat, by omega⟩
                    have hA : Hid (A = ds.extract 0 pn ++ ⟨#[46]⟩ ++ ds.extract pn ds.size) := by
                      show _ = _
                      rw [HA0.out, if_pos hc, Int.toNat_natCast, ext_take, ext_drop, strOf_lit [46] #[46] rfl, strOf_app, strOf_app]
                    have hsl0 : (0 : Int) ≤ (pn : Int) := by omega
                    have hsl1 : (pn : Int) ≤ (ds.size : Int) := by omega
                    have hpn : pn ≤ ds.size := by omega
                    clear HC2 HA0 hc hI
                    go_upto_region 11 with (fail)
                    refine wp_region_held (S := One w b #[.bool ng, .string ds, .int .i64 x]) (by kernel_rfl) ?_
                    refine wpAnyH_take (i := 0) (oi := { dst := some 39, op := Go.Op.fieldAddr 24 (Go.Operand.tmp 1) 1, type := 0, pos := "ref.go:194", after := #[], guard := none }) (v := ?_) rfl (by kernel_rfl) (by kernel_rfl) (by kernel_rfl) (fun _ _ _ h => h) (Or.inl ⟨by rfl, ?_⟩) (HT.out.drew) ?_
                    rotate_left 1
                    · intro w5 hSw
                      go_simp; all_goals (with_reducible rfl)
                    try simp only [Act.put, List.setIfInBounds_toArray, List.set_cons_zero, List.set_cons_succ]
                    refine wpAnyH_take (i := 1) (oi := { dst := some 40, op := Go.Op.load 9 (Go.Operand.tmp 39), type := 9, pos := "ref.go:194", after := #[{ on := 0, ground := Go.Ground.data }], guard := none }) (v := ?_) rfl (by kernel_rfl) (by kernel_rfl) (by kernel_rfl) (fun _ _ _ h => h) (Or.inl ⟨by rfl, ?_⟩) (HT.out.drew) ?_
                    rotate_left 1
                    · intro w5 hSw
                      have q1 : w5.cell? ⟨b, 1, none⟩ = some (.string ds) := hSw.a.cell 1
                      go_simp; all_goals (with_reducible rfl)
                    try simp only [Act.put, List.setIfInBounds_toArray, List.set_cons_zero, List.set_cons_succ]
                    refine wpAnyH_take (i := 2) (oi := { dst := some 41, op := Go.Op.move (Go.Operand.tmp 4), type := 3, pos := "ref.go:194", after := #[], guard := none }) (v := ?_) rfl (by kernel_rfl) (by kernel_rfl) (by kernel_rfl) (fun _ _ _ h => h) (Or.inl ⟨by rfl, ?_⟩) (HT.out.drew) ?_
                    rotate_left 1
                    · intro w5 hSw
                      go_simp; all_goals (with_reducible rfl)
                    try simp only [Act.put, List.setIfInBounds_toArray, List.set_cons_zero, List.set_cons_succ]
                    refine wpAnyH_take (i := 3) (oi := { dst := some 42, op := Go.Op.slice 9 (Go.Operand.tmp 40) none (some (Go.Operand.tmp 41)) none, type := 9, pos := "ref.go:194", after := #[{ on := 1, ground := Go.Ground.data }, { on := 2, ground := Go.Ground.data }], guard := none }) (v := ?_) rfl (by kernel_rfl) (by kernel_rfl) (by kernel_rfl) (fun _ _ _ h => h) (Or.inl ⟨by rfl, ?_⟩) (HT.out.drew) ?_
                    rotate_left 1
                    · intro w5 hSw
                      go_simp; all_goals (with_reducible rfl)
                    try simp only [Act.put, List.setIfInBounds_toArray, List.set_cons_zero, List.set_cons_succ]
                    refine wpAnyH_take (i := 4) (oi := { dst := some 43, op := Go.Op.binOp Go.BinOp.add 9 (Go.Operand.tmp 42) (Go.Operand.const (Go.Value.string { data := #[46] })) 9, type := 9, pos := "ref.go:194", after := #[{ on := 3, ground := Go.Ground.data }], guard := none }) (v := ?_) rfl (by kernel_rfl) (by kernel_rfl) (by kernel_rfl) (fun _ _ _ h => h) (Or.inl ⟨by rfl, ?_⟩) (HT.out.drew) ?_
                    rotate_left 1
                    · intro w5 hSw
                      have ha := add_run (ds.extract 0 pn) ⟨#[46]⟩ (by rw [ext_size ds _ _ (by omega) (by omega)]; omega) (by decide) w5
                      go_simp; all_goals (with_reducible rfl)
                    try simp only [Act.put, List.setIfInBounds_toArray, List.set_cons_zero, List.set_cons_succ]
                    refine wpAnyH_take (i := 5) (oi := { dst := some 44, op := Go.Op.fieldAddr 24 (Go.Operand.tmp 1) 1, type := 0, pos := "ref.go:194", after := #[], guard := none }) (v := ?_) rfl (by kernel_rfl) (by kernel_rfl) (by kernel_rfl) (fun _ _ _ h => h) (Or.inl ⟨by rfl, ?_⟩) (HT.out.drew) ?_
                    rotate_left 1
                    · intro w5 hSw
                      go_simp; all_goals (with_reducible rfl)
                    try simp only [Act.put, List.setIfInBounds_toArray, List.set_cons_zero, List.set_cons_succ]
                    refine wpAnyH_take (i := 6) (oi := { dst := some 45, op := Go.Op.load 9 (Go.Operand.tmp 44), type := 9, pos := "ref.go:194", after := #[{ on := 5, ground := Go.Ground.data }], guard := none }) (v := ?_) rfl (by kernel_rfl) (by kernel_rfl) (by kernel_rfl) (fun _ _ _ h => h) (Or.inl ⟨by rfl, ?_⟩) (HT.out.drew) ?_
                    rotate_left 1
                    · intro w5 hSw
                      have q1 : w5.cell? ⟨b, 1, none⟩ = some (.string ds) := hSw.a.cell 1
                      go_simp; all_goals (with_reducible rfl)
                    try simp only [Act.put, List.setIfInBounds_toArray, List.set_cons_zero, List.set_cons_succ]
                    refine wpAnyH_take (i := 7) (oi := { dst := some 46, op := Go.Op.move (Go.Operand.tmp 4), type := 3, pos := "ref.go:194", after := #[], guard := none }) (v := ?_) rfl (by kernel_rfl) (by kernel_rfl) (by kernel_rfl) (fun _ _ _ h => h) (Or.inl ⟨by rfl, ?_⟩) (HT.out.drew) ?_
                    rotate_left 1
                    · intro w5 hSw
                      go_simp; all_goals (with_reducible rfl)
                    try simp only [Act.put, List.setIfInBounds_toArray, List.set_cons_zero, List.set_cons_succ]
                    refine wpAnyH_take (i := 8) (oi := { dst := some 47, op := Go.Op.slice 9 (Go.Operand.tmp 45) (some (Go.Operand.tmp 46)) none none, type := 9, pos := "ref.go:194", after := #[{ on := 6, ground := Go.Ground.data }, { on := 7, ground := Go.Ground.data }], guard := none }) (v := ?_) rfl (by kernel_rfl) (by kernel_rfl) (by kernel_rfl) (fun _ _ _ h => h) (Or.inl ⟨by rfl, ?_⟩) (HT.out.drew) ?_
                    rotate_left 1
                    · intro w5 hSw
                      go_simp; all_goals (with_reducible rfl)
                    try simp only [Act.put, List.setIfInBounds_toArray, List.set_cons_zero, List.set_cons_succ]
                    refine wpAnyH_take (i := 9) (oi := { dst := some 48, op := Go.Op.binOp Go.BinOp.add 9 (Go.Operand.tmp 43) (Go.Operand.tmp 47) 9, type := 9, pos := "ref.go:194", after := #[{ on := 4, ground := Go.Ground.data }, { on := 8, ground := Go.Ground.data }], guard := none }) (v := ?_) rfl (by kernel_rfl) (by kernel_rfl) (by kernel_rfl) (fun _ _ _ h => h) (Or.inl ⟨by rfl, ?_⟩) (HT.out.drew) ?_
                    rotate_left 1
                    · intro w5 hSw
                      have ha := add_run (ds.extract 0 pn ++ ⟨#[46]⟩) (ds.extract pn ds.size) (by rw [ByteArray.size_append, ext_size ds _ _ (by omega) (by omega)]; have : (⟨#[46]⟩ : ByteArray).size = 1 := rfl; omega) (by rw [ext_size ds _ _ (by omega) (by omega)]; omega) w5
                      go_simp; all_goals (with_reducible rfl)
                    try simp only [Act.put, List.setIfInBounds_toArray, List.set_cons_zero, List.set_cons_succ]
                    refine wpAnyH_take (i := 10) (oi := { dst := some 5, op := Go.Op.assign (Go.Operand.tmp 48), type := 9, pos := "ref.go:194", after := #[{ on := 9, ground := Go.Ground.data }, { on := 0, ground := Go.Ground.phase }, { on := 1, ground := Go.Ground.phase }, { on := 2, ground := Go.Ground.phase }, { on := 3, ground := Go.Ground.phase }, { on := 4, ground := Go.Ground.phase }, { on := 5, ground := Go.Ground.phase }, { on := 6, ground := Go.Ground.phase }, { on := 7, ground := Go.Ground.phase }, { on := 8, ground := Go.Ground.phase }, { on := 9, ground := Go.Ground.phase }], guard := none }) (v := ?_) rfl (by kernel_rfl) (by kernel_rfl) (by kernel_rfl) (fun _ _ _ h => h) (Or.inl ⟨by rfl, ?_⟩) (HT.out.drew) ?_
                    rotate_left 1
                    · intro w5 hSw
                      go_simp; all_goals (with_reducible rfl)
                    try simp only [Act.put, List.setIfInBounds_toArray, List.set_cons_zero, List.set_cons_succ]
                    refine wpAnyH_done (by kernel_rfl) ?_ _
                    go_wp2_with fail
                    go_meet
                    exact ⟨by rw [hA.out], HT.out.drew⟩
                  | false =>
                    have hn1 := of_decide_eq_false HC2
                    have hA0 := HA0.out
                    rw [if_neg hn1] at hA0
                    have HA0 := Lib.hid hA0
                    clear HC2 hn1 hA0
                    go_upto_region 12 with (fail)
                    obtain ⟨w0, hw0⟩ : ∃ z, z = w0 := ⟨_, rfl⟩
                    go_cut [49, 50, 51, 52, 53, 54] (fun x49 x50 x51 x52 x53 x54 W => x54 = .bool c3 ∧ w0 = W)
                    case first =>
                      as_aux_lemma =>
                        by_cases q1 : -6 ≤ P
                        · have d1 : decide (-6 ≤ P) = true := decide_eq_true q1
                          by_cases q2 : P ≤ 0
                          · have d2 : decide (P ≤ 0) = true := decide_eq_true q2
                            obtain rfl : c3 = true := by rw [Hc3.out]; exact decide_eq_true ⟨q1, q2⟩
                            go_wp2_with fail
                            go_meet
                            exact ⟨rfl, hw0⟩
                          · have d2 : decide (P ≤ 0) = false := decide_eq_false q2
                            obtain rfl : c3 = false := by rw [Hc3.out]; exact decide_eq_false (fun h => q2 h.2)
                            go_wp2_with fail
                            go_meet
                            exact ⟨rfl, hw0⟩
                        · have d1 : decide (-6 ≤ P) = false := decide_eq_false q1
                          obtain rfl : c3 = false := by rw [Hc3.out]; exact decide_eq_false (fun h => q1 h.1)
                          go_wp2_with fail
                          go_meet
                          exact ⟨rfl, hw0⟩
                    case rest =>
                      obtain ⟨rfl, rfl⟩ := hcut
                      subst hw0
                      have HC3 := Hc3.out.symm
                      clear Hc3
                      cases c3 with
                      | true =>
                        have hc := of_decide_eq_true HC3
                        obtain ⟨mn, hmn⟩ : ∃ n : Nat, -P = (n : Int) := ⟨(-P).toNat, by omega⟩
                        have hmn6 : mn ≤ 6 := by omega
                        have HRp := Lib.hid fun W => rzeros_any mn W (by omega)
                        have hA : Hid (A = ⟨#[48, 46]⟩ ++ strOf (List.replicate mn 48) ++ ds) := by
                          show _ = _
                          rw [HA0.out, if_pos hc, hmn, Int.toNat_natCast, ← strOf_app, ← strOf_app, strOf_bs, strOf_lit [48, 46] #[48, 46] rfl]
                        have hwn : IntKind.i64.wrap (-P) = (mn : Int) := by rw [← hmn]; exact (IntWalk.i64_left (-P)).trans (IntWalk.wrap64_in (-P) ⟨by omega, by omega⟩)
                        clear HC3 HA0 hc hI hmn
                        go_upto_region 13 with (fail)
                        refine wp_region_held (S := One w b #[.bool ng, .string ds, .int .i64 x]) (by kernel_rfl) ?_
                        refine wpAnyH_take (i := 0) (oi := { dst := some 55, op := Go.Op.move (Go.Operand.tmp 4), type := 3, pos := "ref.go:196", after := #[], guard := none }) (v := ?_) rfl (by kernel_rfl) (by kernel_rfl) (by kernel_rfl) (fun _ _ _ h => h) (Or.inl ⟨by rfl, ?_⟩) (HT.out.drew) ?_
                        rotate_left 1
                        · intro w5 hSw
                          go_simp; all_goals (with_reducible rfl)
                        try simp only [Act.put, List.setIfInBounds_toArray, List.set_cons_zero, List.set_cons_succ]
                        refine wpAnyH_take (i := 1) (oi := { dst := some 56, op := Go.Op.unOp Go.UnOp.neg 3 (Go.Operand.tmp 55), type := 3, pos := "ref.go:196", after := #[{ on := 0, ground := Go.Ground.data }], guard := none }) (v := ?_) rfl (by kernel_rfl) (by kernel_rfl) (by kernel_rfl) (fun _ _ _ h => h) (Or.inl ⟨by rfl, ?_⟩) (HT.out.drew) ?_
                        rotate_left 1
                        · intro w5 hSw
                          go_simp; all_goals (with_reducible rfl)
                        try simp only [Act.put, List.setIfInBounds_toArray, List.set_cons_zero, List.set_cons_succ]
                        refine wpAnyH_take (i := 4) (oi := { dst := some 59, op := Go.Op.fieldAddr 24 (Go.Operand.tmp 1) 1, type := 0, pos := "ref.go:196", after := #[], guard := none }) (v := ?_) rfl (by kernel_rfl) (by kernel_rfl) (by kernel_rfl) (fun _ _ _ h => h) (Or.inl ⟨by rfl, ?_⟩) (HT.out.drew) ?_
                        rotate_left 1
                        · intro w5 hSw
                          go_simp; all_goals (with_reducible rfl)
                        try simp only [Act.put, List.setIfInBounds_toArray, List.set_cons_zero, List.set_cons_succ]
                        refine wpAnyH_take (i := 5) (oi := { dst := some 60, op := Go.Op.load 9 (Go.Operand.tmp 59), type := 9, pos := "ref.go:196", after := #[{ on := 4, ground := Go.Ground.data }], guard := none }) (v := ?_) rfl (by kernel_rfl) (by kernel_rfl) (by kernel_rfl) (fun _ _ _ h => h) (Or.inl ⟨by rfl, ?_⟩) (HT.out.drew) ?_
                        rotate_left 1
                        · intro w5 hSw
                          have q1 : w5.cell? ⟨b, 1, none⟩ = some (.string ds) := hSw.a.cell 1
                          go_simp; all_goals (with_reducible rfl)
                        try simp only [Act.put, List.setIfInBounds_toArray, List.set_cons_zero, List.set_cons_succ]
                        refine wpAnyH_ready (rs := [2]) (by kernel_rfl) (by simp) ?_
                        refine (AllReadyH.cons (o := { dst := some 57, op := Go.Op.call { callee := Go.Callee.value (Go.Operand.func 35), args := #[Go.Operand.tmp 56], argTypes := #[3] }, type := 9, pos := "ref.go:196", after := #[{ on := 1, ground := Go.Ground.data }], guard := none }) rfl (fun K hK => ?_) AllReadyH.nil)
                        go_simp
                        refine (HRp.out _).mono ?_; rintro e Y2 ⟨rfl, rfl⟩
                        go_wp2_with fail
                        refine hK.out _ _ (HT.out.drew) (fun _ => ?_)
                        clear hK K
                        try simp only [Act.put, List.setIfInBounds_toArray, List.set_cons_zero, List.set_cons_succ]
                        refine wpAnyH_take (i := 3) (oi := { dst := some 58, op := Go.Op.binOp Go.BinOp.add 9 (Go.Operand.const (Go.Value.string { data := #[48, 46] })) (Go.Operand.tmp 57) 9, type := 9, pos := "ref.go:196", after := #[{ on := 2, ground := Go.Ground.data }], guard := none }) (v := ?_) rfl (by kernel_rfl) (by kernel_rfl) (by kernel_rfl) (fun _ _ _ h => h) (Or.inl ⟨by rfl, ?_⟩) (HT.out.drew) ?_
                        rotate_left 1
                        · intro w5 hSw
                          have ha := add_run ⟨#[48, 46]⟩ (strOf (List.replicate mn 48)) (by decide) (by rw [strOf_size, List.length_replicate]; omega) w5
                          go_simp; all_goals (with_reducible rfl)
                        try simp only [Act.put, List.setIfInBounds_toArray, List.set_cons_zero, List.set_cons_succ]
                        refine wpAnyH_take (i := 6) (oi := { dst := some 61, op := Go.Op.binOp Go.BinOp.add 9 (Go.Operand.tmp 58) (Go.Operand.tmp 60) 9, type := 9, pos := "ref.go:196", after := #[{ on := 3, ground := Go.Ground.data }, { on := 5, ground := Go.Ground.data }], guard := none }) (v := ?_) rfl (by kernel_rfl) (by kernel_rfl) (by kernel_rfl) (fun _ _ _ h => h) (Or.inl ⟨by rfl, ?_⟩) (HT.out.drew) ?_
                        rotate_left 1
                        · intro w5 hSw
                          have ha := add_run (⟨#[48, 46]⟩ ++ strOf (List.replicate mn 48)) ds (by rw [ByteArray.size_append, strOf_size, List.length_replicate]; have : (⟨#[48, 46]⟩ : ByteArray).size = 2 := rfl; omega) (by omega) w5
                          go_simp; all_goals (with_reducible rfl)
                        try simp only [Act.put, List.setIfInBounds_toArray, List.set_cons_zero, List.set_cons_succ]
                        refine wpAnyH_take (i := 7) (oi := { dst := some 5, op := Go.Op.assign (Go.Operand.tmp 61), type := 9, pos := "ref.go:196", after := #[{ on := 6, ground := Go.Ground.data }, { on := 2, ground := Go.Ground.chain }, { on := 0, ground := Go.Ground.phase }, { on := 1, ground := Go.Ground.phase }, { on := 2, ground := Go.Ground.phase }, { on := 3, ground := Go.Ground.phase }, { on := 4, ground := Go.Ground.phase }, { on := 5, ground := Go.Ground.phase }, { on := 6, ground := Go.Ground.phase }], guard := none }) (v := ?_) rfl (by kernel_rfl) (by kernel_rfl) (by kernel_rfl) (fun _ _ _ h => h) (Or.inl ⟨by rfl, ?_⟩) (HT.out.drew) ?_
                        rotate_left 1
                        · intro w5 hSw
                          go_simp; all_goals (with_reducible rfl)
                        try simp only [Act.put, List.setIfInBounds_toArray, List.set_cons_zero, List.set_cons_succ]
                        refine wpAnyH_done (by kernel_rfl) ?_ _
                        go_wp2_with fail
                        go_meet
                        exact ⟨by rw [hA.out], HT.out.drew⟩
                      | false =>
                        have hn1 := of_decide_eq_false HC3
                        have hA0 := HA0.out
                        rw [if_neg hn1] at hA0
                        have hwp : IntKind.i64.wrap (P - 1) = P - 1 := (IntWalk.i64_left (P - 1)).trans (IntWalk.wrap64_in (P - 1) ⟨by omega, by omega⟩)
                        clear HC3 hn1 HA0
                        by_cases hk : ds.size = 1
                        · have d8 : ((ds.size : Int) == 1) = true := by rw [hk]; rfl
                          have d9 : (ds.size == 1) = true := by rw [hk]; rfl
                          have hA : Hid (A = ds ++ ⟨#[101]⟩ ++ it) := by
                            show _ = _
                            rw [hA0, if_pos hk, ← strOf_app, ← strOf_app, strOf_bs, strOf_bs, strOf_lit [101] #[101] rfl]
                          clear hA0 hk
                          go_upto_region 15 with (fail)
                          refine wp_region_held (S := One w b #[.bool ng, .string ds, .int .i64 x]) (by kernel_rfl) ?_
                          refine wpAnyH_take (i := 0) (oi := { dst := some 64, op := Go.Op.fieldAddr 24 (Go.Operand.tmp 1) 1, type := 0, pos := "ref.go:198", after := #[], guard := none }) (v := ?_) rfl (by kernel_rfl) (by kernel_rfl) (by kernel_rfl) (fun _ _ _ h => h) (Or.inl ⟨by rfl, ?_⟩) (HT.out.drew) ?_
                          rotate_left 1
                          · intro w5 hSw
                            go_simp; all_goals (with_reducible rfl)
                          try simp only [Act.put, List.setIfInBounds_toArray, List.set_cons_zero, List.set_cons_succ]
                          refine wpAnyH_take (i := 1) (oi := { dst := some 65, op := Go.Op.load 9 (Go.Operand.tmp 64), type := 9, pos := "ref.go:198", after := #[{ on := 0, ground := Go.Ground.data }], guard := none }) (v := ?_) rfl (by kernel_rfl) (by kernel_rfl) (by kernel_rfl) (fun _ _ _ h => h) (Or.inl ⟨by rfl, ?_⟩) (HT.out.drew) ?_
                          rotate_left 1
                          · intro w5 hSw
                            have q1 : w5.cell? ⟨b, 1, none⟩ = some (.string ds) := hSw.a.cell 1
                            go_simp; all_goals (with_reducible rfl)
                          try simp only [Act.put, List.setIfInBounds_toArray, List.set_cons_zero, List.set_cons_succ]
                          refine wpAnyH_take (i := 2) (oi := { dst := some 66, op := Go.Op.binOp Go.BinOp.add 9 (Go.Operand.tmp 65) (Go.Operand.const (Go.Value.string { data := #[101] })) 9, type := 9, pos := "ref.go:198", after := #[{ on := 1, ground := Go.Ground.data }], guard := none }) (v := ?_) rfl (by kernel_rfl) (by kernel_rfl) (by kernel_rfl) (fun _ _ _ h => h) (Or.inl ⟨by rfl, ?_⟩) (HT.out.drew) ?_
                          rotate_left 1
                          · intro w5 hSw
                            have ha := add_run ds ⟨#[101]⟩ (by omega) (by decide) w5
                            go_simp; all_goals (with_reducible rfl)
                          try simp only [Act.put, List.setIfInBounds_toArray, List.set_cons_zero, List.set_cons_succ]
                          refine wpAnyH_take (i := 3) (oi := { dst := some 67, op := Go.Op.move (Go.Operand.tmp 4), type := 3, pos := "ref.go:198", after := #[], guard := none }) (v := ?_) rfl (by kernel_rfl) (by kernel_rfl) (by kernel_rfl) (fun _ _ _ h => h) (Or.inl ⟨by rfl, ?_⟩) (HT.out.drew) ?_
                          rotate_left 1
                          · intro w5 hSw
                            go_simp; all_goals (with_reducible rfl)
                          try simp only [Act.put, List.setIfInBounds_toArray, List.set_cons_zero, List.set_cons_succ]
                          refine wpAnyH_take (i := 4) (oi := { dst := some 68, op := Go.Op.binOp Go.BinOp.sub 3 (Go.Operand.tmp 67) (Go.Operand.const (Go.Value.int Go.IntKind.i64 1)) 3, type := 3, pos := "ref.go:198", after := #[{ on := 3, ground := Go.Ground.data }], guard := none }) (v := ?_) rfl (by kernel_rfl) (by kernel_rfl) (by kernel_rfl) (fun _ _ _ h => h) (Or.inl ⟨by rfl, ?_⟩) (HT.out.drew) ?_
                          rotate_left 1
                          · intro w5 hSw
                            go_simp; all_goals (with_reducible rfl)
                          try simp only [Act.put, List.setIfInBounds_toArray, List.set_cons_zero, List.set_cons_succ]
                          refine wpAnyH_ready (rs := [5]) (by kernel_rfl) (by simp) ?_
                          refine (AllReadyH.cons (o := { dst := some 69, op := Go.Op.call { callee := Go.Callee.value (Go.Operand.func 36), args := #[Go.Operand.tmp 68], argTypes := #[3] }, type := 9, pos := "ref.go:198", after := #[{ on := 4, ground := Go.Ground.data }], guard := none }) rfl (fun K hK => ?_) AllReadyH.nil)
                          go_simp
                          refine (hI _).mono ?_; rintro e Y5 ⟨rfl, hb5⟩
                          go_wp2_with fail
                          refine hK.out _ _ (One.step (HT.out.drew) hb5) (fun _ => ?_)
                          clear hK K
                          try simp only [Act.put, List.setIfInBounds_toArray, List.set_cons_zero, List.set_cons_succ]
                          refine wpAnyH_take (i := 6) (oi := { dst := some 70, op := Go.Op.binOp Go.BinOp.add 9 (Go.Operand.tmp 66) (Go.Operand.tmp 69) 9, type := 9, pos := "ref.go:198", after := #[{ on := 2, ground := Go.Ground.data }, { on := 5, ground := Go.Ground.data }], guard := none }) (v := ?_) rfl (by kernel_rfl) (by kernel_rfl) (by kernel_rfl) (fun _ _ _ h => h) (Or.inl ⟨by rfl, ?_⟩) (One.step (HT.out.drew) hb5) ?_
                          rotate_left 1
                          · intro w5 hSw
                            have ha := add_run (ds ++ ⟨#[101]⟩) it (by rw [ByteArray.size_append]; have : (⟨#[101]⟩ : ByteArray).size = 1 := rfl; omega) hit w5
                            go_simp; all_goals (with_reducible rfl)
                          try simp only [Act.put, List.setIfInBounds_toArray, List.set_cons_zero, List.set_cons_succ]
                          refine wpAnyH_take (i := 7) (oi := { dst := some 5, op := Go.Op.assign (Go.Operand.tmp 70), type := 9, pos := "ref.go:198", after := #[{ on := 6, ground := Go.Ground.data }, { on := 5, ground := Go.Ground.chain }, { on := 0, ground := Go.Ground.phase }, { on := 1, ground := Go.Ground.phase }, { on := 2, ground := Go.Ground.phase }, { on := 3, ground := Go.Ground.phase }, { on := 4, ground := Go.Ground.phase }, { on := 5, ground := Go.Ground.phase }, { on := 6, ground := Go.Ground.phase }], guard := none }) (v := ?_) rfl (by kernel_rfl) (by kernel_rfl) (by kernel_rfl) (fun _ _ _ h => h) (Or.inl ⟨by rfl, ?_⟩) (One.step (HT.out.drew) hb5) ?_
                          rotate_left 1
                          · intro w5 hSw
                            go_simp; all_goals (with_reducible rfl)
                          try simp only [Act.put, List.setIfInBounds_toArray, List.set_cons_zero, List.set_cons_succ]
                          refine wpAnyH_done (by kernel_rfl) ?_ _
                          go_wp2_with fail
                          go_meet
                          exact ⟨by rw [hA.out], One.step (HT.out.drew) hb5⟩
                        · have d8 : ((ds.size : Int) == 1) = false := beq_eq_false_iff_ne.mpr (by omega)
                          have d9 : (ds.size == 1) = false := beq_eq_false_iff_ne.mpr hk
                          have hA : Hid (A = ds.extract 0 1 ++ ⟨#[46]⟩ ++ ds.extract 1 ds.size ++ ⟨#[101]⟩ ++ it) := by
                            show _ = _
                            rw [hA0, if_neg hk, ext_take, ext_drop, strOf_lit [46] #[46] rfl, strOf_lit [101] #[101] rfl, strOf_app, strOf_app, strOf_app, ← strOf_bs it, strOf_app, strOf_bs]
                          have hsl0 : (1 : Int) ≤ (ds.size : Int) := by omega
                          clear hA0
                          go_upto_region 16 with (fail)
                          refine wp_region_held (S := One w b #[.bool ng, .string ds, .int .i64 x]) (by kernel_rfl) ?_
                          refine wpAnyH_take (i := 0) (oi := { dst := some 71, op := Go.Op.fieldAddr 24 (Go.Operand.tmp 1) 1, type := 0, pos := "ref.go:200", after := #[], guard := none }) (v := ?_) rfl (by kernel_rfl) (by kernel_rfl) (by kernel_rfl) (fun _ _ _ h => h) (Or.inl ⟨by rfl, ?_⟩) (HT.out.drew) ?_
                          rotate_left 1
                          · intro w5 hSw
                            go_simp; all_goals (with_reducible rfl)
                          try simp only [Act.put, List.setIfInBounds_toArray, List.set_cons_zero, List.set_cons_succ]
                          refine wpAnyH_take (i := 1) (oi := { dst := some 72, op := Go.Op.load 9 (Go.Operand.tmp 71), type := 9, pos := "ref.go:200", after := #[{ on := 0, ground := Go.Ground.data }], guard := none }) (v := ?_) rfl (by kernel_rfl) (by kernel_rfl) (by kernel_rfl) (fun _ _ _ h => h) (Or.inl ⟨by rfl, ?_⟩) (HT.out.drew) ?_
                          rotate_left 1
                          · intro w5 hSw
                            have q1 : w5.cell? ⟨b, 1, none⟩ = some (.string ds) := hSw.a.cell 1
                            go_simp; all_goals (with_reducible rfl)
                          try simp only [Act.put, List.setIfInBounds_toArray, List.set_cons_zero, List.set_cons_succ]
                          refine wpAnyH_take (i := 2) (oi := { dst := some 73, op := Go.Op.slice 9 (Go.Operand.tmp 72) none (some (Go.Operand.const (Go.Value.int Go.IntKind.i64 1))) none, type := 9, pos := "ref.go:200", after := #[{ on := 1, ground := Go.Ground.data }], guard := none }) (v := ?_) rfl (by kernel_rfl) (by kernel_rfl) (by kernel_rfl) (fun _ _ _ h => h) (Or.inl ⟨by rfl, ?_⟩) (HT.out.drew) ?_
                          rotate_left 1
                          · intro w5 hSw
                            go_simp; all_goals (with_reducible rfl)
                          try simp only [Act.put, List.setIfInBounds_toArray, List.set_cons_zero, List.set_cons_succ]
                          refine wpAnyH_take (i := 3) (oi := { dst := some 74, op := Go.Op.binOp Go.BinOp.add 9 (Go.Operand.tmp 73) (Go.Operand.const (Go.Value.string { data := #[46] })) 9, type := 9, pos := "ref.go:200", after := #[{ on := 2, ground := Go.Ground.data }], guard := none }) (v := ?_) rfl (by kernel_rfl) (by kernel_rfl) (by kernel_rfl) (fun _ _ _ h => h) (Or.inl ⟨by rfl, ?_⟩) (HT.out.drew) ?_
                          rotate_left 1
                          · intro w5 hSw
                            have ha := add_run (ds.extract 0 1) ⟨#[46]⟩ (by rw [ext_size ds _ _ (by omega) (by omega)]; omega) (by decide) w5
                            go_simp; all_goals (with_reducible rfl)
                          try simp only [Act.put, List.setIfInBounds_toArray, List.set_cons_zero, List.set_cons_succ]
                          refine wpAnyH_take (i := 4) (oi := { dst := some 75, op := Go.Op.fieldAddr 24 (Go.Operand.tmp 1) 1, type := 0, pos := "ref.go:200", after := #[], guard := none }) (v := ?_) rfl (by kernel_rfl) (by kernel_rfl) (by kernel_rfl) (fun _ _ _ h => h) (Or.inl ⟨by rfl, ?_⟩) (HT.out.drew) ?_
                          rotate_left 1
                          · intro w5 hSw
                            go_simp; all_goals (with_reducible rfl)
                          try simp only [Act.put, List.setIfInBounds_toArray, List.set_cons_zero, List.set_cons_succ]
                          refine wpAnyH_take (i := 5) (oi := { dst := some 76, op := Go.Op.load 9 (Go.Operand.tmp 75), type := 9, pos := "ref.go:200", after := #[{ on := 4, ground := Go.Ground.data }], guard := none }) (v := ?_) rfl (by kernel_rfl) (by kernel_rfl) (by kernel_rfl) (fun _ _ _ h => h) (Or.inl ⟨by rfl, ?_⟩) (HT.out.drew) ?_
                          rotate_left 1
                          · intro w5 hSw
                            have q1 : w5.cell? ⟨b, 1, none⟩ = some (.string ds) := hSw.a.cell 1
                            go_simp; all_goals (with_reducible rfl)
                          try simp only [Act.put, List.setIfInBounds_toArray, List.set_cons_zero, List.set_cons_succ]
                          refine wpAnyH_take (i := 6) (oi := { dst := some 77, op := Go.Op.slice 9 (Go.Operand.tmp 76) (some (Go.Operand.const (Go.Value.int Go.IntKind.i64 1))) none none, type := 9, pos := "ref.go:200", after := #[{ on := 5, ground := Go.Ground.data }], guard := none }) (v := ?_) rfl (by kernel_rfl) (by kernel_rfl) (by kernel_rfl) (fun _ _ _ h => h) (Or.inl ⟨by rfl, ?_⟩) (HT.out.drew) ?_
                          rotate_left 1
                          · intro w5 hSw
                            go_simp; all_goals (with_reducible rfl)
                          try simp only [Act.put, List.setIfInBounds_toArray, List.set_cons_zero, List.set_cons_succ]
                          refine wpAnyH_take (i := 7) (oi := { dst := some 78, op := Go.Op.binOp Go.BinOp.add 9 (Go.Operand.tmp 74) (Go.Operand.tmp 77) 9, type := 9, pos := "ref.go:200", after := #[{ on := 3, ground := Go.Ground.data }, { on := 6, ground := Go.Ground.data }], guard := none }) (v := ?_) rfl (by kernel_rfl) (by kernel_rfl) (by kernel_rfl) (fun _ _ _ h => h) (Or.inl ⟨by rfl, ?_⟩) (HT.out.drew) ?_
                          rotate_left 1
                          · intro w5 hSw
                            have ha := add_run (ds.extract 0 1 ++ ⟨#[46]⟩) (ds.extract 1 ds.size) (by rw [ByteArray.size_append, ext_size ds _ _ (by omega) (by omega)]; have : (⟨#[46]⟩ : ByteArray).size = 1 := rfl; omega) (by rw [ext_size ds _ _ (by omega) (by omega)]; omega) w5
                            go_simp; all_goals (with_reducible rfl)
                          try simp only [Act.put, List.setIfInBounds_toArray, List.set_cons_zero, List.set_cons_succ]
                          refine wpAnyH_take (i := 8) (oi := { dst := some 79, op := Go.Op.binOp Go.BinOp.add 9 (Go.Operand.tmp 78) (Go.Operand.const (Go.Value.string { data := #[101] })) 9, type := 9, pos := "ref.go:200", after := #[{ on := 7, ground := Go.Ground.data }], guard := none }) (v := ?_) rfl (by kernel_rfl) (by kernel_rfl) (by kernel_rfl) (fun _ _ _ h => h) (Or.inl ⟨by rfl, ?_⟩) (HT.out.drew) ?_
                          rotate_left 1
                          · intro w5 hSw
                            have ha := add_run (ds.extract 0 1 ++ ⟨#[46]⟩ ++ ds.extract 1 ds.size) ⟨#[101]⟩ (by rw [ByteArray.size_append, ByteArray.size_append, ext_size ds _ _ (by omega) (by omega), ext_size ds _ _ (by omega) (by omega)]; have : (⟨#[46]⟩ : ByteArray).size = 1 := rfl; omega) (by decide) w5
                            go_simp; all_goals (with_reducible rfl)
                          try simp only [Act.put, List.setIfInBounds_toArray, List.set_cons_zero, List.set_cons_succ]
                          refine wpAnyH_take (i := 9) (oi := { dst := some 80, op := Go.Op.move (Go.Operand.tmp 4), type := 3, pos := "ref.go:200", after := #[], guard := none }) (v := ?_) rfl (by kernel_rfl) (by kernel_rfl) (by kernel_rfl) (fun _ _ _ h => h) (Or.inl ⟨by rfl, ?_⟩) (HT.out.drew) ?_
                          rotate_left 1
                          · intro w5 hSw
                            go_simp; all_goals (with_reducible rfl)
                          try simp only [Act.put, List.setIfInBounds_toArray, List.set_cons_zero, List.set_cons_succ]
                          refine wpAnyH_take (i := 10) (oi := { dst := some 81, op := Go.Op.binOp Go.BinOp.sub 3 (Go.Operand.tmp 80) (Go.Operand.const (Go.Value.int Go.IntKind.i64 1)) 3, type := 3, pos := "ref.go:200", after := #[{ on := 9, ground := Go.Ground.data }], guard := none }) (v := ?_) rfl (by kernel_rfl) (by kernel_rfl) (by kernel_rfl) (fun _ _ _ h => h) (Or.inl ⟨by rfl, ?_⟩) (HT.out.drew) ?_
                          rotate_left 1
                          · intro w5 hSw
                            go_simp; all_goals (with_reducible rfl)
                          try simp only [Act.put, List.setIfInBounds_toArray, List.set_cons_zero, List.set_cons_succ]
                          refine wpAnyH_ready (rs := [11]) (by kernel_rfl) (by simp) ?_
                          refine (AllReadyH.cons (o := { dst := some 82, op := Go.Op.call { callee := Go.Callee.value (Go.Operand.func 36), args := #[Go.Operand.tmp 81], argTypes := #[3] }, type := 9, pos := "ref.go:200", after := #[{ on := 10, ground := Go.Ground.data }], guard := none }) rfl (fun K hK => ?_) AllReadyH.nil)
                          go_simp
                          refine (hI _).mono ?_; rintro e Y11 ⟨rfl, hb11⟩
                          go_wp2_with fail
                          refine hK.out _ _ (One.step (HT.out.drew) hb11) (fun _ => ?_)
                          clear hK K
                          try simp only [Act.put, List.setIfInBounds_toArray, List.set_cons_zero, List.set_cons_succ]
                          refine wpAnyH_take (i := 12) (oi := { dst := some 83, op := Go.Op.binOp Go.BinOp.add 9 (Go.Operand.tmp 79) (Go.Operand.tmp 82) 9, type := 9, pos := "ref.go:200", after := #[{ on := 8, ground := Go.Ground.data }, { on := 11, ground := Go.Ground.data }], guard := none }) (v := ?_) rfl (by kernel_rfl) (by kernel_rfl) (by kernel_rfl) (fun _ _ _ h => h) (Or.inl ⟨by rfl, ?_⟩) (One.step (HT.out.drew) hb11) ?_
                          rotate_left 1
                          · intro w5 hSw
                            have ha := add_run (ds.extract 0 1 ++ ⟨#[46]⟩ ++ ds.extract 1 ds.size ++ ⟨#[101]⟩) it (by rw [ByteArray.size_append, ByteArray.size_append, ByteArray.size_append, ext_size ds _ _ (by omega) (by omega), ext_size ds _ _ (by omega) (by omega)]; have : (⟨#[46]⟩ : ByteArray).size = 1 := rfl; have : (⟨#[101]⟩ : ByteArray).size = 1 := rfl; omega) hit w5
                            go_simp; all_goals (with_reducible rfl)
                          try simp only [Act.put, List.setIfInBounds_toArray, List.set_cons_zero, List.set_cons_succ]
                          refine wpAnyH_take (i := 13) (oi := { dst := some 5, op := Go.Op.assign (Go.Operand.tmp 83), type := 9, pos := "ref.go:200", after := #[{ on := 12, ground := Go.Ground.data }, { on := 11, ground := Go.Ground.chain }, { on := 0, ground := Go.Ground.phase }, { on := 1, ground := Go.Ground.phase }, { on := 2, ground := Go.Ground.phase }, { on := 3, ground := Go.Ground.phase }, { on := 4, ground := Go.Ground.phase }, { on := 5, ground := Go.Ground.phase }, { on := 6, ground := Go.Ground.phase }, { on := 7, ground := Go.Ground.phase }, { on := 8, ground := Go.Ground.phase }, { on := 9, ground := Go.Ground.phase }, { on := 10, ground := Go.Ground.phase }, { on := 11, ground := Go.Ground.phase }, { on := 12, ground := Go.Ground.phase }], guard := none }) (v := ?_) rfl (by kernel_rfl) (by kernel_rfl) (by kernel_rfl) (fun _ _ _ h => h) (Or.inl ⟨by rfl, ?_⟩) (One.step (HT.out.drew) hb11) ?_
                          rotate_left 1
                          · intro w5 hSw
                            go_simp; all_goals (with_reducible rfl)
                          try simp only [Act.put, List.setIfInBounds_toArray, List.set_cons_zero, List.set_cons_succ]
                          refine wpAnyH_done (by kernel_rfl) ?_ _
                          go_wp2_with fail
                          go_meet
                          exact ⟨by rw [hA.out], One.step (HT.out.drew) hb11⟩
          case rest =>
            obtain ⟨rfl, HT2⟩ := hcut
            have z0 : wc.cell? ⟨b, 0, none⟩ = some (.bool ng) := HT2.a.cell 0
            have HK := Lib.hid HT2.k
            have hadd := fun W => add_run ⟨#[45]⟩ A (by decide) (by omega) W
            clear HT HT2 hI HA0 Hc1 Hc2 Hc3 HPe
            cases ng with
            | true =>
              have hT3 : Hid (T = ⟨#[45]⟩ ++ A) := by show _ = _; rw [hT2.out, if_pos rfl]
              clear hT2
              go_wp2_with fail
              go_ret
              exact ⟨by rw [hT3.out]; rfl, HK.out⟩
            | false =>
              have hT3 : Hid (T = A) := by show _ = _; rw [hT2.out, if_neg (by decide)]
              clear hT2
              go_wp2_with fail
              go_ret
              exact ⟨by rw [hT3.out]; rfl, HK.out⟩
end Go.Proofs.YtdbcklabinmgfaaDoor
