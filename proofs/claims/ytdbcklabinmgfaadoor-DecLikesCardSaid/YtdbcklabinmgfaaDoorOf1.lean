/- Layer 16: Of. -/
import Derived.Test.YtdbcklabinmgfaaDoorFmtU
import Derived.Test.YtdbcklabinmgfaaDoorOfMath
namespace Go.Proofs.YtdbcklabinmgfaaDoor
open Go.RowKit Go.Shelf
set_option linter.unusedVariables false
set_option maxRecDepth 100000

theorem inR_wrap (e : Int) (z : Nat) (he : -9223372036854775808 ≤ e ∧ e < 9223372036854775808) (hz : z ≤ 20) : inR (wrap64 (e + z)) = inR (e + z) ∧ (inR (e + z) = true → wrap64 (e + z) = e + z) := by
  have hw : wrap64 (e + z) = e + z ∨ (wrap64 (e + z) = e + z - 18446744073709551616 ∧ 9223372036854775808 ≤ e + z) := by unfold wrap64; omega
  rcases hw with h | ⟨h, h2⟩
  · rw [h]; exact ⟨rfl, fun _ => rfl⟩
  · have h3 : inR (e + z) = false := decide_eq_false (by omega)
    have h4 : inR (wrap64 (e + z)) = false := decide_eq_false (by omega)
    rw [h3, h4]
    exact ⟨rfl, fun h => by cases h⟩
theorem dec_str (m : Nat) : (⟨(Lib.decDigits m).toArray⟩ : ByteArray) = strOf (decN m) := by unfold decN; exact (strOf_mk _).symm
theorem trim_any (m : Nat) (hm : m < 18446744073709551616) (w : World) : Calls Tryd.prog 24 #[.string (strOf (decN m)), .string ⟨#[48]⟩] w fun e w' => e = .returned (.string (strOf (stripR (decN m)))) ∧ w = w' := by
  have hl := decN_len 19 m (Nat.lt_of_lt_of_le hm (by decide))
  have h := Any.strings_TrimRight_one Tryd.laysTrimR (strOf (decN m)) 48 (by decide) w (by rw [strOf_size]; omega)
  rw [trimR_str (decN m) (fun x hx => by have := isD_range (decN_isd m x hx); omega)] at h
  exact h.mono fun _ _ h => ⟨h.1, h.2.symm⟩
set_option maxHeartbeats 8000000 in
theorem of_any (n e : Int) (w : World) (ht : Tab w) (hn : -9223372036854775808 ≤ n ∧ n < 9223372036854775808) (he : -9223372036854775808 ≤ e ∧ e < 9223372036854775808) :
    Calls Tryd.prog 20 #[.int .i64 n, .int .i64 e] w fun r w' => r = .returned (decV (ofC n e)) ∧ Below w.heap.size w w' := by
  obtain ⟨u, hu⟩ : ∃ u, u = n.natAbs := ⟨_, rfl⟩
  have hu64 : u < 18446744073709551616 := by omega
  have hzl := ofZ_le u hu64
  obtain ⟨all, hall⟩ : ∃ s, s = strOf (decN u) := ⟨_, rfl⟩
  obtain ⟨dg, hdg⟩ : ∃ s, s = strOf (stripR (decN u)) := ⟨_, rfl⟩
  have HTr := Lib.hid fun W => trim_any u hu64 W
  rw [← hall, ← hdg] at HTr
  have hTB := Lib.tabBelow_of_tabIs ht
  have HF : Hid (∀ W, Below w.heap.size w W → Calls Tryd.prog 41 #[.int .u64 (u : Int), .int .i64 10] W fun e w' => e = .returned (.string all) ∧ Below W.heap.size W w') := fun W hW => by rw [hall, ← dec_str]; exact fmtu_any u hu64 W (hTB W hW)
  obtain ⟨z, hz⟩ : ∃ z, z = ofZ u := ⟨_, rfl⟩
  have hz20 : z ≤ 20 := by omega
  have hlen : decN u = [] ∨ True := .inr trivial
  have hallsz : all.size = (decN u).length := by rw [hall, strOf_size]
  have hdgsz : dg.size = (stripR (decN u)).length := by rw [hdg, strOf_size]
  have hzz : (all.size : Int) - (dg.size : Int) = (z : Int) := by
    have := stripR_le (decN u)
    rw [hallsz, hdgsz, hz]
    unfold ofZ
    omega
  have hal20 : all.size ≤ 20 := by rw [hallsz]; exact decN_len 19 u (Nat.lt_of_lt_of_le hu64 (by decide))
  have hdg20 : dg.size ≤ 20 := by rw [hdgsz]; omega
  obtain ⟨hi1, hi2⟩ := inR_wrap e z he hz20
  obtain ⟨R, hR⟩ : ∃ R, R = ofC n e := ⟨_, rfl⟩
  rw [← hR]
  unfold ofC at hR
  rw [← hu, ← hz] at hR
  obtain ⟨e1, he1⟩ : ∃ e1, e1 = wrap64 (e + (z : Int)) := ⟨_, rfl⟩
  rw [← he1] at hi1 hi2
  have HIn := Lib.hid fun W => inRange_any e1 W
  have HR := Lib.hid hR
  have Hdg := Lib.hid hdg
  have Hu := Lib.hid hu
  have Hi1 := Lib.hid hi1
  have Hi2 := Lib.hid hi2
  have Hzz := Lib.hid hzz
  have He1 := Lib.hid he1
  obtain ⟨b, hb⟩ : ∃ z, z = w.heap.size := ⟨_, rfl⟩
  obtain ⟨X0, hX0⟩ : ∃ z, z = w.alloc (.cells #[.bool false, .string ⟨#[]⟩, .int .i64 0] 24) := ⟨_, rfl⟩
  have hO : One w b #[.bool false, .string ⟨#[]⟩, .int .i64 0] X0 := by rw [hX0, hb]; exact ⟨Whole.new w _ _, (Below.refl _ _).alloc (Nat.le_refl _) _⟩
  have HO := Lib.hid hO
  have HX0 := Lib.hid hX0
  have Hb := Lib.hid hb
  clear hb hX0 hO hu hzl hall hdg hTB hz hlen hallsz hdgsz hzz hi1 hi2 hR he1
  go_enter Tryd.func20, Tryd.ntmps20
  go_upto_region 1 with (fail)
  rw [← HX0.out, ← Hb.out]
  clear HX0
  obtain ⟨w0, hw0⟩ : ∃ w0, w0 = X0 := ⟨_, rfl⟩
  obtain ⟨q0, hq0⟩ : ∃ q, q = decide (n < 0) := ⟨_, rfl⟩
  obtain ⟨v, hv⟩ : ∃ v : Int, v = IntKind.u64.wrap n := ⟨_, rfl⟩
  go_cut [5, 9, 10] (fun x5 x9 x10 W => x5 = .int .u64 v ∧ w0 = W)
  case first =>
    as_aux_lemma =>
      go_wp2_with fail
      go_meet
      exact ⟨by rw [hv], hw0⟩
  case rest =>
    obtain ⟨rfl, rfl⟩ := hcut
    subst hw0
    go_upto_region 2 with (fail)
    obtain ⟨w0, hw0⟩ : ∃ z, z = w0 := ⟨_, rfl⟩
    go_cut [11, 12] (fun x11 x12 W => x12 = .bool q0 ∧ w0 = W)
    case first =>
      as_aux_lemma =>
        go_wp2_with fail
        go_meet
        exact ⟨by rw [hq0], hw0⟩
    case rest =>
      obtain ⟨rfl, rfl⟩ := hcut
      subst hw0
      go_upto_if 12 with (fail)
      obtain ⟨w0, hw0⟩ : ∃ z, z = w0 := ⟨_, rfl⟩
      go_cut [5, 13, 14] (fun x5 x13 x14 W => x5 = .int .u64 (u : Int) ∧ w0 = W)
      case first =>
        as_aux_lemma =>
          cases q0 with
          | true =>
            have hneg := of_decide_eq_true hq0.symm
            have hvu : Hid (IntKind.u64.wrap (-v) = (u : Int)) := by show _ = _; rw [hv, IntKind.wrap_u64, IntKind.wrap_u64, Hu.out]; omega
            clear hv hq0
            go_wp2_with fail
            go_meet
            exact ⟨by rw [hvu.out], hw0⟩
          | false =>
            have hpos := of_decide_eq_false hq0.symm
            have hvu : Hid (v = (u : Int)) := by show _ = _; rw [hv, IntKind.wrap_u64, Hu.out]; omega
            clear hv hq0
            go_wp2_with fail
            go_meet
            exact ⟨by rw [hvu.out], hw0⟩
      case rest =>
        obtain ⟨rfl, rfl⟩ := hcut
        subst hw0
        clear hv
        go_upto_region 4 with (fail)
        go_wp2_with fail
        refine (HF.out _ HO.out.k).mono ?_
        rintro r X1 ⟨rfl, hb1⟩
        have HO1 := Lib.hid (HO.out.step hb1)
        clear hb1
        go_upto_region 5 with (fail)
        go_wp2_with fail
        refine (HTr.out _).mono ?_
        rintro r X2 ⟨rfl, rfl⟩
        go_upto_region 6 with (fail)
        obtain ⟨w0, hw0⟩ : ∃ z, z = X1 := ⟨_, rfl⟩
        go_cut [8, 19, 20, 21, 22, 23] (fun x8 x19 x20 x21 x22 x23 W => x8 = .int .i64 (z : Int) ∧ w0 = W)
        case first =>
          as_aux_lemma =>
            go_wp2_with fail
            go_meet
            exact ⟨by rw [← Hzz.out], hw0⟩
        case rest =>
          obtain ⟨rfl, rfl⟩ := hcut
          subst hw0
          go_upto_region 7 with (fail)
          obtain ⟨w0, hw0⟩ : ∃ z, z = w0 := ⟨_, rfl⟩
          obtain ⟨q, hq⟩ : ∃ q, q = decide (n = 0 ∨ inR (e + (z : Int)) = false) := ⟨_, rfl⟩
          go_cut [24, 25, 26, 27, 28, 29, 30, 31, 32] (fun x24 x25 x26 x27 x28 x29 x30 x31 x32 W => x32 = .bool q ∧ w0 = W)
          case first =>
            as_aux_lemma =>
              have hew : Hid (wrap64 (e + (z : Int)) = e1) := He1.out.symm
              by_cases hn0 : n = 0
              · have d1 : (n == 0) = true := by rw [hn0]; rfl
                obtain rfl : q = true := by rw [hq]; exact decide_eq_true (.inl hn0)
                subst hn0
                clear hq
                go_wp2_with fail
                go_meet
                exact ⟨rfl, hw0⟩
              · have d1 : (n == 0) = false := beq_eq_false_iff_ne.mpr hn0
                have hqi : Hid (q = !(inR e1)) := by
                  show _ = _
                  rw [hq, Hi1.out]
                  cases hc : inR (e + (z : Int)) with
                  | true => exact decide_eq_false (by simp [hn0])
                  | false => exact decide_eq_true (.inr rfl)
                have hew2 := hew.out
                clear hq hn0
                go_wp2_with fail
                refine (HIn.out _).mono ?_
                rintro r X3 ⟨rfl, rfl⟩
                go_wp2_with fail
                go_meet
                exact ⟨by rw [hqi.out], hw0⟩
          case rest =>
            obtain ⟨rfl, rfl⟩ := hcut
            subst hw0
            have k0 : w0.frozen? ⟨b, 0, none⟩ = false := HO1.out.a.frozen 0
            have k1 : w0.frozen? ⟨b, 1, none⟩ = false := HO1.out.a.frozen 1
            have k2 : w0.frozen? ⟨b, 2, none⟩ = false := HO1.out.a.frozen 2
            have c0 : w0.cell? ⟨b, 0, none⟩ = some (.bool false) := HO1.out.a.cell 0
            have c1 : w0.cell? ⟨b, 1, none⟩ = some (.string ⟨#[]⟩) := HO1.out.a.cell 1
            have c2 : w0.cell? ⟨b, 2, none⟩ = some (.int .i64 0) := HO1.out.a.cell 2
            cases q with
            | true =>
              have hR2 : Hid (R = zeroD) := by show _ = _; rw [HR.out, if_pos (of_decide_eq_true hq.symm)]
              clear hq HR
              go_wp2_with fail
              have hV := set3_whole HO1.out.a (.bool false) (.string ⟨#[]⟩) (.int .i64 0)
              have hBV := set3_below HO1.out.k (b := b) (by have := Hb.out; omega) (.bool false) (.string ⟨#[]⟩) (.int .i64 0)
              have y0 := hV.cell 0
              have y1 := hV.cell 1
              have y2 := hV.cell 2
              simp only [set3, List.getElem?_toArray, List.getElem?_cons_zero, List.getElem?_cons_succ] at y0 y1 y2
              exact bodyPost_ret (v := .agg #[.bool false, .string ⟨#[]⟩, .int .i64 0]) (by simp [results, Tryd.results20, go_sem, y0, y1, y2]) rfl ⟨by rw [hR2.out]; rfl, hBV⟩
            | false =>
              have hq2 := of_decide_eq_false hq.symm
              have hi : inR (e + (z : Int)) = true := by cases hc : inR (e + (z : Int)) with | true => rfl | false => exact absurd (.inr hc) hq2
              have hew : wrap64 (e + (z : Int)) = e1 := He1.out.symm
              have he1z := Hi2.out hi
              have hR2 : Hid (R = (q0, stripR (decN u), e1)) := by show _ = _; rw [HR.out, if_neg hq2, hq0, he1z]
              have Hq0 : Hid (decide (n < 0) = q0) := hq0.symm
              clear hq hq2 HR hi he1z hq0
              go_upto_region 9 with (fail)
              obtain ⟨W3, hW3⟩ : ∃ W3, W3 = set3 w0 b (.bool q0) (.string dg) (.int .i64 e1) := ⟨_, rfl⟩
              have HW3 := Lib.hid hW3
              clear hW3
              go_cut [34, 35, 36, 37, 38, 39, 40] (fun x34 x35 x36 x37 x38 x39 x40 W => W3 = W)
              case first =>
                as_aux_lemma =>
                  have hq0 := Hq0.out
                  go_wp2_with fail
                  go_meet
                  exact HW3.out
              case rest =>
                obtain rfl := hcut
                have hV := set3_whole HO1.out.a (.bool q0) (.string dg) (.int .i64 e1)
                have hBV := set3_below HO1.out.k (b := b) (by have := Hb.out; omega) (.bool q0) (.string dg) (.int .i64 e1)
                rw [← HW3.out] at hV hBV
                have HBV := Lib.hid hBV
                have y0 : W3.cell? ⟨b, 0, none⟩ = some (.bool q0) := hV.cell 0
                have y1 : W3.cell? ⟨b, 1, none⟩ = some (.string dg) := hV.cell 1
                have y2 : W3.cell? ⟨b, 2, none⟩ = some (.int .i64 e1) := hV.cell 2
                clear hV hBV k0 k1 k2 c0 c1 c2
                go_wp2_with fail
                exact bodyPost_ret (v := .agg #[.bool q0, .string dg, .int .i64 e1]) (by simp [results, Tryd.results20, go_sem, y0, y1, y2]) rfl ⟨by rw [hR2.out]; unfold decV; simp only; rw [← Hdg.out], HBV.out⟩
end Go.Proofs.YtdbcklabinmgfaaDoor
