/- Layer 16: Right, both sides. -/
import Derived.Test.YtdbcklabinmgfaaDoorDec4
import Derived.Test.YtdbcklabinmgfaaDoorOrdMath
namespace Go.Proofs.YtdbcklabinmgfaaDoor
open Go.RowKit
set_option linter.unusedVariables false
set_option maxRecDepth 100000

theorem bs_zero {ds : ByteArray} (h : ds.size = 0) : bs ds = [] := List.eq_nil_of_length_eq_zero (by rw [bs_length]; exact h)
theorem bs_pos {ds : ByteArray} (h : 0 < ds.size) : bs ds ≠ [] := fun e => by have := bs_length ds; rw [e] at this; simp at this; omega
theorem byteArray_zero {ds : ByteArray} (h : ds.size = 0) : ds = ⟨#[]⟩ := bs_inj (by rw [bs_zero h]; rfl)
theorem rightD_zero (ng : Bool) (x : Int) : rightD (ng, [], x) = (!ng && decide (x = 0)) := by unfold rightD; rw [if_pos rfl]
theorem rightD_some (ng : Bool) {D : List Nat} (x : Int) (h : D ≠ []) : rightD (ng, D, x) = (decide (D.length ≤ 100) && decide (D.getD 0 0 ≠ 48) && decide (D.getD (D.length - 1) 0 ≠ 48) && D.all isD && inR x) := by unfold rightD; rw [if_neg h]
theorem nat_beq (a b : Nat) : (a == b) = decide (a = b) := by by_cases h : a = b; rw [h, decide_eq_true rfl]; exact beq_self_eq_true _; rw [decide_eq_false h]; exact beq_eq_false_iff_ne.mpr h
theorem int_beq' (a b : Nat) : (((a : Int) == (b : Int)) = decide (a = b)) := by
  by_cases h : a = b
  · rw [h, decide_eq_true rfl]; exact beq_self_eq_true _
  · rw [decide_eq_false h]; exact beq_eq_false_iff_ne.mpr (by omega)

set_option maxHeartbeats 8000000 in
theorem right_any (ng : Bool) (ds : ByteArray) (x : Int) (w : World) (hs : ds.size ≤ 1000000) :
    Calls Tryd.prog 14 #[.agg #[.bool ng, .string ds, .int .i64 x]] w fun e w' => e = .returned (.bool (rightD (ng, bs ds, x))) ∧ Below w.heap.size w w' := by
  have HD := Lib.hid digit_any
  have HI := Lib.hid fun W => inRange_any x W
  obtain ⟨R, hR⟩ : ∃ R, R = rightD (ng, bs ds, x) := ⟨_, rfl⟩
  rw [← hR]
  have HR := Lib.hid hR
  obtain ⟨z, hz⟩ : ∃ z, z = decide (ng = false ∧ ds.size = 0 ∧ x = 0) := ⟨_, rfl⟩
  have Hz := Lib.hid hz
  obtain ⟨X0, hX0⟩ : ∃ X0, X0 = w.alloc (.cells #[.bool ng, .string ds, .int .i64 x] 24) := ⟨_, rfl⟩
  obtain ⟨b, hb⟩ : ∃ b, b = w.heap.size := ⟨_, rfl⟩
  have hO : Whole X0 b 24 #[.bool ng, .string ds, .int .i64 x] := by rw [hX0, hb]; exact Whole.new w _ _
  have hB : Below w.heap.size w X0 := by rw [hX0]; exact (Below.refl _ _).alloc (Nat.le_refl _) _
  have HX0 := Lib.hid hX0
  have Hb := Lib.hid hb
  have HB := Lib.hid hB
  have e0 : X0.cell? ⟨b, 0, none⟩ = some (.bool ng) := hO.cell 0
  have e1 : X0.cell? ⟨b, 1, none⟩ = some (.string ds) := hO.cell 1
  have e2 : X0.cell? ⟨b, 2, none⟩ = some (.int .i64 x) := hO.cell 2
  clear hX0 hb hO hB hR hz
  go_enter Tryd.func14, Tryd.ntmps14
  go_upto_region 1 with (fail)
  rw [← HX0.out, ← Hb.out]
  go_cut [5, 6, 7] (fun x5 x6 x7 W => x7 = .bool z ∧ X0 = W)
  case first =>
    as_aux_lemma =>
      cases ng with
      | true =>
        obtain rfl : z = false := by rw [Hz.out]; exact decide_eq_false (fun h => by cases h.1)
        go_wp2_with fail
        go_meet
        exact ⟨rfl, rfl⟩
      | false =>
        by_cases hd : ds.size = 0
        · obtain rfl := byteArray_zero hd
          by_cases hx : x = 0
          · subst hx
            obtain rfl : z = true := by rw [Hz.out]; exact decide_eq_true ⟨rfl, hd, rfl⟩
            go_wp2_with fail
            go_meet
            exact ⟨rfl, rfl⟩
          · obtain rfl : z = false := by rw [Hz.out]; exact decide_eq_false (fun h => hx h.2.2)
            have hx2 : (x == 0) = false := beq_eq_false_iff_ne.mpr hx
            go_wp2_with fail
            go_meet
            exact ⟨rfl, rfl⟩
        · obtain rfl : z = false := by rw [Hz.out]; exact decide_eq_false (fun h => hd h.2.1)
          have hne : ds ≠ ⟨#[]⟩ := fun e => hd (by rw [e]; rfl)
          have n1 := str_beq hne
          have n2 := str_nil hne
          have n3 := str_isEmpty hne
          go_wp2_with fail
          go_meet
          exact ⟨rfl, rfl⟩
  case rest =>
    obtain ⟨rfl, rfl⟩ := hcut
    cases z with
    | true =>
      have hz := of_decide_eq_true Hz.out.symm
      have hR : Hid (R = true) := by show _ = _; rw [HR.out, bs_zero hz.2.1, rightD_zero, hz.1, hz.2.2]; rfl
      clear hz HR
      go_wp2_with fail
      go_ret
      exact ⟨by rw [hR.out]; rfl, HB.out⟩
    | false =>
      have hz := of_decide_eq_false Hz.out.symm
      by_cases hd : ds.size = 0
      · have hR : Hid (R = false) := by
          show _ = _; rw [HR.out, bs_zero hd, rightD_zero]
          cases ng with
          | true => rfl
          | false => by_cases hx : x = 0; exact absurd ⟨rfl, hd, hx⟩ hz; rw [decide_eq_false hx]; rfl
        have d1 : decide ((ds.size : Int) < 1) = true := decide_eq_true (by omega)
        have d2 : decide (ds.size < 1) = true := decide_eq_true (by omega)
        clear hz HR hd
        go_wp2_with fail
        go_ret
        exact ⟨by rw [hR.out]; rfl, HB.out⟩
      · have d1 : decide ((ds.size : Int) < 1) = false := decide_eq_false (by omega)
        have hR := HR.out
        rw [rightD_some _ _ (bs_pos (by omega)), bs_length] at hR
        by_cases h100 : 100 < ds.size
        · have d2 : decide (100 < (ds.size : Int)) = true := decide_eq_true (by omega)
          have hR2 : Hid (R = false) := by show _ = _; rw [hR, decide_eq_false (show ¬ ds.size ≤ 100 by omega)]; rfl
          clear hz HR hR
          go_wp2_with fail
          go_ret
          exact ⟨by rw [hR2.out]; rfl, HB.out⟩
        · have d2 : decide (100 < (ds.size : Int)) = false := decide_eq_false (by omega)
          rw [decide_eq_true (show ds.size ≤ 100 by omega)] at hR
          obtain ⟨c, hc⟩ : ∃ c, (ds[0]'(by omega)).toNat = c := ⟨_, rfl⟩
          have hcl : (bs ds).getD 0 0 = c := by rw [← hc]; exact (bs_get ds 0 (by omega)).symm
          obtain ⟨c2, hc2⟩ : ∃ c, (ds[ds.size - 1]'(by omega)).toNat = c := ⟨_, rfl⟩
          have hcl2 : (bs ds).getD (ds.size - 1) 0 = c2 := by rw [← hc2]; exact (bs_get ds (ds.size - 1) (by omega)).symm
          rw [hcl, hcl2] at hR
          have hk0 : (0 : Int) < (ds.size : Int) := by omega
          have hw : wrap64 ((ds.size : Int) - 1) = ((ds.size - 1 : Nat) : Int) := by rw [IntWalk.wrap64_in _ ⟨by omega, by omega⟩]; omega
          have hk1 : (0 : Int) ≤ ((ds.size - 1 : Nat) : Int) := by omega
          have hk2 : ((ds.size - 1 : Nat) : Int) < (ds.size : Int) := by omega
          obtain ⟨A, hA⟩ : ∃ A, A = (bs ds).all isD := ⟨_, rfl⟩
          rw [← hA] at hR
          by_cases h1 : c = 48
          · have hR2 : Hid (R = false) := by show _ = _; rw [hR, decide_eq_false (show ¬ c ≠ 48 from fun h => h h1)]; simp
            subst h1
            clear hz HR hR hcl hcl2 hA
            go_wp2_with fail
            go_ret
            exact ⟨by rw [hR2.out]; rfl, HB.out⟩
          · have q1 : ((c : Int) == 48) = false := by rw [show (48 : Int) = ((48 : Nat) : Int) from rfl, int_beq']; exact decide_eq_false h1
            have q2 : (c == 48) = false := by rw [nat_beq]; exact decide_eq_false h1
            rw [decide_eq_true h1] at hR
            by_cases h2 : c2 = 48
            · have hR2 : Hid (R = false) := by show _ = _; rw [hR, decide_eq_false (show ¬ c2 ≠ 48 from fun h => h h2)]; simp
              subst h2
              clear hz HR hR hcl hcl2 hA h1
              go_wp2_with fail
              go_ret
              exact ⟨by rw [hR2.out]; rfl, HB.out⟩
            · have q3 : ((c2 : Int) == 48) = false := by rw [show (48 : Int) = ((48 : Nat) : Int) from rfl, int_beq']; exact decide_eq_false h2
              have q4 : (c2 == 48) = false := by rw [nat_beq]; exact decide_eq_false h2
              rw [decide_eq_true h2] at hR
              simp only [Bool.true_and] at hR
              have HR2 := Lib.hid hR
              have HA := Lib.hid hA
              clear hz HR hR hcl hcl2 hA h1 h2
              go_wp2_with fail
              obtain ⟨w0, rfl⟩ : ∃ w0, w0 = X0 := ⟨_, rfl⟩
              go_loopw [4, 32] (fun x4 x X => ∃ k : Nat, k ≤ ds.size ∧ x = .int .i64 (k : Int) ∧ Hid (((bs ds).drop k).all isD = A) ∧ w0 = X) (fun x4 x _ => ds.size - (intOf x).toNat)
              case atStart => exact ⟨0, Nat.zero_le _, rfl, HA.out.symm, rfl⟩
              case round =>
                obtain ⟨k, hks, rfl, hF, rfl⟩ := hrel
                by_cases hlt : k < ds.size
                · have d3 : decide ((k : Int) < (ds.size : Int)) = true := decide_eq_true (by omega)
                  have hk3 : (0 : Int) ≤ (k : Int) := by omega
                  have hk4 : (k : Int) < (ds.size : Int) := by omega
                  obtain ⟨cc, hcc⟩ : ∃ c, (ds[k]'hlt).toNat = c := ⟨_, rfl⟩
                  have hF' := hF.out
                  rw [drop_head (by rw [bs_length]; exact hlt), List.all_cons, ← bs_get ds k hlt, hcc] at hF'
                  cases hd : isD cc with
                  | true =>
                    rw [hd, Bool.true_and] at hF'
                    have hF2 := Lib.hid hF'
                    have HDc : Hid (∀ W, Calls Tryd.prog 32 #[.int .u8 (cc : Int)] W fun e w' => e = .returned (.bool true) ∧ W = w') := by intro W; have := HD.out cc W; rw [hd] at this; exact this
                    clear hd hF hF'
                    go_wp2_with fail
                    refine (HDc.out _).mono ?_
                    rintro e X ⟨rfl, rfl⟩
                    go_wp2_with fail
                    go_roundw
                    case rel => exact ⟨k + 1, by omega, by go_num, hF2, trivial⟩
                    case measure => simp [intOf]; omega
                  | false =>
                    rw [hd, Bool.false_and] at hF'
                    have hR3 : Hid (R = false) := by show _ = _; rw [HR2.out, ← hF']; rfl
                    have HDc : Hid (∀ W, Calls Tryd.prog 32 #[.int .u8 (cc : Int)] W fun e w' => e = .returned (.bool false) ∧ W = w') := by intro W; have := HD.out cc W; rw [hd] at this; exact this
                    clear hd hF hF'
                    go_wp2_with fail
                    refine (HDc.out _).mono ?_
                    rintro e X ⟨rfl, rfl⟩
                    go_wp2_with fail
                    go_ret
                    exact ⟨by rw [hR3.out]; rfl, HB.out⟩
                · obtain rfl : k = ds.size := by omega
                  have hR3 : Hid (R = inR x) := by
                    have hF' := hF.out
                    rw [List.drop_eq_nil_of_le (by rw [bs_length]; omega), List.all_nil] at hF'
                    show _ = _; rw [HR2.out, ← hF', Bool.true_and]
                  clear hF
                  go_wp2_with fail
                  refine (HI.out _).mono ?_
                  rintro e X ⟨rfl, rfl⟩
                  go_wp2_with fail
                  go_ret
                  exact ⟨by rw [hR3.out]; rfl, HB.out⟩
set_option maxHeartbeats 8000000 in
theorem rright_any (ng : Bool) (ds : ByteArray) (x : Int) (w : World) (hs : ds.size ≤ 1000000) :
    Calls Tryd.prog 15 #[.agg #[.bool ng, .string ds, .int .i64 x]] w fun e w' => e = .returned (.bool (rightD (ng, bs ds, x))) ∧ Below w.heap.size w w' := by
  have HD := Lib.hid rdigit_any
  obtain ⟨R, hR⟩ : ∃ R, R = rightD (ng, bs ds, x) := ⟨_, rfl⟩
  rw [← hR]
  have HR := Lib.hid hR
  obtain ⟨X0, hX0⟩ : ∃ X0, X0 = w.alloc (.cells #[.bool ng, .string ds, .int .i64 x] 24) := ⟨_, rfl⟩
  obtain ⟨b, hb⟩ : ∃ b, b = w.heap.size := ⟨_, rfl⟩
  have hO : Whole X0 b 24 #[.bool ng, .string ds, .int .i64 x] := by rw [hX0, hb]; exact Whole.new w _ _
  have hB : Below w.heap.size w X0 := by rw [hX0]; exact (Below.refl _ _).alloc (Nat.le_refl _) _
  have HX0 := Lib.hid hX0
  have Hb := Lib.hid hb
  have HB := Lib.hid hB
  have e0 : X0.cell? ⟨b, 0, none⟩ = some (.bool ng) := hO.cell 0
  have e1 : X0.cell? ⟨b, 1, none⟩ = some (.string ds) := hO.cell 1
  have e2 : X0.cell? ⟨b, 2, none⟩ = some (.int .i64 x) := hO.cell 2
  clear hX0 hb hO hB hR
  go_enter Tryd.func15, Tryd.ntmps15
  go_upto_region 1 with (fail)
  rw [← HX0.out, ← Hb.out]
  clear HX0
  have hR := HR.out
  by_cases hd : ds.size = 0
  · rw [bs_zero hd, rightD_zero] at hR
    have d1 : ((ds.size : Int) == 0) = true := by rw [hd]; rfl
    have d2 : (ds.size == 0) = true := by rw [hd]; rfl
    cases ng with
    | true =>
      have hR2 : Hid (R = false) := by show _ = _; rw [hR]; rfl
      clear hR HR hd
      go_wp2_with fail
      go_ret
      exact ⟨by rw [hR2.out]; rfl, HB.out⟩
    | false =>
      by_cases hx : x = 0
      · have hR2 : Hid (R = true) := by show _ = _; rw [hR, hx]; rfl
        have q1 : (x == 0) = true := by rw [hx]; rfl
        clear hR HR hd hx
        go_wp2_with fail
        go_ret
        exact ⟨by rw [hR2.out]; rfl, HB.out⟩
      · have hR2 : Hid (R = false) := by show _ = _; rw [hR, decide_eq_false hx]; rfl
        have q1 : (x == 0) = false := beq_eq_false_iff_ne.mpr hx
        clear hR HR hd hx
        go_wp2_with fail
        go_ret
        exact ⟨by rw [hR2.out]; rfl, HB.out⟩
  · have d1 : ((ds.size : Int) == 0) = false := beq_eq_false_iff_ne.mpr (by omega)
    have d0 : (ds.size == 0) = false := beq_eq_false_iff_ne.mpr hd
    rw [rightD_some _ _ (bs_pos (by omega)), bs_length] at hR
    by_cases h100 : 100 < ds.size
    · have d2 : decide (100 < (ds.size : Int)) = true := decide_eq_true (by omega)
      have hR2 : Hid (R = false) := by show _ = _; rw [hR, decide_eq_false (show ¬ ds.size ≤ 100 by omega)]; rfl
      clear HR hR
      go_wp2_with fail
      go_ret
      exact ⟨by rw [hR2.out]; rfl, HB.out⟩
    · have d2 : decide (100 < (ds.size : Int)) = false := decide_eq_false (by omega)
      rw [decide_eq_true (show ds.size ≤ 100 by omega)] at hR
      obtain ⟨c, hc⟩ : ∃ c, (ds[0]'(by omega)).toNat = c := ⟨_, rfl⟩
      have hcl : (bs ds).getD 0 0 = c := by rw [← hc]; exact (bs_get ds 0 (by omega)).symm
      obtain ⟨c2, hc2⟩ : ∃ c, (ds[ds.size - 1]'(by omega)).toNat = c := ⟨_, rfl⟩
      have hcl2 : (bs ds).getD (ds.size - 1) 0 = c2 := by rw [← hc2]; exact (bs_get ds (ds.size - 1) (by omega)).symm
      rw [hcl, hcl2] at hR
      have hk0 : (0 : Int) < (ds.size : Int) := by omega
      have hw : wrap64 ((ds.size : Int) - 1) = ((ds.size - 1 : Nat) : Int) := by rw [IntWalk.wrap64_in _ ⟨by omega, by omega⟩]; omega
      have hk1 : (0 : Int) ≤ ((ds.size - 1 : Nat) : Int) := by omega
      have hk2 : ((ds.size - 1 : Nat) : Int) < (ds.size : Int) := by omega
      obtain ⟨A, hA⟩ : ∃ A, A = (bs ds).all isD := ⟨_, rfl⟩
      rw [← hA] at hR
      by_cases h1 : c = 48
      · have hR2 : Hid (R = false) := by show _ = _; rw [hR, decide_eq_false (show ¬ c ≠ 48 from fun h => h h1)]; simp
        subst h1
        clear HR hR hcl hcl2 hA
        go_wp2_with fail
        go_ret
        exact ⟨by rw [hR2.out]; rfl, HB.out⟩
      · have q1 : ((c : Int) == 48) = false := by rw [show (48 : Int) = ((48 : Nat) : Int) from rfl, int_beq']; exact decide_eq_false h1
        have q2 : (c == 48) = false := by rw [nat_beq]; exact decide_eq_false h1
        rw [decide_eq_true h1] at hR
        by_cases h2 : c2 = 48
        · have hR2 : Hid (R = false) := by show _ = _; rw [hR, decide_eq_false (show ¬ c2 ≠ 48 from fun h => h h2)]; simp
          subst h2
          clear HR hR hcl hcl2 hA h1
          go_wp2_with fail
          go_ret
          exact ⟨by rw [hR2.out]; rfl, HB.out⟩
        · have q3 : ((c2 : Int) == 48) = false := by rw [show (48 : Int) = ((48 : Nat) : Int) from rfl, int_beq']; exact decide_eq_false h2
          have q4 : (c2 == 48) = false := by rw [nat_beq]; exact decide_eq_false h2
          rw [decide_eq_true h2] at hR
          simp only [Bool.true_and] at hR
          by_cases x1 : x < -1000
          · have x2 : decide (x < -1000) = true := decide_eq_true x1
            have hR2 : Hid (R = false) := by show _ = _; rw [hR]; unfold inR; rw [decide_eq_false (show ¬ (-1000 ≤ x ∧ x ≤ 1000) by omega), Bool.and_false]
            clear HR hR hcl hcl2 hA h1 h2 x1
            go_wp2_with fail
            go_ret
            exact ⟨by rw [hR2.out]; rfl, HB.out⟩
          · have x2 : decide (x < -1000) = false := decide_eq_false x1
            by_cases x3 : 1000 < x
            · have x4 : decide (1000 < x) = true := decide_eq_true x3
              have hR2 : Hid (R = false) := by show _ = _; rw [hR]; unfold inR; rw [decide_eq_false (show ¬ (-1000 ≤ x ∧ x ≤ 1000) by omega), Bool.and_false]
              clear HR hR hcl hcl2 hA h1 h2 x1 x3
              go_wp2_with fail
              go_ret
              exact ⟨by rw [hR2.out]; rfl, HB.out⟩
            · have x4 : decide (1000 < x) = false := decide_eq_false x3
              have HR2 : Hid (R = A) := by show _ = _; rw [hR]; unfold inR; rw [decide_eq_true (show -1000 ≤ x ∧ x ≤ 1000 by omega), Bool.and_true]
              have HA := Lib.hid hA
              clear HR hR hcl hcl2 hA h1 h2 x1 x3
              go_wp2_with fail
              obtain ⟨w0, rfl⟩ : ∃ w0, w0 = X0 := ⟨_, rfl⟩
              go_loopw [4] (fun x X => ∃ k : Nat, k ≤ ds.size ∧ x = .int .i64 (k : Int) ∧ Hid (((bs ds).drop k).all isD = A) ∧ w0 = X) (fun x _ => ds.size - (intOf x).toNat)
              case atStart => exact ⟨0, Nat.zero_le _, rfl, HA.out.symm, rfl⟩
              case round =>
                obtain ⟨k, hks, rfl, hF, rfl⟩ := hrel
                by_cases hlt : k < ds.size
                · have d3 : decide ((k : Int) < (ds.size : Int)) = true := decide_eq_true (by omega)
                  have hk3 : (0 : Int) ≤ (k : Int) := by omega
                  have hk4 : (k : Int) < (ds.size : Int) := by omega
                  obtain ⟨cc, hcc⟩ : ∃ c, (ds[k]'hlt).toNat = c := ⟨_, rfl⟩
                  have hF' := hF.out
                  rw [drop_head (by rw [bs_length]; exact hlt), List.all_cons, ← bs_get ds k hlt, hcc] at hF'
                  cases hd : isD cc with
                  | true =>
                    rw [hd, Bool.true_and] at hF'
                    have hF2 := Lib.hid hF'
                    have HDc : Hid (∀ W, Calls Tryd.prog 33 #[.int .u8 (cc : Int)] W fun e w' => e = .returned (.bool true) ∧ W = w') := by intro W; have := HD.out cc W; rw [hd] at this; exact this
                    clear hd hF hF'
                    go_wp2_with fail
                    refine (HDc.out _).mono ?_
                    rintro e X ⟨rfl, rfl⟩
                    go_wp2_with fail
                    go_roundw
                    case rel => exact ⟨k + 1, by omega, by go_num, hF2, trivial⟩
                    case measure => simp [intOf]; omega
                  | false =>
                    rw [hd, Bool.false_and] at hF'
                    have hR3 : Hid (R = false) := by show _ = _; rw [HR2.out, ← hF']
                    have HDc : Hid (∀ W, Calls Tryd.prog 33 #[.int .u8 (cc : Int)] W fun e w' => e = .returned (.bool false) ∧ W = w') := by intro W; have := HD.out cc W; rw [hd] at this; exact this
                    clear hd hF hF'
                    go_wp2_with fail
                    refine (HDc.out _).mono ?_
                    rintro e X ⟨rfl, rfl⟩
                    go_wp2_with fail
                    go_ret
                    exact ⟨by rw [hR3.out]; rfl, HB.out⟩
                · obtain rfl : k = ds.size := by omega
                  have hR3 : Hid (R = true) := by
                    have hF' := hF.out
                    rw [List.drop_eq_nil_of_le (by rw [bs_length]; omega), List.all_nil] at hF'
                    show _ = _; rw [HR2.out, ← hF']
                  clear hF
                  go_wp2_with fail
                  go_ret
                  exact ⟨by rw [hR3.out]; rfl, HB.out⟩
end Go.Proofs.YtdbcklabinmgfaaDoor
