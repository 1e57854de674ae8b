/- Layer 16: the reference's Of. -/
import Derived.Test.YtdbcklabinmgfaaDoorOf1
namespace Go.Proofs.YtdbcklabinmgfaaDoor
open Go.RowKit Go.Shelf
set_option linter.unusedVariables false
set_option maxRecDepth 100000

def dzs (m : Nat) : List Nat := if m = 0 then [] else decN m
theorem dzs_step {m : Nat} (h : 0 < m) : dzs m = dzs (m / 10) ++ [48 + m % 10] := by
  unfold dzs
  rw [if_neg (by omega), decN_eq]
  by_cases h10 : m < 10
  · rw [if_pos h10, if_pos (by omega), Nat.mod_eq_of_lt h10]; rfl
  · rw [if_neg h10, if_neg (by omega)]
theorem tmod_cases (m : Int) : ∃ c : Nat, c < 10 ∧ c = m.natAbs % 10 ∧ (m.tmod 10 = (c : Int) ∧ 0 ≤ m ∨ m.tmod 10 = -(c : Int) ∧ m < 0) ∧ (m.tdiv 10).natAbs = m.natAbs / 10 := by
  refine ⟨m.natAbs % 10, Nat.mod_lt _ (by decide), rfl, ?_, ?_⟩
  · by_cases h : 0 ≤ m
    · exact .inl ⟨by rw [Int.tmod_eq_emod_of_nonneg h]; omega, h⟩
    · refine .inr ⟨?_, by omega⟩
      obtain ⟨k, rfl⟩ : ∃ k : Nat, m = -(k : Int) := ⟨m.natAbs, by omega⟩
      rw [Int.neg_tmod, Int.tmod_eq_emod_of_nonneg (by omega)]
      omega
  · rw [Int.natAbs_tdiv]; rfl
set_option maxHeartbeats 16000000 in
theorem rof_any (n e : Int) (w : World) (hn : -9223372036854775808 ≤ n ∧ n < 9223372036854775808) (he : -9223372036854775808 ≤ e ∧ e < 9223372036854775808) :
    Calls Tryd.prog 21 #[.int .i64 n, .int .i64 e] w fun r w' => r = .returned (decV (ofC n e)) ∧ Below w.heap.size w w' := by
  have hsame := ofR_same n e (by omega)
  obtain ⟨R, hR⟩ : ∃ R, R = ofC n e := ⟨_, rfl⟩
  rw [← hR] at hsame ⊢
  have hofl : (ofS n).length ≤ 20 := by
    unfold ofS
    by_cases h0 : n = 0
    · rw [if_pos h0]; exact Nat.zero_le _
    · rw [if_neg h0]; exact decN_len 19 _ (Nat.lt_of_lt_of_le (show n.natAbs < 18446744073709551616 by omega) (by decide))
  have hofs : dzs n.natAbs = ofS n := by
    unfold dzs ofS
    by_cases h0 : n = 0
    · rw [if_pos h0, h0]; rfl
    · rw [if_neg h0, if_neg (by omega)]
  have hof8 : ∀ x ∈ ofS n, x < 256 := fun x hx => by
    unfold ofS at hx
    by_cases h0 : n = 0
    · rw [if_pos h0] at hx; cases hx
    · rw [if_neg h0] at hx; have := isD_range (decN_isd _ x hx); omega
  obtain ⟨F, hF⟩ : ∃ F, F = ofS n := ⟨_, rfl⟩
  rw [← hF] at hsame hofl hofs hof8
  have Hsame := Lib.hid hsame
  have Hofs := Lib.hid hofs
  have Hof8 := Lib.hid hof8
  obtain ⟨b, hb⟩ : ∃ z, z = w.heap.size := ⟨_, rfl⟩
  obtain ⟨X0, hX0⟩ : ∃ z, z = w.alloc (.cells #[.bool false, .string ⟨#[]⟩, .int .i64 0] 24) := ⟨_, rfl⟩
  have hO : One w b #[.bool false, .string ⟨#[]⟩, .int .i64 0] X0 := by rw [hX0, hb]; exact ⟨Whole.new w _ _, (Below.refl _ _).alloc (Nat.le_refl _) _⟩
  have HO := Lib.hid hO
  have HX0 := Lib.hid hX0
  have Hb := Lib.hid hb
  clear hb hX0 hO hsame hofs hof8 hR hF
  go_enter Tryd.func21, Tryd.ntmps21
  go_upto_region 1 with (fail)
  rw [← HX0.out, ← Hb.out]
  clear HX0
  obtain ⟨w0, hw0⟩ : ∃ w0, w0 = X0 := ⟨_, rfl⟩
  go_upto_block 0 with (fail)
  go_cut [5, 6, 7] (fun x5 x6 x7 W => x5 = .string (strOf F) ∧ w0 = W)
  case first =>
    as_aux_lemma =>
      go_wp2_with fail
      go_loopw [5, 6, 7] (fun x5 x6 x7 W => ∃ (m : Int) (L : List Nat), (-9223372036854775808 ≤ m ∧ m < 9223372036854775808) ∧ x6 = .int .i64 m ∧ x5 = .string (strOf L) ∧ L.length ≤ 20 ∧ Hid (dzs m.natAbs ++ L = F) ∧ w0 = W) (fun x5 x6 x7 _ => (intOf x6).natAbs)
      case atStart => exact ⟨n, [], hn, rfl, rfl, Nat.zero_le _, by show _ = _; rw [List.append_nil]; exact Hofs.out, hw0⟩
      case round =>
        obtain ⟨m, L, hm, rfl, rfl, hL, hFm, hw⟩ := hrel
        by_cases hm0 : m = 0
        · have d1 : (m == 0) = true := by rw [hm0]; rfl
          have hFe : Hid (L = F) := by have := hFm.out; rw [hm0] at this; exact this
          subst hm0
          clear hFm
          go_wp2_with fail
          go_meet
          exact ⟨by rw [hFe.out], hw⟩
        · have d1 : (m == 0) = false := beq_eq_false_iff_ne.mpr hm0
          obtain ⟨c, hc10, hcm, hcs, hq⟩ := tmod_cases m
          have hF2 := hFm.out
          rw [dzs_step (by omega), ← hcm, List.append_assoc] at hF2
          have hLl : ((48 + c) :: L).length ≤ 20 := by
            have := congrArg List.length hF2
            rw [List.length_append, List.length_append] at this
            simp only [List.length_cons, List.length_nil] at this ⊢
            omega
          have hF3 : Hid (dzs (m.tdiv 10).natAbs ++ ((48 + c) :: L) = F) := by show _ = _; rw [hq]; exact hF2
          obtain ⟨m2, hm2⟩ : ∃ z, z = m.tdiv 10 := ⟨_, rfl⟩
          have hm2b : -9223372036854775808 ≤ m2 ∧ m2 < 9223372036854775808 := by rw [hm2]; omega
          have hlt : Hid (m2.natAbs < m.natAbs) := by show _ < _; rw [hm2, hq]; omega
          rw [← hm2] at hF3
          have hqe : m.tdiv 10 = m2 := hm2.symm
          have hwq : wrap64 m2 = m2 := IntWalk.wrap64_in _ ⟨by omega, by omega⟩
          obtain ⟨cs, hcse⟩ : ∃ z, z = m.tmod 10 := ⟨_, rfl⟩
          have Hcs : Hid ((cs = (c : Int) ∧ 0 ≤ m) ∨ (cs = -(c : Int) ∧ m < 0)) := by rw [hcse]; exact hcs
          have hcsb : -9 ≤ cs ∧ cs ≤ 9 := by rcases Hcs.out with h | h <;> omega
          have hre : m.tmod 10 = cs := hcse.symm
          clear hFm hF2 hcm hcs hq hm2 hcse
          go_upto_region 5 with (fail)
          go_cut [7, 15, 16] (fun x7 x15 x16 W => x7 = .int .i64 cs ∧ w0 = W)
          case first =>
            as_aux_lemma =>
              go_wp2_with fail
              go_meet
              exact ⟨by first | rfl | (rw [hre]), hw⟩
          case rest =>
            obtain ⟨rfl, hw⟩ := hcut
            clear hre
            go_upto_region 6 with (fail)
            obtain ⟨qn, hqn⟩ : ∃ q, q = decide (cs < 0) := ⟨_, rfl⟩
            go_cut [17, 18] (fun x17 x18 W => x18 = .bool qn ∧ w0 = W)
            case first =>
              as_aux_lemma =>
                go_wp2_with fail
                go_meet
                exact ⟨by rw [hqn], hw⟩
            case rest =>
              obtain ⟨rfl, hw⟩ := hcut
              go_upto_if 18 with (fail)
              go_cut [7, 19, 20] (fun x7 x19 x20 W => x7 = .int .i64 (c : Int) ∧ w0 = W)
              case first =>
                as_aux_lemma =>
                  cases qn with
                  | true =>
                    have h1 := of_decide_eq_true hqn.symm
                    have h2 : Hid (-cs = (c : Int)) := by show _ = _; rcases Hcs.out with h | h <;> omega
                    have hwc : wrap64 (-cs) = -cs := IntWalk.wrap64_in _ ⟨by omega, by omega⟩
                    clear hqn h1
                    go_wp2_with fail
                    go_meet
                    exact ⟨by rw [← h2.out], hw⟩
                  | false =>
                    have h1 := of_decide_eq_false hqn.symm
                    have h2 : Hid (cs = (c : Int)) := by show _ = _; rcases Hcs.out with h | h <;> omega
                    clear hqn h1
                    go_wp2_with fail
                    go_meet
                    exact ⟨by rw [h2.out], hw⟩
              case rest =>
                obtain ⟨rfl, hw⟩ := hcut
                clear hqn Hcs hcsb
                have hsl0 : (c : Int) ≤ (c : Int) + 1 := by omega
                have hsl1 : (c : Int) + 1 ≤ 10 := by omega
                have hk0 : (0 : Int) ≤ (c : Int) := by omega
                have hsl3 : ((c : Int) + 1).toNat = c + 1 := by omega
                have hex := one_digit c hc10
                have hadd := fun W => add_run (strOf [48 + c]) (strOf L) (by rw [strOf_size]; show 1 ≤ 10000000; decide) (by rw [strOf_size]; omega) W
                have happ : Hid (strOf [48 + c] ++ strOf L = strOf ((48 + c) :: L)) := by show _ = _; rw [strOf_app]; rfl
                go_wp2_with fail
                exact ⟨⟨m2, (48 + c) :: L, hm2b, rfl, congrArg Value.string happ.out, hLl, hF3, hw⟩, hlt.out⟩
  case rest =>
    obtain ⟨rfl, hw⟩ := hcut
    rename_i hKK
    obtain rfl := hw
    subst hw0
    refine hKK _ _ ?_
    clear hKK Hofs
    have hT := bs_strOf F Hof8.out
    have htz : tzs F ≤ F.length := tzs_le F
    by_cases h2 : e < -2000 ∨ 2000 < e
    · have hR : Hid (R = zeroD) := by show _ = _; rw [← Hsame.out, if_pos h2]
      have k0 : w0.frozen? ⟨b, 0, none⟩ = false := HO.out.a.frozen 0
      have k1 : w0.frozen? ⟨b, 1, none⟩ = false := HO.out.a.frozen 1
      have k2 : w0.frozen? ⟨b, 2, none⟩ = false := HO.out.a.frozen 2
      have c0 : w0.cell? ⟨b, 0, none⟩ = some (.bool false) := HO.out.a.cell 0
      have c1 : w0.cell? ⟨b, 1, none⟩ = some (.string ⟨#[]⟩) := HO.out.a.cell 1
      have c2 : w0.cell? ⟨b, 2, none⟩ = some (.int .i64 0) := HO.out.a.cell 2
      have hV := set3_whole HO.out.a (.bool false) (.string ⟨#[]⟩) (.int .i64 0)
      have hBV := set3_below HO.out.k (b := b) (by have := Hb.out; omega) (.bool false) (.string ⟨#[]⟩) (.int .i64 0)
      have y0 := hV.cell 0
      have y1 := hV.cell 1
      have y2 := hV.cell 2
      have HV := Lib.hid hV
      have HBV := Lib.hid hBV
      simp only [set3, List.getElem?_toArray, List.getElem?_cons_zero, List.getElem?_cons_succ] at y0 y1 y2
      have Y0 := Lib.hid y0
      have Y1 := Lib.hid y1
      have Y2 := Lib.hid y2
      clear hT htz hV hBV y0 y1 y2 Hsame
      rcases h2 with h2 | h2
      · have d1 : decide (e < -2000) = true := decide_eq_true h2
        go_wp2_with fail
        exact bodyPost_ret (v := .agg #[.bool false, .string ⟨#[]⟩, .int .i64 0]) (by simp [results, Tryd.results21, go_sem, Y0.out, Y1.out, Y2.out]) rfl ⟨by rw [hR.out]; rfl, HBV.out⟩
      · have d1 : decide (e < -2000) = false := decide_eq_false (by omega)
        have d2 : decide (2000 < e) = true := decide_eq_true h2
        go_wp2_with fail
        exact bodyPost_ret (v := .agg #[.bool false, .string ⟨#[]⟩, .int .i64 0]) (by simp [results, Tryd.results21, go_sem, Y0.out, Y1.out, Y2.out]) rfl ⟨by rw [hR.out]; rfl, HBV.out⟩
    · have d1 : decide (e < -2000) = false := decide_eq_false (by omega)
      have d2 : decide (2000 < e) = false := decide_eq_false (by omega)
      have hs := Hsame.out
      rw [if_neg h2] at hs
      have HNm := Lib.hid fun W => norm_any (decide (n < 0)) (strOf F) e W (by rw [strOf_size]; omega) (by omega)
      rw [hT] at HNm
      obtain ⟨⟨⟨rn, rd, re⟩, rN, rc⟩, hG⟩ : ∃ G, G = finD (decide (n < 0)) (stripL (stripR F)) (e + (tzs F : Nat)) 0 := ⟨_, rfl⟩
      rw [← hG] at hs HNm
      simp only at hs
      unfold NormP decV at HNm
      simp only at HNm
      obtain ⟨td, htd⟩ : ∃ t, t = strOf rd := ⟨_, rfl⟩
      rw [← htd] at HNm
      have Hs := Lib.hid hs
      have Htd := Lib.hid htd
      clear hs hG htd hT htz Hsame h2
      go_upto_region 11 with (fail)
      go_wp2_with fail
      refine (HNm.out _).mono ?_
      rintro r X1 ⟨rfl, hb1⟩
      have HO1 := Lib.hid (HO.out.step hb1)
      clear hb1
      obtain ⟨b2, hb2⟩ : ∃ z, z = X1.heap.size := ⟨_, rfl⟩
      go_upto_region 12 with (fail)
      obtain ⟨Y1, hY1⟩ : ∃ z, z = X1.alloc (.cells #[.bool rn, .string td, .int .i64 re] 24) := ⟨_, rfl⟩
      have hW3 : Whole Y1 b2 24 #[.bool rn, .string td, .int .i64 re] := by rw [hY1, hb2]; exact Whole.new X1 _ _
      have hO4 : One w b #[.bool false, .string ⟨#[]⟩, .int .i64 0] Y1 := by rw [hY1]; exact HO1.out.step ((Below.refl _ _).alloc (Nat.le_refl _) _)
      rw [← hY1, ← hb2]
      have z0 : Y1.cell? ⟨b2, 0, none⟩ = some (.bool rn) := hW3.cell 0
      have z1 : Y1.cell? ⟨b2, 1, none⟩ = some (.string td) := hW3.cell 1
      have z2 : Y1.cell? ⟨b2, 2, none⟩ = some (.int .i64 re) := hW3.cell 2
      have k0 : Y1.frozen? ⟨b, 0, none⟩ = false := hO4.a.frozen 0
      have k1 : Y1.frozen? ⟨b, 1, none⟩ = false := hO4.a.frozen 1
      have k2 : Y1.frozen? ⟨b, 2, none⟩ = false := hO4.a.frozen 2
      have c0 : Y1.cell? ⟨b, 0, none⟩ = some (.bool false) := hO4.a.cell 0
      have c1 : Y1.cell? ⟨b, 1, none⟩ = some (.string ⟨#[]⟩) := hO4.a.cell 1
      have c2 : Y1.cell? ⟨b, 2, none⟩ = some (.int .i64 0) := hO4.a.cell 2
      have hV := set3_whole hO4.a (.bool rn) (.string td) (.int .i64 re)
      have hBV := set3_below hO4.k (b := b) (by have := Hb.out; omega) (.bool rn) (.string td) (.int .i64 re)
      have y0 := hV.cell 0
      have y1 := hV.cell 1
      have y2 := hV.cell 2
      have HBV := Lib.hid hBV
      simp only [set3, List.getElem?_toArray, List.getElem?_cons_zero, List.getElem?_cons_succ] at y0 y1 y2
      have Y0' := Lib.hid y0
      have Y1' := Lib.hid y1
      have Y2' := Lib.hid y2
      clear hV hBV y0 y1 y2 hW3 hO4 hY1 hb2 HO HO1 HNm
      go_wp2_with fail
      exact bodyPost_ret (v := .agg #[.bool rn, .string td, .int .i64 re]) (by simp [results, Tryd.results21, go_sem, Y0'.out, Y1'.out, Y2'.out]) rfl ⟨by rw [← Hs.out]; unfold decV; simp only; rw [← Htd.out], HBV.out⟩
end Go.Proofs.YtdbcklabinmgfaaDoor
