/- Layer 16: the reference's Int. -/
import Derived.Test.YtdbcklabinmgfaaDoorInt1
namespace Go.Proofs.YtdbcklabinmgfaaDoor
open Go.RowKit Go.Shelf
set_option linter.unusedVariables false
set_option maxRecDepth 100000

set_option maxHeartbeats 16000000 in
theorem rint_any (ng : Bool) (ds : ByteArray) (x : Int) (w : World) (hs : ds.size ≤ 1000000) :
    Calls Tryd.prog 13 #[.agg #[.bool ng, .string ds, .int .i64 x]] w fun e w' => e = .returned (.tuple #[.int .i64 (intC ng (bs ds) x).1, .bool (intC ng (bs ds) x).2]) ∧ Below w.heap.size w w' := by
  have HRt := Lib.hid fun W => rright_any ng ds x W hs
  have hxr := @rightD_exp (ng, bs ds, x)
  have hdl := @rightD_dig (ng, bs ds, x)
  obtain ⟨I, hI⟩ : ∃ I, I = intC ng (bs ds) x := ⟨_, rfl⟩
  rw [← hI]
  obtain ⟨q, hq⟩ : ∃ q, q = intQ ng (bs ds) x := ⟨_, rfl⟩
  have hq2 := hq
  unfold intQ at hq2
  rw [bs_length] at hq2
  obtain ⟨r, hr⟩ : ∃ r, r = rightD (ng, bs ds, x) := ⟨_, rfl⟩
  rw [← hr] at HRt hq2 hxr hdl
  simp only [bs_length] at hdl
  clear hr
  have HI := Lib.hid hI
  have Hq := Lib.hid hq
  have Hq2 := Lib.hid hq2
  have Hxr := Lib.hid hxr
  have Hdl := Lib.hid hdl
  clear hI hq hq2 hxr hdl
  obtain ⟨b, hb⟩ : ∃ z, z = w.heap.size := ⟨_, rfl⟩
  obtain ⟨X0, hX0⟩ : ∃ z, z = w.alloc (.cells #[.bool ng, .string ds, .int .i64 x] 24) := ⟨_, rfl⟩
  have hO : One w b #[.bool ng, .string ds, .int .i64 x] X0 := by rw [hX0, hb]; exact ⟨Whole.new w _ _, (Below.refl _ _).alloc (Nat.le_refl _) _⟩
  have HT := Lib.hid hO
  have HX0 := Lib.hid hX0
  have Hb := Lib.hid hb
  clear hb hX0 hO
  go_enter Tryd.func13, Tryd.ntmps13
  go_upto_region 1 with (fail)
  rw [← HX0.out, ← Hb.out]
  clear HX0 Hb
  go_cut [6, 7, 8, 9, 10, 11, 12, 13, 14, 15, 16, 17, 18, 19, 20, 21, 22] (fun x6 x7 x8 x9 x10 x11 x12 x13 x14 x15 x16 x17 x18 x19 x20 x21 x22 W => x22 = .bool (!q) ∧ One w b #[.bool ng, .string ds, .int .i64 x] W)
  case first =>
    as_aux_lemma =>
      have e0 : X0.cell? ⟨b, 0, none⟩ = some (.bool ng) := HT.out.a.cell 0
      have e1 : X0.cell? ⟨b, 1, none⟩ = some (.string ds) := HT.out.a.cell 1
      have e2 : X0.cell? ⟨b, 2, none⟩ = some (.int .i64 x) := HT.out.a.cell 2
      cases r with
      | false =>
        obtain rfl : q = false := by rw [Hq2.out]; rfl
        go_wp2_with fail
        refine (HRt.out _).mono ?_
        rintro e Y ⟨rfl, hb⟩
        have HT2 := Lib.hid (HT.out.step hb)
        go_wp2_with fail
        go_meet
        exact ⟨rfl, HT2.out⟩
      | true =>
        have hx := Hxr.out rfl
        simp only at hx
        have hl := (Hdl.out rfl).2
        go_wp2_with fail
        refine (HRt.out _).mono ?_
        rintro e Y ⟨rfl, hb⟩
        have HT2 := Lib.hid (HT.out.step hb)
        have y0 : Y.cell? ⟨b, 0, none⟩ = some (.bool ng) := HT2.out.a.cell 0
        have y1 : Y.cell? ⟨b, 1, none⟩ = some (.string ds) := HT2.out.a.cell 1
        have y2 : Y.cell? ⟨b, 2, none⟩ = some (.int .i64 x) := HT2.out.a.cell 2
        clear hb e0 e1 e2
        by_cases h0 : x < 0
        · have d0 : decide (x < 0) = true := decide_eq_true h0
          obtain rfl : q = false := by rw [Hq2.out, decide_eq_false (show ¬ 0 ≤ x by omega)]; rfl
          go_wp2_with fail
          go_meet
          exact ⟨rfl, HT2.out⟩
        · have d0 : decide (x < 0) = false := decide_eq_false h0
          have hq3 := Hq2.out
          rw [decide_eq_true (show 0 ≤ x by omega), Bool.true_and, Bool.true_and] at hq3
          have hw : wrap64 ((ds.size : Int) + x) = (ds.size : Int) + x := IntWalk.wrap64_in _ ⟨by omega, by omega⟩
          by_cases h19 : 19 < (ds.size : Int) + x
          · have d1 : decide (19 < (ds.size : Int) + x) = true := decide_eq_true h19
            obtain rfl : q = false := by rw [hq3]; exact decide_eq_false (by omega)
            clear hq3
            go_wp2_with fail
            go_meet
            exact ⟨by first | rfl | simp, HT2.out⟩
          · have d1 : decide (19 < (ds.size : Int) + x) = false := decide_eq_false h19
            obtain rfl : q = true := by rw [hq3]; exact decide_eq_true (by omega)
            clear hq3
            go_wp2_with fail
            go_meet
            exact ⟨by first | rfl | simp, HT2.out⟩
  case rest =>
    obtain ⟨rfl, hT1⟩ := hcut
    clear HT HRt Hxr Hdl Hq2
    have HT := Lib.hid hT1
    clear hT1
    cases q with
    | false =>
      have hI2 : Hid (I = (0, false)) := by show _ = _; rw [HI.out]; exact intC_false Hq.out.symm
      clear HI Hq
      go_wp2_with fail
      exact bodyPost_ret (v := .tuple #[.int .i64 0, .bool false]) (by simp [results, Tryd.results13, go_sem]) rfl ⟨by rw [hI2.out], HT.out.k⟩
    | true =>
      have hQ := Hq.out.symm
      have hok := intQ_ok hQ
      have hx0 := hok.x0
      have hp := hok.p
      rw [bs_length] at hp
      obtain ⟨V, hV⟩ : ∃ V, V = intN (bs ds) x := ⟨_, rfl⟩
      have hVlt := hok.lt
      rw [← hV] at hVlt
      obtain ⟨h20, hv20, hd20, hg20⟩ := hok.l20
      obtain ⟨L, hL⟩ : ∃ L, L = l20 (bs ds) x := ⟨_, rfl⟩
      rw [← hL] at h20 hv20 hd20 hg20
      rw [← hV] at hv20
      have HV := Lib.hid hv20
      have Hd := Lib.hid hd20
      have Hg := Lib.hid hg20
      have H20 := Lib.hid h20
      have HIb : Hid (¬ V ≤ 4611686018427387904 → I = (0, false)) := fun h => by rw [HI.out]; exact intC_big (by rw [← hV]; exact h)
      have HIo : Hid (V ≤ 4611686018427387904 → I = (sgI ng (V : Int), true)) := fun h => by rw [HI.out, intC_ok hQ (by rw [← hV]; exact h), ← hV]
      have HAt := Lib.hid fun (p : Int) (W : World) (hp : -1000 ≤ p ∧ p ≤ 1000) => at_any ng ds x p W hs (by omega) (by omega)
      clear HI Hq hQ hok hV h20 hv20 hd20 hg20 hL
      go_wp2_with fail
      go_loopw [4, 5] (fun x4 x5 W => ∃ i n : Nat, i ≤ 20 ∧ x4 = .int .u64 (n : Int) ∧ x5 = .int .i64 (19 - (i : Int)) ∧ Hid (valN n (L.drop i) = V) ∧ Hid (One w b #[.bool ng, .string ds, .int .i64 x] W)) (fun x4 x5 _ => (intOf x5 + 1).toNat)
      case atStart => exact ⟨0, 0, by omega, rfl, rfl, HV.out, HT⟩
      case round =>
        clear HT
        obtain ⟨i, n, hi, rfl, rfl, hF, hO⟩ := hrel
        by_cases hlt : i < 20
        · have d1 : decide ((0 : Int) ≤ 19 - (i : Int)) = true := decide_eq_true (by omega)
          have hF' := hF.out
          have hgi := Hg.out i hlt
          obtain ⟨c, hc⟩ : ∃ c, c = L.getD i 0 := ⟨_, rfl⟩
          rw [drop_head (by rw [H20.out]; exact hlt), valN_cons, ← hc] at hF'
          have hcd := Hd.out c (by rw [hc, getD_lt' 0 (by rw [H20.out]; exact hlt)]; exact List.getElem_mem _)
          rw [← hc] at hgi
          have hge := valN_ge (L.drop (i + 1)) (10 * n + (c - 48))
          rw [hF'] at hge
          obtain ⟨p, hpe⟩ : ∃ p : Int, p = 19 - (i : Int) := ⟨_, rfl⟩
          have HA := Lib.hid fun W => HAt.out p W (by omega)
          rw [← hpe] at hgi ⊢ d1
          rw [← hgi] at HA
          have e0 : wr.cell? ⟨b, 0, none⟩ = some (.bool ng) := hO.out.a.cell 0
          have e1 : wr.cell? ⟨b, 1, none⟩ = some (.string ds) := hO.out.a.cell 1
          have e2 : wr.cell? ⟨b, 2, none⟩ = some (.int .i64 x) := hO.out.a.cell 2
          have hF2 := Lib.hid hF'
          have hcc := Lib.hid hc
          have hpb : 0 ≤ p ∧ p ≤ 19 := by omega
          have Hpe := Lib.hid hpe
          clear hF' hF hgi hc hpe
          go_wp2_with fail
          refine (HA.out _).mono ?_
          rintro e Y ⟨rfl, hb⟩
          have hO2 := Lib.hid (hO.out.step hb)
          clear hb e0 e1 e2
          go_wp2_with fail
          refine ⟨⟨_, _, _, _, _, _, _, _, _, _, _, _, _, ⟨i + 1, 10 * n + (c - 48), by omega, congrArg (Value.int .u64) (by omega), congrArg (Value.int .i64) (by have := Hpe.out; omega), hF2, hO2⟩, rfl⟩, ?_⟩
          have := Hpe.out
          simp [intOf]
          omega
        · obtain rfl : i = 20 := by omega
          have d1 : decide ((0 : Int) ≤ 19 - ((20 : Nat) : Int)) = false := by decide
          have hnV : Hid (n = V) := by
            have hF' := hF.out
            rw [List.drop_eq_nil_of_le (by rw [H20.out]; omega)] at hF'
            exact hF'
          have e0 : wr.cell? ⟨b, 0, none⟩ = some (.bool ng) := hO.out.a.cell 0
          clear hF
          obtain rfl : n = V := hnV.out
          by_cases hbig : n ≤ 4611686018427387904
          · have d1 : decide (4611686018427387904 < (n : Int)) = false := decide_eq_false (by omega)
            have hI2 := Lib.hid (HIo.out hbig)
            cases ng with
            | true =>
              go_wp2_with fail
              exact bodyPost_ret (v := .tuple #[.int .i64 (-(n : Int)), .bool true]) (by simp [results, Tryd.results13, go_sem]) rfl ⟨by rw [hI2.out]; rfl, hO.out.k⟩
            | false =>
              go_wp2_with fail
              exact bodyPost_ret (v := .tuple #[.int .i64 (n : Int), .bool true]) (by simp [results, Tryd.results13, go_sem]) rfl ⟨by rw [hI2.out]; rfl, hO.out.k⟩
          · have d1 : decide (4611686018427387904 < (n : Int)) = true := decide_eq_true (by omega)
            have hI2 := Lib.hid (HIb.out hbig)
            go_wp2_with fail
            exact bodyPost_ret (v := .tuple #[.int .i64 0, .bool false]) (by simp [results, Tryd.results13, go_sem]) rfl ⟨by rw [hI2.out], hO.out.k⟩
end Go.Proofs.YtdbcklabinmgfaaDoor
