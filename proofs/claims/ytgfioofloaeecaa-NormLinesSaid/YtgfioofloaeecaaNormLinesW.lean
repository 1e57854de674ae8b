/- Walks over layer 26: the law of lines. -/
import Derived.Test.YtgfioofloaeecaaNormLines
namespace Go.Proofs.Ytgfioofloaeecaa
open Go.RowKit
set_option linter.unusedVariables false
set_option maxRecDepth 100000

theorem linesP_len (rr : List (List P2)) : (linesP rr).length ≤ rr.length := by
  unfold linesP
  have := List.length_filter_le (fun l : List P2 => decide (2 ≤ l.length)) (rr.map fun l => simpleE l false)
  simpa using this
theorem linesP_mem {rr : List (List P2)} (h : ∀ l ∈ rr, l.length ≤ 1000) : ∀ l ∈ linesP rr, l.length ≤ 1000 := fun l hl => by
  unfold linesP at hl
  have h1 := (List.mem_filter.1 hl).1
  obtain ⟨p, hp, rfl⟩ := List.mem_map.1 h1
  exact simpleE_len p false (h p hp)

set_option maxHeartbeats 16000000 in
theorem normLines_walk (v : Value) (w : World) (hv : ∃ ll, RdSS w w.heap.size v ll) :
    Calls Try.prog 4 #[v] w fun e w' => e = .returned (.bool true) ∧ Below w.heap.size w w' := by
  obtain ⟨i0, hi0, hz0, hz1, hz2⟩ := info_parts ppinfo
  obtain ⟨ll, hvl⟩ := hv
  have Hl := Lib.hid live26_any
  have HV := Lib.hid hvl
  obtain ⟨a0, c0, rfl, _, _, ha⟩ := hvl.at
  clear hvl
  by_cases h1 : 20 < ll.length
  · have d1 : decide ((20 : Int) < (ll.length : Int)) = true := decide_eq_true (by omega)
    have d2 : decide (20 < ll.length) = true := decide_eq_true (by omega)
    clear ha
    go_enter Try.func4, Try.ntmps4
    go_wp2_with fail
    refine (Hl.out _).mono ?_
    rintro e X ⟨rfl, hX⟩
    have HX := Lib.hid hX
    clear hX
    go_wp2_with fail
    go_ret
    exact ⟨rfl, HX.out⟩
  · have d1 : decide ((20 : Int) < (ll.length : Int)) = false := decide_eq_false (by omega)
    have d2 : decide (20 < ll.length) = false := decide_eq_false (by omega)
    obtain ⟨L0, hL0⟩ : ∃ L, L = ll.length := ⟨_, rfl⟩
    obtain ⟨rr, hrr⟩ : ∃ rr, (ll.map fun l => l.map rzS) = rr := ⟨_, rfl⟩
    have HA := Lib.hid ha
    have HL := Lib.hid hL0
    have Hrr := Lib.hid hrr
    rw [← hL0] at h1 d1 d2 HV ⊢
    clear hL0 ha hrr
    go_enter Try.func4, Try.ntmps4
    go_wp2_with fail
    go_loopw [4, 3] (fun i u W => ∃ (k : Nat) (m : List (List P2)) (v : Value), k ≤ L0 ∧ i = .int .i64 (k : Int) ∧ v = u ∧ Hid (OwnPP W w.heap.size v m) ∧ m.length ≤ k ∧ Hid (Below w.heap.size w W) ∧ Hid (m ++ (ll.drop k).map (fun l => l.map rzS) = rr) ∧ Hid (∀ j (h : j < ll.length), j < k → (ll[j]).length ≤ 60)) (fun i _ _ => L0 - (intOf i).toNat)
    case atStart => exact ⟨0, [], _, Nat.zero_le _, rfl, rfl, OwnPP.nil_ _ _, Nat.le_refl _, Below.refl _ _, Hrr.out, Lib.hid (fun j h h2 => absurd h2 (by omega))⟩
    case round =>
      obtain ⟨k, m, v, hk, rfl, rfl, HO, hm, HBW, hs, H60⟩ := hrel
      by_cases hlt : k < L0
      · have hkl : k < ll.length := by have := HL.out; omega
        have hdr : ll.drop k = ll[k] :: ll.drop (k + 1) := List.drop_eq_getElem_cons hkl
        obtain ⟨b1, o1, u1, rfl, hb1, p0, hr1⟩ := HA.out k hkl
        have hs2 := hs.out
        rw [hdr] at hs2
        have h60 : (ll[k]).length ≤ 60 → ∀ j (h : j < ll.length), j < k + 1 → (ll[j]).length ≤ 60 := fun h0 j h h2 => by
          rcases Nat.lt_or_eq_of_le (Nat.le_of_lt_succ h2) with h3 | h3
          · exact H60.out j h h3
          · subst h3; exact h0
        generalize ll[k]'hkl = l at *
        have p0 := (HBW.out.cell (p := ⟨b1, o1 + k, none⟩) hb1).trans p0
        have Hnx : Hid ((m ++ [l.map rzS]) ++ (ll.drop (k + 1)).map (fun l => l.map rzS) = rr) := by show _ = _; rw [← hs2]; simp
        have hk0 : (0 : Int) ≤ (k : Int) := by omega
        have hk1 : (k : Int) < (L0 : Int) := by omega
        have Hm := Lib.hid hm
        have HR1 := Lib.hid hr1
        obtain ⟨a1, c1, rfl, _, _, _, _⟩ := hr1
        obtain ⟨M, hM⟩ : ∃ M, l.length = M := ⟨_, rfl⟩
        rw [hM] at p0 HR1 h60
        have HM := Lib.hid hM
        clear hs hs2 hdr hm hb1 hM
        by_cases hbig : 60 < M
        · have e1 : decide ((60 : Int) < (M : Int)) = true := decide_eq_true (by omega)
          have e2 : decide (60 < M) = true := decide_eq_true hbig
          clear h60 hbig
          go_wp2_with fail
          refine (Hl.out _).mono ?_
          rintro e X ⟨rfl, hX⟩
          have HX := Lib.hid (below_then HBW.out hX HBW.out.size)
          clear hX
          go_wp2_with fail
          go_ret
          exact ⟨rfl, HX.out⟩
        · have e1 : decide ((60 : Int) < (M : Int)) = false := decide_eq_false (by omega)
          have e2 : decide (60 < M) = false := decide_eq_false hbig
          have H60n := Lib.hid (h60 (by omega))
          have Hq := Lib.hid (rroundS_any (.slice a1 M c1) l wr ((HR1.out.below HBW.out).more HBW.out.size) (by have := HM.out; omega) _ rfl)
          have HMl : Hid ((l.map rzS).length ≤ 1000) := by show _ ≤ _; rw [List.length_map, HM.out]; omega
          obtain ⟨r, hr⟩ : ∃ r, l.map rzS = r := ⟨_, rfl⟩
          rw [hr] at Hnx Hq HMl
          clear h60 hbig hr
          go_wp2_with fail
          refine Hq.out.mono ?_
          rintro e X1 ⟨ur, rfl, hur, hX, hfr⟩
          have HB2 := Lib.hid (below_then HBW.out hX HBW.out.size)
          have HO2 := Lib.hid (HO.out.below hX)
          have hne : ∀ b, ur.ownBlock = some b → v.ownBlock ≠ some b := fun b e1 e2 => by
            have h1 := hfr b e1
            have h2 := (HO.out.lt b e2).2
            omega
          have HU := Lib.hid (RdN.of_rd hur hne)
          have huo := rdp_one hur
          obtain ⟨sa, sc, rfl, _, _, _⟩ := hur
          clear hX hfr hne Hq
          obtain ⟨xs, hown, hxl, hx⟩ := own_cells HO2.out
          have HX := Lib.hid hx
          clear hx
          go_wp2_with (at_builtin; refine app_one rfl (.tmp 26) (.tmp 32) 34 rfl w.heap.size 23 i0 _ 24 Try.underlying34 hi0 hz0 hz1 hz2 rfl v _ _ rfl hown (.slice sa r.length sc) 1 rfl huo (by have := Hm.out; unfold maxLen; omega) (by have := Hm.out; omega) HB2.out.size ?_)
          intro v3 w3 h2 h3 h5
          have hG := own_grow HX.out hxl HU.out h2 h3 h5
          have HG := Lib.hid hG
          have HB3 := Lib.hid (HB2.out.trans (below_of_grown (base := w.heap.size) (Below.refl w.heap.size X1) hown h3 HB2.out.size))
          clear h2 h3 h5 hG hown hxl
          go_wp2_with fail
          go_roundw
          case rel => exact ⟨k + 1, m ++ [r], v3, hlt, by go_num, rfl, HG, by have := Hm.out; simp; omega, HB3, Hnx, H60n⟩
          case measure => simp [intOf]; omega
      · obtain rfl : L0 = k := by omega
        rw [List.drop_of_length_le (by have := HL.out; omega)] at hs
        have e : m = rr := by have := hs.out; simpa using this
        subst e
        have H1k : Hid (∀ l ∈ ll, l.length ≤ 1000) := fun l hl => by
          obtain ⟨j, hj, rfl⟩ := List.mem_iff_getElem.1 hl
          have := H60.out j hj (by have := HL.out; omega)
          omega
        have H1r : Hid (∀ l ∈ m, l.length ≤ 1000) := fun l hl => by
          rw [← Hrr.out] at hl
          obtain ⟨p, hp, rfl⟩ := List.mem_map.1 hl
          rw [List.length_map]
          exact H1k.out p hp
        have Hm := Lib.hid hm
        obtain ⟨X0, hX0⟩ : ∃ X, X = wr := ⟨_, rfl⟩
        have HRD := Lib.hid HO.out.rd
        have HLL : Hid (ll.length ≤ 1000) := by have := HL.out; show _ ≤ _; omega
        rw [← hX0] at HBW HRD ⊢
        clear hX0 hs hm HO H60
        obtain ⟨LP, hLP⟩ : ∃ LP, linesP m = LP := ⟨_, rfl⟩
        have HLPl : Hid (LP.length ≤ 1000) := by show _ ≤ _; rw [← hLP]; have := linesP_len m; have := Hm.out; omega
        have HLPm : Hid (∀ l ∈ LP, l.length ≤ 1000) := by rw [← hLP]; exact linesP_mem H1r.out
        have HLP := Lib.hid hLP
        clear hLP
        have Hq := Lib.hid (lines_any (.slice a0 ll.length c0) ll X0 (by have h := HV.out; rw [HL.out] at h; exact ⟨h.choose, h.choose_spec.choose, h.choose_spec.choose_spec.choose, h.choose_spec.choose_spec.choose_spec.1, h.choose_spec.choose_spec.choose_spec.2.1, h.choose_spec.choose_spec.choose_spec.2.2.1, (h.choose_spec.choose_spec.choose_spec.2.2.2.1.below HBW.out).more HBW.out.size, fun i hi => by
          obtain ⟨u, k1, k2⟩ := h.choose_spec.choose_spec.choose_spec.2.2.2.2 i hi
          exact ⟨u, k1, (k2.below HBW.out).more HBW.out.size⟩⟩) HLL.out H1k.out LP (by rw [Hrr.out]; exact HLP.out))
        rw [← HL.out] at Hq
        go_wp2_with fail
        refine Hq.out.mono ?_
        rintro e X1 ⟨v1, rfl, hv1, hX⟩
        have HB1 := Lib.hid (below_then HBW.out hX HBW.out.size)
        have HV1 := Lib.hid hv1
        have HRD1 := Lib.hid ((HRD.out.below hX).more hX.size)
        clear hv1 hX Hq
        have Hq := Lib.hid (refLines_any v m X1 HRD1.out (by have := Hm.out; omega) H1r.out LP HLP.out)
        go_wp2_with fail
        refine Hq.out.mono ?_
        rintro e X2 ⟨v2, rfl, hv2, hX⟩
        have HB2 := Lib.hid (below_then HB1.out hX HB1.out.size)
        have HV1 := Lib.hid ((HV1.out.below hX).more hX.size)
        have HRD2 := Lib.hid ((HRD1.out.below hX).more hX.size)
        have Hq := Lib.hid (same9_any v1 v2 LP X2 HV1.out hv2 HLPl.out HLPm.out)
        clear hv2 hX
        go_wp2_with fail
        refine Hq.out.mono ?_
        rintro e X3 ⟨rfl, hX⟩
        have HB3 := Lib.hid (below_then HB2.out hX HB2.out.size)
        have HRD3 := Lib.hid ((HRD2.out.below hX).more hX.size)
        clear hX Hq HRD HRD1 HRD2 HV1
        obtain ⟨ra, rc, hve, _, _, hpp⟩ := HRD3.out.at
        have hml : m.length = L0 := by rw [← Hrr.out, List.length_map]; exact HL.out.symm
        rw [hml] at hve
        subst hve
        have HPP := Lib.hid hpp
        have Hml := Lib.hid hml
        clear hpp hml HRD3
        go_wp2_with fail
        go_loopw [5] (fun i W => ∃ k : Nat, k ≤ L0 ∧ i = .int .i64 (k : Int) ∧ Hid (Below X3.heap.size X3 W)) (fun i _ => L0 - (intOf i).toNat)
        case atStart => exact ⟨0, Nat.zero_le _, rfl, Below.refl _ _⟩
        case round =>
          obtain ⟨k, hk, rfl, HW⟩ := hrel
          have HWW := Lib.hid (below_then HB3.out HW.out HB3.out.size)
          by_cases hlt : k < L0
          · have hkl : k < ll.length := by have := HL.out; omega
            have hkm : k < m.length := by have := Hml.out; omega
            obtain ⟨b1, o1, u1, rfl, hb1, p0, hr1⟩ := HA.out k hkl
            obtain ⟨b2, o2, u2, rfl, hb2, q0, hr2⟩ := HPP.out k hkm
            have hme : m[k] = (ll[k]).map rzS := by
              have := Hrr.out
              subst this
              simp
            have hlk := H1k.out _ (List.getElem_mem hkl)
            rw [hme] at hr2
            generalize ll[k]'hkl = l at *
            have HP : Hid (∀ X, Below w.heap.size w X → X.cell? ⟨b1, o1 + k, none⟩ = some u1) := fun X hb => (hb.cell hb1).trans p0
            have HQ : Hid (∀ X, Below X3.heap.size X3 X → X.cell? ⟨b2, o2 + k, none⟩ = some u2) := fun X hb => (hb.cell hb2).trans q0
            have HR1 := Lib.hid hr1
            have HR2 := Lib.hid hr2
            obtain ⟨W0, hW0⟩ : ∃ X, X = wr := ⟨_, rfl⟩
            rw [← hW0] at HW HWW ⊢
            have Hq := Lib.hid (ring_any u1 l W0 ((hr1.below HWW.out).more HWW.out.size) hlk _ rfl)
            obtain ⟨a1, c1, rfl, _, _, _, _⟩ := hr1
            obtain ⟨a2, c2, rfl, _, _, _⟩ := hr2
            obtain ⟨M, hM⟩ : ∃ M, l.length = M := ⟨_, rfl⟩
            rw [hM] at HP Hq HR1
            have HM := Lib.hid hM
            obtain ⟨N, hN⟩ : ∃ N, (l.map rzS).length = N := ⟨_, rfl⟩
            rw [hN] at HQ HR2
            have HN : Hid (N ≤ 1000) := by show _ ≤ _; rw [← hN, List.length_map]; exact hlk
            have hk0 : (0 : Int) ≤ (k : Int) := by omega
            have hk1 : (k : Int) < (L0 : Int) := by omega
            have HNe := Lib.hid hN
            clear p0 q0 hb1 hb2 hme hkm hW0 hM hN hlk
            have hp0 := HP.out _ HWW.out
            go_wp2_with fail
            refine Hq.out.mono ?_
            rintro e Y1 ⟨rv, rfl, hY, hy1, hy2⟩
            have HY1 := Lib.hid (below_then HW.out hY HW.out.size)
            have HYW := Lib.hid (below_then HWW.out hY HWW.out.size)
            have Hy1 := Lib.hid hy1
            have Hy2 := Lib.hid hy2
            clear hY hy1 hy2 Hq hp0
            have hq0 := HQ.out _ HY1.out
            have Hq := Lib.hid (refSimple_any (.slice a2 N c2) (l.map rzS) true Y1 (by have h := HR2.out; exact (h.below HY1.out).more HY1.out.size) (by rw [HNe.out]; exact HN.out) _ rfl)
            have hsl := simpleE_len (l.map rzS) true (by rw [HNe.out]; exact HN.out)
            obtain ⟨T, hT⟩ : ∃ T, simpleE (l.map rzS) true = T := ⟨_, rfl⟩
            rw [hT] at Hq Hy1 Hy2 hsl ⊢
            have Hsl := Lib.hid hsl
            clear hT hsl
            go_wp2_with fail
            refine Hq.out.mono ?_
            rintro e Y2 ⟨wv, rfl, hwv, hY, _⟩
            have HY2 := Lib.hid (below_then HY1.out hY HY1.out.size)
            have HYX := Lib.hid hY
            have HWV := Lib.hid hwv
            obtain ⟨wa, wc, rfl, _, _, _⟩ := hwv
            clear hY hq0 Hq
            obtain ⟨Q, hQ⟩ : ∃ Q, T.length = Q := ⟨_, rfl⟩
            rw [hQ] at HWV Hy1 Hy2 ⊢
            by_cases h3 : 3 ≤ Q
            · have d1 : decide (3 ≤ Q) = true := decide_eq_true h3
              have d3 : decide ((2 : Int) < (Q : Int)) = true := decide_eq_true (by omega)
              have d4 : decide (2 < Q) = true := decide_eq_true (by omega)
              have hrv := Hy1.out h3
              have Hq := Lib.hid (samePts_any rv _ T Y2 ((hrv.below HYX.out).more HYX.out.size) HWV.out (by have := Hsl.out; omega))
              obtain ⟨va, vc, rfl, _, _, _⟩ := hrv
              rw [hQ] at Hq ⊢
              rw [d1]
              clear Hy1 Hy2 h3 hQ
              go_wp2_with fail
              refine Hq.out.mono ?_
              rintro e Y3 ⟨rfl, hY⟩
              have HY3 := Lib.hid (below_then HY2.out hY HY2.out.size)
              clear hY Hq
              go_wp2_with fail
              go_roundw
              case rel => exact ⟨k + 1, hlt, by go_num, HY3⟩
              case measure => simp [intOf]; omega
            · have d1 : decide (3 ≤ Q) = false := decide_eq_false h3
              have d3 : decide ((2 : Int) < (Q : Int)) = false := decide_eq_false (by omega)
              have d4 : decide (2 < Q) = false := decide_eq_false (by omega)
              have hrv := Hy2.out h3
              subst hrv
              rw [d1]
              clear Hy1 Hy2 h3 hQ
              go_wp2_with fail
              go_roundw
              case rel => exact ⟨k + 1, hlt, by go_num, HY2⟩
              case measure => simp [intOf]; omega
          · obtain rfl : L0 = k := by omega
            go_wp2_with fail
            refine (Hl.out _).mono ?_
            rintro e Y ⟨rfl, hY⟩
            have HY := Lib.hid (below_then HWW.out hY HWW.out.size)
            clear hY
            go_wp2_with fail
            go_ret
            exact ⟨rfl, HY.out⟩
end Go.Proofs.Ytgfioofloaeecaa
