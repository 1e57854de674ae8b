/- Layer 16: the reference's Parse. -/
import Derived.Test.YtdbcklabinmgfaaDoorDecRes
import Derived.Deep.DeepCutAuto
namespace Go.Proofs.YtdbcklabinmgfaaDoor
open Go.RowKit
set_option linter.unusedVariables false
set_option maxRecDepth 100000

theorem dEnd_in {l : List Nat} {i : Nat} (h : dEnd l i ≠ i) : i < l.length := by
  by_cases hi : i < l.length
  · exact hi
  · exact absurd (dEnd_stop (fun h2 => absurd h2 hi)) h
theorem finD_parts (ng : Bool) (D : List Nat) (x : Int) (N : Nat) : (finD ng D x N).1 = (finD ng D x 0).1 ∧ (finD ng D x N).2.2 = (finD ng D x 0).2.2 ∧ (finD ng D x N).2.1 = (if (finD ng D x 0).2.2 = 0 then N else 0) := by
  by_cases h0 : D = []
  · subst h0; rw [finD_nil, finD_nil]; exact ⟨rfl, rfl, rfl⟩
  · by_cases h1 : 100 < D.length
    · rw [finD_long h0 h1, finD_long h0 h1]; exact ⟨rfl, rfl, rfl⟩
    · cases hx : inR x with
      | false => rw [finD_out h0 h1 hx, finD_out h0 h1 hx]; exact ⟨rfl, rfl, rfl⟩
      | true => rw [finD_in h0 h1 hx, finD_in h0 h1 hx]; exact ⟨rfl, rfl, rfl⟩
theorem finD_err {ng : Bool} {D : List Nat} {x : Int} {N : Nat} (h : (finD ng D x N).2.2 ≠ 0) : (finD ng D x N).1 = zeroD := by
  by_cases h0 : D = []
  · subst h0; rw [finD_nil]
  · by_cases h1 : 100 < D.length
    · rw [finD_long h0 h1]
    · cases hx : inR x with
      | false => rw [finD_out h0 h1 hx]
      | true => rw [finD_in h0 h1 hx] at h; exact absurd rfl h
theorem seg_step {l : List Nat} {k e : Nat} (h : k < e) (hk : k < l.length) : seg l k e = l.getD k 0 :: seg l (k + 1) e := by
  unfold seg
  rw [drop_head hk, show e - k = (e - (k + 1)) + 1 by omega, List.take_succ_cons]
/-- A byte of a string, as the walk has it. -/
theorem byte_at {s : ByteArray} {l : List Nat} (hl : l = bs s) {k : Nat} (h : k < s.size) : (s[k]'h).toNat = l.getD k 0 := by rw [hl, bs_get s k h]
theorem int_beq (a b : Nat) : (((a : Int) == (b : Int)) = decide (a = b)) := by
  by_cases h : a = b
  · rw [h, decide_eq_true rfl]; exact beq_self_eq_true _
  · rw [decide_eq_false h]; exact beq_eq_false_iff_ne.mpr (by omega)

set_option maxHeartbeats 16000000 in
theorem rparse_any (s : ByteArray) (w : World) (hs : s.size ≤ 100000) :
    Calls Tryd.prog 10 #[.string s] w (ParP (parseR (bs s)) w) := by
  have HDg := Lib.hid fun i W hi => rdigits_any s i W hi (Nat.le_trans hs (by decide))
  have HNm := Lib.hid norm_any
  have hln := bs_length s
  obtain ⟨l, hl⟩ : ∃ l, l = bs s := ⟨_, rfl⟩
  rw [← hl] at HDg hln ⊢
  have Hl := Lib.hid hl
  have Hln := Lib.hid hln
  obtain ⟨R, hR⟩ : ∃ R, R = parseR l := ⟨_, rfl⟩
  rw [← hR]
  have HR := Lib.hid hR
  obtain ⟨X0, hX0⟩ : ∃ X0, X0 = w.alloc (.cells #[.bool false, .string ⟨#[]⟩, .int .i64 0] 24) := ⟨_, rfl⟩
  obtain ⟨b, hb⟩ : ∃ b, b = w.heap.size := ⟨_, rfl⟩
  have hO : Whole X0 b 24 #[.bool false, .string ⟨#[]⟩, .int .i64 0] := by rw [hX0, hb]; exact Whole.new w _ _
  have hB : Below w.heap.size w X0 := by rw [hX0]; exact (Below.refl _ _).alloc (Nat.le_refl _) _
  have HX0 := Lib.hid hX0
  have Hb := Lib.hid hb
  have HO := Lib.hid hO
  have HB := Lib.hid hB
  obtain ⟨ng, hng⟩ : ∃ b, b = decide (l.getD 0 0 = 45) := ⟨_, rfl⟩
  have Hng := Lib.hid hng
  obtain ⟨p0, hp0⟩ : ∃ p, p = place0 l := ⟨_, rfl⟩
  have Hp0 := Lib.hid hp0
  have hp0s : p0 ≤ s.size := by rw [hp0, ← hln]; exact place0_le
  clear hX0 hb hO hB hR hl hln hng hp0
  go_enter Tryd.func10, Tryd.ntmps10
  go_upto_region 2 with (fail)
  rw [← HX0.out, ← Hb.out]
  clear HX0
  go_cut [6] (fun x6 W => x6 = .bool ng ∧ X0 = W)
  case first =>
    as_aux_lemma =>
      by_cases h0 : 0 < s.size
      · have d1 : decide ((0 : Int) < (s.size : Int)) = true := decide_eq_true (by omega)
        have hk1 : (0 : Int) < (s.size : Int) := by omega
        obtain ⟨c, hc⟩ : ∃ c, (s[0]'h0).toNat = c := ⟨_, rfl⟩
        have hcl : c = l.getD 0 0 := by rw [← hc]; exact byte_at Hl.out h0
        have hce : ((c : Int) == 45) = ng := by rw [Hng.out, ← hcl]; exact int_beq c 45
        have hce2 : (c == 45) = ng := by rw [Hng.out, ← hcl]; by_cases h : c = 45; rw [h]; rfl; rw [decide_eq_false h]; exact beq_eq_false_iff_ne.mpr h
        clear hcl
        go_wp2_with fail
        go_meet
        exact ⟨rfl, rfl⟩
      · have d1 : decide ((0 : Int) < (s.size : Int)) = false := decide_eq_false (by omega)
        have hz : s.size = 0 := by omega
        have hn : ng = false := by rw [Hng.out, getD_out (by rw [Hln.out]; omega)]; rfl
        have Hn := Lib.hid hn
        clear hn h0
        go_wp2_with fail
        go_meet
        exact ⟨by rw [Hn.out], rfl⟩
  case rest =>
    obtain ⟨rfl, rfl⟩ := hcut
    go_upto_if 23 with (fail)
    go_cut [5] (fun x5 W => x5 = .int .i64 (p0 : Int) ∧ X0 = W)
    case first =>
      as_aux_lemma =>
        by_cases h : l.getD 0 0 = 45
        · obtain rfl : ng = true := by rw [Hng.out]; exact decide_eq_true h
          have Hp : Hid (1 = p0) := by show _ = _; rw [Hp0.out]; unfold place0; rw [if_pos h]
          clear h
          go_wp2_with fail
          go_meet
          exact ⟨by rw [← Hp.out]; rfl, rfl⟩
        · obtain rfl : ng = false := by rw [Hng.out]; exact decide_eq_false h
          have Hp : Hid (0 = p0) := by show _ = _; rw [Hp0.out]; unfold place0; rw [if_neg h]
          clear h
          go_wp2_with fail
          go_meet
          exact ⟨by rw [← Hp.out]; rfl, rfl⟩
    case rest =>
      obtain ⟨rfl, rfl⟩ := hcut
      go_wp2_with fail
      refine (HDg.out p0 _ hp0s).mono ?_
      rintro e X ⟨rfl, rfl⟩
      by_cases hz : dEnd l p0 = p0
      · have HRz : Hid (R = (zeroD, 0, 3)) := by show _ = _; rw [HR.out]; unfold parseR; rw [if_pos (by rw [← Hp0.out]; exact hz)]
        rw [hz]
        clear hz HR
        have e0 : X0.cell? ⟨b, 0, none⟩ = some (.bool false) := HO.out.cell 0
        have k0 : X0.frozen? ⟨b, 0, none⟩ = false := HO.out.frozen 0
        have e1 : X0.cell? ⟨b, 1, none⟩ = some (.string ⟨#[]⟩) := HO.out.cell 1
        have k1 : X0.frozen? ⟨b, 1, none⟩ = false := HO.out.frozen 1
        have e2 : X0.cell? ⟨b, 2, none⟩ = some (.int .i64 0) := HO.out.cell 2
        have k2 : X0.frozen? ⟨b, 2, none⟩ = false := HO.out.frozen 2
        go_wp2_with fail
        have hV := set3_whole HO.out (.bool false) (.string ⟨#[]⟩) (.int .i64 0)
        have hBV := set3_below HB.out (b := b) (by have := Hb.out; omega) (.bool false) (.string ⟨#[]⟩) (.int .i64 0)
        have y0 := hV.cell 0
        have y1 := hV.cell 1
        have y2 := hV.cell 2
        simp only [set3, List.getElem?_toArray, List.getElem?_cons_zero, List.getElem?_cons_succ] at y0 y1 y2
        exact bodyPost_ret (v := .tuple #[.agg #[.bool false, .string ⟨#[]⟩, .int .i64 0], .int .i64 0, .int .i64 3]) (by simp [results, Tryd.results10, go_sem, y0, y1, y2]) rfl ⟨by rw [HRz.out]; rfl, hBV⟩
      · have Hz := Lib.hid hz
        have hp0l : p0 < s.size := by have := dEnd_in hz; rw [Hln.out] at this; exact this
        obtain ⟨e0, he0⟩ : ∃ e, e = dEnd l p0 := ⟨_, rfl⟩
        have He0 := Lib.hid he0
        rw [← he0] at hz ⊢
        have hne : ((e0 : Int) == (p0 : Int)) = false := beq_eq_false_iff_ne.mpr (by omega)
        have hk0 : (0 : Int) ≤ (p0 : Int) := by omega
        have hk1 : (p0 : Int) < (s.size : Int) := by omega
        obtain ⟨c, hc⟩ : ∃ c, (s[p0]'hp0l).toNat = c := ⟨_, rfl⟩
        have hcl : c = l.getD p0 0 := by rw [← hc]; exact byte_at Hl.out hp0l
        have Hcl := Lib.hid hcl
        obtain ⟨c5, hc5⟩ : ∃ b, b = decide (c = 48) := ⟨_, rfl⟩
        have hce : ((c : Int) == 48) = c5 := by rw [hc5]; exact int_beq c 48
        have hce2 : (c == 48) = c5 := by rw [hc5]; by_cases h : c = 48; rw [h]; rfl; rw [decide_eq_false h]; exact beq_eq_false_iff_ne.mpr h
        have Hc5 := Lib.hid hc5
        clear hz he0 hcl hc5
        go_upto_if 34 with (fail)
        clear hne hk0 hk1 hc hce hce2
        obtain ⟨p1, hp1⟩ : ∃ p, p = place1 l := ⟨_, rfl⟩
        have Hp1 := Lib.hid hp1
        have hp1s : p1 ≤ s.size := by rw [hp1]; exact place1_le Hl.out
        have hp01 : p0 ≤ p1 := by rw [hp1, Hp0.out]; exact place1_ge l
        clear hp1
        go_cut [7] (fun x7 W => x7 = .int .i64 (p1 : Int) ∧ X0 = W)
        case first =>
          as_aux_lemma =>
            by_cases h : c = 48
            · obtain rfl : c5 = true := by rw [Hc5.out]; exact decide_eq_true h
              have Hp : Hid (p1 = p0 + 1) := by show _ = _; rw [Hp1.out, p1_whole (by rw [← Hp0.out, ← Hcl.out]; exact h), ← Hp0.out]
              clear h
              go_wp2_with fail
              go_meet
              exact ⟨by rw [Hp.out]; rfl, rfl⟩
            · obtain rfl : c5 = false := by rw [Hc5.out]; exact decide_eq_false h
              have Hp : Hid (p1 = e0) := by show _ = _; rw [Hp1.out, p1_digits (by rw [← Hp0.out, ← Hcl.out]; exact h), ← Hp0.out]; exact He0.out.symm
              clear h
              go_wp2_with fail
              go_meet
              exact ⟨by rw [Hp.out], rfl⟩
        case rest =>
          obtain ⟨rfl, rfl⟩ := hcut
          have hsl0 : (p0 : Int) ≤ (p1 : Int) := by omega
          have hsl1 : (p1 : Int) ≤ (s.size : Int) := by omega
          clear Hc5 Hcl
          go_upto_region 13 with (fail)
          clear hsl0 hsl1
          obtain ⟨p2, hp2⟩ : ∃ p, p = place2 l := ⟨_, rfl⟩
          have Hp2 := Lib.hid hp2
          obtain ⟨tw, htw⟩ : ∃ t, t = strOf (wholeD l) := ⟨_, rfl⟩
          have hex : s.extract p0 p1 = tw := by rw [htw, ext_bs, ← Hl.out]; unfold wholeD; rw [← Hp1.out, ← Hp0.out]; rfl
          rw [hex]
          have Htw := Lib.hid htw
          obtain ⟨hp, hhp⟩ : ∃ b, b = decide (l.getD p1 0 = 46 ∧ p1 + 1 < dEnd l (p1 + 1)) := ⟨_, rfl⟩
          have Hhp := Lib.hid hhp
          clear hp2 htw hex hhp
          go_cut [60] (fun x60 W => x60 = .bool hp ∧ X0 = W)
          case first =>
            as_aux_lemma =>
              by_cases hq : p1 < s.size
              · have d1 : decide ((p1 : Int) < (s.size : Int)) = true := decide_eq_true (by omega)
                have hk0 : (0 : Int) ≤ (p1 : Int) := by omega
                have hk1 : (p1 : Int) < (s.size : Int) := by omega
                obtain ⟨c, hc⟩ : ∃ c, (s[p1]'hq).toNat = c := ⟨_, rfl⟩
                have hcl : c = l.getD p1 0 := by rw [← hc]; exact byte_at Hl.out hq
                by_cases h46 : c = 46
                · obtain ⟨E1, hE1⟩ : ∃ E, E = dEnd l (p1 + 1) := ⟨_, rfl⟩
                  have HD1 := Lib.hid fun W => HDg.out (p1 + 1) W (by omega)
                  rw [← hE1] at HD1 Hhp
                  rw [← hcl] at Hhp
                  subst h46
                  by_cases hlt : p1 + 1 < E1
                  · obtain rfl : hp = true := by rw [Hhp.out]; exact decide_eq_true ⟨rfl, hlt⟩
                    have d3 : decide ((p1 : Int) + 1 < (E1 : Int)) = true := decide_eq_true (by omega)
                    clear hcl hE1 Hhp
                    go_wp2_with fail
                    refine (HD1.out _).mono ?_
                    rintro e X ⟨rfl, rfl⟩
                    go_wp2_with fail
                    go_meet
                    exact ⟨rfl, rfl⟩
                  · obtain rfl : hp = false := by rw [Hhp.out]; exact decide_eq_false (fun h => hlt h.2)
                    have d3 : decide ((p1 : Int) + 1 < (E1 : Int)) = false := decide_eq_false (by omega)
                    clear hcl hE1 Hhp
                    go_wp2_with fail
                    refine (HD1.out _).mono ?_
                    rintro e X ⟨rfl, rfl⟩
                    go_wp2_with fail
                    go_meet
                    exact ⟨rfl, rfl⟩
                · obtain rfl : hp = false := by rw [Hhp.out]; exact decide_eq_false (fun h => h46 (by rw [hcl]; exact h.1))
                  have hce : ((c : Int) == 46) = false := beq_eq_false_iff_ne.mpr (by omega)
                  have hce2 : (c == 46) = false := beq_eq_false_iff_ne.mpr h46
                  clear hcl Hhp
                  go_wp2_with fail
                  go_meet
                  exact ⟨rfl, rfl⟩
              · have d1 : decide ((p1 : Int) < (s.size : Int)) = false := decide_eq_false (by omega)
                obtain rfl : hp = false := by rw [Hhp.out]; exact decide_eq_false (fun h => by have := h.1; rw [getD_out (by rw [Hln.out]; omega)] at this; cases this)
                clear Hhp
                go_wp2_with fail
                go_meet
                exact ⟨rfl, rfl⟩
          case rest =>
            obtain ⟨rfl, rfl⟩ := hcut
            go_upto_if 60 with (fail)
            obtain ⟨tA, htA⟩ : ∃ t, t = strOf (allD l) := ⟨_, rfl⟩
            have HtA := Lib.hid htA
            obtain ⟨lp, hlp⟩ : ∃ n, n = (partD l).length := ⟨_, rfl⟩
            have Hlp := Lib.hid hlp
            have hlps : lp ≤ 100000 := by rw [hlp]; refine Nat.le_trans (seg_length_le _ _ _) ?_; rw [Hln.out]; exact hs
            clear htA hlp
            go_cut [5, 7, 8, 9] (fun x5 x7 x8 x9 W => x5 = .int .i64 (p2 : Int) ∧ x8 = .string tA ∧ x9 = .int .i64 (-(lp : Int)) ∧ X0 = W)
            case first =>
              as_aux_lemma =>
                by_cases h : l.getD p1 0 = 46 ∧ p1 + 1 < dEnd l (p1 + 1)
                · obtain rfl : hp = true := by rw [Hhp.out]; exact decide_eq_true h
                  have hq : p1 < s.size := by have := getD_lt_len h.1 (by decide); rw [Hln.out] at this; exact this
                  obtain ⟨E1, hE1⟩ : ∃ E, E = dEnd l (p1 + 1) := ⟨_, rfl⟩
                  have HD1 := Lib.hid fun W => HDg.out (p1 + 1) W (by omega)
                  rw [← hE1] at HD1 h
                  have hE1s : E1 ≤ s.size := by rw [hE1, ← Hln.out]; exact dEnd_le (by rw [Hln.out]; omega)
                  have h2 : Hid (E1 = p2) := by show _ = _; rw [Hp2.out, p2_part (by rw [← Hp1.out]; exact h.1) (by rw [← Hp1.out, ← hE1]; exact h.2), ← Hp1.out]; exact hE1
                  have hl1 : lp = E1 - (p1 + 1) := by rw [Hlp.out]; unfold partD; rw [← Hp1.out, ← Hp2.out, ← h2.out]; unfold seg; rw [List.length_take, List.length_drop, Hln.out]; omega
                  have hpt : s.extract (p1 + 1) E1 = strOf (partD l) := by rw [ext_bs, ← Hl.out]; unfold partD; rw [← Hp1.out, ← Hp2.out, ← h2.out]; rfl
                  have hadd : ∀ W, (Op.stringOp .add tw (s.extract (p1 + 1) E1)).run Tryd.prog W = .ok (.string tA) W := fun W => by
                    have := add_run tw (s.extract (p1 + 1) E1) (by rw [Htw.out, strOf_size]; refine Nat.le_trans (seg_length_le _ _ _) ?_; rw [Hln.out]; omega) (by rw [ext_size s _ _ (by omega) hE1s]; omega) W
                    rw [this, HtA.out, Htw.out, hpt, strOf_app]
                    rfl
                  have h3 := h.2
                  have w1 : wrap64 ((E1 : Int) - (p1 : Int)) = (E1 : Int) - (p1 : Int) := IntWalk.wrap64_in _ ⟨by omega, by omega⟩
                  have w2 : wrap64 ((E1 : Int) - (p1 : Int) - 1) = (lp : Int) := by rw [IntWalk.wrap64_in _ ⟨by omega, by omega⟩]; omega
                  have w3 : wrap64 (-(lp : Int)) = -(lp : Int) := IntWalk.wrap64_in _ ⟨by omega, by omega⟩
                  have hsl0 : (p1 : Int) + 1 ≤ (E1 : Int) := by omega
                  have hsl1 : (E1 : Int) ≤ (s.size : Int) := by omega
                  have Hl1 := Lib.hid hl1
                  have Hh3 := Lib.hid h3
                  have hadd0 := hadd X0
                  clear h hq hE1 hl1 hpt hadd Hhp
                  go_wp2_with fail
                  refine (HD1.out _).mono ?_
                  rintro e X ⟨rfl, rfl⟩
                  go_wp2_with fail
                  go_meet
                  exact ⟨by rw [h2.out], rfl, congrArg (Value.int .i64) (by have := Hl1.out; have := Hh3.out; omega), rfl⟩
                · obtain rfl : hp = false := by rw [Hhp.out]; exact decide_eq_false h
                  have h2 : Hid (p1 = p2) := by show _ = _; rw [Hp2.out, p2_none (by rw [← Hp1.out]; exact h)]; exact Hp1.out
                  have h3 : partD l = [] := by unfold partD; rw [← Hp1.out, ← Hp2.out, ← h2.out, seg_empty _ (by omega)]
                  have h4 : Hid (tw = tA) := by show _ = _; rw [Htw.out, HtA.out]; unfold allD; rw [h3, List.append_nil]
                  have h5 : Hid ((0 : Int) = -(lp : Int)) := by show _ = _; rw [Hlp.out, h3]; rfl
                  clear h h3 Hhp
                  go_wp2_with fail
                  go_meet
                  exact ⟨by rw [h2.out], by rw [h4.out], by rw [← h5.out], rfl⟩
            case rest =>
              obtain ⟨rfl, rfl, rfl, rfl⟩ := hcut
              clear Hhp
              go_upto_region 18 with (fail)
              have hp2s : p2 ≤ s.size := by rw [Hp2.out]; exact place2_le Hl.out
              obtain ⟨he, hhe⟩ : ∃ b, b = decide (l.getD p2 0 = 101 ∨ l.getD p2 0 = 69) := ⟨_, rfl⟩
              have Hhe := Lib.hid hhe
              clear hhe
              go_cut [93] (fun x93 W => x93 = .bool he ∧ X0 = W)
              case first =>
                as_aux_lemma =>
                  by_cases hq : p2 < s.size
                  · have d1 : decide ((p2 : Int) < (s.size : Int)) = true := decide_eq_true (by omega)
                    have hk0 : (0 : Int) ≤ (p2 : Int) := by omega
                    have hk1 : (p2 : Int) < (s.size : Int) := by omega
                    obtain ⟨c, hc⟩ : ∃ c, (s[p2]'hq).toNat = c := ⟨_, rfl⟩
                    have hcl : c = l.getD p2 0 := by rw [← hc]; exact byte_at Hl.out hq
                    rw [← hcl] at Hhe
                    by_cases h1 : c = 101
                    · obtain rfl : he = true := by rw [Hhe.out]; exact decide_eq_true (.inl h1)
                      subst h1
                      clear hcl Hhe
                      go_wp2_with fail
                      go_meet
                      exact ⟨rfl, rfl⟩
                    · have hce : ((c : Int) == 101) = false := beq_eq_false_iff_ne.mpr (by omega)
                      have hce2 : (c == 101) = false := beq_eq_false_iff_ne.mpr h1
                      by_cases h2 : c = 69
                      · obtain rfl : he = true := by rw [Hhe.out]; exact decide_eq_true (.inr h2)
                        subst h2
                        clear hcl Hhe hce hce2
                        go_wp2_with fail
                        go_meet
                        exact ⟨rfl, rfl⟩
                      · obtain rfl : he = false := by rw [Hhe.out]; exact decide_eq_false (fun h => h.elim h1 h2)
                        have hcf : ((c : Int) == 69) = false := beq_eq_false_iff_ne.mpr (by omega)
                        have hcf2 : (c == 69) = false := beq_eq_false_iff_ne.mpr h2
                        clear hcl Hhe
                        go_wp2_with fail
                        go_meet
                        exact ⟨rfl, rfl⟩
                  · have d1 : decide ((p2 : Int) < (s.size : Int)) = false := decide_eq_false (by omega)
                    obtain rfl : he = false := by rw [Hhe.out]; exact decide_eq_false (fun h => by rw [getD_out (by rw [Hln.out]; omega)] at h; rcases h with h | h <;> cases h)
                    clear Hhe
                    go_wp2_with fail
                    go_meet
                    exact ⟨rfl, rfl⟩
              case rest =>
                obtain ⟨rfl, rfl⟩ := hcut
                go_upto_if 93 with (fail)
                obtain ⟨N, hN⟩ : ∃ n, n = placeN l := ⟨_, rfl⟩
                have HN := Lib.hid hN
                obtain ⟨xe, hxe⟩ : ∃ x, x = -(lp : Int) + sgn (negE l) (capR 0 (powD l)) := ⟨_, rfl⟩
                have Hxe := Lib.hid hxe
                clear hN hxe
                go_cut [5, 7, 9, 10, 11, 12] (fun x5 x7 x9 x10 x11 x12 W => x5 = .int .i64 (N : Int) ∧ x9 = .int .i64 xe ∧ X0 = W)
                case first =>
                  as_aux_lemma =>
                    by_cases hx : l.getD p2 0 = 101 ∨ l.getD p2 0 = 69
                    · obtain rfl : he = true := by rw [Hhe.out]; exact decide_eq_true hx
                      have hxl : p2 < s.size := by have : p2 < l.length := lt_of_getD (by rcases hx with h | h <;> rw [h] <;> decide); rw [Hln.out] at this; exact this
                      have Hx := Lib.hid hx
                      obtain ⟨sb, hsb⟩ : ∃ b, b = decide (l.getD (p2 + 1) 0 = 43 ∨ l.getD (p2 + 1) 0 = 45) := ⟨_, rfl⟩
                      have Hsb := Lib.hid hsb
                      obtain ⟨K, hK⟩ : ∃ k, k = placeK l := ⟨_, rfl⟩
                      have HK := Lib.hid hK
                      have hKs : K ≤ s.size := by rw [hK]; exact placeK_le Hl.out (by rw [← Hp2.out]; omega)
                      have hKg : p2 + 1 ≤ K := by rw [hK, Hp2.out]; unfold placeK; by_cases h : l.getD (place2 l + 1) 0 = 43 ∨ l.getD (place2 l + 1) 0 = 45; rw [if_pos h]; omega; rw [if_neg h]; exact Nat.le_refl _
                      clear hx Hhe hsb hK
                      go_upto_region 20 with (fail)
                      go_cut [111] (fun x W => x = .bool sb ∧ X0 = W)
                      case first =>
                        as_aux_lemma =>
                          by_cases hq : p2 + 1 < s.size
                          · have d1 : decide ((p2 : Int) + 1 < (s.size : Int)) = true := decide_eq_true (by omega)
                            have hk0 : (0 : Int) ≤ (p2 : Int) + 1 := by omega
                            have hk1 : (p2 : Int) + 1 < (s.size : Int) := by omega
                            obtain ⟨c, hc⟩ : ∃ c, (s[p2 + 1]'hq).toNat = c := ⟨_, rfl⟩
                            have hcl : c = l.getD (p2 + 1) 0 := by rw [← hc]; exact byte_at Hl.out hq
                            rw [← hcl] at Hsb
                            by_cases h1 : c = 43
                            · obtain rfl : sb = true := by rw [Hsb.out]; exact decide_eq_true (.inl h1)
                              subst h1
                              clear hcl Hsb
                              go_wp2_with fail
                              go_meet
                              exact ⟨rfl, rfl⟩
                            · have hce : ((c : Int) == 43) = false := beq_eq_false_iff_ne.mpr (by omega)
                              have hce2 : (c == 43) = false := beq_eq_false_iff_ne.mpr h1
                              by_cases h2 : c = 45
                              · obtain rfl : sb = true := by rw [Hsb.out]; exact decide_eq_true (.inr h2)
                                subst h2
                                clear hcl Hsb hce hce2
                                go_wp2_with fail
                                go_meet
                                exact ⟨rfl, rfl⟩
                              · obtain rfl : sb = false := by rw [Hsb.out]; exact decide_eq_false (fun h => h.elim h1 h2)
                                have hcf : ((c : Int) == 45) = false := beq_eq_false_iff_ne.mpr (by omega)
                                have hcf2 : (c == 45) = false := beq_eq_false_iff_ne.mpr h2
                                clear hcl Hsb
                                go_wp2_with fail
                                go_meet
                                exact ⟨rfl, rfl⟩
                          · have d1 : decide ((p2 : Int) + 1 < (s.size : Int)) = false := decide_eq_false (by omega)
                            obtain rfl : sb = false := by rw [Hsb.out]; exact decide_eq_false (fun h => by rw [getD_out (by rw [Hln.out]; omega)] at h; rcases h with h | h <;> cases h)
                            clear Hsb
                            go_wp2_with fail
                            go_meet
                            exact ⟨rfl, rfl⟩
                      case rest =>
                        obtain ⟨rfl, rfl⟩ := hcut
                        go_upto_if 111 with (fail)
                        go_cut [10] (fun x W => x = .int .i64 (K : Int) ∧ X0 = W)
                        case first =>
                          as_aux_lemma =>
                            by_cases h : l.getD (p2 + 1) 0 = 43 ∨ l.getD (p2 + 1) 0 = 45
                            · obtain rfl : sb = true := by rw [Hsb.out]; exact decide_eq_true h
                              have Hp : Hid (K = p2 + 1 + 1) := by show _ = _; rw [HK.out]; unfold placeK; rw [← Hp2.out, if_pos h]
                              clear h Hsb
                              go_wp2_with fail
                              go_meet
                              exact ⟨congrArg (Value.int .i64) (by have := Hp.out; omega), rfl⟩
                            · obtain rfl : sb = false := by rw [Hsb.out]; exact decide_eq_false h
                              have Hp : Hid (K = p2 + 1) := by show _ = _; rw [HK.out]; unfold placeK; rw [← Hp2.out, if_neg h]
                              clear h Hsb
                              go_wp2_with fail
                              go_meet
                              exact ⟨congrArg (Value.int .i64) (by have := Hp.out; omega), rfl⟩
                        case rest =>
                          obtain ⟨rfl, rfl⟩ := hcut
                          clear Hsb
                          obtain ⟨E2, hE2⟩ : ∃ E, E = dEnd l K := ⟨_, rfl⟩
                          have HD2 := Lib.hid fun W => HDg.out K W hKs
                          rw [← hE2] at HD2
                          have hE2s : E2 ≤ s.size := by rw [hE2, ← Hln.out]; exact dEnd_le (by rw [Hln.out]; exact hKs)
                          have hE2g : K ≤ E2 := by rw [hE2]; exact dEnd_ge _ _
                          have hdg : ∀ x ∈ seg l K E2, isD x = true := by rw [hE2]; exact seg_digits _ _
                          have HE2 := Lib.hid hE2
                          obtain ⟨cr, hcr⟩ : ∃ n, n = capR 0 (seg l K E2) := ⟨_, rfl⟩
                          have hcrl : cr < 10000000000 := by rw [hcr]; exact (caps _ hdg).2
                          have Hcr := Lib.hid hcr
                          have Hdg := Lib.hid hdg
                          clear hE2 hcr hdg
                          go_wp2_with fail
                          refine (HD2.out _).mono ?_
                          rintro e X ⟨rfl, rfl⟩
                          go_upto_block 0 with (fail)
                          clear HD2
                          go_cut [11, 12] (fun x11 x12 W => x11 = .int .i64 (cr : Int) ∧ X0 = W)
                          case first =>
                            as_aux_lemma =>
                              go_wp2_with fail
                              go_loopw [11, 12] (fun x11 x12 W => ∃ k v : Nat, K ≤ k ∧ k ≤ E2 ∧ x11 = .int .i64 (v : Int) ∧ x12 = .int .i64 (k : Int) ∧ Hid (v < 10000000000 ∧ capR v (seg l k E2) = cr ∧ ∀ x ∈ seg l k E2, isD x = true) ∧ X0 = W) (fun _ x12 _ => E2 - (intOf x12).toNat)
                              case atStart => exact ⟨K, 0, Nat.le_refl _, hE2g, rfl, rfl, ⟨by omega, Hcr.out.symm, Hdg.out⟩, rfl⟩
                              case round =>
                                obtain ⟨k, v, hk1, hk2, rfl, rfl, hF, rfl⟩ := hrel
                                have hv := hF.out.1
                                by_cases hlt : k < E2
                                · have d1 : decide ((k : Int) < (E2 : Int)) = true := decide_eq_true (by omega)
                                  by_cases hv9 : v < 1000000000
                                  · have d2 : decide ((v : Int) < 1000000000) = true := decide_eq_true (by omega)
                                    have hks : k < s.size := by omega
                                    have hkk0 : (0 : Int) ≤ (k : Int) := by omega
                                    have hkk1 : (k : Int) < (s.size : Int) := by omega
                                    obtain ⟨c, hc⟩ : ∃ c, (s[k]'hks).toNat = c := ⟨_, rfl⟩
                                    have hcl : c = l.getD k 0 := by rw [← hc]; exact byte_at Hl.out hks
                                    have hst := seg_step (l := l) hlt (by rw [Hln.out]; exact hks)
                                    rw [← hcl] at hst
                                    have hcd : 48 ≤ c ∧ c ≤ 57 := by have := hF.out.2.2 c (by rw [hst]; exact List.mem_cons_self ..); unfold isD at this; exact of_decide_eq_true this
                                    have hF2 : Hid (10 * v + (c - 48) < 10000000000 ∧ capR (10 * v + (c - 48)) (seg l (k + 1) E2) = cr ∧ ∀ x ∈ seg l (k + 1) E2, isD x = true) := by
                                      have h2 := hF.out.2.1
                                      have h3 := hF.out.2.2
                                      rw [hst] at h2 h3
                                      rw [capR_cons, if_pos hv9] at h2
                                      exact ⟨by omega, h2, fun x hx => h3 x (List.mem_cons_of_mem _ hx)⟩
                                    clear hcl hst hF
                                    go_wp2_with fail
                                    exact ⟨⟨k + 1, 10 * v + (c - 48), by omega, by omega, congrArg (Value.int .i64) (by omega), by go_num, hF2, trivial⟩, by simp [intOf]; omega⟩
                                  · have d2 : decide ((v : Int) < 1000000000) = false := decide_eq_false (by omega)
                                    have he2 : Hid (v = cr) := by show _ = _; rw [← hF.out.2.1, capR_stop hv9]
                                    clear hF
                                    go_wp2_with fail
                                    go_meet
                                    exact ⟨by rw [he2.out], rfl⟩
                                · have d1 : decide ((k : Int) < (E2 : Int)) = false := decide_eq_false (by omega)
                                  have he2 : Hid (v = cr) := by show _ = _; rw [← hF.out.2.1, seg_empty _ (by omega)]; rfl
                                  clear hF
                                  go_wp2_with fail
                                  go_meet
                                  exact ⟨by rw [he2.out], rfl⟩
                          case rest =>
                            obtain ⟨rfl, rfl⟩ := hcut
                            by_cases hz : E2 = K
                            · have hE := hasE_dry (l := l) (by rw [← HK.out, ← HE2.out]; exact hz)
                              have h1 : Hid (p2 = N) := by show _ = _; rw [HN.out, (pn_none hE).1]; exact Hp2.out
                              have h2 : Hid (-(lp : Int) = xe) := by show _ = _; rw [Hxe.out, (pn_none hE).2]; unfold sgn; rw [show capR 0 [] = 0 from rfl]; cases negE l <;> simp
                              have d1 : decide ((K : Int) < (E2 : Int)) = false := decide_eq_false (by omega)
                              have d2 : decide (K < E2) = false := decide_eq_false (by omega)
                              clear hE
                              subst hz
                              go_wp2_with fail
                              go_meet
                              exact ⟨by rw [h1.out], by rw [h2.out], rfl⟩
                            · have hE := hasE_yes (l := l) (by rw [← Hp2.out]; exact Hx.out) (by rw [← HK.out, ← HE2.out]; omega)
                              have h1 : Hid (E2 = N) := by show _ = _; rw [HN.out, (pn_some hE).1, ← HK.out]; exact HE2.out
                              have hcp : capR 0 (powD l) = cr := by rw [(pn_some hE).2, ← HK.out, ← HE2.out]; exact Hcr.out.symm
                              have d1 : decide ((K : Int) < (E2 : Int)) = true := decide_eq_true (by omega)
                              have d2 : decide (K < E2) = true := decide_eq_true (by omega)
                              have hq : p2 + 1 < s.size := by omega
                              have hk0 : (0 : Int) ≤ (p2 : Int) + 1 := by omega
                              have hk1 : (p2 : Int) + 1 < (s.size : Int) := by omega
                              obtain ⟨c, hc⟩ : ∃ c, (s[p2 + 1]'hq).toNat = c := ⟨_, rfl⟩
                              have hcl : c = l.getD (p2 + 1) 0 := by rw [← hc]; exact byte_at Hl.out hq
                              by_cases h45 : c = 45
                              · have hn : negE l = true := by unfold negE; rw [← Hp2.out, ← hcl]; exact decide_eq_true h45
                                have h2 : Hid (-(lp : Int) + -(cr : Int) = xe) := by show _ = _; rw [Hxe.out, hcp, hn]; rfl
                                subst h45
                                clear hE hcp hn hcl
                                go_wp2_with fail
                                go_meet
                                exact ⟨by rw [h1.out], congrArg (Value.int .i64) (by have := h2.out; omega), rfl⟩
                              · have hn : negE l = false := by unfold negE; rw [← Hp2.out, ← hcl]; exact decide_eq_false h45
                                have h2 : Hid (-(lp : Int) + (cr : Int) = xe) := by show _ = _; rw [Hxe.out, hcp, hn]; rfl
                                have hce : ((c : Int) == 45) = false := beq_eq_false_iff_ne.mpr (by omega)
                                have hce2 : (c == 45) = false := beq_eq_false_iff_ne.mpr h45
                                clear hE hcp hn hcl
                                go_wp2_with fail
                                go_meet
                                exact ⟨by rw [h1.out], congrArg (Value.int .i64) (by have := h2.out; omega), rfl⟩
                    · obtain rfl : he = false := by rw [Hhe.out]; exact decide_eq_false hx
                      have hE := hasE_no (l := l) (by rw [← Hp2.out]; exact hx)
                      have h1 : Hid (p2 = N) := by show _ = _; rw [HN.out, (pn_none hE).1]; exact Hp2.out
                      have h2 : Hid (-(lp : Int) = xe) := by show _ = _; rw [Hxe.out, (pn_none hE).2]; unfold sgn; rw [show capR 0 [] = 0 from rfl]; cases negE l <;> simp
                      clear hx hE Hhe
                      go_wp2_with fail
                      go_meet
                      exact ⟨by rw [h1.out], by rw [h2.out], rfl⟩
                case rest =>
                  obtain ⟨rfl, rfl, rfl⟩ := hcut
                  clear Hhe
                  obtain ⟨D, hD⟩ : ∃ d, d = stripL (stripR (allD l)) := ⟨_, rfl⟩
                  obtain ⟨ex, hex⟩ : ∃ x : Int, x = xe + (tzs (allD l) : Nat) := ⟨_, rfl⟩
                  have hAl : (allD l).length ≤ 200000 := by unfold allD; rw [List.length_append]; have h1 := seg_length_le l (place0 l) (place1 l); have h2 := seg_length_le l (place1 l + 1) (place2 l); rw [Hln.out] at h1 h2; unfold wholeD partD; omega
                  have hbA : bs tA = allD l := by rw [HtA.out]; exact bs_strOf _ (fun x hx => by have := allD_mem hx; rw [Hl.out] at this; exact bs_lt s x this)
                  have hcr : capR 0 (powD l) < 10000000000 := (caps (powD l) (by unfold powD; by_cases h : hasE l = true; rw [if_pos h]; exact seg_digits _ _; rw [if_neg h]; intro x hx; cases hx)).2
                  have hsg := sgn_le (negE l) (capR 0 (powD l))
                  have hNm := HNm.out ng tA xe X0 (by rw [HtA.out, strOf_size]; omega) (by rw [Hxe.out]; omega)
                  rw [hbA, ← hD, ← hex] at hNm
                  have hRf : R = finD ng D ex N := by
                    rw [HR.out]; unfold parseR
                    rw [if_neg (by rw [← Hp0.out]; exact Hz.out), ← Hng.out, ← HN.out, ← hD]
                    congr 1
                    rw [hex, Hxe.out, ← Hlp.out]
                    omega
                  have hez : R.2.2 ≠ 0 → R.1 = zeroD := by rw [hRf]; exact finD_err
                  obtain ⟨⟨rn, rd, re⟩, rN, rc⟩ := R
                  have hpa := finD_parts ng D ex N
                  rw [← hRf] at hpa
                  obtain ⟨F, hF⟩ : ∃ F, F = finD ng D ex 0 := ⟨_, rfl⟩
                  rw [← hF] at hpa hNm
                  obtain ⟨⟨fn, fd, fe⟩, fN, fc⟩ := F
                  simp only at hpa
                  obtain ⟨g1, g2, g3⟩ := hpa
                  injection g1 with g1 g4
                  injection g4 with g4 g5
                  subst g1 g4 g5 g2
                  have HNm2 := Lib.hid hNm
                  have Hg3 := Lib.hid g3
                  have Hez : Hid (rc ≠ 0 → (rn, rd, re) = zeroD) := hez
                  clear hD hex hAl hbA hcr hsg hNm hRf hF g3 HR hez
                  go_wp2_with fail
                  refine HNm2.out.mono ?_
                  rintro e W1 ⟨rfl, hb1⟩
                  have HO := Lib.hid (HO.out.below hb1 HO.out.lt)
                  have HB := Lib.hid (keepBelow hb1 HB.out)
                  obtain ⟨td, htd⟩ : ∃ t, t = strOf rd := ⟨_, rfl⟩
                  have Htd := Lib.hid htd
                  simp only [decV]
                  rw [← htd]
                  clear hb1 HNm2 htd
                  go_upto_region 34 with (fail)
                  have ha := (Below.refl W1.heap.size W1).alloc (Nat.le_refl _) (.cells #[.bool rn, .string td, .int .i64 re] 24)
                  have hw := Whole.new W1 24 #[.bool rn, .string td, .int .i64 re]
                  obtain ⟨g13, hg13⟩ : ∃ g, g = W1.heap.size := ⟨_, rfl⟩
                  obtain ⟨W2, hW2⟩ : ∃ W, W = W1.alloc (.cells #[.bool rn, .string td, .int .i64 re] 24) := ⟨_, rfl⟩
                  rw [← hW2] at ha hw ⊢
                  have hO2 := HO.out.below ha HO.out.lt
                  have hB2 := keepBelow ha HB.out
                  rw [← hg13] at hw ⊢
                  have z0 : W2.cell? ⟨g13, 0, none⟩ = some (.bool rn) := hw.cell 0
                  have z1 : W2.cell? ⟨g13, 1, none⟩ = some (.string td) := hw.cell 1
                  have z2 : W2.cell? ⟨g13, 2, none⟩ = some (.int .i64 re) := hw.cell 2
                  have e0 : W2.cell? ⟨b, 0, none⟩ = some (.bool false) := hO2.cell 0
                  have k0 : W2.frozen? ⟨b, 0, none⟩ = false := hO2.frozen 0
                  have e1 : W2.cell? ⟨b, 1, none⟩ = some (.string ⟨#[]⟩) := hO2.cell 1
                  have k1 : W2.frozen? ⟨b, 1, none⟩ = false := hO2.frozen 1
                  have e2 : W2.cell? ⟨b, 2, none⟩ = some (.int .i64 0) := hO2.cell 2
                  have k2 : W2.frozen? ⟨b, 2, none⟩ = false := hO2.frozen 2
                  clear ha hw hW2 hg13
                  by_cases hc0 : rc = 0
                  · subst hc0
                    have hN2 : Hid (rN = N) := by show _ = _; rw [Hg3.out, if_pos rfl]
                    go_upto_if 157 with (fail)
                    go_upto_region 36 with (fail)
                    obtain ⟨W3, hW3⟩ : ∃ W3, W3 = set3 W2 b (.bool rn) (.string td) (.int .i64 re) := ⟨_, rfl⟩
                    have HW3 := Lib.hid hW3
                    clear hW3
                    go_cut [3, 4, 160, 161] (fun x3 x4 x160 x161 W => x3 = .int .i64 (N : Int) ∧ x4 = .int .i64 0 ∧ W3 = W)
                    case first =>
                      as_aux_lemma =>
                        go_wp2_with fail
                        go_meet
                        exact ⟨rfl, rfl, HW3.out⟩
                    case rest =>
                      obtain ⟨rfl, rfl, rfl⟩ := hcut
                      rename_i hKK
                      refine hKK _ _ ?_
                      have hV := set3_whole hO2 (.bool rn) (.string td) (.int .i64 re)
                      have hBV := set3_below hB2 (b := b) (by have := Hb.out; omega) (.bool rn) (.string td) (.int .i64 re)
                      rw [← HW3.out] at hV hBV
                      have hp : Hid (ParP ((rn, rd, re), rN, 0) w (.returned (.tuple #[.agg #[.bool rn, .string td, .int .i64 re], .int .i64 (N : Int), .int .i64 0])) W3) := ⟨by rw [hN2.out]; simp only [decV]; rw [← Htd.out]; rfl, hBV⟩
                      refine wp_ret ?_
                      refine bodyPost_ret (v := .tuple #[.agg #[.bool rn, .string td, .int .i64 re], .int .i64 (N : Int), .int .i64 0]) ?_ rfl hp.out
                      exact results_dec3 rfl _ _ b _ (.int .i64 (N : Int)) (.int .i64 0) rfl rfl rfl hV rfl
                  · have hce : ((rc : Int) == 0) = false := beq_eq_false_iff_ne.mpr (by omega)
                    have hce2 : ((rc : Int) != 0) = true := by simp [hc0]
                    have hz := Lib.hid (Hez.out hc0)
                    have hN2 : Hid (rN = 0) := by show _ = _; rw [Hg3.out, if_neg hc0]
                    go_upto_region 35 with (fail)
                    obtain ⟨W3, hW3⟩ : ∃ W3, W3 = set3 W2 b (.bool false) (.string ⟨#[]⟩) (.int .i64 0) := ⟨_, rfl⟩
                    have HW3 := Lib.hid hW3
                    clear hW3
                    go_cut [3, 4, 158, 159] (fun x3 x4 x158 x159 W => x3 = .int .i64 0 ∧ x4 = .int .i64 (rc : Int) ∧ W3 = W)
                    case first =>
                      as_aux_lemma =>
                        go_wp2_with fail
                        go_meet
                        exact ⟨rfl, rfl, HW3.out⟩
                    case rest =>
                      obtain ⟨rfl, rfl, rfl⟩ := hcut
                      rename_i hKK
                      refine hKK _ _ ?_
                      have hV := set3_whole hO2 (.bool false) (.string ⟨#[]⟩) (.int .i64 0)
                      have hBV := set3_below hB2 (b := b) (by have := Hb.out; omega) (.bool false) (.string ⟨#[]⟩) (.int .i64 0)
                      rw [← HW3.out] at hV hBV
                      have hp : Hid (ParP ((rn, rd, re), rN, rc) w (.returned (.tuple #[.agg #[.bool false, .string ⟨#[]⟩, .int .i64 0], .int .i64 0, .int .i64 (rc : Int)])) W3) := ⟨by rw [hN2.out, hz.out]; rfl, hBV⟩
                      refine wp_ret ?_
                      refine bodyPost_ret (v := .tuple #[.agg #[.bool false, .string ⟨#[]⟩, .int .i64 0], .int .i64 0, .int .i64 (rc : Int)]) ?_ rfl hp.out
                      exact results_dec3 rfl _ _ b _ (.int .i64 0) (.int .i64 (rc : Int)) rfl rfl rfl hV rfl
end Go.Proofs.YtdbcklabinmgfaaDoor
