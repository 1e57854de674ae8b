/- Walks over layer 26: live, and the law of rounding. -/
import Derived.Test.YtgfioofloaeecaaNorm4
namespace Go.Proofs.Ytgfioofloaeecaa
open Go.RowKit
set_option linter.unusedVariables false
set_option maxRecDepth 100000

theorem rdp_new (w : World) (l : List P2) (n c : Nat) (cs : List Value) (hn : l.length = n) (hc : pts l = cs) (hnc : n ≤ c) (hcm : c ≤ 1000) : RdP (w.alloc (.cells cs.toArray 27)) (w.alloc (.cells cs.toArray 27)).heap.size (.slice (some ⟨w.heap.size, 0, none⟩) n c) l := by
  subst hn hc
  exact ⟨_, c, rfl, hnc, by unfold maxLen; omega, Vals.of_block (heap_alloc_new w _) (pts_length l)⟩

set_option maxHeartbeats 4000000 in
theorem live26_any (w : World) : Calls Try.prog 6 #[] w fun e w' => e = .returned (.bool true) ∧ Below w.heap.size w w' := by
  have hr := rdp_new w [(0, 0), (0, 0), (1, 0), (0, 0)] 4 4 [.int .i64 0, .int .i64 0, .int .i64 0, .int .i64 0, .int .i64 1, .int .i64 0, .int .i64 0, .int .i64 0] rfl rfl (by omega) (by omega)
  have hs := simple_any _ _ true _ hr (by decide) [(0, 0), (1, 0)] (by rfl)
  have HB : Hid (Below w.heap.size w (w.alloc (.cells #[.int .i64 0, .int .i64 0, .int .i64 0, .int .i64 0, .int .i64 1, .int .i64 0, .int .i64 0, .int .i64 0] 27))) := (Below.refl _ _).alloc (Nat.le_refl _) _
  have Hs := Lib.hid hs
  clear hr hs
  go_enter Try.func6, Try.ntmps6
  go_wp2_with fail
  refine Hs.out.mono ?_
  rintro e X ⟨u, rfl, hu, hX, _⟩
  have HX := Lib.hid (below_then HB.out hX HB.out.size)
  have hr2 := rdp_new X [(0, 0), (1, 0)] 2 2 [.int .i64 0, .int .i64 0, .int .i64 1, .int .i64 0] rfl rfl (by omega) (by omega)
  have hXX : Below X.heap.size X (X.alloc (.cells #[.int .i64 0, .int .i64 0, .int .i64 1, .int .i64 0] 27)) := (Below.refl _ _).alloc (Nat.le_refl _) _
  have HXX := Lib.hid (below_then HX.out hXX HX.out.size)
  have Hq := Lib.hid (samePts_any u _ [(0, 0), (1, 0)] _ ((hu.below hXX).more hXX.size) hr2 (by decide))
  clear hu hr2 hX hXX Hs
  go_wp2_with fail
  refine Hq.out.mono ?_
  rintro e Y ⟨rfl, hY⟩
  have HY := Lib.hid (below_then HXX.out hY HXX.out.size)
  clear hY Hq
  go_wp2_with fail
  go_ret
  exact ⟨rfl, HY.out⟩

theorem trim_len : ∀ (f : Nat) (m : List P2), (trim f m).length ≤ m.length
  | 0, m => Nat.le_refl _
  | f + 1, m => by
    have e : trim (f + 1) m = if 1 < m.length ∧ m.head? = m.getLast? then trim f m.dropLast else m := rfl
    rw [e]
    split
    · have := trim_len f m.dropLast
      simp at this
      omega
    · exact Nat.le_refl _
theorem simpleE_len (l : List P2) (t : Bool) (h : l.length ≤ 1000) : (simpleE l t).length ≤ 1000 := by
  have h1 := smp_len l []
  simp at h1
  unfold simpleE
  split
  · have := trim_len (smp [] l).length (smp [] l); omega
  · omega
set_option maxHeartbeats 8000000 in
theorem normRounds_walk (v u : Value) (t : Bool) (lo hi : Int) (w : World) (hv : ∃ l, RdS w w.heap.size v l) (hu : ∃ p, RdP w w.heap.size u p) (hlo : -9223372036854775808 ≤ lo ∧ lo < 9223372036854775808) (hhi : -9223372036854775808 ≤ hi ∧ hi < 9223372036854775808) :
    Calls Try.prog 3 #[v, u, .bool t, .int .i64 lo, .int .i64 hi] w fun e w' => e = .returned (.bool true) ∧ Below w.heap.size w w' := by
  obtain ⟨i0, hi0, hz0, hz1, hz2⟩ := info_parts ptinfo
  obtain ⟨l, hvl⟩ := hv
  obtain ⟨p, hup⟩ := hu
  have Hl := Lib.hid live26_any
  have HVL := Lib.hid hvl
  have HUP := Lib.hid hup
  obtain ⟨a, c, rfl, _, _, _, _⟩ := hvl
  obtain ⟨b, d, rfl, _, _, hb⟩ := hup
  clear hlo hhi
  by_cases h1 : 100 < l.length
  · have d1 : decide ((100 : Int) < (l.length : Int)) = true := decide_eq_true (by omega)
    have d2 : decide (100 < l.length) = true := decide_eq_true (by omega)
    clear hb
    go_enter Try.func3, Try.ntmps3
    go_wp2_with fail
    refine (Hl.out _).mono ?_
    rintro e X ⟨rfl, hX⟩
    have HX := Lib.hid hX
    clear hX
    go_wp2_with fail
    go_ret
    exact ⟨rfl, HX.out⟩
  · have d1 : decide ((100 : Int) < (l.length : Int)) = false := decide_eq_false (by omega)
    have d2 : decide (100 < l.length) = false := decide_eq_false (by omega)
    by_cases h2 : 100 < p.length
    · have d3 : decide ((100 : Int) < (p.length : Int)) = true := decide_eq_true (by omega)
      have d4 : decide (100 < p.length) = true := decide_eq_true (by omega)
      clear hb
      go_enter Try.func3, Try.ntmps3
      go_wp2_with fail
      refine (Hl.out _).mono ?_
      rintro e X ⟨rfl, hX⟩
      have HX := Lib.hid hX
      clear hX
      go_wp2_with fail
      go_ret
      exact ⟨rfl, HX.out⟩
    · have d3 : decide ((100 : Int) < (p.length : Int)) = false := decide_eq_false (by omega)
      have d4 : decide (100 < p.length) = false := decide_eq_false (by omega)
      obtain ⟨L0, hL0⟩ : ∃ L, L = p.length := ⟨_, rfl⟩
      obtain ⟨L1, hL1⟩ : ∃ L, L = l.length := ⟨_, rfl⟩
      have HA := Lib.hid hb
      have HL := Lib.hid hL0
      have HL1 := Lib.hid hL1
      rw [← hL0] at h2 d3 d4 HUP ⊢
      rw [← hL1] at h1 d1 d2 HVL ⊢
      have hin := Lib.hid fun x y W => rin24_any x y lo hi W
      clear hL0 hL1 hb
      go_enter Try.func3, Try.ntmps3
      go_wp2_with fail
      go_loopw [12, 11] (fun i u W => ∃ (k : Nat) (m : List P2) (v : Value), k ≤ L0 ∧ i = .int .i64 (k : Int) ∧ v = u ∧ Hid (OwnP W w.heap.size v m) ∧ m.length ≤ k ∧ Hid (Below w.heap.size w W) ∧ Hid (m ++ (p.drop k).filter (insB lo hi) = p.filter (insB lo hi))) (fun i _ _ => L0 - (intOf i).toNat)
      case atStart => exact ⟨0, [], _, Nat.zero_le _, rfl, rfl, OwnP.nil_ _ _, Nat.le_refl _, Below.refl _ _, rfl⟩
      case round =>
        obtain ⟨k, m, v, hk, rfl, rfl, HO, hm, HBW, hs⟩ := hrel
        by_cases hlt : k < L0
        · have hkl : k < p.length := by have := HL.out; omega
          have hdr : p.drop k = p[k] :: p.drop (k + 1) := List.drop_eq_getElem_cons hkl
          obtain ⟨b1, o1, rfl, h1, p0, p1⟩ := HA.out.at k hkl
          have hs2 := hs.out
          rw [hdr] at hs2
          generalize p[k]'hkl = q at *
          obtain ⟨x, y⟩ := q
          simp only at p0 p1
          have HP : Hid (∀ X, Below w.heap.size w X → X.cell? ⟨b1, o1 + k * 2, none⟩ = some (.int .i64 x) ∧ X.cell? ⟨b1, o1 + k * 2 + 1, none⟩ = some (.int .i64 y)) := fun X hb => ⟨(hb.cell h1).trans p0, (hb.cell h1).trans p1⟩
          obtain ⟨p0, p1⟩ := HP.out _ HBW.out
          have hk0 : (0 : Int) ≤ (k : Int) := by omega
          have hk1 : (k : Int) < (L0 : Int) := by omega
          have Hm := Lib.hid hm
          rw [List.filter_cons] at hs2
          clear hs hdr hm h1
          go_wp2_with fail
          refine (hin.out x y _).mono ?_
          rintro e X ⟨rfl, hX⟩
          have HBX := Lib.hid (below_then HBW.out hX HBW.out.size)
          have HOX := Lib.hid (HO.out.below hX)
          clear hX p0 p1
          cases hst : insB lo hi (x, y)
          · rw [hst, if_neg (by decide)] at hs2
            have Hs2 := Lib.hid hs2
            clear hs2 hst
            go_wp2_with fail
            go_roundw
            case rel => exact ⟨k + 1, m, v, hlt, by go_num, rfl, HOX, by have := Hm.out; omega, HBX, Hs2⟩
            case measure => simp [intOf]; omega
          · rw [hst, if_pos rfl] at hs2
            have Hs2 := Lib.hid (show (m ++ [(x, y)]) ++ (p.drop (k + 1)).filter (insB lo hi) = p.filter (insB lo hi) by rw [← hs2]; simp)
            have tst := own_sub HOX.out
            obtain ⟨p0, p1⟩ := HP.out _ HBX.out
            clear hs2 hst
            go_wp2_with (at_builtin; refine app_rec rfl (.tmp 35) (.tmp 40) 23 rfl w.heap.size 27 i0 _ 2 16 Try.underlying23 hi0 hz0 hz1 hz2 rfl (by decide) _ _ _ rfl tst [.int .i64 x, .int .i64 y] rfl 1 rfl (pts_one [(x, y)]) (by have := Hm.out; unfold maxLen; omega) (by have := Hm.out; omega) HBX.out.size ?_)
            intro v3 w3 h2 h3 h5
            have hG : GoneP X w.heap.size v (m ++ [(x, y)]) v3 w3 := GoneP.grown h2 (by simp) (by rw [pts_append]; rfl) h3 h5
            have HG := Lib.hid hG
            clear h2 h3 h5 hG tst
            go_wp2_with fail
            go_roundw
            case rel => exact ⟨k + 1, m ++ [(x, y)], v3, hlt, by go_num, rfl, HG.out.own, by have := Hm.out; simp; omega, HBX.out.trans (HG.out.below HOX.out HBX.out.size), Hs2⟩
            case measure => simp [intOf]; omega
        · obtain rfl : k = L0 := by omega
          rw [List.drop_of_length_le (by have := HL.out; omega)] at hs
          have e : m = p.filter (insB lo hi) := by have := hs.out; simpa using this
          have hv0 : RdP wr wr.heap.size v (p.filter (insB lo hi)) := by rw [← e]; exact HO.out.rd
          have hml : (p.filter (insB lo hi)).length ≤ 1000 := by rw [← e]; omega
          have HV0 := Lib.hid hv0
          have Hml := Lib.hid hml
          obtain ⟨F, hF⟩ : ∃ F, p.filter (insB lo hi) = F := ⟨_, rfl⟩
          rw [hF] at HV0 Hml
          have HF := Lib.hid hF
          obtain ⟨lr, hlr⟩ : ∃ lr, l.map rzS = lr := ⟨_, rfl⟩
          obtain ⟨sr, hsr⟩ : ∃ sr, simpleE p t = sr := ⟨_, rfl⟩
          have hlrl : lr.length ≤ 1000 := by rw [← hlr, List.length_map]; have := HL1.out; omega
          have hsrl : sr.length ≤ 1000 := by rw [← hsr]; exact simpleE_len p t (by have := HL.out; omega)
          have Hlr := Lib.hid hlr
          have Hsr := Lib.hid hsr
          have Hlrl := Lib.hid hlrl
          have Hsrl := Lib.hid hsrl
          have Hll : Hid (l.length ≤ 1000) := by have := HL1.out; show _ ≤ _; omega
          have Hpl : Hid (p.length ≤ 1000) := by have := HL.out; show _ ≤ _; omega
          clear hs e hv0 hml hF hlr hsr hlrl hsrl HO hm
          obtain ⟨X0, hX0⟩ : ∃ X, X = wr := ⟨_, rfl⟩
          rw [← hX0] at HBW HV0 ⊢
          clear hX0
          have HB0 := HBW
          have hv9 := Lib.hid ((HVL.out.below HB0.out).more HB0.out.size)
          have Hq := Lib.hid (nround_any _ l X0 hv9.out Hll.out lr Hlr.out)
          go_wp2_with fail
          refine Hq.out.mono ?_
          rintro e X1 ⟨r1, rfl, hr, hX, _⟩
          have Rr1 := Lib.hid hr
          have HB1 := Lib.hid (below_then HB0.out hX HB0.out.size)
          have RV0 := Lib.hid ((HV0.out.below hX).more hX.size)
          clear hX Hq hr hv9
          have hv9 := Lib.hid ((HVL.out.below HB1.out).more HB1.out.size)
          have Hq := Lib.hid (rroundS_any _ l X1 hv9.out Hll.out lr Hlr.out)
          go_wp2_with fail
          refine Hq.out.mono ?_
          rintro e X2 ⟨r2, rfl, hr, hX, _⟩
          have Rr2 := Lib.hid hr
          have HB2 := Lib.hid (below_then HB1.out hX HB1.out.size)
          have RV0 := Lib.hid ((RV0.out.below hX).more hX.size)
          have Rr1 := Lib.hid ((Rr1.out.below hX).more hX.size)
          clear hX Hq hr hv9
          have Hq := Lib.hid (samePts_any r1 r2 lr X2 Rr1.out Rr2.out (by have := Hlrl.out; omega))
          go_wp2_with fail
          refine Hq.out.mono ?_
          rintro e X3 ⟨rfl, hX⟩
          have HB3 := Lib.hid (below_then HB2.out hX HB2.out.size)
          have RV0 := Lib.hid ((RV0.out.below hX).more hX.size)
          clear hX Hq Rr1 Rr2
          have hu9 := Lib.hid ((HUP.out.below HB3.out).more HB3.out.size)
          have Hq := Lib.hid (simple_any _ p t X3 hu9.out Hpl.out sr Hsr.out)
          go_wp2_with fail
          refine Hq.out.mono ?_
          rintro e X4 ⟨s1, rfl, hr, hX, _⟩
          have Rs1 := Lib.hid hr
          have HB4 := Lib.hid (below_then HB3.out hX HB3.out.size)
          have RV0 := Lib.hid ((RV0.out.below hX).more hX.size)
          clear hX Hq hr hu9
          have hu9 := Lib.hid ((HUP.out.below HB4.out).more HB4.out.size)
          have Hq := Lib.hid (refSimple_any _ p t X4 hu9.out Hpl.out sr Hsr.out)
          go_wp2_with fail
          refine Hq.out.mono ?_
          rintro e X5 ⟨s2, rfl, hr, hX, _⟩
          have Rs2 := Lib.hid hr
          have HB5 := Lib.hid (below_then HB4.out hX HB4.out.size)
          have RV0 := Lib.hid ((RV0.out.below hX).more hX.size)
          have Rs1 := Lib.hid ((Rs1.out.below hX).more hX.size)
          clear hX Hq hr hu9
          have Hq := Lib.hid (samePts_any s1 s2 sr X5 Rs1.out Rs2.out (by have := Hsrl.out; omega))
          go_wp2_with fail
          refine Hq.out.mono ?_
          rintro e X6 ⟨rfl, hX⟩
          have HB6 := Lib.hid (below_then HB5.out hX HB5.out.size)
          have RV0 := Lib.hid ((RV0.out.below hX).more hX.size)
          clear hX Hq Rs1 Rs2
          have hu9 := Lib.hid ((HUP.out.below HB6.out).more HB6.out.size)
          have Hq := Lib.hid (points_any _ p lo hi X6 hu9.out Hpl.out F HF.out)
          go_wp2_with fail
          refine Hq.out.mono ?_
          rintro e X7 ⟨q1, rfl, hr, hX, _⟩
          have Rq1 := Lib.hid hr
          have HB7 := Lib.hid (below_then HB6.out hX HB6.out.size)
          have RV0 := Lib.hid ((RV0.out.below hX).more hX.size)
          clear hX Hq hr hu9
          have Hq := Lib.hid (samePts_any q1 v F X7 Rq1.out RV0.out (by have := Hml.out; omega))
          go_wp2_with fail
          refine Hq.out.mono ?_
          rintro e X8 ⟨rfl, hX⟩
          have HB8 := Lib.hid (below_then HB7.out hX HB7.out.size)
          clear hX Hq
          have Hq := Lib.hid (Hl.out X8)
          go_wp2_with fail
          refine Hq.out.mono ?_
          rintro e X9 ⟨rfl, hX⟩
          have HB9 := Lib.hid (below_then HB8.out hX HB8.out.size)
          clear hX Hq
          go_wp2_with fail
          go_ret
          exact ⟨rfl, HB9.out⟩
end Go.Proofs.Ytgfioofloaeecaa
