/- Walks over layer 12: the reference's Put. -/
import Derived.Test.YtaafcmgkmdbefaaDirPut2
namespace Go.Proofs.Ytaafcmgkmdbefaa
open Go.RowKit Var
set_option linter.unusedVariables false
set_option maxRecDepth 100000

theorem app_run {w w' : World} {ops : Array Oper} {rest : List Oper} {o : Oper} {a : Act} {Q : Exit → Act → World → Prop} (hw : Region.wanted o (yielded ops a.tmps) = true) (s x : Operand) (t : TypeId)
    (ho : o.op = .call { callee := .builtin .append, args := #[s, x], argTypes := #[t, t] }) (v u v' : Value) (hs : a.eval s = v) (hx : a.eval x = u)
    (hrun : (Builtin.append_ #[t, t] o.type #[v, u]).run Try.prog w = .ok v' w') (h : wpList Try.prog ops Q rest (a.put o.dst v') w') : wpList Try.prog ops Q (o :: rest) a w := by
  refine wpList_step fun K hK => ?_
  simp only [hw, if_true]
  unfold Oper.wp execOp
  simp only [ho, resolve, invoke, builtin, Sem.run_bind, Sem.run_pure, Result.andThen_ok, List.map_toArray, List.map_cons, List.map_nil, hs, hx, hrun]
  exact hK _ _ h
/-- Rows in blocks of their own. -/
def dis (u v : Value) : Prop := ∀ k, u.ownBlock = some k → v.ownBlock ≠ some k
theorem dis.symm {u v : Value} (h : dis u v) : dis v u := fun k hv hu => h k hu hv
structure R4 (w : World) (base : Nat) (a b c d : Value) (la lb lc ld : List Nat) : Prop where
  oa : Own8 w base a la
  ob : Own8 w base b lb
  oc : Own8 w base c lc
  od : Own8 w base d ld
  ab : dis a b
  ac : dis a c
  ad : dis a d
  bc : dis b c
  bd : dis b d
  cd : dis c d
theorem own_other {w w' : World} {base : Nat} {u v v' : Value} {m l : List Nat} (h : Own8 w base u m) (hd : dis v u) (hg : Gone w base v l v' w') : Own8 w' base u m ∧ dis v' u := by
  refine ⟨h.only hg.only (fun b hb e => hd b e hb), fun k hk hu => ?_⟩
  rcases hg.at_ with e | ⟨x, e, hx⟩
  · rw [e] at hk; exact hd k hk hu
  · rw [e] at hk; injection hk with hk; have := (h.lt k hu).2; omega
section
variable {w w' : World} {base : Nat} {a b c d v' : Value} {la lb lc ld m : List Nat}
theorem R4.below (h : R4 w base a b c d la lb lc ld) (hb : Below w.heap.size w w') : R4 w' base a b c d la lb lc ld := ⟨h.oa.below hb, h.ob.below hb, h.oc.below hb, h.od.below hb, h.ab, h.ac, h.ad, h.bc, h.bd, h.cd⟩
theorem R4.pa (h : R4 w base a b c d la lb lc ld) (hg : Gone w base a m v' w') : R4 w' base v' b c d m lb lc ld := by
  have h1 := own_other h.ob h.ab hg
  have h2 := own_other h.oc h.ac hg
  have h3 := own_other h.od h.ad hg
  exact ⟨hg.own, h1.1, h2.1, h3.1, h1.2, h2.2, h3.2, h.bc, h.bd, h.cd⟩
theorem R4.pb (h : R4 w base a b c d la lb lc ld) (hg : Gone w base b m v' w') : R4 w' base a v' c d la m lc ld := by
  have h1 := own_other h.oa h.ab.symm hg
  have h2 := own_other h.oc h.bc hg
  have h3 := own_other h.od h.bd hg
  exact ⟨h1.1, hg.own, h2.1, h3.1, h1.2.symm, h.ac, h.ad, h2.2, h3.2, h.cd⟩
theorem R4.pc (h : R4 w base a b c d la lb lc ld) (hg : Gone w base c m v' w') : R4 w' base a b v' d la lb m ld := by
  have h1 := own_other h.oa h.ac.symm hg
  have h2 := own_other h.ob h.bc.symm hg
  have h3 := own_other h.od h.cd hg
  exact ⟨h1.1, h2.1, hg.own, h3.1, h.ab, h1.2.symm, h.ad, h2.2.symm, h.bd, h3.2⟩
theorem R4.pd (h : R4 w base a b c d la lb lc ld) (hg : Gone w base d m v' w') : R4 w' base a b c v' la lb lc m := by
  have h1 := own_other h.oa h.ad.symm hg
  have h2 := own_other h.ob h.bd.symm hg
  have h3 := own_other h.oc h.cd.symm hg
  exact ⟨h1.1, h2.1, h3.1, hg.own, h.ab, h.ac, h1.2.symm, h.bc, h2.2.symm, h3.2.symm⟩
theorem R4.drew (h : R4 w base a b c d la lb lc ld) (n : Nat) : R4 (w.drewN n) base a b c d la lb lc ld := ⟨h.oa, h.ob, h.oc, h.od, h.ab, h.ac, h.ad, h.bc, h.bd, h.cd⟩
theorem gone_next (hB : base ≤ w.heap.size) (h : Own8 w base a la) (hg : Gone w base a m v' w') {W : World} {B : Nat} (hb : B ≤ base) (hbw : Below B W w) : Below B W w' := hbw.trans ((hg.below h hB).mono hb)
end
/-- The last appends: four rows behind a fresh one. -/
theorem last_four {w : World} {base : Nat} {a b c d v : Value} {la lb lc ld l : List Nat} (h : R4 w base a b c d la lb lc ld) (hv : Own8 w base v l) (ha : dis v a) (hb : dis v b) (hc : dis v c) (hd : dis v d) (hl : l.length + la.length + lb.length + lc.length + ld.length ≤ 1000000) (hB : base ≤ w.heap.size) :
    ∃ v1 w1 v2 w2 v3 w3 v4 w4, (Builtin.append_ #[24, 24] 24 #[v, a]).run Try.prog w = .ok v1 w1 ∧ (Builtin.append_ #[24, 24] 24 #[v1, b]).run Try.prog w1 = .ok v2 w2 ∧
      (Builtin.append_ #[24, 24] 24 #[v2, c]).run Try.prog w2 = .ok v3 w3 ∧ (Builtin.append_ #[24, 24] 24 #[v3, d]).run Try.prog w3 = .ok v4 w4 ∧ Own8 w4 base v4 (l ++ la ++ lb ++ lc ++ ld) ∧ Below base w w4 := by
  obtain ⟨aa, ac, ea, _, _, _, hna⟩ := h.oa.nums
  obtain ⟨v1, w1, r1, g1⟩ := app_8 base v l hv w.heap.size la aa ac hna (by omega) hB
  have hb1 := own_other h.ob hb g1
  have hc1 := own_other h.oc hc g1
  have hd1 := own_other h.od hd g1
  have B1 := g1.below hv hB
  obtain ⟨ba, bc, eb, _, _, _, hnb⟩ := hb1.1.nums
  obtain ⟨v2, w2, r2, g2⟩ := app_8 base v1 (l ++ la) g1.own w1.heap.size lb ba bc hnb (by rw [List.length_append]; omega) (Nat.le_trans hB B1.size)
  have hc2 := own_other hc1.1 hc1.2 g2
  have hd2 := own_other hd1.1 hd1.2 g2
  have B2 := B1.trans (g2.below g1.own (Nat.le_trans hB B1.size))
  obtain ⟨ca, cc, ec, _, _, _, hnc⟩ := hc2.1.nums
  obtain ⟨v3, w3, r3, g3⟩ := app_8 base v2 (l ++ la ++ lb) g2.own w2.heap.size lc ca cc hnc (by simp only [List.length_append]; omega) (Nat.le_trans hB B2.size)
  have hd3 := own_other hd2.1 hd2.2 g3
  have B3 := B2.trans (g3.below g2.own (Nat.le_trans hB B2.size))
  obtain ⟨da, dc, ed, _, _, _, hnd⟩ := hd3.1.nums
  obtain ⟨v4, w4, r4, g4⟩ := app_8 base v3 (l ++ la ++ lb ++ lc) g3.own w3.heap.size ld da dc hnd (by simp only [List.length_append]; omega) (Nat.le_trans hB B3.size)
  have B4 := B3.trans (g4.below g3.own (Nat.le_trans hB B3.size))
  rw [← ea] at r1
  rw [← eb] at r2
  rw [← ec] at r3
  rw [← ed] at r4
  exact ⟨v1, w1, v2, w2, v3, w3, v4, w4, r1, r2, r3, r4, g4.own, B4⟩
theorem fresh_at (w : World) (n : Nat) : Own8 (w.alloc (.cells #[] 5)) w.heap.size (.slice (some ⟨w.heap.size, 0, none⟩) 0 0) [] :=
  ⟨rfl, .inr ⟨w.heap.size, 0, #[], rfl, Nat.le_refl _, heap_alloc_new _ _, Nat.le_refl _, Nat.zero_le _, rfl, rfl⟩⟩
theorem fresh_own (w : World) (base : Nat) (hb : base ≤ w.heap.size) : Own8 (w.alloc (.cells #[] 5)) base (.slice (some ⟨w.heap.size, 0, none⟩) 0 0) [] :=
  ⟨rfl, .inr ⟨w.heap.size, 0, #[], rfl, hb, heap_alloc_new _ _, Nat.le_refl _, Nat.zero_le _, rfl, rfl⟩⟩
theorem dis_old {w : World} {base : Nat} {v : Value} {l : List Nat} (h : Own8 w base v l) : dis v (.slice (some ⟨w.heap.size, 0, none⟩) 0 0) := fun k hk e => by
  have e2 : w.heap.size = k := by simpa [Value.ownBlock] using e
  have := (h.lt k hk).2
  omega
def start4 (w : World) : World := (((w.alloc (.cells #[] 5)).alloc (.cells #[] 5)).alloc (.cells #[] 5)).alloc (.cells #[] 5)
theorem start_r4 (w : World) : R4 (start4 w) w.heap.size (.slice (some ⟨w.heap.size, 0, none⟩) 0 0) (.slice (some ⟨w.heap.size + 1, 0, none⟩) 0 0) (.slice (some ⟨w.heap.size + 1 + 1, 0, none⟩) 0 0) (.slice (some ⟨w.heap.size + 1 + 1 + 1, 0, none⟩) 0 0) [] [] [] [] ∧ Below w.heap.size w (start4 w) := by
  have a0 := fresh_own w w.heap.size (Nat.le_refl _)
  have b0 := fresh_own (w.alloc (.cells #[] 5)) w.heap.size (by simp)
  have c0 := fresh_own ((w.alloc (.cells #[] 5)).alloc (.cells #[] 5)) w.heap.size (by simp; omega)
  have d0 := fresh_own (((w.alloc (.cells #[] 5)).alloc (.cells #[] 5)).alloc (.cells #[] 5)) w.heap.size (by simp; omega)
  have e1 := dis_old a0
  have e2 := dis_old (a0.alloc (.cells #[] 5))
  have e3 := dis_old ((a0.alloc (.cells #[] 5)).alloc (.cells #[] 5))
  have e4 := dis_old b0
  have e5 := dis_old (b0.alloc (.cells #[] 5))
  have e6 := dis_old c0
  simp only [World.size_alloc] at b0 c0 d0 e1 e2 e3 e4 e5 e6
  refine ⟨⟨((a0.alloc _).alloc _).alloc _, (b0.alloc _).alloc _, c0.alloc _, d0, e1, e2, e3, e4, e5, e6⟩, ?_⟩
  exact ((((Below.refl _ _).alloc (Nat.le_refl _) _).alloc (by simp) _).alloc (by simp; omega) _).alloc (by simp; omega) _

set_option maxHeartbeats 16000000 in
theorem refPut_any (v : Value) (l : List En) (w : World) (h : RdE w w.heap.size v l) (hr : rightE l = true) (hl1 : l.length ≤ 10000) (R : List Nat) (hR : putE l = R) : Calls Try.prog 14 #[v] w fun e w' => ∃ v', e = .returned v' ∧ Own8 w' w.heap.size v' R ∧ Below w.heap.size w w' := by
  obtain ⟨hlen, hone, hsrt⟩ := right_all hr
  obtain ⟨a, c, rfl, _, _, ha, hok⟩ := h
  obtain ⟨L, hL⟩ : ∃ L, L = l.length := ⟨_, rfl⟩
  have HA := Lib.hid ha
  have HL := Lib.hid hL
  have Hone := Lib.hid hone
  have Hsrt := Lib.hid hsrt
  have HR := Lib.hid hR
  have HS4 := Lib.hid (start_r4 w)
  rw [← hL] at hlen hl1 ⊢
  have n0 : IntKind.u64.wrap (L : Int) = (L : Int) := IntWalk.u64_in _ ⟨by omega, by omega⟩
  clear ha hok hr hL hone hsrt hR
  go_enter Try.func14, Try.ntmps14
  go_upto_region 2 with (fail)
  obtain ⟨X0, hX0⟩ : ∃ X, X = start4 w := ⟨_, rfl⟩
  have HR0 : Hid (R4 X0 w.heap.size (.slice (some ⟨w.heap.size, 0, none⟩) 0 0) (.slice (some ⟨w.heap.size + 1, 0, none⟩) 0 0) (.slice (some ⟨w.heap.size + 1 + 1, 0, none⟩) 0 0) (.slice (some ⟨w.heap.size + 1 + 1 + 1, 0, none⟩) 0 0) [] [] [] []) := by rw [hX0]; exact HS4.out.1
  have HB0 : Hid (Below w.heap.size w X0) := by rw [hX0]; exact HS4.out.2
  unfold start4 at hX0
  rw [← hX0]
  clear hX0 HS4
  go_wp2_with fail
  go_loopw [7, 3, 4, 5, 6] (fun i s3 s4 s5 s6 W => ∃ (k : Nat) (a b c d : Value) (ma mb mc md : List Nat), k ≤ L ∧ i = .int .i64 (k : Int) ∧ a = s3 ∧ b = s4 ∧ c = s5 ∧ d = s6 ∧ Hid (R4 W w.heap.size a b c d ma mb mc md) ∧ Hid (Below w.heap.size w W) ∧
      Hid (ma ++ vbs (gaps (before l k) (l.drop k)) = vbs (gaps 0 l)) ∧ Hid (mb ++ vbs ((l.drop k).map En.run) = vbs (l.map En.run)) ∧ Hid (mc ++ vbs ((l.drop k).map En.len) = vbs (l.map En.len)) ∧ Hid (md ++ vbs (offs (prv l k) (l.drop k)) = vbs (offs none l)) ∧
      ma.length ≤ 10 * k ∧ mb.length ≤ 10 * k ∧ mc.length ≤ 10 * k ∧ md.length ≤ 10 * k) (fun i _ _ _ _ _ => L - (intOf i).toNat)
  case atStart => exact ⟨0, _, _, _, _, [], [], [], [], Nat.zero_le _, rfl, rfl, rfl, rfl, rfl, HR0, HB0, Lib.hid rfl, Lib.hid rfl, Lib.hid rfl, Lib.hid rfl, by simp, by simp, by simp, by simp⟩
  case round =>
    obtain ⟨k, a, b, c, d, ma, mb, mc, md, hk, rfl, rfl, rfl, rfl, rfl, HR1, HB1, HSa, HSb, HSc, HSd, hal, hbl, hcl, hdl⟩ := hrel
    have Hal := Lib.hid hal
    have Hbl := Lib.hid hbl
    have Hcl := Lib.hid hcl
    have Hdl := Lib.hid hdl
    have Hl1 : Hid (L ≤ 10000) := hl1
    have Hal' : Hid (ma.length ≤ 100000) := by show _ ≤ _; omega
    have Hbl' : Hid (mb.length ≤ 100000) := by show _ ≤ _; omega
    have Hcl' : Hid (mc.length ≤ 100000) := by show _ ≤ _; omega
    have Hdl' : Hid (md.length ≤ 100000) := by show _ ≤ _; omega
    clear hal hbl hcl hdl
    by_cases hlt : k < L
    · have hkl : k < l.length := by have := HL.out; omega
      have hdr : l.drop k = l[k] :: l.drop (k + 1) := List.drop_eq_getElem_cons hkl
      have hbe := before_le Hsrt.out k hkl
      have hbn := before_next (l := l) k hkl
      have hnext := prv_next l k hkl
      obtain ⟨b1, o1, rfl, hb1, p0, p1, p2, p3⟩ := HA.out.at k hkl
      have hek := oneE_yes (Hone.out k hkl)
      rw [hdr] at HSa HSb HSc HSd
      generalize l[k]'hkl = e at *
      obtain ⟨id, off, len, run⟩ := e
      simp only at p0 p1 p2 p3 hek hbe hbn
      obtain ⟨g0, g1, g3, g4, g5⟩ := hek
      have HP : Hid (∀ X, Below w.heap.size w X → X.cell? ⟨b1, o1 + k * 4, none⟩ = some (.int .u64 (id : Int)) ∧ X.cell? ⟨b1, o1 + k * 4 + 1, none⟩ = some (.int .u64 (off : Int)) ∧ X.cell? ⟨b1, o1 + k * 4 + 2, none⟩ = some (.int .u64 (len : Int)) ∧ X.cell? ⟨b1, o1 + k * 4 + 3, none⟩ = some (.int .u64 (run : Int))) := fun X hb =>
        ⟨(hb.cell hb1).trans p0, (hb.cell hb1).trans p1, (hb.cell hb1).trans p2, (hb.cell hb1).trans p3⟩
      have hk0 : (0 : Int) ≤ (k : Int) := by omega
      have hk1 : (k : Int) < (L : Int) := by omega
      have w2 : IntKind.u64.wrap ((off : Int) + 1) = ((off + 1 : Nat) : Int) := by rw [IntWalk.u64_in _ ⟨by omega, by omega⟩]; omega
      obtain ⟨F, hF⟩ : ∃ F, off + 1 = F := ⟨_, rfl⟩
      rw [hF] at w2
      have hFl : F ≤ 4194305 := by omega
      have Hgb : Hid ((mb ++ vb run) ++ vbs ((l.drop (k + 1)).map En.run) = vbs (l.map En.run)) := by show _ = _; rw [← HSb.out]; simp [vbs_cons]
      have Hgc : Hid ((mc ++ vb len) ++ vbs ((l.drop (k + 1)).map En.len) = vbs (l.map En.len)) := by show _ = _; rw [← HSc.out]; simp [vbs_cons]
      have Hga : Hid ((ma ++ vb (id - before l k)) ++ vbs (gaps (before l (k + 1)) (l.drop (k + 1))) = vbs (gaps 0 l)) := by show _ = _; rw [hbn, ← HSa.out]; simp [gaps, vbs_cons]
      have Hgd0 : Hid ((md ++ vb (offE (prv l k) ⟨id, off, len, run⟩)) ++ vbs (offs (prv l (k + 1)) (l.drop (k + 1))) = vbs (offs none l)) := by show _ = _; rw [hnext, ← HSd.out]; simp [offs, vbs_cons]
      clear HSa HSb HSc HSd hdr hbn p0 p1 p2 p3 hnext
      obtain ⟨c0, c1, c2, c3⟩ := HP.out _ HB1.out
      rcases Nat.eq_zero_or_pos k with hz | hz
      · have n1 : decide ((0 : Int) < (k : Int)) = false := decide_eq_false (by omega)
        have n2 : decide (0 < k) = false := decide_eq_false (by omega)
        have hbz : before l k = 0 := by unfold before prv; rw [if_pos hz]
        have hof : offE (prv l k) ⟨id, off, len, run⟩ = F := by unfold prv; rw [if_pos hz]; exact hF
        rw [hof] at Hgd0
        rw [hbz, Nat.sub_zero] at Hga
        have Hgd := Hgd0
        clear hof hz hbz hbe Hgd0 hb1
        go_wp2_with fail
        go_quiet (fail)
        go_wp2_with fail
        refine (refBytes_any (id) _ (by omega)).mono ?_
        rintro e Y2 ⟨u2, rfl, hu, hb⟩
        have HRy : Hid (R4 Y2 w.heap.size a b c d ma mb mc md) := by first | exact HR1.out.below hb | exact (HR1.out.drew _).below hb | exact ((HR1.out.drew _).drew _).below hb
        have HBy : Hid (Below w.heap.size w Y2) := by first | exact HB1.out.trans (hb.mono HB1.out.size) | exact (below_drawnE HB1.out _).trans (hb.mono HB1.out.size) | exact (below_drawnE (below_drawnE HB1.out _) _).trans (hb.mono HB1.out.size)
        obtain ⟨xa, xc, rfl, _, _, _, hN⟩ := hu.nums
        have Hv10 := Lib.hid (vb_len10 (v := id) (by omega))
        obtain ⟨V2, W2, hrun, hG⟩ := app_8 w.heap.size _ _ HRy.out.oa Y2.heap.size (vb (id)) xa xc hN (by have := Hal'.out; have := Hv10.out; omega) HBy.out.size
        have HR2 := Lib.hid (HRy.out.pa hG)
        have HB2 := Lib.hid (gone_next HBy.out.size HRy.out.oa hG (Nat.le_refl _) HBy.out)
        have Hrun := Lib.hid hrun
        have Hv2 := Hv10
        clear hu hb hN hrun hG
        obtain ⟨N2, hN2⟩ : ∃ N, (vb (id)).length = N := ⟨_, rfl⟩
        rw [hN2] at Hrun ⊢
        clear hN2
        obtain ⟨c0, c1, c2, c3⟩ := HP.out _ HB2.out
        go_wp2_with (at_builtin; refine app_run (by rfl) (.tmp 60) (.tmp 62) 24 rfl _ _ V2 rfl rfl Hrun.out ?_)
        go_wp2_with fail
        refine (refBytes_any (run) _ (by omega)).mono ?_
        rintro e Y3 ⟨u3, rfl, hu, hb⟩
        have HRy := Lib.hid (HR2.out.below hb)
        have HBy := Lib.hid (HB2.out.trans (hb.mono HB2.out.size))
        obtain ⟨xa, xc, rfl, _, _, _, hN⟩ := hu.nums
        have Hv10 := Lib.hid (vb_len10 (v := run) (by omega))
        obtain ⟨V3, W3, hrun, hG⟩ := app_8 w.heap.size _ _ HRy.out.ob Y3.heap.size (vb (run)) xa xc hN (by have := Hbl'.out; have := Hv10.out; omega) HBy.out.size
        have HR3 := Lib.hid (HRy.out.pb hG)
        have HB3 := Lib.hid (gone_next HBy.out.size HRy.out.ob hG (Nat.le_refl _) HBy.out)
        have Hrun := Lib.hid hrun
        have Hv3 := Hv10
        clear hu hb hN hrun hG
        obtain ⟨N3, hN3⟩ : ∃ N, (vb (run)).length = N := ⟨_, rfl⟩
        rw [hN3] at Hrun ⊢
        clear hN3
        obtain ⟨c0, c1, c2, c3⟩ := HP.out _ HB3.out
        go_wp2_with (at_builtin; refine app_run (by rfl) (.tmp 64) (.tmp 70) 24 rfl _ _ V3 rfl rfl Hrun.out ?_)
        go_wp2_with fail
        refine (refBytes_any (len) _ (by omega)).mono ?_
        rintro e Y4 ⟨u4, rfl, hu, hb⟩
        have HRy := Lib.hid (HR3.out.below hb)
        have HBy := Lib.hid (HB3.out.trans (hb.mono HB3.out.size))
        obtain ⟨xa, xc, rfl, _, _, _, hN⟩ := hu.nums
        have Hv10 := Lib.hid (vb_len10 (v := len) (by omega))
        obtain ⟨V4, W4, hrun, hG⟩ := app_8 w.heap.size _ _ HRy.out.oc Y4.heap.size (vb (len)) xa xc hN (by have := Hcl'.out; have := Hv10.out; omega) HBy.out.size
        have HR4 := Lib.hid (HRy.out.pc hG)
        have HB4 := Lib.hid (gone_next HBy.out.size HRy.out.oc hG (Nat.le_refl _) HBy.out)
        have Hrun := Lib.hid hrun
        have Hv4 := Hv10
        clear hu hb hN hrun hG
        obtain ⟨N4, hN4⟩ : ∃ N, (vb (len)).length = N := ⟨_, rfl⟩
        rw [hN4] at Hrun ⊢
        clear hN4
        go_wp2_with (at_builtin; refine app_run (by rfl) (.tmp 72) (.tmp 78) 24 rfl _ _ V4 rfl rfl Hrun.out ?_)
        go_wp2_with fail
        refine (refBytes_any (F) _ (by omega)).mono ?_
        rintro e Y5 ⟨u5, rfl, hu, hb⟩
        have HRy := Lib.hid (HR4.out.below hb)
        have HBy := Lib.hid (HB4.out.trans (hb.mono HB4.out.size))
        obtain ⟨xa, xc, rfl, _, _, _, hN⟩ := hu.nums
        have Hv10 := Lib.hid (vb_len10 (v := F) (by omega))
        obtain ⟨V5, W5, hrun, hG⟩ := app_8 w.heap.size _ _ HRy.out.od Y5.heap.size (vb (F)) xa xc hN (by have := Hdl'.out; have := Hv10.out; omega) HBy.out.size
        have HR5 := Lib.hid (HRy.out.pd hG)
        have HB5 := Lib.hid (gone_next HBy.out.size HRy.out.od hG (Nat.le_refl _) HBy.out)
        have Hrun := Lib.hid hrun
        have Hv5 := Hv10
        clear hu hb hN hrun hG
        obtain ⟨N5, hN5⟩ : ∃ N, (vb (F)).length = N := ⟨_, rfl⟩
        rw [hN5] at Hrun ⊢
        clear hN5
        go_wp2_with (at_builtin; refine app_run (by rfl) (.tmp 80) (.tmp 82) 24 rfl _ _ V5 rfl rfl Hrun.out ?_)
        go_roundw
        case rel => exact ⟨k + 1, _, _, _, _, ma ++ vb (id), mb ++ vb run, mc ++ vb len, md ++ vb (F), hlt, by go_num, rfl, rfl, rfl, rfl, HR5, HB5, Hga, Hgb, Hgc, Hgd, by have := Hal.out; have := Hv2.out; rw [List.length_append]; omega, by have := Hbl.out; have := Hv3.out; rw [List.length_append]; omega, by have := Hcl.out; have := Hv4.out; rw [List.length_append]; omega, by have := Hdl.out; have := Hv5.out; rw [List.length_append]; omega⟩
        case measure => simp [intOf]; omega
      · have n1 : decide ((0 : Int) < (k : Int)) = true := decide_eq_true (by omega)
        have n2 : decide (0 < k) = true := decide_eq_true hz
        obtain ⟨j, hj⟩ : ∃ j, j + 1 = k := ⟨k - 1, by omega⟩
        have hjl : j < l.length := by have := HL.out; omega
        have hpv : prv l k = some l[j] := by rw [← hj]; exact prv_next l j hjl
        have hbf : before l k = (l[j]).id := by unfold before; rw [hpv]
        have hqo := oneE_yes (Hone.out j hjl)
        obtain ⟨b2, o2, e2, h2, q0, q1, q2, q3⟩ := HA.out.at j hjl
        injection e2 with e2
        injection e2 with e3 e4
        subst e3 e4
        rw [hpv] at Hgd0
        rw [hbf] at Hga hbe
        generalize l[j]'hjl = q at *
        obtain ⟨qid, qoff, qlen, qrun⟩ := q
        simp only at q0 q1 q2 q3 hqo hbe Hga
        obtain ⟨j0, j1, j2, j3, j4⟩ := hqo
        have q0 := (HB1.out.cell (p := ⟨b1, o1 + j * 4, none⟩) h2).trans q0
        have q1 := (HB1.out.cell (p := ⟨b1, o1 + j * 4 + 1, none⟩) h2).trans q1
        have q2 := (HB1.out.cell (p := ⟨b1, o1 + j * 4 + 2, none⟩) h2).trans q2
        have n3 : IntKind.i64.wrap ((k : Int) - 1) = (j : Int) := by rw [IntWalk.i64_in _ ⟨by omega, by omega⟩]; omega
        have n4 : (0 : Int) ≤ (j : Int) := by omega
        have n5 : (j : Int) < (L : Int) := by omega
        have w1 : IntKind.u64.wrap ((id : Int) - (qid : Int)) = ((id - qid : Nat) : Int) := by rw [IntWalk.u64_in _ ⟨by omega, by omega⟩]; omega
        have w3 : IntKind.u64.wrap ((qoff : Int) + (qlen : Int)) = ((qoff + qlen : Nat) : Int) := by rw [IntWalk.u64_in _ ⟨by omega, by omega⟩]; omega
        obtain ⟨S, hS⟩ : ∃ S, qoff + qlen = S := ⟨_, rfl⟩
        rw [hS] at w3
        obtain ⟨G, hG⟩ : ∃ G, id - qid = G := ⟨_, rfl⟩
        rw [hG] at w1 Hga
        have hGl : G < 18446744073709551616 := by omega
        clear hj hpv hbf hb1 h2
        by_cases hc : off = S
        · subst hc
          have hof : offE (some ⟨qid, qoff, qlen, qrun⟩) ⟨id, off, len, run⟩ = 0 := if_pos hS.symm
          rw [hof] at Hgd0
          have Hgd := Hgd0
          clear hof hS Hgd0
          go_wp2_with fail
          go_quiet (fail)
          go_wp2_with fail
          go_quiet (fail)
          go_wp2_with fail
          refine (refBytes_any (G) _ (by omega)).mono ?_
          rintro e Y2 ⟨u2, rfl, hu, hb⟩
          have HRy : Hid (R4 Y2 w.heap.size a b c d ma mb mc md) := by first | exact HR1.out.below hb | exact (HR1.out.drew _).below hb | exact ((HR1.out.drew _).drew _).below hb
          have HBy : Hid (Below w.heap.size w Y2) := by first | exact HB1.out.trans (hb.mono HB1.out.size) | exact (below_drawnE HB1.out _).trans (hb.mono HB1.out.size) | exact (below_drawnE (below_drawnE HB1.out _) _).trans (hb.mono HB1.out.size)
          obtain ⟨xa, xc, rfl, _, _, _, hN⟩ := hu.nums
          have Hv10 := Lib.hid (vb_len10 (v := G) (by omega))
          obtain ⟨V2, W2, hrun, hG⟩ := app_8 w.heap.size _ _ HRy.out.oa Y2.heap.size (vb (G)) xa xc hN (by have := Hal'.out; have := Hv10.out; omega) HBy.out.size
          have HR2 := Lib.hid (HRy.out.pa hG)
          have HB2 := Lib.hid (gone_next HBy.out.size HRy.out.oa hG (Nat.le_refl _) HBy.out)
          have Hrun := Lib.hid hrun
          have Hv2 := Hv10
          clear hu hb hN hrun hG
          obtain ⟨N2, hN2⟩ : ∃ N, (vb (G)).length = N := ⟨_, rfl⟩
          rw [hN2] at Hrun ⊢
          clear hN2
          obtain ⟨c0, c1, c2, c3⟩ := HP.out _ HB2.out
          go_wp2_with (at_builtin; refine app_run (by rfl) (.tmp 60) (.tmp 62) 24 rfl _ _ V2 rfl rfl Hrun.out ?_)
          go_wp2_with fail
          refine (refBytes_any (run) _ (by omega)).mono ?_
          rintro e Y3 ⟨u3, rfl, hu, hb⟩
          have HRy := Lib.hid (HR2.out.below hb)
          have HBy := Lib.hid (HB2.out.trans (hb.mono HB2.out.size))
          obtain ⟨xa, xc, rfl, _, _, _, hN⟩ := hu.nums
          have Hv10 := Lib.hid (vb_len10 (v := run) (by omega))
          obtain ⟨V3, W3, hrun, hG⟩ := app_8 w.heap.size _ _ HRy.out.ob Y3.heap.size (vb (run)) xa xc hN (by have := Hbl'.out; have := Hv10.out; omega) HBy.out.size
          have HR3 := Lib.hid (HRy.out.pb hG)
          have HB3 := Lib.hid (gone_next HBy.out.size HRy.out.ob hG (Nat.le_refl _) HBy.out)
          have Hrun := Lib.hid hrun
          have Hv3 := Hv10
          clear hu hb hN hrun hG
          obtain ⟨N3, hN3⟩ : ∃ N, (vb (run)).length = N := ⟨_, rfl⟩
          rw [hN3] at Hrun ⊢
          clear hN3
          obtain ⟨c0, c1, c2, c3⟩ := HP.out _ HB3.out
          go_wp2_with (at_builtin; refine app_run (by rfl) (.tmp 64) (.tmp 70) 24 rfl _ _ V3 rfl rfl Hrun.out ?_)
          go_wp2_with fail
          refine (refBytes_any (len) _ (by omega)).mono ?_
          rintro e Y4 ⟨u4, rfl, hu, hb⟩
          have HRy := Lib.hid (HR3.out.below hb)
          have HBy := Lib.hid (HB3.out.trans (hb.mono HB3.out.size))
          obtain ⟨xa, xc, rfl, _, _, _, hN⟩ := hu.nums
          have Hv10 := Lib.hid (vb_len10 (v := len) (by omega))
          obtain ⟨V4, W4, hrun, hG⟩ := app_8 w.heap.size _ _ HRy.out.oc Y4.heap.size (vb (len)) xa xc hN (by have := Hcl'.out; have := Hv10.out; omega) HBy.out.size
          have HR4 := Lib.hid (HRy.out.pc hG)
          have HB4 := Lib.hid (gone_next HBy.out.size HRy.out.oc hG (Nat.le_refl _) HBy.out)
          have Hrun := Lib.hid hrun
          have Hv4 := Hv10
          clear hu hb hN hrun hG
          obtain ⟨N4, hN4⟩ : ∃ N, (vb (len)).length = N := ⟨_, rfl⟩
          rw [hN4] at Hrun ⊢
          clear hN4
          go_wp2_with (at_builtin; refine app_run (by rfl) (.tmp 72) (.tmp 78) 24 rfl _ _ V4 rfl rfl Hrun.out ?_)
          go_wp2_with fail
          refine (refBytes_any (0) _ (by omega)).mono ?_
          rintro e Y5 ⟨u5, rfl, hu, hb⟩
          have HRy := Lib.hid (HR4.out.below hb)
          have HBy := Lib.hid (HB4.out.trans (hb.mono HB4.out.size))
          obtain ⟨xa, xc, rfl, _, _, _, hN⟩ := hu.nums
          have Hv10 := Lib.hid (vb_len10 (v := 0) (by omega))
          obtain ⟨V5, W5, hrun, hG⟩ := app_8 w.heap.size _ _ HRy.out.od Y5.heap.size (vb (0)) xa xc hN (by have := Hdl'.out; have := Hv10.out; omega) HBy.out.size
          have HR5 := Lib.hid (HRy.out.pd hG)
          have HB5 := Lib.hid (gone_next HBy.out.size HRy.out.od hG (Nat.le_refl _) HBy.out)
          have Hrun := Lib.hid hrun
          have Hv5 := Hv10
          clear hu hb hN hrun hG
          obtain ⟨N5, hN5⟩ : ∃ N, (vb (0)).length = N := ⟨_, rfl⟩
          rw [hN5] at Hrun ⊢
          clear hN5
          go_wp2_with (at_builtin; refine app_run (by rfl) (.tmp 80) (.tmp 82) 24 rfl _ _ V5 rfl rfl Hrun.out ?_)
          go_roundw
          case rel => exact ⟨k + 1, _, _, _, _, ma ++ vb (G), mb ++ vb run, mc ++ vb len, md ++ vb (0), hlt, by go_num, rfl, rfl, rfl, rfl, HR5, HB5, Hga, Hgb, Hgc, Hgd, by have := Hal.out; have := Hv2.out; rw [List.length_append]; omega, by have := Hbl.out; have := Hv3.out; rw [List.length_append]; omega, by have := Hcl.out; have := Hv4.out; rw [List.length_append]; omega, by have := Hdl.out; have := Hv5.out; rw [List.length_append]; omega⟩
          case measure => simp [intOf]; omega
        · have m1 : ((off : Int) == (S : Int)) = false := beq_eq_false_iff_ne.mpr (by omega)
          have hof : offE (some ⟨qid, qoff, qlen, qrun⟩) ⟨id, off, len, run⟩ = F := by rw [← hF]; exact if_neg (by show ¬ off = qoff + qlen; omega)
          rw [hof] at Hgd0
          have Hgd := Hgd0
          clear hof hS hc Hgd0
          go_wp2_with fail
          go_quiet (fail)
          go_wp2_with fail
          go_quiet (fail)
          go_wp2_with fail
          refine (refBytes_any (G) _ (by omega)).mono ?_
          rintro e Y2 ⟨u2, rfl, hu, hb⟩
          have HRy : Hid (R4 Y2 w.heap.size a b c d ma mb mc md) := by first | exact HR1.out.below hb | exact (HR1.out.drew _).below hb | exact ((HR1.out.drew _).drew _).below hb
          have HBy : Hid (Below w.heap.size w Y2) := by first | exact HB1.out.trans (hb.mono HB1.out.size) | exact (below_drawnE HB1.out _).trans (hb.mono HB1.out.size) | exact (below_drawnE (below_drawnE HB1.out _) _).trans (hb.mono HB1.out.size)
          obtain ⟨xa, xc, rfl, _, _, _, hN⟩ := hu.nums
          have Hv10 := Lib.hid (vb_len10 (v := G) (by omega))
          obtain ⟨V2, W2, hrun, hG⟩ := app_8 w.heap.size _ _ HRy.out.oa Y2.heap.size (vb (G)) xa xc hN (by have := Hal'.out; have := Hv10.out; omega) HBy.out.size
          have HR2 := Lib.hid (HRy.out.pa hG)
          have HB2 := Lib.hid (gone_next HBy.out.size HRy.out.oa hG (Nat.le_refl _) HBy.out)
          have Hrun := Lib.hid hrun
          have Hv2 := Hv10
          clear hu hb hN hrun hG
          obtain ⟨N2, hN2⟩ : ∃ N, (vb (G)).length = N := ⟨_, rfl⟩
          rw [hN2] at Hrun ⊢
          clear hN2
          obtain ⟨c0, c1, c2, c3⟩ := HP.out _ HB2.out
          go_wp2_with (at_builtin; refine app_run (by rfl) (.tmp 60) (.tmp 62) 24 rfl _ _ V2 rfl rfl Hrun.out ?_)
          go_wp2_with fail
          refine (refBytes_any (run) _ (by omega)).mono ?_
          rintro e Y3 ⟨u3, rfl, hu, hb⟩
          have HRy := Lib.hid (HR2.out.below hb)
          have HBy := Lib.hid (HB2.out.trans (hb.mono HB2.out.size))
          obtain ⟨xa, xc, rfl, _, _, _, hN⟩ := hu.nums
          have Hv10 := Lib.hid (vb_len10 (v := run) (by omega))
          obtain ⟨V3, W3, hrun, hG⟩ := app_8 w.heap.size _ _ HRy.out.ob Y3.heap.size (vb (run)) xa xc hN (by have := Hbl'.out; have := Hv10.out; omega) HBy.out.size
          have HR3 := Lib.hid (HRy.out.pb hG)
          have HB3 := Lib.hid (gone_next HBy.out.size HRy.out.ob hG (Nat.le_refl _) HBy.out)
          have Hrun := Lib.hid hrun
          have Hv3 := Hv10
          clear hu hb hN hrun hG
          obtain ⟨N3, hN3⟩ : ∃ N, (vb (run)).length = N := ⟨_, rfl⟩
          rw [hN3] at Hrun ⊢
          clear hN3
          obtain ⟨c0, c1, c2, c3⟩ := HP.out _ HB3.out
          go_wp2_with (at_builtin; refine app_run (by rfl) (.tmp 64) (.tmp 70) 24 rfl _ _ V3 rfl rfl Hrun.out ?_)
          go_wp2_with fail
          refine (refBytes_any (len) _ (by omega)).mono ?_
          rintro e Y4 ⟨u4, rfl, hu, hb⟩
          have HRy := Lib.hid (HR3.out.below hb)
          have HBy := Lib.hid (HB3.out.trans (hb.mono HB3.out.size))
          obtain ⟨xa, xc, rfl, _, _, _, hN⟩ := hu.nums
          have Hv10 := Lib.hid (vb_len10 (v := len) (by omega))
          obtain ⟨V4, W4, hrun, hG⟩ := app_8 w.heap.size _ _ HRy.out.oc Y4.heap.size (vb (len)) xa xc hN (by have := Hcl'.out; have := Hv10.out; omega) HBy.out.size
          have HR4 := Lib.hid (HRy.out.pc hG)
          have HB4 := Lib.hid (gone_next HBy.out.size HRy.out.oc hG (Nat.le_refl _) HBy.out)
          have Hrun := Lib.hid hrun
          have Hv4 := Hv10
          clear hu hb hN hrun hG
          obtain ⟨N4, hN4⟩ : ∃ N, (vb (len)).length = N := ⟨_, rfl⟩
          rw [hN4] at Hrun ⊢
          clear hN4
          go_wp2_with (at_builtin; refine app_run (by rfl) (.tmp 72) (.tmp 78) 24 rfl _ _ V4 rfl rfl Hrun.out ?_)
          go_wp2_with fail
          refine (refBytes_any (F) _ (by omega)).mono ?_
          rintro e Y5 ⟨u5, rfl, hu, hb⟩
          have HRy := Lib.hid (HR4.out.below hb)
          have HBy := Lib.hid (HB4.out.trans (hb.mono HB4.out.size))
          obtain ⟨xa, xc, rfl, _, _, _, hN⟩ := hu.nums
          have Hv10 := Lib.hid (vb_len10 (v := F) (by omega))
          obtain ⟨V5, W5, hrun, hG⟩ := app_8 w.heap.size _ _ HRy.out.od Y5.heap.size (vb (F)) xa xc hN (by have := Hdl'.out; have := Hv10.out; omega) HBy.out.size
          have HR5 := Lib.hid (HRy.out.pd hG)
          have HB5 := Lib.hid (gone_next HBy.out.size HRy.out.od hG (Nat.le_refl _) HBy.out)
          have Hrun := Lib.hid hrun
          have Hv5 := Hv10
          clear hu hb hN hrun hG
          obtain ⟨N5, hN5⟩ : ∃ N, (vb (F)).length = N := ⟨_, rfl⟩
          rw [hN5] at Hrun ⊢
          clear hN5
          go_wp2_with (at_builtin; refine app_run (by rfl) (.tmp 80) (.tmp 82) 24 rfl _ _ V5 rfl rfl Hrun.out ?_)
          go_roundw
          case rel => exact ⟨k + 1, _, _, _, _, ma ++ vb (G), mb ++ vb run, mc ++ vb len, md ++ vb (F), hlt, by go_num, rfl, rfl, rfl, rfl, HR5, HB5, Hga, Hgb, Hgc, Hgd, by have := Hal.out; have := Hv2.out; rw [List.length_append]; omega, by have := Hbl.out; have := Hv3.out; rw [List.length_append]; omega, by have := Hcl.out; have := Hv4.out; rw [List.length_append]; omega, by have := Hdl.out; have := Hv5.out; rw [List.length_append]; omega⟩
          case measure => simp [intOf]; omega
    · obtain rfl : L = k := by omega
      rw [List.drop_of_length_le (by have := HL.out; omega)] at HSa HSb HSc HSd
      have ea : ma = vbs (gaps 0 l) := by have := HSa.out; simpa [gaps, vbs] using this
      have eb : mb = vbs (l.map En.run) := by have := HSb.out; simpa [vbs] using this
      have ec : mc = vbs (l.map En.len) := by have := HSc.out; simpa [vbs] using this
      have ed : md = vbs (offs none l) := by have := HSd.out; simpa [offs, vbs] using this
      go_wp2_with fail
      refine (refBytes_any L _ (by omega)).mono ?_
      rintro e Y ⟨u, rfl, hu, hb⟩
      have HRy := HR1.out.below hb
      have HBy := Lib.hid (HB1.out.trans (hb.mono HB1.out.size))
      have hub : Own8 Y w.heap.size u (vb L) := by
        obtain ⟨h1, h2⟩ := hu
        refine ⟨h1, ?_⟩
        rcases h2 with h2 | ⟨g, cap, cur, e1, e2, r⟩
        · exact .inl h2
        · exact .inr ⟨g, cap, cur, e1, Nat.le_trans HB1.out.size e2, r⟩
      have fr : ∀ {x : Value} {m : List Nat}, Own8 wr w.heap.size x m → dis u x := fun hx k hk e => by
        have h1 := (hu.lt k hk).1
        have h2 := (hx.lt k e).2
        omega
      have hv10 := vb_len10 (v := L) (by omega)
      obtain ⟨v1, w1, v2, w2, v3, w3, v4, w4, r1, r2, r3, r4, ho, hbb⟩ := last_four HRy hub (fr HR1.out.oa) (fr HR1.out.ob) (fr HR1.out.oc) (fr HR1.out.od) (by have := Hal.out; have := Hbl.out; have := Hcl.out; have := Hdl.out; omega) HBy.out.size
      have Hr1 := Lib.hid r1
      have Hr2 := Lib.hid r2
      have Hr3 := Lib.hid r3
      have Hr4 := Lib.hid r4
      have HO := Lib.hid ho
      have HBf := Lib.hid (HBy.out.trans hbb)
      have HE : Hid (vb L ++ ma ++ mb ++ mc ++ md = R) := by show _ = _; rw [ea, eb, ec, ed, ← HR.out, HL.out]; rfl
      clear r1 r2 r3 r4 ho hbb hu hb HRy hub fr ea eb ec ed HSa HSb HSc HSd
      go_wp2_with (first | (at_builtin; refine app_run (by rfl) (.tmp 87) (.tmp 88) 24 rfl _ _ v1 rfl rfl Hr1.out ?_) | (at_builtin; refine app_run (by rfl) (.tmp 89) (.tmp 90) 24 rfl _ _ v2 rfl rfl Hr2.out ?_) | (at_builtin; refine app_run (by rfl) (.tmp 91) (.tmp 92) 24 rfl _ _ v3 rfl rfl Hr3.out ?_) | (at_builtin; refine app_run (by rfl) (.tmp 93) (.tmp 94) 24 rfl _ _ v4 rfl rfl Hr4.out ?_))
      go_ret
      exact ⟨v4, rfl, by have := HO.out; rw [HE.out] at this; exact this, HBf.out⟩
end Go.Proofs.Ytaafcmgkmdbefaa
