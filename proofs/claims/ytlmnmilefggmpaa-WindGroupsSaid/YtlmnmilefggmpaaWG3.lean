/- Walks over layer 27: Groups, the reference's Groups. -/
import Derived.Test.YtlmnmilefggmpaaWG2
namespace Go.Proofs.Ytlmnmilefggmpaa
open Go.RowKit
set_option linter.unusedVariables false
set_option maxRecDepth 100000

set_option maxHeartbeats 8000000 in
theorem groups_any (v : Value) (ll : List (List P2)) (w : World) (h : RdPP w w.heap.size v ll) (hL : ll.length ≤ 30) (hb : ∀ l ∈ ll, l.length ≤ 50) :
    Calls Try.prog 13 #[v] w fun e w' => ∃ v' us, e = .returned (.tuple #[v', .bool (decide (0 < (gsTo (sgs ll) ll.length).1.length))]) ∧ OwnG w' w.heap.size v' us (gsTo (sgs ll) ll.length).1 ∧ Below w.heap.size w w' := by
  obtain ⟨a, c, rfl⟩ := h.form_
  have HR := Lib.hid h
  have Hb := Lib.hid hb
  obtain ⟨SL, hSL⟩ : ∃ z, z = sgs ll := ⟨_, rfl⟩
  have HSL := Lib.hid hSL
  rw [← hSL]
  obtain ⟨L, hLL⟩ : ∃ z, z = ll.length := ⟨_, rfl⟩
  have HL := Lib.hid hLL
  rw [← hLL] at hL ⊢
  have hinfo := gginfo
  obtain ⟨i0, hi0, hz0⟩ : ∃ i, Try.prog.info? 36 = some i ∧ (i.zero, i.size, i.bytes) = (some (.slice none 0 0), 1, 24) := by
    cases hh : Try.prog.info? 36 with
    | none => rw [hh] at hinfo; cases hinfo
    | some i => rw [hh] at hinfo; exact ⟨i, rfl, Option.some.inj hinfo⟩
  simp only [Prod.mk.injEq] at hz0
  obtain ⟨hz0, hz1, hz2⟩ := hz0
  have hinfo2 := i64info
  obtain ⟨j0, hj0, hy0⟩ : ∃ i, Try.prog.info? 3 = some i ∧ (i.zero, i.size, i.bytes) = (some (.int .i64 0), 1, 8) := by
    cases hh : Try.prog.info? 3 with
    | none => rw [hh] at hinfo2; cases hinfo2
    | some i => rw [hh] at hinfo2; exact ⟨i, rfl, Option.some.inj hinfo2⟩
  simp only [Prod.mk.injEq] at hy0
  obtain ⟨hy0, hy1, hy2⟩ := hy0
  clear hinfo hinfo2 h hb hSL hLL
  have Hi := Lib.hid (And.intro hi0 (And.intro hz0 (And.intro hz1 hz2)))
  have Hj := Lib.hid (And.intro hj0 (And.intro hy0 (And.intro hy1 hy2)))
  clear hi0 hz0 hz1 hz2 hj0 hy0 hy1 hy2
  go_enter Try.func13, Try.ntmps13
  go_wp2_with fail
  go_loopw [4, 5, 11] (fun g f x W => ∃ (k : Nat) (us : List Value), k ≤ L ∧ x = .int .i64 (k : Int) ∧ f = .int .i64 (gsTo SL k).2 ∧ Hid (OwnG W w.heap.size g us (gsTo SL k).1) ∧ Hid (Below w.heap.size w W)) (fun _ _ x _ => L - (intOf x).toNat)
  case atStart => exact ⟨0, [], Nat.zero_le _, rfl, rfl, OwnG.nil_ _ _, Below.refl _ _⟩
  case round =>
    obtain ⟨k, us, hk, rfl, rfl, HG, HB⟩ := hrel
    obtain ⟨⟨G, F⟩, hst⟩ : ∃ st, st = gsTo SL k := ⟨_, rfl⟩
    have hinv := gs_inv SL k
    have HN : Hid (∀ s, s = SL.getD k 0 → gsTo SL (k + 1) = gs1 (G, F) k s) := fun s hs => by rw [hst, hs]; rfl
    rw [← hst] at HG hinv ⊢
    simp only at HG hinv ⊢
    obtain ⟨hv1, hv2, hv3⟩ := hinv
    have Hv3 := Lib.hid hv3
    clear hv3
    by_cases hlt : k < L
    · have hkl : k < ll.length := by have := HL.out; omega
      obtain ⟨b1, o1, a1, c1, rfl, hb1, hc, hrd⟩ := HR.out.el_ k hkl
      have p0 := (HB.out.cell (p := ⟨b1, o1 + k, none⟩) hb1).trans hc
      have hsv : sgn (areaO ll[k]).1 = SL.getD k 0 := by rw [HSL.out, sgs_at hkl]
      have hS := signw_any _ _ wr ((hrd.below HB.out).more HB.out.size) (by have := Hb.out _ (List.getElem_mem hkl); omega)
      rw [hsv] at hS
      have HN2 := Lib.hid (HN.out _ rfl)
      have HS := Lib.hid hS
      have hk0 : (0 : Int) ≤ (k : Int) := by omega
      have hk1 : (k : Int) < (L : Int) := by omega
      generalize SL.getD k 0 = s at *
      generalize (ll[k]'hkl).length = m1 at *
      clear hc hrd hsv hS hst HN hkl
      go_wp2_with fail
      refine HS.out.mono ?_
      rintro e X ⟨rfl, hX⟩
      have HG := Lib.hid (HG.out.below (hX.mono (Nat.le_refl _)))
      have HB := Lib.hid (HB.out.trans (hX.mono HB.out.size))
      clear hX HS p0
      by_cases hs : s = 0
      · subst hs
        have HN3 := HN2.out
        rw [gs1_zero rfl] at HN3
        have HN4 := Lib.hid HN3
        clear HN3 HN2
        by_cases hF : F = 0
        · subst hF
          go_wp2_with fail
          go_roundw
          case rel => exact ⟨k + 1, us, by omega, by go_num, by rw [HN4.out], by rw [HN4.out]; exact HG, HB⟩
          case measure => simp [intOf] <;> omega
        · have hF2 : (F == 0) = false := by simpa using hF
          go_wp2_with fail
          go_roundw
          case rel => exact ⟨k + 1, us, by omega, by go_num, by rw [HN4.out], by rw [HN4.out]; exact HG, HB⟩
          case measure => simp [intOf] <;> omega
      · have hs2 : (s == 0) = false := by simpa using hs
        by_cases hF : F = 0
        · subst hF
          have HN3 := HN2.out
          rw [gs1_first hs rfl] at HN3
          have HN4 := Lib.hid HN3
          clear HN3 HN2
          go_upto_region 12 with (fail)
          obtain ⟨ga, gc, rfl, hgc, hgm, _⟩ := Vals.of_own HG.out.row
          obtain ⟨W1, hW1⟩ : ∃ z, z = X.alloc (.cells #[.int .i64 (k : Int)] 3) := ⟨_, rfl⟩
          have hB1 : Below X.heap.size X W1 := by rw [hW1]; exact (Below.refl _ _).alloc (Nat.le_refl _) _
          have hsz : W1.heap.size = X.heap.size + 1 := by rw [hW1]; simp
          have hbx : w.heap.size ≤ X.heap.size := HB.out.size
          have hu1 : Own64 W1 w.heap.size (.slice (some ⟨X.heap.size, 0, none⟩) 1 1) [k] := by
            rw [hW1]
            exact ⟨rfl, .inr ⟨X.heap.size, 1, #[.int .i64 (k : Int)], rfl, hbx, heap_alloc_new X _, Nat.le_refl _, by unfold maxLen; omega, rfl, rfl⟩⟩
          have hown := (HG.out.below hB1).row
          have HU := Lib.hid hu1
          have HW1 := Lib.hid hB1
          have hV : Vals (W1.alloc (.cells #[.slice (some ⟨X.heap.size, 0, none⟩) 1 1] 36)) (X.heap.size + 2) 1 (some ⟨X.heap.size + 1, 0, none⟩) 1 [.slice (some ⟨X.heap.size, 0, none⟩) 1 1] := by
            rw [← hsz]
            exact (Vals.of_block (xs := [.slice (some ⟨X.heap.size, 0, none⟩) 1 1]) (heap_alloc_new W1 _) rfl).more (by simp; omega)
          have hown2 : (W1.alloc (.cells #[.slice (some ⟨X.heap.size, 0, none⟩) 1 1] 36)).ownsRow w.heap.size 36 1 (.slice ga G.length gc) G.length us := World.ownsRow.alloc hown _
          have hgl : G.length ≤ 30 := by omega
          have hbb : w.heap.size ≤ (W1.alloc (.cells #[.slice (some ⟨X.heap.size, 0, none⟩) 1 1] 36)).heap.size := by simp; omega
          obtain ⟨hi0, hz0, hz1, hz2⟩ := Hi.out
          have HSZ := Lib.hid hsz
          rw [hW1] at hV hown2 hbb
          clear hB1 hu1 hown hsz
          go_wp2_with (at_builtin; refine app_vals rfl (.tmp 42) (.tmp 45) 33 rfl w.heap.size 36 i0 _ 1 24 Try.underlying33 hi0 hz0 hz1 hz2 rfl (by omega) (.slice ga G.length gc) _ _ rfl hown2 _ _ 1 1 _ rfl hV (by simp [Value.oneCell']) (by unfold maxLen; omega) (by omega) hbb ?_)
          intro v3 w3 h2 h3 h5
          have hgr : W1.grownBy w3 (Value.slice ga G.length gc).ownBlock := by rw [hW1]; exact (World.grownBy_alloc _ _ _).trans h3
          have hOG := HG.out.app (i := k) HW1.out HU.out rfl (Nat.le_refl _) h2 hgr (by
            rcases h5 with h5 | h5
            · exact .inl h5
            · exact .inr ⟨_, h5, by rw [hW1]; simp⟩)
          have hBf : Below w.heap.size w w3 := (HB.out.trans (HW1.out.mono HB.out.size)).grown hgr (by have := HSZ.out; omega) (fun b e => (HG.out.lt b e).1)
          have HOG := Lib.hid hOG
          have HBF := Lib.hid hBf
          clear h2 h3 h5 hgr hOG hBf hV hown2 hbb hW1 hi0 hz0 hz1 hz2 HW1 HU HSZ
          go_wp2_with fail
          go_roundw
          case rel => exact ⟨k + 1, _, by omega, by go_num, by rw [HN4.out], by rw [HN4.out]; exact HOG, HBF⟩
          case measure => simp [intOf] <;> omega
        · have hF2 : (F == 0) = false := by simpa using hF
          by_cases hsF : s = F
          · subst hsF
            have HN3 := HN2.out
            rw [gs1_same hs hF rfl] at HN3
            have HN4 := Lib.hid HN3
            clear HN3 HN2
            go_upto_region 12 with (fail)
            obtain ⟨ga, gc, rfl, hgc, hgm, _⟩ := Vals.of_own HG.out.row
            obtain ⟨W1, hW1⟩ : ∃ z, z = X.alloc (.cells #[.int .i64 (k : Int)] 3) := ⟨_, rfl⟩
            have hB1 : Below X.heap.size X W1 := by rw [hW1]; exact (Below.refl _ _).alloc (Nat.le_refl _) _
            have hsz : W1.heap.size = X.heap.size + 1 := by rw [hW1]; simp
            have hbx : w.heap.size ≤ X.heap.size := HB.out.size
            have hu1 : Own64 W1 w.heap.size (.slice (some ⟨X.heap.size, 0, none⟩) 1 1) [k] := by
              rw [hW1]
              exact ⟨rfl, .inr ⟨X.heap.size, 1, #[.int .i64 (k : Int)], rfl, hbx, heap_alloc_new X _, Nat.le_refl _, by unfold maxLen; omega, rfl, rfl⟩⟩
            have hown := (HG.out.below hB1).row
            have HU := Lib.hid hu1
            have HW1 := Lib.hid hB1
            have hV : Vals (W1.alloc (.cells #[.slice (some ⟨X.heap.size, 0, none⟩) 1 1] 36)) (X.heap.size + 2) 1 (some ⟨X.heap.size + 1, 0, none⟩) 1 [.slice (some ⟨X.heap.size, 0, none⟩) 1 1] := by
              rw [← hsz]
              exact (Vals.of_block (xs := [.slice (some ⟨X.heap.size, 0, none⟩) 1 1]) (heap_alloc_new W1 _) rfl).more (by simp; omega)
            have hown2 : (W1.alloc (.cells #[.slice (some ⟨X.heap.size, 0, none⟩) 1 1] 36)).ownsRow w.heap.size 36 1 (.slice ga G.length gc) G.length us := World.ownsRow.alloc hown _
            have hgl : G.length ≤ 30 := by omega
            have hbb : w.heap.size ≤ (W1.alloc (.cells #[.slice (some ⟨X.heap.size, 0, none⟩) 1 1] 36)).heap.size := by simp; omega
            obtain ⟨hi0, hz0, hz1, hz2⟩ := Hi.out
            have HSZ := Lib.hid hsz
            rw [hW1] at hV hown2 hbb
            clear hB1 hu1 hown hsz
            go_wp2_with (at_builtin; refine app_vals rfl (.tmp 42) (.tmp 45) 33 rfl w.heap.size 36 i0 _ 1 24 Try.underlying33 hi0 hz0 hz1 hz2 rfl (by omega) (.slice ga G.length gc) _ _ rfl hown2 _ _ 1 1 _ rfl hV (by simp [Value.oneCell']) (by unfold maxLen; omega) (by omega) hbb ?_)
            intro v3 w3 h2 h3 h5
            have hgr : W1.grownBy w3 (Value.slice ga G.length gc).ownBlock := by rw [hW1]; exact (World.grownBy_alloc _ _ _).trans h3
            have hOG := HG.out.app (i := k) HW1.out HU.out rfl (Nat.le_refl _) h2 hgr (by
              rcases h5 with h5 | h5
              · exact .inl h5
              · exact .inr ⟨_, h5, by rw [hW1]; simp⟩)
            have hBf : Below w.heap.size w w3 := (HB.out.trans (HW1.out.mono HB.out.size)).grown hgr (by have := HSZ.out; omega) (fun b e => (HG.out.lt b e).1)
            have HOG := Lib.hid hOG
            have HBF := Lib.hid hBf
            clear h2 h3 h5 hgr hOG hBf hV hown2 hbb hW1 hi0 hz0 hz1 hz2 HW1 HU HSZ
            go_wp2_with fail
            go_roundw
            case rel => exact ⟨k + 1, _, by omega, by go_num, by rw [HN4.out], by rw [HN4.out]; exact HOG, HBF⟩
            case measure => simp [intOf] <;> omega
          · have hsF2 : (s == F) = false := by simpa using hsF
            have HN3 := HN2.out
            rw [gs1_other hs hF hsF] at HN3
            have HN4 := Lib.hid HN3
            clear HN3 HN2
            have hG0 : 0 < G.length := by have := fun e => hF (hv1.2 e); omega
            clear hv1
            go_upto_region 9 with (fail)
            obtain ⟨m, hm⟩ : ∃ m, G.length = m + 1 := ⟨G.length - 1, by omega⟩
            obtain ⟨bg, cap, rfl, _, _⟩ := World.ownsRow.form HG.out.row hG0
            have hul : m < us.length := by have := HG.out.len; omega
            obtain ⟨u, hu⟩ : ∃ u, us[m]? = some u := ⟨_, List.getElem?_eq_getElem hul⟩
            have hel := (HG.out.el m u hu).1
            obtain ⟨q, hq⟩ : ∃ q, G.getD m [] = q := ⟨_, rfl⟩
            rw [hq] at hel
            obtain ⟨ua, uc, rfl, _⟩ := hel.nums
            have hql : q.length ≤ 30 := by
              have h1 : m < G.length := by omega
              have h2 : G.getD m [] = G[m] := by simp [List.getD, h1]
              have := Hv3.out _ (List.getElem_mem h1)
              rw [← h2, hq] at this; omega
            have x0 : X.cell? ⟨bg, m, none⟩ = some (.slice ua q.length uc) := by
              obtain ⟨a5, c5, e5, _, _, hv5⟩ := Vals.of_own HG.out.row
              injection e5 with e5 _ _
              obtain ⟨b6, o6, e6, _, hc6⟩ := hv5.2 (by omega)
              rw [← e5] at e6
              injection e6 with e6
              injection e6 with e6 e7 _
              subst e6 e7
              have := hc6 m hul
              rw [Nat.zero_add] at this
              rw [this, hu]
            have hm1 : ((G.length : Int) - 1) = (m : Int) := by omega
            have hm2 : (m : Int) < (G.length : Int) := by omega
            have hm0 : (0 : Int) ≤ (m : Int) := by omega
            have hbx : w.heap.size ≤ X.heap.size := HB.out.size
            obtain ⟨hj0, hy0, hy1, hy2⟩ := Hj.out
            have HEL := Lib.hid hel
            have HU := Lib.hid hu
            have HM := Lib.hid hm
            have HQ := Lib.hid hq
            have hown : X.ownsRow w.heap.size 3 1 (.slice ua q.length uc) q.length (i64s q) := hel
            clear hel hu hm hq hul
            go_wp2_with (at_builtin; refine app_one rfl (.tmp 30) (.tmp 32) 36 rfl w.heap.size 3 j0 _ 8 Try.underlying36 hj0 hy0 hy1 hy2 rfl (.slice ua q.length uc) _ _ rfl hown (.int .i64 (k : Int)) 1 rfl rfl (by unfold maxLen; omega) (by omega) hbx ?_)
            intro v3 w3 h2 h3 h5
            have hgo : Gone64 X w.heap.size (.slice ua q.length uc) (q ++ [k]) v3 w3 := Gone64.grown h2 (by simp) (by rw [i64s_append]; rfl) h3 h5
            obtain ⟨a3, c3, rfl, _⟩ := hgo.own.nums
            have hOG := HG.out.grow HU.out hgo
            have hne := (HG.out.el m _ HU.out).2
            have hrow3 : w3.ownsRow w.heap.size 36 1 (.slice (some ⟨bg, 0, none⟩) G.length cap) G.length us := own_only HG.out.row hgo.only (fun b hb e => hne b e hb)
            have f3 : w3.frozen? ⟨bg, m, none⟩ = false := hrow3.frozenAt m
            have x3 : w3.cell? ⟨bg, m, none⟩ = some (.slice ua q.length uc) := (hgo.only.cell (p := ⟨bg, m, none⟩) (HG.out.lt bg rfl).2 (fun e => hne bg e rfl)).trans x0
            have hBf := (HB.out.trans (hgo.below HEL.out hbx |>.mono (Nat.le_refl _))).setCell (p := ⟨bg, m, none⟩) (HG.out.lt bg rfl).1 (.slice a3 (q ++ [k]).length c3)
            have hGl : G.length - 1 = m := by have := HM.out; omega
            rw [hGl, HQ.out] at HN4
            have hql1 : (q ++ [k]).length = q.length + 1 := by simp
            rw [hql1] at hOG hBf
            have HOG := Lib.hid hOG
            have HBF := Lib.hid hBf
            clear hql1 h2 h3 h5 hgo hOG hBf hne hrow3 hown x0 hj0 hy0 hy1 hy2 hGl HEL HU HQ
            go_wp2_with fail
            go_roundw
            case rel => exact ⟨k + 1, _, by omega, by go_num, by rw [HN4.out], by rw [HN4.out]; exact HOG, HBF⟩
            case measure => simp [intOf] <;> omega
    · have hkL : k = L := by omega
      subst hkL
      have hFG : (F != 0) = decide (0 < (gsTo SL k).1.length) := by
        rw [← hst]
        by_cases h0 : F = 0
        · have := hv1.1 h0; simp [h0, this]
        · have := fun e => h0 (hv1.2 e)
          have h2 : 0 < G.length := by omega
          simp [h0, h2]
      have HG2 : Hid (OwnG wr w.heap.size u4 us (gsTo SL k).1) := by rw [← hst]; exact HG.out
      clear hst HN hv1
      go_wp2_with fail
      go_ret2
      exact ⟨_, us, rfl, HG2.out, HB.out⟩

set_option maxHeartbeats 8000000 in
theorem refGroups_any (v : Value) (ll : List (List P2)) (w : World) (h : RdPP w w.heap.size v ll) (hL : ll.length ≤ 30) (hb : ∀ l ∈ ll, l.length ≤ 50) :
    Calls Try.prog 14 #[v] w fun e w' => ∃ v' us, e = .returned (.tuple #[v', .bool (decide (0 < (gsTo (sgs ll) ll.length).1.length))]) ∧ OwnG w' w.heap.size v' us (gsTo (sgs ll) ll.length).1 ∧ Below w.heap.size w w' := by
  obtain ⟨a, c, rfl⟩ := h.form_
  have HR := Lib.hid h
  have Hb := Lib.hid hb
  obtain ⟨SL, hSL⟩ : ∃ z, z = sgs ll := ⟨_, rfl⟩
  have HSL := Lib.hid hSL
  rw [← hSL]
  obtain ⟨L, hLL⟩ : ∃ z, z = ll.length := ⟨_, rfl⟩
  have HL := Lib.hid hLL
  rw [← hLL] at hL ⊢
  have hinfo := gginfo
  obtain ⟨i0, hi0, hz0⟩ : ∃ i, Try.prog.info? 36 = some i ∧ (i.zero, i.size, i.bytes) = (some (.slice none 0 0), 1, 24) := by
    cases hh : Try.prog.info? 36 with
    | none => rw [hh] at hinfo; cases hinfo
    | some i => rw [hh] at hinfo; exact ⟨i, rfl, Option.some.inj hinfo⟩
  simp only [Prod.mk.injEq] at hz0
  obtain ⟨hz0, hz1, hz2⟩ := hz0
  have hinfo2 := i64info
  obtain ⟨j0, hj0, hy0⟩ : ∃ i, Try.prog.info? 3 = some i ∧ (i.zero, i.size, i.bytes) = (some (.int .i64 0), 1, 8) := by
    cases hh : Try.prog.info? 3 with
    | none => rw [hh] at hinfo2; cases hinfo2
    | some i => rw [hh] at hinfo2; exact ⟨i, rfl, Option.some.inj hinfo2⟩
  simp only [Prod.mk.injEq] at hy0
  obtain ⟨hy0, hy1, hy2⟩ := hy0
  clear hinfo hinfo2 h hb hSL hLL
  have Hi := Lib.hid (And.intro hi0 (And.intro hz0 (And.intro hz1 hz2)))
  have Hj := Lib.hid (And.intro hj0 (And.intro hy0 (And.intro hy1 hy2)))
  clear hi0 hz0 hz1 hz2 hj0 hy0 hy1 hy2
  go_enter Try.func14, Try.ntmps14
  go_wp2_with fail
  go_loopw [4, 5, 6] (fun g f x W => ∃ (k : Nat) (us : List Value), k ≤ L ∧ x = .int .i64 (k : Int) ∧ f = .int .i64 (gsTo SL k).2 ∧ Hid (OwnG W w.heap.size g us (gsTo SL k).1) ∧ Hid (Below w.heap.size w W)) (fun _ _ x _ => L - (intOf x).toNat)
  case atStart => exact ⟨0, [], Nat.zero_le _, rfl, rfl, OwnG.nil_ _ _, Below.refl _ _⟩
  case round =>
    obtain ⟨k, us, hk, rfl, rfl, HG, HB⟩ := hrel
    obtain ⟨⟨G, F⟩, hst⟩ : ∃ st, st = gsTo SL k := ⟨_, rfl⟩
    have hinv := gs_inv SL k
    have HN : Hid (∀ s, s = SL.getD k 0 → gsTo SL (k + 1) = gs1 (G, F) k s) := fun s hs => by rw [hst, hs]; rfl
    rw [← hst] at HG hinv ⊢
    simp only at HG hinv ⊢
    obtain ⟨hv1, hv2, hv3⟩ := hinv
    have Hv3 := Lib.hid hv3
    clear hv3
    by_cases hlt : k < L
    · have hkl : k < ll.length := by have := HL.out; omega
      obtain ⟨b1, o1, a1, c1, rfl, hb1, hc, hrd⟩ := HR.out.el_ k hkl
      have p0 := (HB.out.cell (p := ⟨b1, o1 + k, none⟩) hb1).trans hc
      have hsv : sgn (areaO ll[k]).1 = SL.getD k 0 := by rw [HSL.out, sgs_at hkl]
      have hS := refSign_any _ _ wr ((hrd.below HB.out).more HB.out.size) (by have := Hb.out _ (List.getElem_mem hkl); omega)
      rw [hsv] at hS
      have HN2 := Lib.hid (HN.out _ rfl)
      have HS := Lib.hid hS
      have hk0 : (0 : Int) ≤ (k : Int) := by omega
      have hk1 : (k : Int) < (L : Int) := by omega
      generalize SL.getD k 0 = s at *
      generalize (ll[k]'hkl).length = m1 at *
      clear hc hrd hsv hS hst HN hkl
      go_wp2_with fail
      refine HS.out.mono ?_
      rintro e X ⟨rfl, hX⟩
      have HG := Lib.hid (HG.out.below (hX.mono (Nat.le_refl _)))
      have HB := Lib.hid (HB.out.trans (hX.mono HB.out.size))
      clear hX HS p0
      by_cases hs : s = 0
      · subst hs
        have HN3 := HN2.out
        rw [gs1_zero rfl] at HN3
        have HN4 := Lib.hid HN3
        clear HN3 HN2
        by_cases hF : F = 0
        · subst hF
          go_wp2_with fail
          go_roundw
          case rel => exact ⟨k + 1, us, by omega, by go_num, by rw [HN4.out], by rw [HN4.out]; exact HG, HB⟩
          case measure => simp [intOf] <;> omega
        · have hF2 : (F == 0) = false := by simpa using hF
          go_wp2_with fail
          go_roundw
          case rel => exact ⟨k + 1, us, by omega, by go_num, by rw [HN4.out], by rw [HN4.out]; exact HG, HB⟩
          case measure => simp [intOf] <;> omega
      · have hs2 : (s == 0) = false := by simpa using hs
        by_cases hF : F = 0
        · subst hF
          have HN3 := HN2.out
          rw [gs1_first hs rfl] at HN3
          have HN4 := Lib.hid HN3
          clear HN3 HN2
          go_upto_region 11 with (fail)
          obtain ⟨ga, gc, rfl, hgc, hgm, _⟩ := Vals.of_own HG.out.row
          obtain ⟨W1, hW1⟩ : ∃ z, z = X.alloc (.cells #[.int .i64 (k : Int)] 3) := ⟨_, rfl⟩
          have hB1 : Below X.heap.size X W1 := by rw [hW1]; exact (Below.refl _ _).alloc (Nat.le_refl _) _
          have hsz : W1.heap.size = X.heap.size + 1 := by rw [hW1]; simp
          have hbx : w.heap.size ≤ X.heap.size := HB.out.size
          have hu1 : Own64 W1 w.heap.size (.slice (some ⟨X.heap.size, 0, none⟩) 1 1) [k] := by
            rw [hW1]
            exact ⟨rfl, .inr ⟨X.heap.size, 1, #[.int .i64 (k : Int)], rfl, hbx, heap_alloc_new X _, Nat.le_refl _, by unfold maxLen; omega, rfl, rfl⟩⟩
          have hown := (HG.out.below hB1).row
          have HU := Lib.hid hu1
          have HW1 := Lib.hid hB1
          have hV : Vals (W1.alloc (.cells #[.slice (some ⟨X.heap.size, 0, none⟩) 1 1] 36)) (X.heap.size + 2) 1 (some ⟨X.heap.size + 1, 0, none⟩) 1 [.slice (some ⟨X.heap.size, 0, none⟩) 1 1] := by
            rw [← hsz]
            exact (Vals.of_block (xs := [.slice (some ⟨X.heap.size, 0, none⟩) 1 1]) (heap_alloc_new W1 _) rfl).more (by simp; omega)
          have hown2 : (W1.alloc (.cells #[.slice (some ⟨X.heap.size, 0, none⟩) 1 1] 36)).ownsRow w.heap.size 36 1 (.slice ga G.length gc) G.length us := World.ownsRow.alloc hown _
          have hgl : G.length ≤ 30 := by omega
          have hbb : w.heap.size ≤ (W1.alloc (.cells #[.slice (some ⟨X.heap.size, 0, none⟩) 1 1] 36)).heap.size := by simp; omega
          obtain ⟨hi0, hz0, hz1, hz2⟩ := Hi.out
          have HSZ := Lib.hid hsz
          rw [hW1] at hV hown2 hbb
          clear hB1 hu1 hown hsz
          go_wp2_with (at_builtin; refine app_vals rfl (.tmp 27) (.tmp 30) 33 rfl w.heap.size 36 i0 _ 1 24 Try.underlying33 hi0 hz0 hz1 hz2 rfl (by omega) (.slice ga G.length gc) _ _ rfl hown2 _ _ 1 1 _ rfl hV (by simp [Value.oneCell']) (by unfold maxLen; omega) (by omega) hbb ?_)
          intro v3 w3 h2 h3 h5
          have hgr : W1.grownBy w3 (Value.slice ga G.length gc).ownBlock := by rw [hW1]; exact (World.grownBy_alloc _ _ _).trans h3
          have hOG := HG.out.app (i := k) HW1.out HU.out rfl (Nat.le_refl _) h2 hgr (by
            rcases h5 with h5 | h5
            · exact .inl h5
            · exact .inr ⟨_, h5, by rw [hW1]; simp⟩)
          have hBf : Below w.heap.size w w3 := (HB.out.trans (HW1.out.mono HB.out.size)).grown hgr (by have := HSZ.out; omega) (fun b e => (HG.out.lt b e).1)
          have HOG := Lib.hid hOG
          have HBF := Lib.hid hBf
          clear h2 h3 h5 hgr hOG hBf hV hown2 hbb hW1 hi0 hz0 hz1 hz2 HW1 HU HSZ
          go_wp2_with fail
          go_roundw
          case rel => exact ⟨k + 1, _, by omega, by go_num, by rw [HN4.out], by rw [HN4.out]; exact HOG, HBF⟩
          case measure => simp [intOf] <;> omega
        · have hF2 : (F == 0) = false := by simpa using hF
          by_cases hsF : s = F
          · subst hsF
            have HN3 := HN2.out
            rw [gs1_same hs hF rfl] at HN3
            have HN4 := Lib.hid HN3
            clear HN3 HN2
            go_upto_region 11 with (fail)
            obtain ⟨ga, gc, rfl, hgc, hgm, _⟩ := Vals.of_own HG.out.row
            obtain ⟨W1, hW1⟩ : ∃ z, z = X.alloc (.cells #[.int .i64 (k : Int)] 3) := ⟨_, rfl⟩
            have hB1 : Below X.heap.size X W1 := by rw [hW1]; exact (Below.refl _ _).alloc (Nat.le_refl _) _
            have hsz : W1.heap.size = X.heap.size + 1 := by rw [hW1]; simp
            have hbx : w.heap.size ≤ X.heap.size := HB.out.size
            have hu1 : Own64 W1 w.heap.size (.slice (some ⟨X.heap.size, 0, none⟩) 1 1) [k] := by
              rw [hW1]
              exact ⟨rfl, .inr ⟨X.heap.size, 1, #[.int .i64 (k : Int)], rfl, hbx, heap_alloc_new X _, Nat.le_refl _, by unfold maxLen; omega, rfl, rfl⟩⟩
            have hown := (HG.out.below hB1).row
            have HU := Lib.hid hu1
            have HW1 := Lib.hid hB1
            have hV : Vals (W1.alloc (.cells #[.slice (some ⟨X.heap.size, 0, none⟩) 1 1] 36)) (X.heap.size + 2) 1 (some ⟨X.heap.size + 1, 0, none⟩) 1 [.slice (some ⟨X.heap.size, 0, none⟩) 1 1] := by
              rw [← hsz]
              exact (Vals.of_block (xs := [.slice (some ⟨X.heap.size, 0, none⟩) 1 1]) (heap_alloc_new W1 _) rfl).more (by simp; omega)
            have hown2 : (W1.alloc (.cells #[.slice (some ⟨X.heap.size, 0, none⟩) 1 1] 36)).ownsRow w.heap.size 36 1 (.slice ga G.length gc) G.length us := World.ownsRow.alloc hown _
            have hgl : G.length ≤ 30 := by omega
            have hbb : w.heap.size ≤ (W1.alloc (.cells #[.slice (some ⟨X.heap.size, 0, none⟩) 1 1] 36)).heap.size := by simp; omega
            obtain ⟨hi0, hz0, hz1, hz2⟩ := Hi.out
            have HSZ := Lib.hid hsz
            rw [hW1] at hV hown2 hbb
            clear hB1 hu1 hown hsz
            go_wp2_with (at_builtin; refine app_vals rfl (.tmp 27) (.tmp 30) 33 rfl w.heap.size 36 i0 _ 1 24 Try.underlying33 hi0 hz0 hz1 hz2 rfl (by omega) (.slice ga G.length gc) _ _ rfl hown2 _ _ 1 1 _ rfl hV (by simp [Value.oneCell']) (by unfold maxLen; omega) (by omega) hbb ?_)
            intro v3 w3 h2 h3 h5
            have hgr : W1.grownBy w3 (Value.slice ga G.length gc).ownBlock := by rw [hW1]; exact (World.grownBy_alloc _ _ _).trans h3
            have hOG := HG.out.app (i := k) HW1.out HU.out rfl (Nat.le_refl _) h2 hgr (by
              rcases h5 with h5 | h5
              · exact .inl h5
              · exact .inr ⟨_, h5, by rw [hW1]; simp⟩)
            have hBf : Below w.heap.size w w3 := (HB.out.trans (HW1.out.mono HB.out.size)).grown hgr (by have := HSZ.out; omega) (fun b e => (HG.out.lt b e).1)
            have HOG := Lib.hid hOG
            have HBF := Lib.hid hBf
            clear h2 h3 h5 hgr hOG hBf hV hown2 hbb hW1 hi0 hz0 hz1 hz2 HW1 HU HSZ
            go_wp2_with fail
            go_roundw
            case rel => exact ⟨k + 1, _, by omega, by go_num, by rw [HN4.out], by rw [HN4.out]; exact HOG, HBF⟩
            case measure => simp [intOf] <;> omega
          · have hsF2 : (s == F) = false := by simpa using hsF
            have HN3 := HN2.out
            rw [gs1_other hs hF hsF] at HN3
            have HN4 := Lib.hid HN3
            clear HN3 HN2
            have hG0 : 0 < G.length := by have := fun e => hF (hv1.2 e); omega
            clear hv1
            go_upto_region 12 with (fail)
            obtain ⟨m, hm⟩ : ∃ m, G.length = m + 1 := ⟨G.length - 1, by omega⟩
            obtain ⟨bg, cap, rfl, _, _⟩ := World.ownsRow.form HG.out.row hG0
            have hul : m < us.length := by have := HG.out.len; omega
            obtain ⟨u, hu⟩ : ∃ u, us[m]? = some u := ⟨_, List.getElem?_eq_getElem hul⟩
            have hel := (HG.out.el m u hu).1
            obtain ⟨q, hq⟩ : ∃ q, G.getD m [] = q := ⟨_, rfl⟩
            rw [hq] at hel
            obtain ⟨ua, uc, rfl, _⟩ := hel.nums
            have hql : q.length ≤ 30 := by
              have h1 : m < G.length := by omega
              have h2 : G.getD m [] = G[m] := by simp [List.getD, h1]
              have := Hv3.out _ (List.getElem_mem h1)
              rw [← h2, hq] at this; omega
            have x0 : X.cell? ⟨bg, m, none⟩ = some (.slice ua q.length uc) := by
              obtain ⟨a5, c5, e5, _, _, hv5⟩ := Vals.of_own HG.out.row
              injection e5 with e5 _ _
              obtain ⟨b6, o6, e6, _, hc6⟩ := hv5.2 (by omega)
              rw [← e5] at e6
              injection e6 with e6
              injection e6 with e6 e7 _
              subst e6 e7
              have := hc6 m hul
              rw [Nat.zero_add] at this
              rw [this, hu]
            have hm1 : ((G.length : Int) - 1) = (m : Int) := by omega
            have hm2 : (m : Int) < (G.length : Int) := by omega
            have hm0 : (0 : Int) ≤ (m : Int) := by omega
            have hbx : w.heap.size ≤ X.heap.size := HB.out.size
            obtain ⟨hj0, hy0, hy1, hy2⟩ := Hj.out
            have HEL := Lib.hid hel
            have HU := Lib.hid hu
            have HM := Lib.hid hm
            have HQ := Lib.hid hq
            have hown : X.ownsRow w.heap.size 3 1 (.slice ua q.length uc) q.length (i64s q) := hel
            clear hel hu hm hq hul
            go_wp2_with (at_builtin; refine app_one rfl (.tmp 41) (.tmp 43) 36 rfl w.heap.size 3 j0 _ 8 Try.underlying36 hj0 hy0 hy1 hy2 rfl (.slice ua q.length uc) _ _ rfl hown (.int .i64 (k : Int)) 1 rfl rfl (by unfold maxLen; omega) (by omega) hbx ?_)
            intro v3 w3 h2 h3 h5
            have hgo : Gone64 X w.heap.size (.slice ua q.length uc) (q ++ [k]) v3 w3 := Gone64.grown h2 (by simp) (by rw [i64s_append]; rfl) h3 h5
            obtain ⟨a3, c3, rfl, _⟩ := hgo.own.nums
            have hOG := HG.out.grow HU.out hgo
            have hne := (HG.out.el m _ HU.out).2
            have hrow3 : w3.ownsRow w.heap.size 36 1 (.slice (some ⟨bg, 0, none⟩) G.length cap) G.length us := own_only HG.out.row hgo.only (fun b hb e => hne b e hb)
            have f3 : w3.frozen? ⟨bg, m, none⟩ = false := hrow3.frozenAt m
            have x3 : w3.cell? ⟨bg, m, none⟩ = some (.slice ua q.length uc) := (hgo.only.cell (p := ⟨bg, m, none⟩) (HG.out.lt bg rfl).2 (fun e => hne bg e rfl)).trans x0
            have hBf := (HB.out.trans (hgo.below HEL.out hbx |>.mono (Nat.le_refl _))).setCell (p := ⟨bg, m, none⟩) (HG.out.lt bg rfl).1 (.slice a3 (q ++ [k]).length c3)
            have hGl : G.length - 1 = m := by have := HM.out; omega
            rw [hGl, HQ.out] at HN4
            have hql1 : (q ++ [k]).length = q.length + 1 := by simp
            rw [hql1] at hOG hBf
            have HOG := Lib.hid hOG
            have HBF := Lib.hid hBf
            clear hql1 h2 h3 h5 hgo hOG hBf hne hrow3 hown x0 hj0 hy0 hy1 hy2 hGl HEL HU HQ
            go_wp2_with fail
            go_roundw
            case rel => exact ⟨k + 1, _, by omega, by go_num, by rw [HN4.out], by rw [HN4.out]; exact HOG, HBF⟩
            case measure => simp [intOf] <;> omega
    · have hkL : k = L := by omega
      subst hkL
      have HG2 : Hid (OwnG wr w.heap.size u4 us (gsTo SL k).1) := by rw [← hst]; exact HG.out
      have hGG : G = (gsTo SL k).1 := by rw [← hst]
      have hGf : decide ((0 : Int) < (G.length : Int)) = decide (0 < (gsTo SL k).1.length) := by rw [← hGG]; simp
      obtain ⟨ga, gc, rfl, _, _, _⟩ := Vals.of_own HG.out.row
      clear hst HN hv1 hGf
      go_wp2_with fail
      go_ret2
      exact ⟨_, us, by rw [← hGG]; rfl, HG2.out, HB.out⟩
end Go.Proofs.Ytlmnmilefggmpaa
