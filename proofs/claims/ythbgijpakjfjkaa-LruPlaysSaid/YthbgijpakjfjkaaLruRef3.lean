/- Layer 34: the reference's Put where there is room. -/
import Derived.Test.YthbgijpakjfjkaaLruRef2
namespace Go.Proofs.Ythbgijpakjfjkaa
open Go.RowKit
set_option linter.unusedVariables false
set_option maxRecDepth 100000

theorem own_ent_type {w : World} {base n : Nat} {v : Value} {xs : List Value} (h : w.ownsRow base 43 2 v n xs) {b : Nat} (hb : v.ownBlock = some b) : ∃ cs, w.heap[b]? = some (.cells cs 43 (0, 0)) := by
  obtain ⟨_, (⟨rfl, _⟩ | ⟨k, cap, cur, rfl, _, hh, _⟩)⟩ := h
  · cases hb
  · injection hb with hb
    subst hb
    exact ⟨cur, hh⟩
def PutR (w : World) (R : List REn) (en sn hh mm : Nat) (e : Ending) (w' : World) : Prop := ∃ lv, e = .returned (.tuple #[.agg #[lv, .int .i64 (en : Int), .int .i64 (sn : Int), .int .i64 (hh : Int), .int .i64 (mm : Int)], .bool true]) ∧ w'.ownsRow w.heap.size 43 2 lv R.length (rcells R) ∧ Below w.heap.size w w'
/-- How long the list is, read off the memory. -/
def mr (b3 : Nat) (W : World) : Nat := match W.cell? ⟨b3, 0, none⟩ with
  | some v => lenOf v
  | none => 0
set_option maxHeartbeats 40000000 in
theorem putR_yes (a ad : Option Addr) (c cc B B2 en sn hh mm : Nat) (rl : List REn) (s : ByteArray) (bs : List Nat) (w : World) (hV : Vals w B 2 a rl.length (rcells rl)) (hB : B ≤ w.heap.size) (hB2 : B2 ≤ w.heap.size) (hR : RBy w B2 rl) (hb : Nums .u8 w B2 ad bs) (hnil : ad = none → cc = 0 ∧ bs = []) (hlt8 : ∀ x ∈ bs, x < 256)
    (hs : s.size ≤ 1000000) (hn : bs.length ≤ 1000000) (h0 : 0 < en) (h1 : s.size + bs.length ≤ sn) (ht : rtot rl ≤ 1000000) (hl : rl.length ≤ 100000) :
    Calls Try.prog 12 #[.agg #[.slice a rl.length c, .int .i64 (en : Int), .int .i64 (sn : Int), .int .i64 (hh : Int), .int .i64 (mm : Int)], .string s, .slice ad bs.length cc] w
      (PutR w (evictR en sn ((rwo rl s).length + 1) ((⟨s, .slice ad bs.length cc, bs⟩ : REn) :: rwo rl s)) en sn hh mm) := by
  obtain ⟨i0, hi0, hz0, hz1, hz2⟩ := info_parts reninfo
  obtain ⟨ALL, hALL⟩ : ∃ z, z = (⟨s, .slice ad bs.length cc, bs⟩ : REn) :: rwo rl s := ⟨_, rfl⟩
  obtain ⟨R, HR0⟩ : ∃ R, Hid (evictR en sn ((rwo rl s).length + 1) ALL = R) := ⟨_, Lib.hid rfl⟩
  rw [← hALL, HR0.out]
  have HAll : Hid (RBy w B2 ALL) := by
    rw [hALL]
    intro r hr
    rcases List.mem_cons.1 hr with rfl | hr
    · exact ⟨ad, cc, rfl, hb, hnil, hlt8⟩
    · exact hR r (List.mem_filter.1 hr).1
  have hwl := rwo_le rl s
  have hwn : (rwo rl s).length ≤ rl.length := List.length_filter_le _ _
  have HtA : Hid (ALL.length ≤ 200000 ∧ rtot ALL ≤ 10000000 ∧ ALL.length = (rwo rl s).length + 1) := by
    rw [hALL]
    refine ⟨by simp; omega, ?_, by simp⟩
    unfold rtot at hwl ht ⊢
    simp
    omega
  have HALL := Lib.hid hALL
  have HV := Lib.hid (hV.more hB)
  have HOne := Lib.hid hR.one
  have HB2 := Lib.hid hB2
  have d0 : decide ((en : Int) = 0) = false := decide_eq_false (by omega)
  have d1 : decide ((sn : Int) < ((s.size : Int) + (bs.length : Int))) = false := decide_eq_false (by omega)
  clear hV hB hR hb hnil hlt8 hALL hB2 hwl
  go_enter Try.func12, Try.ntmps12
  go_upto_region 1 with (fail)
  obtain ⟨b3, hb3⟩ : ∃ z, z = w.heap.size := ⟨_, rfl⟩
  obtain ⟨b6, hb6⟩ : ∃ z, z = w.heap.size + 1 := ⟨_, rfl⟩
  obtain ⟨C6, hC6⟩ : ∃ z, z = #[Value.slice none 0 0, .int .i64 0, .int .i64 0, .int .i64 0, .int .i64 0] := ⟨_, rfl⟩
  obtain ⟨X, hX⟩ : ∃ z, z = (w.alloc (.cells #[.slice a rl.length c, .int .i64 (en : Int), .int .i64 (sn : Int), .int .i64 (hh : Int), .int .i64 (mm : Int)] 29)).alloc (.cells #[.slice none 0 0, .int .i64 0, .int .i64 0, .int .i64 0, .int .i64 0] 29) := ⟨_, rfl⟩
  have hX3 : Whole X b3 29 #[.slice a rl.length c, .int .i64 (en : Int), .int .i64 (sn : Int), .int .i64 (hh : Int), .int .i64 (mm : Int)] := by rw [hX, hb3]; exact (Whole.new w _ _).alloc _
  have hX6 : Whole X b6 29 C6 := by
    rw [hX, hb6, hC6]
    have := Whole.new (w.alloc (.cells #[.slice a rl.length c, .int .i64 (en : Int), .int .i64 (sn : Int), .int .i64 (hh : Int), .int .i64 (mm : Int)] 29)) 29 #[Value.slice none 0 0, .int .i64 0, .int .i64 0, .int .i64 0, .int .i64 0]
    simpa using this
  have hBX : Below w.heap.size w X := by rw [hX]; exact ((Below.refl _ _).alloc (Nat.le_refl _) _).alloc (by simp) _
  have HC6 : Hid (C6.size = 5) := by rw [hC6]; rfl
  have H36 : Hid (b6 ≠ b3) := by show _ ≠ _; omega
  have Hb6w : Hid (w.heap.size ≤ b6) := by show _ ≤ _; omega
  have H3w : Hid (w.heap.size ≤ b3) := by show _ ≤ _; omega
  rw [← hX, ← hb6, ← hb3]
  have x0 : X.cell? ⟨b3, 0, none⟩ = some (.slice a rl.length c) := by rw [hX3.cell]; rfl
  have x1 : X.cell? ⟨b3, 1, none⟩ = some (.int .i64 (en : Int)) := by rw [hX3.cell]; rfl
  have x2 : X.cell? ⟨b3, 2, none⟩ = some (.int .i64 (sn : Int)) := by rw [hX3.cell]; rfl
  have hb3X : b3 < X.heap.size := hX3.lt
  have hb3n : b3 ≠ X.heap.size := by omega
  have hb6X : b6 < X.heap.size := hX6.lt
  have hBY := hBX.alloc hBX.size (.cells #[.string s, .slice ad bs.length cc] 43)
  have HWO := Lib.hid (without_any a c w.heap.size s rl (X.alloc (.cells #[.string s, .slice ad bs.length cc] 43)) (HV.out.below hBY) hBY.size HOne.out (by omega))
  have HX3 := Lib.hid (hX3.alloc (.cells #[.string s, .slice ad bs.length cc] 43))
  have HX6 := Lib.hid (hX6.alloc (.cells #[.string s, .slice ad bs.length cc] 43))
  have HBY := Lib.hid hBY
  have HBX := Lib.hid hBX
  clear hX hb3 hb6 hC6 hX3 hX6 hBX hBY HV HOne
  go_wp2_with fail
  refine HWO.out.mono ?_
  rintro e Z ⟨v, rfl, hown, hBZ⟩
  have hYs : (X.alloc (.cells #[.string s, .slice ad bs.length cc] 43)).heap.size = X.heap.size + 1 := by simp
  have HOa : Hid (Z.ownsRow w.heap.size 43 2 (.slice (some ⟨X.heap.size, 0, none⟩) 1 1) 1 [.string s, .slice ad bs.length cc]) := ⟨rfl, .inr ⟨X.heap.size, 1, #[.string s, .slice ad bs.length cc], rfl, HBX.out.size, (hBZ.block X.heap.size (by omega)).trans (heap_alloc_new X _), Nat.le_refl _, by unfold maxLen; omega, rfl, rfl⟩⟩
  obtain ⟨a5, c5, rfl, _, _, hV5⟩ := Vals.of_own hown
  have HV5 := Lib.hid hV5
  have HBZ : Hid (Below w.heap.size w Z) := HBY.out.trans (hBZ.mono HBY.out.size)
  have HZ3 := Lib.hid (HX3.out.below hBZ HX3.out.lt)
  have HZ6 := Lib.hid (HX6.out.below hBZ HX6.out.lt)
  have HO5 : Hid (∀ u ∈ rcells (rwo rl s), u.oneCell' = true) := rcells_one (fun r hr => HAll.out.one r (by rw [HALL.out]; exact List.mem_cons_of_mem _ hr))
  have Hl1 : Hid (1 + (rwo rl s).length ≤ maxLen) := by unfold Hid maxLen; omega
  have Hl2 : Hid ((1 + (rwo rl s).length) * 40 ≤ 140737488355328) := by unfold Hid; omega
  have HZs : Hid (w.heap.size ≤ Z.heap.size) := HBZ.out.size
  have hz3X : b3 ≠ X.heap.size := hb3n
  have HZ9 : Hid (X.heap.size < Z.heap.size) := by have := hBZ.size; show _ < _; omega
  have q0 : Z.cell? ⟨b3, 0, none⟩ = some (.slice a rl.length c) := by rw [HZ3.out.cell]; rfl
  clear hown hV5 hBZ hYs x0 x1 x2 HWO HX3 HX6 HBY q0
  go_wp2_with (at_builtin; refine app_vals rfl (.tmp 25) (.tmp 29) 27 rfl w.heap.size 43 i0 _ 2 40 Try.underlying27 hi0 hz0 hz1 hz2 rfl (by omega) (.slice (some ⟨X.heap.size, 0, none⟩) 1 1) 1 [.string s, .slice ad bs.length cc] rfl HOa.out Z.heap.size a5 (rwo rl s).length c5 (rcells (rwo rl s)) rfl HV5.out HO5.out Hl1.out Hl2.out HZs.out ?_)
  intro v2 Z2 h2a h3 _
  have hlA : 1 + (rwo rl s).length = ALL.length := by have := HtA.out.2.2; omega
  have hcA : [Value.string s, .slice ad bs.length cc] ++ rcells (rwo rl s) = rcells ALL := by rw [HALL.out]; rfl
  have h2 : Z2.ownsRow w.heap.size 43 2 v2 ALL.length (rcells ALL) := by rw [← hlA, ← hcA]; exact h2a
  clear h2a
  obtain ⟨a2, c2, rfl, hcap, hcm, _⟩ := Vals.of_own h2
  have hoZ : Only (fun b => b = X.heap.size) Z Z2 := Only.of_grown h3 (fun b hb => by injection hb with hb; exact hb.symm)
  have h23 := HZ3.out.only hoZ (fun e => hb3n e)
  have h26 := HZ6.out.only hoZ (fun e => by omega)
  have hB2 := below_of_grown HBZ.out HOa.out h3 HZs.out
  have z0 : Z2.cell? ⟨b3, 0, none⟩ = some (.slice a rl.length c) := by rw [h23.cell]; rfl
  have zf : Z2.frozen? ⟨b3, 0, none⟩ = false := h23.frozen 0
  have START : Hid ((Z2.setCell ⟨b3, 0, none⟩ (.slice a2 ALL.length c2)).ownsRow w.heap.size 43 2 (.slice a2 ALL.length c2) ALL.length (rcells ALL) ∧ Whole (Z2.setCell ⟨b3, 0, none⟩ (.slice a2 ALL.length c2)) b3 29 #[.slice a2 ALL.length c2, .int .i64 (en : Int), .int .i64 (sn : Int), .int .i64 (hh : Int), .int .i64 (mm : Int)] ∧ Whole (Z2.setCell ⟨b3, 0, none⟩ (.slice a2 ALL.length c2)) b6 29 C6 ∧ Below w.heap.size w (Z2.setCell ⟨b3, 0, none⟩ (.slice a2 ALL.length c2))) := by
    refine ⟨own_only h2 (Only.setCell (S := fun b => b = b3) (Only.refl _ _) (fun _ => rfl) _) (fun b hb e => ?_), ?_, h26.far (p := ⟨b3, 0, none⟩) H36.out _, hB2.setCell H3w.out _⟩
    · obtain ⟨cs, h9⟩ := own_ent_type h2 hb
      rw [e] at h9
      exact absurd (cells_inj h9 h23) (by decide)
    · have := h23.set 0 (.slice a2 ALL.length c2)
      simpa using this
  clear h2 h3 hoZ h23 h26 hB2 HOa HV5 HO5 HZ3 HZ6 HBZ HZs HZ9 hcap hcm
  go_wp2_with fail
  go_loopw [] (fun W => ∃ (f : Nat) (rl2 : List REn) (a2 : Option Addr) (c2 : Nat), Hid (W.ownsRow w.heap.size 43 2 (.slice a2 rl2.length c2) rl2.length (rcells rl2)) ∧ Hid (Whole W b3 29 #[.slice a2 rl2.length c2, .int .i64 (en : Int), .int .i64 (sn : Int), .int .i64 (hh : Int), .int .i64 (mm : Int)]) ∧ Hid (Whole W b6 29 C6) ∧ Hid (Below w.heap.size w W) ∧ Hid (evictR en sn f rl2 = R) ∧ rl2.length ≤ f ∧ (rl2.length ≤ 200000 ∧ rtot rl2 ≤ 10000000) ∧ Hid (∀ r ∈ rl2, r ∈ ALL)) (fun W => mr b3 W)
  case atStart => exact ⟨_, ALL, a2, c2, START.out.1, START.out.2.1, START.out.2.2.1, START.out.2.2.2, HR0, by have := HtA.out; omega, ⟨HtA.out.1, HtA.out.2.1⟩, fun r hr => hr⟩
  case round =>
    obtain ⟨f, rl2, a2, c2, HOw, HW3, HW6, HB, HR, hf, hLn, HSub⟩ := hrel
    clear START
    obtain ⟨nL, hnL⟩ : ∃ z, z = rl2.length := ⟨_, rfl⟩
    obtain ⟨tL, htL⟩ : ∃ z, z = rtot rl2 := ⟨_, rfl⟩
    have z0 : wr.cell? ⟨b3, 0, none⟩ = some (.slice a2 nL c2) := by rw [HW3.out.cell, hnL]; rfl
    have z1 : wr.cell? ⟨b3, 1, none⟩ = some (.int .i64 (en : Int)) := by rw [HW3.out.cell]; rfl
    have z2 : wr.cell? ⟨b3, 2, none⟩ = some (.int .i64 (sn : Int)) := by rw [HW3.out.cell]; rfl
    have z3 : wr.cell? ⟨b3, 3, none⟩ = some (.int .i64 (hh : Int)) := by rw [HW3.out.cell]; rfl
    have z4 : wr.cell? ⟨b3, 4, none⟩ = some (.int .i64 (mm : Int)) := by rw [HW3.out.cell]; rfl
    have zf : wr.frozen? ⟨b3, 0, none⟩ = false := HW3.out.frozen 0
    have hb3l : b3 < wr.heap.size := HW3.out.lt
    obtain ⟨hcap, hcm, hVl⟩ : nL ≤ c2 ∧ c2 ≤ maxLen ∧ Vals wr wr.heap.size 2 a2 nL (rcells rl2) := by
      obtain ⟨a', c', e, h1, h2, h3⟩ := Vals.of_own HOw.out
      injection e with e1 e2 e3
      subst e1 e3
      rw [hnL]
      exact ⟨h1, h2, h3⟩
    have Hmr : Hid (mr b3 wr = nL) := by unfold Hid mr; rw [z0]; rfl
    have HSZ : Hid (∀ W, Below wr.heap.size wr W → Calls Try.prog 20 #[.agg #[.slice a2 nL c2, .int .i64 (en : Int), .int .i64 (sn : Int), .int .i64 (hh : Int), .int .i64 (mm : Int)]] W fun e w' => e = .returned (.int .i64 (tL : Int)) ∧ Below W.heap.size W w') := fun W hW => by
      rw [htL, hnL]
      rw [hnL] at hVl
      exact sizeR_any a2 c2 _ _ _ _ rl2 wr.heap.size B2 W (hVl.below hW) hW.size (fun r hr => ((HAll.out.below ((HB.out.mono HB2.out).trans (hW.mono (Nat.le_trans HB2.out HB.out.size)))) r (HSub.out r hr))) (by omega) (by omega)
    have Hcm : Hid (c2 ≤ maxLen) := hcm
    clear hVl hcm
    by_cases hl : en < nL
    · have g1 : decide ((en : Int) < (nL : Int)) = true := decide_eq_true (by omega)
      have g2 : decide (en < nL) = true := decide_eq_true (by omega)
      have hcase : en < rl2.length ∨ sn < rtot rl2 := .inl (by omega)
      clear hl
      have hne : rl2 ≠ [] := fun e => by
        subst e
        rcases hcase with h9 | h9
        · simp at h9
        · simp [rtot] at h9
      have hpos : 0 < rl2.length := List.length_pos_iff.2 hne
      obtain ⟨f, rfl⟩ : ∃ k, f = k + 1 := ⟨f - 1, by omega⟩
      obtain ⟨rl3, hrl3⟩ : ∃ z, z = rl2.dropLast := ⟨_, rfl⟩
      have hlen2 : rl3.length = rl2.length - 1 := by rw [hrl3]; exact List.length_dropLast
      have hlen3 : nL = rl3.length + 1 := by omega
      have HR2 : Hid (evictR en sn f rl3 = R) := by rw [hrl3, ← HR.out, evictR_go hcase]; rfl
      have hpop : wr.ownsRow w.heap.size 43 2 (.slice a2 rl3.length c2) rl3.length (rcells rl3) := by
        have := own_pop HOw.out hpos
        rw [← hrl3, ← hlen2] at this
        exact this
      have HPop : Hid (∀ Z, Below wr.heap.size wr Z → (Z.setCell ⟨b3, 0, none⟩ (.slice a2 rl3.length c2)).ownsRow w.heap.size 43 2 (.slice a2 rl3.length c2) rl3.length (rcells rl3) ∧ Whole (Z.setCell ⟨b3, 0, none⟩ (.slice a2 rl3.length c2)) b3 29 #[.slice a2 rl3.length c2, .int .i64 (en : Int), .int .i64 (sn : Int), .int .i64 (hh : Int), .int .i64 (mm : Int)] ∧ Whole (Z.setCell ⟨b3, 0, none⟩ (.slice a2 rl3.length c2)) b6 29 C6 ∧ Below w.heap.size w (Z.setCell ⟨b3, 0, none⟩ (.slice a2 rl3.length c2)) ∧ mr b3 (Z.setCell ⟨b3, 0, none⟩ (.slice a2 rl3.length c2)) = rl3.length) := fun Z hZ => by
        have hp2 : Whole (Z.setCell ⟨b3, 0, none⟩ (.slice a2 rl3.length c2)) b3 29 #[.slice a2 rl3.length c2, .int .i64 (en : Int), .int .i64 (sn : Int), .int .i64 (hh : Int), .int .i64 (mm : Int)] := by
          have := (HW3.out.below hZ HW3.out.lt).set 0 (.slice a2 rl3.length c2)
          simpa using this
        refine ⟨own_only hpop ((Only.of_below hZ (fun b => b = b3)).trans (Only.setCell (S := fun b => b = b3) (Only.refl _ _) (fun _ => rfl) _) (fun _ _ e => e)) (fun b hb e => ?_), hp2, ?_, ?_, ?_⟩
        · obtain ⟨cs, h9⟩ := own_ent_type hpop hb
          rw [e] at h9
          exact absurd (cells_inj h9 HW3.out) (by decide)
        · exact (HW6.out.below hZ HW6.out.lt).far (p := ⟨b3, 0, none⟩) H36.out _
        · exact (HB.out.trans (hZ.mono HB.out.size)).setCell H3w.out _
        · unfold mr
          rw [hp2.cell]
          rfl
      have HF : Hid (rl3.length ≤ f) := by show _ ≤ _; omega
      have HLn : Hid (rl3.length ≤ 200000 ∧ rtot rl3 ≤ 10000000) := by
        refine ⟨by omega, ?_⟩
        have := rtot_le rl2 (rl2.length - 1)
        rw [← List.dropLast_eq_take, ← hrl3] at this
        omega
      have HRB2 : Hid (∀ r ∈ rl3, r ∈ ALL) := fun r hr => HSub.out r (List.dropLast_subset _ (by rw [hrl3] at hr; exact hr))
      have H3len := Lib.hid hlen3
      clear hcase hne hpop hpos HOw HR hnL htL hf hLn HW6 HB HSub hlen2 hlen3 hrl3
      clear HW3 HSZ
      go_wp2_with fail
      go_quiet (fail)
      have h3l := H3len.out
      subst h3l
      have hr3 := HLn.out.1
      clear g1 g2
      go_wp2_with fail
      go_roundw
      case rel => obtain ⟨p1, p2, p3, p4, _⟩ := HPop.out (wr.drewN _) ⟨rfl, rfl, rfl, Nat.le_refl _, fun _ _ => rfl⟩; exact ⟨f, rl3, a2, c2, p1, p2, p3, p4, HR2, HF.out, HLn.out, HRB2⟩
      case measure => rw [(HPop.out (wr.drewN _) ⟨rfl, rfl, rfl, Nat.le_refl _, fun _ _ => rfl⟩).2.2.2.2, Hmr.out]; omega
    · have g1 : decide ((en : Int) < (nL : Int)) = false := decide_eq_false (by omega)
      have g2 : decide (en < nL) = false := decide_eq_false (by omega)
      by_cases htl : sn < tL
      · have g3 : decide ((sn : Int) < (tL : Int)) = true := decide_eq_true (by omega)
        have g4 : decide (sn < tL) = true := decide_eq_true (by omega)
        have hcase : en < rl2.length ∨ sn < rtot rl2 := .inr (by omega)
        clear hl htl
        have hne : rl2 ≠ [] := fun e => by
          subst e
          rcases hcase with h9 | h9
          · simp at h9
          · simp [rtot] at h9
        have hpos : 0 < rl2.length := List.length_pos_iff.2 hne
        obtain ⟨f, rfl⟩ : ∃ k, f = k + 1 := ⟨f - 1, by omega⟩
        obtain ⟨rl3, hrl3⟩ : ∃ z, z = rl2.dropLast := ⟨_, rfl⟩
        have hlen2 : rl3.length = rl2.length - 1 := by rw [hrl3]; exact List.length_dropLast
        have hlen3 : nL = rl3.length + 1 := by omega
        have HR2 : Hid (evictR en sn f rl3 = R) := by rw [hrl3, ← HR.out, evictR_go hcase]; rfl
        have hpop : wr.ownsRow w.heap.size 43 2 (.slice a2 rl3.length c2) rl3.length (rcells rl3) := by
          have := own_pop HOw.out hpos
          rw [← hrl3, ← hlen2] at this
          exact this
        have HPop : Hid (∀ Z, Below wr.heap.size wr Z → (Z.setCell ⟨b3, 0, none⟩ (.slice a2 rl3.length c2)).ownsRow w.heap.size 43 2 (.slice a2 rl3.length c2) rl3.length (rcells rl3) ∧ Whole (Z.setCell ⟨b3, 0, none⟩ (.slice a2 rl3.length c2)) b3 29 #[.slice a2 rl3.length c2, .int .i64 (en : Int), .int .i64 (sn : Int), .int .i64 (hh : Int), .int .i64 (mm : Int)] ∧ Whole (Z.setCell ⟨b3, 0, none⟩ (.slice a2 rl3.length c2)) b6 29 C6 ∧ Below w.heap.size w (Z.setCell ⟨b3, 0, none⟩ (.slice a2 rl3.length c2)) ∧ mr b3 (Z.setCell ⟨b3, 0, none⟩ (.slice a2 rl3.length c2)) = rl3.length) := fun Z hZ => by
          have hp2 : Whole (Z.setCell ⟨b3, 0, none⟩ (.slice a2 rl3.length c2)) b3 29 #[.slice a2 rl3.length c2, .int .i64 (en : Int), .int .i64 (sn : Int), .int .i64 (hh : Int), .int .i64 (mm : Int)] := by
            have := (HW3.out.below hZ HW3.out.lt).set 0 (.slice a2 rl3.length c2)
            simpa using this
          refine ⟨own_only hpop ((Only.of_below hZ (fun b => b = b3)).trans (Only.setCell (S := fun b => b = b3) (Only.refl _ _) (fun _ => rfl) _) (fun _ _ e => e)) (fun b hb e => ?_), hp2, ?_, ?_, ?_⟩
          · obtain ⟨cs, h9⟩ := own_ent_type hpop hb
            rw [e] at h9
            exact absurd (cells_inj h9 HW3.out) (by decide)
          · exact (HW6.out.below hZ HW6.out.lt).far (p := ⟨b3, 0, none⟩) H36.out _
          · exact (HB.out.trans (hZ.mono HB.out.size)).setCell H3w.out _
          · unfold mr
            rw [hp2.cell]
            rfl
        have HF : Hid (rl3.length ≤ f) := by show _ ≤ _; omega
        have HLn : Hid (rl3.length ≤ 200000 ∧ rtot rl3 ≤ 10000000) := by
          refine ⟨by omega, ?_⟩
          have := rtot_le rl2 (rl2.length - 1)
          rw [← List.dropLast_eq_take, ← hrl3] at this
          omega
        have HRB2 : Hid (∀ r ∈ rl3, r ∈ ALL) := fun r hr => HSub.out r (List.dropLast_subset _ (by rw [hrl3] at hr; exact hr))
        have H3len := Lib.hid hlen3
        clear hcase hne hpop hpos HOw HR hnL htL hf hLn HW6 HB HSub hlen2 hlen3 hrl3
        go_wp2_with fail
        refine held_start (by kernel_rfl) ?_
        refine wpAnyH_take (i := 0) (oi := { dst := some 32, op := Go.Op.fieldAddr 29 (Go.Operand.tmp 3) 0, type := 0, pos := "ref.go:68", after := #[], guard := none }) (v := ?_) rfl (by kernel_rfl) (by kernel_rfl) (by kernel_rfl) (fun _ _ _ h => h) (Or.inl ⟨by rfl, ?_⟩) (Kp.refl _) ?_
        rotate_left 1
        · intro w5 hSw
          go_simp; all_goals (with_reducible rfl)
        try simp only [Act.put, List.setIfInBounds_toArray, List.set_cons_zero, List.set_cons_succ]
        refine wpAnyH_take (i := 1) (oi := { dst := some 33, op := Go.Op.load 27 (Go.Operand.tmp 32), type := 27, pos := "ref.go:68", after := #[{ on := 0, ground := Go.Ground.data }], guard := none }) (v := ?_) rfl (by kernel_rfl) (by kernel_rfl) (by kernel_rfl) (fun _ _ _ h => h) (Or.inl ⟨by rfl, ?_⟩) (Kp.refl _) ?_
        rotate_left 1
        · intro w5 hSw
          have q0 : w5.cell? ⟨b3, 0, none⟩ = some (.slice a2 nL c2) := (hSw.cell hb3l).trans z0
          go_simp; all_goals (with_reducible rfl)
        try simp only [Act.put, List.setIfInBounds_toArray, List.set_cons_zero, List.set_cons_succ]
        refine wpAnyH_take (i := 2) (oi := { dst := some 34, op := Go.Op.call { callee := Go.Callee.builtin Go.Builtin.len, args := #[Go.Operand.tmp 33], argTypes := #[27] }, type := 3, pos := "ref.go:68", after := #[{ on := 1, ground := Go.Ground.data }], guard := none }) (v := ?_) rfl (by kernel_rfl) (by kernel_rfl) (by kernel_rfl) (fun _ _ _ h => h) (Or.inl ⟨by rfl, ?_⟩) (Kp.refl _) ?_
        rotate_left 1
        · intro w5 hSw
          go_simp; all_goals (with_reducible rfl)
        try simp only [Act.put, List.setIfInBounds_toArray, List.set_cons_zero, List.set_cons_succ]
        refine wpAnyH_take (i := 3) (oi := { dst := some 35, op := Go.Op.fieldAddr 29 (Go.Operand.tmp 3) 1, type := 0, pos := "ref.go:68", after := #[], guard := none }) (v := ?_) rfl (by kernel_rfl) (by kernel_rfl) (by kernel_rfl) (fun _ _ _ h => h) (Or.inl ⟨by rfl, ?_⟩) (Kp.refl _) ?_
        rotate_left 1
        · intro w5 hSw
          go_simp; all_goals (with_reducible rfl)
        try simp only [Act.put, List.setIfInBounds_toArray, List.set_cons_zero, List.set_cons_succ]
        refine wpAnyH_take (i := 4) (oi := { dst := some 36, op := Go.Op.load 3 (Go.Operand.tmp 35), type := 3, pos := "ref.go:68", after := #[{ on := 3, ground := Go.Ground.data }], guard := none }) (v := ?_) rfl (by kernel_rfl) (by kernel_rfl) (by kernel_rfl) (fun _ _ _ h => h) (Or.inl ⟨by rfl, ?_⟩) (Kp.refl _) ?_
        rotate_left 1
        · intro w5 hSw
          have q1 : w5.cell? ⟨b3, 1, none⟩ = some (.int .i64 (en : Int)) := (hSw.cell hb3l).trans z1
          go_simp; all_goals (with_reducible rfl)
        try simp only [Act.put, List.setIfInBounds_toArray, List.set_cons_zero, List.set_cons_succ]
        refine wpAnyH_take (i := 5) (oi := { dst := some 37, op := Go.Op.binOp Go.BinOp.gtr 3 (Go.Operand.tmp 34) (Go.Operand.tmp 36) 3, type := 4, pos := "ref.go:68", after := #[{ on := 2, ground := Go.Ground.data }, { on := 4, ground := Go.Ground.data }], guard := none }) (v := ?_) rfl (by kernel_rfl) (by kernel_rfl) (by kernel_rfl) (fun _ _ _ h => h) (Or.inl ⟨by rfl, ?_⟩) (Kp.refl _) ?_
        rotate_left 1
        · intro w5 hSw
          go_simp; all_goals (with_reducible rfl)
        try simp only [Act.put, List.setIfInBounds_toArray, List.set_cons_zero, List.set_cons_succ]
        refine wpAnyH_take (i := 6) (oi := { dst := some 38, op := Go.Op.move (Go.Operand.tmp 37), type := 4, pos := "ref.go:68", after := #[{ on := 5, ground := Go.Ground.data }], guard := none }) (v := ?_) rfl (by kernel_rfl) (by kernel_rfl) (by kernel_rfl) (fun _ _ _ h => h) (Or.inl ⟨by rfl, ?_⟩) (Kp.refl _) ?_
        rotate_left 1
        · intro w5 hSw
          go_simp; all_goals (with_reducible rfl)
        try simp only [Act.put, List.setIfInBounds_toArray, List.set_cons_zero, List.set_cons_succ]
        refine wpAnyH_take (i := 7) (oi := { dst := some 39, op := Go.Op.load 29 (Go.Operand.tmp 3), type := 29, pos := "ref.go:68", after := #[{ on := 6, ground := Go.Ground.guard }], guard := some (6, false) }) (v := ?_) rfl (by kernel_rfl) (by kernel_rfl) (by kernel_rfl) (fun _ _ _ h => h) (Or.inl ⟨by rfl, ?_⟩) (Kp.refl _) ?_
        rotate_left 1
        · intro w5 hSw
          have q0 : w5.cell? ⟨b3, 0, none⟩ = some (.slice a2 nL c2) := (hSw.cell hb3l).trans z0
          have q1 : w5.cell? ⟨b3, 1, none⟩ = some (.int .i64 (en : Int)) := (hSw.cell hb3l).trans z1
          have q2 : w5.cell? ⟨b3, 2, none⟩ = some (.int .i64 (sn : Int)) := (hSw.cell hb3l).trans z2
          have q3 : w5.cell? ⟨b3, 3, none⟩ = some (.int .i64 (hh : Int)) := (hSw.cell hb3l).trans z3
          have q4 : w5.cell? ⟨b3, 4, none⟩ = some (.int .i64 (mm : Int)) := (hSw.cell hb3l).trans z4
          go_simp; all_goals (with_reducible rfl)
        try simp only [Act.put, List.setIfInBounds_toArray, List.set_cons_zero, List.set_cons_succ]
        refine wpAnyH_take (i := 9) (oi := { dst := some 41, op := Go.Op.fieldAddr 29 (Go.Operand.tmp 3) 2, type := 0, pos := "ref.go:68", after := #[{ on := 6, ground := Go.Ground.guard }], guard := some (6, false) }) (v := ?_) rfl (by kernel_rfl) (by kernel_rfl) (by kernel_rfl) (fun _ _ _ h => h) (Or.inl ⟨by rfl, ?_⟩) (Kp.refl _) ?_
        rotate_left 1
        · intro w5 hSw
          go_simp; all_goals (with_reducible rfl)
        try simp only [Act.put, List.setIfInBounds_toArray, List.set_cons_zero, List.set_cons_succ]
        refine wpAnyH_take (i := 10) (oi := { dst := some 42, op := Go.Op.load 3 (Go.Operand.tmp 41), type := 3, pos := "ref.go:68", after := #[{ on := 9, ground := Go.Ground.data }, { on := 6, ground := Go.Ground.guard }], guard := some (6, false) }) (v := ?_) rfl (by kernel_rfl) (by kernel_rfl) (by kernel_rfl) (fun _ _ _ h => h) (Or.inl ⟨by rfl, ?_⟩) (Kp.refl _) ?_
        rotate_left 1
        · intro w5 hSw
          have q2 : w5.cell? ⟨b3, 2, none⟩ = some (.int .i64 (sn : Int)) := (hSw.cell hb3l).trans z2
          go_simp; all_goals (with_reducible rfl)
        try simp only [Act.put, List.setIfInBounds_toArray, List.set_cons_zero, List.set_cons_succ]
        refine wpAnyH_ready (rs := [8]) (by kernel_rfl) (by simp) ?_
        refine AllReadyH.cons (o := { dst := some 40, op := Go.Op.call { callee := Go.Callee.value (Go.Operand.func 20), args := #[Go.Operand.tmp 39], argTypes := #[29] }, type := 3, pos := "ref.go:68", after := #[{ on := 7, ground := Go.Ground.data }, { on := 6, ground := Go.Ground.chain }, { on := 6, ground := Go.Ground.guard }], guard := some (6, false) }) rfl (fun K hK => ?_) AllReadyH.nil
        go_simp
        refine (HSZ.out wr.drew ⟨rfl, rfl, rfl, Nat.le_refl _, fun _ _ => rfl⟩).mono ?_; rintro e Y ⟨rfl, hb9⟩
        go_wp2_with fail
        refine hK.out _ _ (hb9) (fun _ => ?_)
        clear hK K
        try simp only [Act.put, List.setIfInBounds_toArray, List.set_cons_zero, List.set_cons_succ]
        refine wpAnyH_take (i := 11) (oi := { dst := some 43, op := Go.Op.binOp Go.BinOp.gtr 3 (Go.Operand.tmp 40) (Go.Operand.tmp 42) 3, type := 4, pos := "ref.go:68", after := #[{ on := 8, ground := Go.Ground.data }, { on := 10, ground := Go.Ground.data }, { on := 6, ground := Go.Ground.guard }], guard := some (6, false) }) (v := ?_) rfl (by kernel_rfl) (by kernel_rfl) (by kernel_rfl) (fun _ _ _ h => h) (Or.inl ⟨by rfl, ?_⟩) (hb9) ?_
        rotate_left 1
        · intro w5 hSw
          go_simp; all_goals (with_reducible rfl)
        try simp only [Act.put, List.setIfInBounds_toArray, List.set_cons_zero, List.set_cons_succ]
        refine wpAnyH_take (i := 12) (oi := { dst := some 44, op := Go.Op.pick (Go.Operand.tmp 38) (Go.Operand.const (Go.Value.bool true)) (Go.Operand.tmp 43), type := 4, pos := "ref.go:68", after := #[{ on := 6, ground := Go.Ground.data }, { on := 11, ground := Go.Ground.data }], guard := none }) (v := ?_) rfl (by kernel_rfl) (by kernel_rfl) (by kernel_rfl) (fun _ _ _ h => h) (Or.inl ⟨by rfl, ?_⟩) (hb9) ?_
        rotate_left 1
        · intro w5 hSw
          go_simp; all_goals (with_reducible rfl)
        try simp only [Act.put, List.setIfInBounds_toArray, List.set_cons_zero, List.set_cons_succ]
        refine wpAnyH_done (by kernel_rfl) ?_ _
        have hbY : Below wr.heap.size wr Y := ⟨hb9.os, hb9.tape, hb9.output, hb9.size, hb9.block⟩
        have y0 : Y.cell? ⟨b3, 0, none⟩ = some (.slice a2 nL c2) := (hbY.cell hb3l).trans z0
        have yf : Y.frozen? ⟨b3, 0, none⟩ = false := (HW3.out.below hbY HW3.out.lt).frozen 0
        have HBY := Lib.hid hbY
        have h3l := H3len.out
        subst h3l
        have hr3 := HLn.out.1
        clear g1 g2 g3 g4 hbY hb9 HW3 HSZ z0 z1 z2 z3 z4 zf
        go_wp2_with fail
        go_roundw
        case rel => obtain ⟨p1, p2, p3, p4, _⟩ := HPop.out Y HBY.out; exact ⟨f, rl3, a2, c2, p1, p2, p3, p4, HR2, HF.out, HLn.out, HRB2⟩
        case measure => rw [(HPop.out Y HBY.out).2.2.2.2, Hmr.out]; omega
      · have g3 : decide ((sn : Int) < (tL : Int)) = false := decide_eq_false (by omega)
        have g4 : decide (sn < tL) = false := decide_eq_false (by omega)
        have HEnd : Hid (rl2 = R) := by show _ = _; rw [← HR.out, evictR_stop (by omega) (by omega)]
        have HnL := Lib.hid hnL
        clear hnL htL hl htl hf hLn HR HSub
        go_wp2_with fail
        refine held_start (by kernel_rfl) ?_
        refine wpAnyH_take (i := 0) (oi := { dst := some 32, op := Go.Op.fieldAddr 29 (Go.Operand.tmp 3) 0, type := 0, pos := "ref.go:68", after := #[], guard := none }) (v := ?_) rfl (by kernel_rfl) (by kernel_rfl) (by kernel_rfl) (fun _ _ _ h => h) (Or.inl ⟨by rfl, ?_⟩) (Kp.refl _) ?_
        rotate_left 1
        · intro w5 hSw
          go_simp; all_goals (with_reducible rfl)
        try simp only [Act.put, List.setIfInBounds_toArray, List.set_cons_zero, List.set_cons_succ]
        refine wpAnyH_take (i := 1) (oi := { dst := some 33, op := Go.Op.load 27 (Go.Operand.tmp 32), type := 27, pos := "ref.go:68", after := #[{ on := 0, ground := Go.Ground.data }], guard := none }) (v := ?_) rfl (by kernel_rfl) (by kernel_rfl) (by kernel_rfl) (fun _ _ _ h => h) (Or.inl ⟨by rfl, ?_⟩) (Kp.refl _) ?_
        rotate_left 1
        · intro w5 hSw
          have q0 : w5.cell? ⟨b3, 0, none⟩ = some (.slice a2 nL c2) := (hSw.cell hb3l).trans z0
          go_simp; all_goals (with_reducible rfl)
        try simp only [Act.put, List.setIfInBounds_toArray, List.set_cons_zero, List.set_cons_succ]
        refine wpAnyH_take (i := 2) (oi := { dst := some 34, op := Go.Op.call { callee := Go.Callee.builtin Go.Builtin.len, args := #[Go.Operand.tmp 33], argTypes := #[27] }, type := 3, pos := "ref.go:68", after := #[{ on := 1, ground := Go.Ground.data }], guard := none }) (v := ?_) rfl (by kernel_rfl) (by kernel_rfl) (by kernel_rfl) (fun _ _ _ h => h) (Or.inl ⟨by rfl, ?_⟩) (Kp.refl _) ?_
        rotate_left 1
        · intro w5 hSw
          go_simp; all_goals (with_reducible rfl)
        try simp only [Act.put, List.setIfInBounds_toArray, List.set_cons_zero, List.set_cons_succ]
        refine wpAnyH_take (i := 3) (oi := { dst := some 35, op := Go.Op.fieldAddr 29 (Go.Operand.tmp 3) 1, type := 0, pos := "ref.go:68", after := #[], guard := none }) (v := ?_) rfl (by kernel_rfl) (by kernel_rfl) (by kernel_rfl) (fun _ _ _ h => h) (Or.inl ⟨by rfl, ?_⟩) (Kp.refl _) ?_
        rotate_left 1
        · intro w5 hSw
          go_simp; all_goals (with_reducible rfl)
        try simp only [Act.put, List.setIfInBounds_toArray, List.set_cons_zero, List.set_cons_succ]
        refine wpAnyH_take (i := 4) (oi := { dst := some 36, op := Go.Op.load 3 (Go.Operand.tmp 35), type := 3, pos := "ref.go:68", after := #[{ on := 3, ground := Go.Ground.data }], guard := none }) (v := ?_) rfl (by kernel_rfl) (by kernel_rfl) (by kernel_rfl) (fun _ _ _ h => h) (Or.inl ⟨by rfl, ?_⟩) (Kp.refl _) ?_
        rotate_left 1
        · intro w5 hSw
          have q1 : w5.cell? ⟨b3, 1, none⟩ = some (.int .i64 (en : Int)) := (hSw.cell hb3l).trans z1
          go_simp; all_goals (with_reducible rfl)
        try simp only [Act.put, List.setIfInBounds_toArray, List.set_cons_zero, List.set_cons_succ]
        refine wpAnyH_take (i := 5) (oi := { dst := some 37, op := Go.Op.binOp Go.BinOp.gtr 3 (Go.Operand.tmp 34) (Go.Operand.tmp 36) 3, type := 4, pos := "ref.go:68", after := #[{ on := 2, ground := Go.Ground.data }, { on := 4, ground := Go.Ground.data }], guard := none }) (v := ?_) rfl (by kernel_rfl) (by kernel_rfl) (by kernel_rfl) (fun _ _ _ h => h) (Or.inl ⟨by rfl, ?_⟩) (Kp.refl _) ?_
        rotate_left 1
        · intro w5 hSw
          go_simp; all_goals (with_reducible rfl)
        try simp only [Act.put, List.setIfInBounds_toArray, List.set_cons_zero, List.set_cons_succ]
        refine wpAnyH_take (i := 6) (oi := { dst := some 38, op := Go.Op.move (Go.Operand.tmp 37), type := 4, pos := "ref.go:68", after := #[{ on := 5, ground := Go.Ground.data }], guard := none }) (v := ?_) rfl (by kernel_rfl) (by kernel_rfl) (by kernel_rfl) (fun _ _ _ h => h) (Or.inl ⟨by rfl, ?_⟩) (Kp.refl _) ?_
        rotate_left 1
        · intro w5 hSw
          go_simp; all_goals (with_reducible rfl)
        try simp only [Act.put, List.setIfInBounds_toArray, List.set_cons_zero, List.set_cons_succ]
        refine wpAnyH_take (i := 7) (oi := { dst := some 39, op := Go.Op.load 29 (Go.Operand.tmp 3), type := 29, pos := "ref.go:68", after := #[{ on := 6, ground := Go.Ground.guard }], guard := some (6, false) }) (v := ?_) rfl (by kernel_rfl) (by kernel_rfl) (by kernel_rfl) (fun _ _ _ h => h) (Or.inl ⟨by rfl, ?_⟩) (Kp.refl _) ?_
        rotate_left 1
        · intro w5 hSw
          have q0 : w5.cell? ⟨b3, 0, none⟩ = some (.slice a2 nL c2) := (hSw.cell hb3l).trans z0
          have q1 : w5.cell? ⟨b3, 1, none⟩ = some (.int .i64 (en : Int)) := (hSw.cell hb3l).trans z1
          have q2 : w5.cell? ⟨b3, 2, none⟩ = some (.int .i64 (sn : Int)) := (hSw.cell hb3l).trans z2
          have q3 : w5.cell? ⟨b3, 3, none⟩ = some (.int .i64 (hh : Int)) := (hSw.cell hb3l).trans z3
          have q4 : w5.cell? ⟨b3, 4, none⟩ = some (.int .i64 (mm : Int)) := (hSw.cell hb3l).trans z4
          go_simp; all_goals (with_reducible rfl)
        try simp only [Act.put, List.setIfInBounds_toArray, List.set_cons_zero, List.set_cons_succ]
        refine wpAnyH_take (i := 9) (oi := { dst := some 41, op := Go.Op.fieldAddr 29 (Go.Operand.tmp 3) 2, type := 0, pos := "ref.go:68", after := #[{ on := 6, ground := Go.Ground.guard }], guard := some (6, false) }) (v := ?_) rfl (by kernel_rfl) (by kernel_rfl) (by kernel_rfl) (fun _ _ _ h => h) (Or.inl ⟨by rfl, ?_⟩) (Kp.refl _) ?_
        rotate_left 1
        · intro w5 hSw
          go_simp; all_goals (with_reducible rfl)
        try simp only [Act.put, List.setIfInBounds_toArray, List.set_cons_zero, List.set_cons_succ]
        refine wpAnyH_take (i := 10) (oi := { dst := some 42, op := Go.Op.load 3 (Go.Operand.tmp 41), type := 3, pos := "ref.go:68", after := #[{ on := 9, ground := Go.Ground.data }, { on := 6, ground := Go.Ground.guard }], guard := some (6, false) }) (v := ?_) rfl (by kernel_rfl) (by kernel_rfl) (by kernel_rfl) (fun _ _ _ h => h) (Or.inl ⟨by rfl, ?_⟩) (Kp.refl _) ?_
        rotate_left 1
        · intro w5 hSw
          have q2 : w5.cell? ⟨b3, 2, none⟩ = some (.int .i64 (sn : Int)) := (hSw.cell hb3l).trans z2
          go_simp; all_goals (with_reducible rfl)
        try simp only [Act.put, List.setIfInBounds_toArray, List.set_cons_zero, List.set_cons_succ]
        refine wpAnyH_ready (rs := [8]) (by kernel_rfl) (by simp) ?_
        refine AllReadyH.cons (o := { dst := some 40, op := Go.Op.call { callee := Go.Callee.value (Go.Operand.func 20), args := #[Go.Operand.tmp 39], argTypes := #[29] }, type := 3, pos := "ref.go:68", after := #[{ on := 7, ground := Go.Ground.data }, { on := 6, ground := Go.Ground.chain }, { on := 6, ground := Go.Ground.guard }], guard := some (6, false) }) rfl (fun K hK => ?_) AllReadyH.nil
        go_simp
        refine (HSZ.out wr.drew ⟨rfl, rfl, rfl, Nat.le_refl _, fun _ _ => rfl⟩).mono ?_; rintro e Y ⟨rfl, hb9⟩
        go_wp2_with fail
        refine hK.out _ _ (hb9) (fun _ => ?_)
        clear hK K
        try simp only [Act.put, List.setIfInBounds_toArray, List.set_cons_zero, List.set_cons_succ]
        refine wpAnyH_take (i := 11) (oi := { dst := some 43, op := Go.Op.binOp Go.BinOp.gtr 3 (Go.Operand.tmp 40) (Go.Operand.tmp 42) 3, type := 4, pos := "ref.go:68", after := #[{ on := 8, ground := Go.Ground.data }, { on := 10, ground := Go.Ground.data }, { on := 6, ground := Go.Ground.guard }], guard := some (6, false) }) (v := ?_) rfl (by kernel_rfl) (by kernel_rfl) (by kernel_rfl) (fun _ _ _ h => h) (Or.inl ⟨by rfl, ?_⟩) (hb9) ?_
        rotate_left 1
        · intro w5 hSw
          go_simp; all_goals (with_reducible rfl)
        try simp only [Act.put, List.setIfInBounds_toArray, List.set_cons_zero, List.set_cons_succ]
        refine wpAnyH_take (i := 12) (oi := { dst := some 44, op := Go.Op.pick (Go.Operand.tmp 38) (Go.Operand.const (Go.Value.bool true)) (Go.Operand.tmp 43), type := 4, pos := "ref.go:68", after := #[{ on := 6, ground := Go.Ground.data }, { on := 11, ground := Go.Ground.data }], guard := none }) (v := ?_) rfl (by kernel_rfl) (by kernel_rfl) (by kernel_rfl) (fun _ _ _ h => h) (Or.inl ⟨by rfl, ?_⟩) (hb9) ?_
        rotate_left 1
        · intro w5 hSw
          go_simp; all_goals (with_reducible rfl)
        try simp only [Act.put, List.setIfInBounds_toArray, List.set_cons_zero, List.set_cons_succ]
        refine wpAnyH_done (by kernel_rfl) ?_ _
        have hbY : Below wr.heap.size wr Y := ⟨hb9.os, hb9.tape, hb9.output, hb9.size, hb9.block⟩
        have hY3 := HW3.out.below hbY HW3.out.lt
        have hY6 := HW6.out.below hbY HW6.out.lt
        have hYo := own_only HOw.out (Only.of_below hbY (fun _ => False)) (fun _ _ h => h)
        have HYB := Lib.hid (HB.out.trans (hbY.mono HB.out.size))
        have hnl := HnL.out
        have hend := HEnd.out
        rw [← hnl] at hY3 hYo
        obtain ⟨T, hT⟩ : ∃ T, T = #[Value.slice a2 nL c2, .int .i64 (en : Int), .int .i64 (sn : Int), .int .i64 (hh : Int), .int .i64 (mm : Int)] := ⟨_, rfl⟩
        have Hs1 : Hid ((Try.prog.info? 29).map (·.size) = some T.size) := by rw [hT]; show _ = _; kernel_rfl
        have Hs0 : Hid (C6.size = T.size) := by rw [hT]; exact HC6.out
        have Hal : Hid (T.all (·.oneCell') = true) := by rw [hT]; show _ = _; simp [Value.oneCell']
        rw [← hT] at hY3
        have HT := Lib.hid hT
        have HY3 := Lib.hid hY3
        have HY6 := Lib.hid hY6
        have hY6r := hY6.row T
        have v0 : (Y.setRow b6 T).cell? ⟨b6, 0, none⟩ = some (.slice a2 nL c2) := by rw [Whole.cell hY6r, hT]; rfl
        have v1 : (Y.setRow b6 T).cell? ⟨b6, 1, none⟩ = some (.int .i64 (en : Int)) := by rw [Whole.cell hY6r, hT]; rfl
        have v2 : (Y.setRow b6 T).cell? ⟨b6, 2, none⟩ = some (.int .i64 (sn : Int)) := by rw [Whole.cell hY6r, hT]; rfl
        have v3 : (Y.setRow b6 T).cell? ⟨b6, 3, none⟩ = some (.int .i64 (hh : Int)) := by rw [Whole.cell hY6r, hT]; rfl
        have v4 : (Y.setRow b6 T).cell? ⟨b6, 4, none⟩ = some (.int .i64 (mm : Int)) := by rw [Whole.cell hY6r, hT]; rfl
        have POST : Hid ((Y.setRow b6 T).ownsRow w.heap.size 43 2 (.slice a2 nL c2) R.length (rcells R) ∧ Below w.heap.size w (Y.setRow b6 T)) := by
          refine ⟨?_, below_setRow HYB.out Hb6w.out T⟩
          rw [← hend]
          rw [← hnl]
          refine own_only hYo (⟨rfl, rfl, rfl, by simp, fun k hk hn => setRow_other Y b6 k T hn⟩ : Only (fun b => b = b6) Y (Y.setRow b6 T)) (fun b hb e => ?_)
          obtain ⟨cs, h9⟩ := own_ent_type hYo hb
          rw [e] at h9
          exact absurd (cells_inj h9 hY6) (by decide)
        clear hT hY3 hY6 hY6r hnl hend hYo hbY hb9 HW3 HW6 HOw HB HSZ z0 z1 z2 z3 z4 zf g1 g2 g3 g4
        go_wp2_with (first
          | (refine wpList_load_row rfl 29 (.tmp 3) rfl b3 rfl 29 T (0, 0) _ HY3.out Try.underlying29 rfl Hs1.out ?_)
          | (refine wpList_store_row rfl 29 (.tmp 6) (.tmp 53) rfl b6 T rfl rfl 29 C6 HY6.out Hs1.out Hs0.out Hal.out ?_))
        exact bodyPost_ret (v := .tuple #[.agg #[.slice a2 nL c2, .int .i64 (en : Int), .int .i64 (sn : Int), .int .i64 (hh : Int), .int .i64 (mm : Int)], .bool true]) (by simp [results, Try.results12, asAddr, v0, v1, v2, v3, v4, go_sem]) rfl ⟨.slice a2 nL c2, rfl, POST.out⟩
end Go.Proofs.Ythbgijpakjfjkaa
