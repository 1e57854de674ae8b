/- Walks over layer 27: the reference's Area; signs. -/
import Derived.BigRegion
import Derived.Deep.DeepCutAuto
import Derived.IntWalk
import Derived.Test.YtlmnmilefggmpaaWindMath
namespace Go.Proofs.Ytlmnmilefggmpaa
open Go.RowKit
set_option linter.unusedVariables false
set_option maxRecDepth 100000

def fa (l : List P2) (j : Nat) : Int := (pt l j).1 * (pt l ((j + 1) % l.length)).2
def fb (l : List P2) (j : Nat) : Int := (pt l ((j + 1) % l.length)).1 * (pt l j).2
theorem below_drewV {B : Nat} {w w' : World} (h : Below B w w') : Below B w w'.drew := ⟨h.os, h.tape, h.output, h.size, h.block⟩
theorem sg_sub (f g : Nat → Int) : ∀ k, sg (fun j => f j - g j) k = sg f k - sg g k
  | 0 => rfl
  | k + 1 => by
    show sg (fun j => f j - g j) k + (f k - g k) = sg f k + f k - (sg g k + g k)
    rw [sg_sub f g k]; omega
theorem area_ab (l : List P2) : area l = sg (fa l) l.length - sg (fb l) l.length := by rw [← sg_sub]; rfl
theorem sg_in {f : Nat → Int} {B : Nat} (h : ∀ j, -(B : Int) ≤ f j ∧ f j ≤ B) : ∀ k, -((B * k : Nat) : Int) ≤ sg f k ∧ sg f k ≤ ((B * k : Nat) : Int)
  | 0 => by simp [sg]
  | k + 1 => by
    have h1 := sg_in h k
    have h2 := h k
    show _ ≤ sg f k + f k ∧ sg f k + f k ≤ _
    rw [Nat.mul_succ]
    omega
theorem fa_in {l : List P2} (h : okR l = true) (j : Nat) : -((4398046511104 : Nat) : Int) ≤ fa l j ∧ fa l j ≤ (4398046511104 : Nat) := (ed h j).mul1
theorem fb_in {l : List P2} (h : okR l = true) (j : Nat) : -((4398046511104 : Nat) : Int) ≤ fb l j ∧ fb l j ≤ (4398046511104 : Nat) := (ed h j).mul2

set_option maxHeartbeats 8000000 in
theorem refArea_yes (v : Value) (l : List P2) (w : World) (h : RdP w w.heap.size v l) (hok : okR l = true) :
    Calls Try.prog 8 #[v] w fun e w' => e = .returned (.tuple #[.int .i64 (area l), .bool true]) ∧ Below w.heap.size w w' := by
  have hL := (okR_all hok).2
  have Hr := Lib.hid (right_any v l w h (by omega) true hok)
  have Hfa := Lib.hid (sg_in (fa_in hok))
  have Hfb := Lib.hid (sg_in (fb_in hok))
  have Hfa1 := Lib.hid (fa_in hok)
  have Hfb1 := Lib.hid (fb_in hok)
  have Har := Lib.hid (area_ab l)
  obtain ⟨a, c, rfl, _, _, ha⟩ := h
  have HA := Lib.hid ha
  obtain ⟨L, hLl⟩ : ∃ L, L = l.length := ⟨_, rfl⟩
  have HL := Lib.hid hLl
  rw [← hLl] at hL Hr ⊢
  clear ha hok hLl
  go_enter Try.func8, Try.ntmps8
  go_wp2_with fail
  refine Hr.out.mono ?_
  rintro e X ⟨rfl, hX⟩
  have HX := Lib.hid hX
  clear hX Hr
  go_wp2_with fail
  go_loopw [6, 4, 5] (fun x s t W => ∃ k : Nat, k ≤ L ∧ x = .int .i64 (k : Int) ∧ s = .int .i64 (sg (fa l) k) ∧ t = .int .i64 (sg (fb l) k) ∧ Hid (Below w.heap.size w W)) (fun x _ _ _ => L - (intOf x).toNat)
  case atStart => exact ⟨0, Nat.zero_le _, rfl, rfl, rfl, HX⟩
  case round =>
    obtain ⟨k, hk, rfl, rfl, rfl, HB⟩ := hrel
    by_cases hlt : k < L
    · have hkl : k < l.length := by have := HL.out; omega
      obtain ⟨b, o, rfl, hb, c0, c1⟩ := HA.out.at k hkl
      obtain ⟨b', o', e', hb', d0, d1⟩ := HA.out.at 0 (by omega)
      injection e' with e'
      injection e' with e1 e2
      subst e1 e2
      rw [Nat.zero_mul, Nat.add_zero] at d0 d1
      have c0 := (HB.out.cell (p := ⟨b, o + k * 2, none⟩) hb).trans c0
      have c1 := (HB.out.cell (p := ⟨b, o + k * 2 + 1, none⟩) hb).trans c1
      have d0 := (HB.out.cell (p := ⟨b, o, none⟩) hb).trans d0
      have d1 := (HB.out.cell (p := ⟨b, o + 1, none⟩) hb).trans d1
      have hbw : b < wr.heap.size := Nat.lt_of_lt_of_le hb HB.out.size
      have hbw2 : b ≠ wr.heap.size := by omega
      have hbw3 : b ≠ wr.heap.size + 1 := by omega
      have ep : pt l k = l[k] := by unfold pt; rw [List.getElem?_eq_getElem hkl]; rfl
      have eq0 : pt l 0 = l[0]'(by omega) := by unfold pt; rw [List.getElem?_eq_getElem (by omega)]; rfl
      have hnext : Hid (sg (fa l) (k + 1) = sg (fa l) k + (pt l k).1 * (pt l ((k + 1) % l.length)).2 ∧ sg (fb l) (k + 1) = sg (fb l) k + (pt l ((k + 1) % l.length)).1 * (pt l k).2) := ⟨rfl, rfl⟩
      have i1 := Hfa.out k
      have i2 := Hfb.out k
      have j1 := Hfa1.out k
      have j2 := Hfb1.out k
      unfold fa at j1
      unfold fb at j2
      rw [ep] at j1 j2 hnext
      by_cases hlast : k + 1 < L
      · have hk1l : k + 1 < l.length := by have := HL.out; omega
        obtain ⟨b', o', e', hb', g0, g1⟩ := HA.out.at (k + 1) hk1l
        injection e' with e'
        injection e' with e1 e2
        subst e1 e2
        have g0 := (HB.out.cell (p := ⟨b, o + (k + 1) * 2, none⟩) hb).trans g0
        have g1 := (HB.out.cell (p := ⟨b, o + (k + 1) * 2 + 1, none⟩) hb).trans g1
        have en : pt l ((k + 1) % l.length) = l[k + 1] := by rw [Nat.mod_eq_of_lt hk1l]; unfold pt; rw [List.getElem?_eq_getElem hk1l]; rfl
        rw [en] at j1 j2 hnext
        have z1 : decide ((k : Int) + 1 < (L : Int)) = true := decide_eq_true (by omega)
        have z2 : decide (k + 1 < L) = true := decide_eq_true (by omega)
        obtain ⟨K1, hK1⟩ : ∃ z, k + 1 = z := ⟨_, rfl⟩
        have hK : Hid (K1 = k + 1) := hK1.symm
        have kz : (0 : Int) ≤ (k : Int) + 1 := by omega
        have ky : (k : Int) + 1 < (L : Int) := by omega
        have kt : ((k : Int) + 1).toNat = k + 1 := by omega
        generalize l[k + 1] = n at *
        generalize l[0]'(by omega) = q at *
        generalize l[k] = p at *
        obtain ⟨A1, hA1⟩ : ∃ z, sg (fa l) k = z := ⟨_, rfl⟩
        obtain ⟨A2, hA2⟩ : ∃ z, sg (fb l) k = z := ⟨_, rfl⟩
        rw [hA1] at i1 hnext ⊢
        rw [hA2] at i2 hnext ⊢
        obtain ⟨M1, hM1⟩ : ∃ z, p.1 * n.2 = z := ⟨_, rfl⟩
        obtain ⟨M2, hM2⟩ : ∃ z, n.1 * p.2 = z := ⟨_, rfl⟩
        rw [hM1] at j1 hnext
        rw [hM2] at j2 hnext
        have w1 : wrap64 (p.1 * n.2) = M1 := by rw [hM1]; exact IntWalk.wrap64_in _ ⟨by omega, by omega⟩
        have w2 : wrap64 (n.1 * p.2) = M2 := by rw [hM2]; exact IntWalk.wrap64_in _ ⟨by omega, by omega⟩
        obtain ⟨T1, hT1⟩ : ∃ z, A1 + M1 = z := ⟨_, rfl⟩
        obtain ⟨T2, hT2⟩ : ∃ z, A2 + M2 = z := ⟨_, rfl⟩
        have w3 : wrap64 (A1 + M1) = T1 := by rw [hT1]; exact IntWalk.wrap64_in _ ⟨by omega, by omega⟩
        have w4 : wrap64 (A2 + M2) = T2 := by rw [hT2]; exact IntWalk.wrap64_in _ ⟨by omega, by omega⟩
        rw [hT1, hT2] at hnext
        have hk0 : (0 : Int) ≤ (k : Int) := by omega
        have hk1 : (k : Int) < (L : Int) := by omega
        have hk2 : (0 : Int) < (L : Int) := by omega
        have Hlt : Hid (k < L) := hlt
        clear i1 i2 j1 j2 hA1 hA2 hM1 hM2 hT1 hT2 ep eq0 en hlt
        go_upto_region 7 with (fail)
        go_region
        · obtain ⟨W1, hW1⟩ : ∃ W, W = ((wr.alloc (.cells #[.int .i64 p.1, .int .i64 p.2] 25)).alloc (.cells #[.int .i64 q.1, .int .i64 q.2] 25)).drew := ⟨_, rfl⟩
          obtain ⟨r0, hr0⟩ : ∃ z, z = wr.heap.size := ⟨_, rfl⟩
          obtain ⟨r1, hr1⟩ : ∃ z, z = r0 + 1 := ⟨_, rfl⟩
          have H0 : Whole W1 r0 25 #[.int .i64 p.1, .int .i64 p.2] := by rw [hW1, hr0]; exact ((Whole.new wr _ _).alloc _).drew
          have H1 : Whole W1 r1 25 #[.int .i64 q.1, .int .i64 q.2] := by
            have := (Whole.new (wr.alloc (.cells #[.int .i64 p.1, .int .i64 p.2] 25)) 25 #[.int .i64 q.1, .int .i64 q.2]).drew
            rw [World.size_alloc] at this
            rw [hW1, hr1, hr0]; exact this
          have HB1 : Hid (Below w.heap.size w W1) := by rw [hW1]; exact below_drewV ((HB.out.alloc HB.out.size _).alloc (by have := HB.out.size; simp; omega) _)
          have hbg0 : b ≠ r0 := by omega
          have hbg1 : b ≠ r1 := by omega
          have hg01 : r0 ≠ r1 := by omega
          have hg10 : r1 ≠ r0 := by omega
          have hwg : Hid (w.heap.size ≤ r0) := by show _ ≤ _; rw [hr0]; exact HB.out.size
          have hwg1 : Hid (w.heap.size ≤ r1) := by show _ ≤ _; rw [hr1]; have := hwg.out; omega
          have hkb : Below wr.heap.size wr W1 := by rw [hW1]; exact below_drewV (((Below.refl _ _).alloc (Nat.le_refl _) _).alloc (by simp) _)
          have g0 := (hkb.cell (p := ⟨b, o + (k + 1) * 2, none⟩) hbw).trans g0
          have g1 := (hkb.cell (p := ⟨b, o + (k + 1) * 2 + 1, none⟩) hbw).trans g1
          rw [← hW1, ← hr0, ← hr1]
          have x0 := H0.cell 0
          have x1 := H0.cell 1
          have y0 := H1.cell 0
          have y1 := H1.cell 1
          have u0 := H0.frozen 0
          have u1 := H0.frozen 1
          have v0 := H1.frozen 0
          have v1 := H1.frozen 1
          simp only [List.getElem?_toArray, List.getElem?_cons_zero, List.getElem?_cons_succ] at x0 x1 y0 y1
          clear hW1 hr0 hr1 hkb hbw hbw2 hbw3 c0 c1 d0 d1 hK1
          go_upto_region 10 with (fail)
          obtain ⟨W2, hW2⟩ : ∃ W, W = (W1.setCell ⟨r1, 0, none⟩ (.int .i64 n.1)).setCell ⟨r1, 1, none⟩ (.int .i64 n.2) := ⟨_, rfl⟩
          have K7 : Whole W2 r0 25 #[.int .i64 p.1, .int .i64 p.2] := by rw [hW2]; exact (H0.far (p := ⟨r1, 0, none⟩) (by show r0 ≠ r1; omega) _).far (p := ⟨r1, 1, none⟩) (by show r0 ≠ r1; omega) _
          have K8 : Whole W2 r1 25 #[.int .i64 n.1, .int .i64 n.2] := by
            have := (H1.set 0 (.int .i64 n.1)).set 1 (.int .i64 n.2)
            rw [hW2]
            simpa using this
          have HB2 : Hid (Below w.heap.size w W2) := by rw [hW2]; exact (HB1.out.setCell (p := ⟨r1, 0, none⟩) hwg1.out _).setCell (p := ⟨r1, 1, none⟩) hwg1.out _
          rw [← hW2]
          have x0 := K7.cell 0
          have x1 := K7.cell 1
          have y0 := K8.cell 0
          have y1 := K8.cell 1
          simp only [List.getElem?_toArray, List.getElem?_cons_zero, List.getElem?_cons_succ] at x0 x1 y0 y1
          clear hW2 u0 u1 v0 v1 g0 g1 H0 H1 kz ky kt z1 z2
          go_wp2_with fail
          go_roundw
          case rel => exact ⟨k + 1, by have := Hlt.out; omega, by go_num, by rw [hnext.out.1, w3], by rw [hnext.out.2, w4], HB2⟩
          case measure => have := Hlt.out; simp [intOf]; omega
        · obtain ⟨W1, hW1⟩ : ∃ W, W = ((wr.alloc (.cells #[.int .i64 q.1, .int .i64 q.2] 25)).alloc (.cells #[.int .i64 p.1, .int .i64 p.2] 25)).drew := ⟨_, rfl⟩
          obtain ⟨r0, hr0⟩ : ∃ z, z = wr.heap.size := ⟨_, rfl⟩
          obtain ⟨r1, hr1⟩ : ∃ z, z = r0 + 1 := ⟨_, rfl⟩
          have H0 : Whole W1 r0 25 #[.int .i64 q.1, .int .i64 q.2] := by rw [hW1, hr0]; exact ((Whole.new wr _ _).alloc _).drew
          have H1 : Whole W1 r1 25 #[.int .i64 p.1, .int .i64 p.2] := by
            have := (Whole.new (wr.alloc (.cells #[.int .i64 q.1, .int .i64 q.2] 25)) 25 #[.int .i64 p.1, .int .i64 p.2]).drew
            rw [World.size_alloc] at this
            rw [hW1, hr1, hr0]; exact this
          have HB1 : Hid (Below w.heap.size w W1) := by rw [hW1]; exact below_drewV ((HB.out.alloc HB.out.size _).alloc (by have := HB.out.size; simp; omega) _)
          have hbg0 : b ≠ r0 := by omega
          have hbg1 : b ≠ r1 := by omega
          have hg01 : r0 ≠ r1 := by omega
          have hg10 : r1 ≠ r0 := by omega
          have hwg : Hid (w.heap.size ≤ r0) := by show _ ≤ _; rw [hr0]; exact HB.out.size
          have hwg1 : Hid (w.heap.size ≤ r1) := by show _ ≤ _; rw [hr1]; have := hwg.out; omega
          have hkb : Below wr.heap.size wr W1 := by rw [hW1]; exact below_drewV (((Below.refl _ _).alloc (Nat.le_refl _) _).alloc (by simp) _)
          have g0 := (hkb.cell (p := ⟨b, o + (k + 1) * 2, none⟩) hbw).trans g0
          have g1 := (hkb.cell (p := ⟨b, o + (k + 1) * 2 + 1, none⟩) hbw).trans g1
          rw [← hW1, ← hr0, ← hr1]
          have x0 := H0.cell 0
          have x1 := H0.cell 1
          have y0 := H1.cell 0
          have y1 := H1.cell 1
          have u0 := H0.frozen 0
          have u1 := H0.frozen 1
          have v0 := H1.frozen 0
          have v1 := H1.frozen 1
          simp only [List.getElem?_toArray, List.getElem?_cons_zero, List.getElem?_cons_succ] at x0 x1 y0 y1
          clear hW1 hr0 hr1 hkb hbw hbw2 hbw3 c0 c1 d0 d1 hK1
          go_upto_region 10 with (fail)
          obtain ⟨W2, hW2⟩ : ∃ W, W = (W1.setCell ⟨r0, 0, none⟩ (.int .i64 n.1)).setCell ⟨r0, 1, none⟩ (.int .i64 n.2) := ⟨_, rfl⟩
          have K7 : Whole W2 r1 25 #[.int .i64 p.1, .int .i64 p.2] := by rw [hW2]; exact (H1.far (p := ⟨r0, 0, none⟩) (by show r1 ≠ r0; omega) _).far (p := ⟨r0, 1, none⟩) (by show r1 ≠ r0; omega) _
          have K8 : Whole W2 r0 25 #[.int .i64 n.1, .int .i64 n.2] := by
            have := (H0.set 0 (.int .i64 n.1)).set 1 (.int .i64 n.2)
            rw [hW2]
            simpa using this
          have HB2 : Hid (Below w.heap.size w W2) := by rw [hW2]; exact (HB1.out.setCell (p := ⟨r0, 0, none⟩) hwg.out _).setCell (p := ⟨r0, 1, none⟩) hwg.out _
          rw [← hW2]
          have x0 := K7.cell 0
          have x1 := K7.cell 1
          have y0 := K8.cell 0
          have y1 := K8.cell 1
          simp only [List.getElem?_toArray, List.getElem?_cons_zero, List.getElem?_cons_succ] at x0 x1 y0 y1
          clear hW2 u0 u1 v0 v1 g0 g1 H0 H1 kz ky kt z1 z2
          go_wp2_with fail
          go_roundw
          case rel => exact ⟨k + 1, by have := Hlt.out; omega, by go_num, by rw [hnext.out.1, w3], by rw [hnext.out.2, w4], HB2⟩
          case measure => have := Hlt.out; simp [intOf]; omega
      · have en : pt l ((k + 1) % l.length) = l[0]'(by omega) := by rw [show (k + 1) % l.length = 0 by have := HL.out; rw [show k + 1 = l.length by omega]; exact Nat.mod_self _]; exact eq0
        rw [en] at j1 j2 hnext
        have z1 : decide ((k : Int) + 1 < (L : Int)) = false := decide_eq_false (by omega)
        have z2 : decide (k + 1 < L) = false := decide_eq_false (by omega)
        generalize l[0]'(by omega) = q at *
        generalize l[k] = p at *
        obtain ⟨A1, hA1⟩ : ∃ z, sg (fa l) k = z := ⟨_, rfl⟩
        obtain ⟨A2, hA2⟩ : ∃ z, sg (fb l) k = z := ⟨_, rfl⟩
        rw [hA1] at i1 hnext ⊢
        rw [hA2] at i2 hnext ⊢
        obtain ⟨M1, hM1⟩ : ∃ z, p.1 * q.2 = z := ⟨_, rfl⟩
        obtain ⟨M2, hM2⟩ : ∃ z, q.1 * p.2 = z := ⟨_, rfl⟩
        rw [hM1] at j1 hnext
        rw [hM2] at j2 hnext
        have w1 : wrap64 (p.1 * q.2) = M1 := by rw [hM1]; exact IntWalk.wrap64_in _ ⟨by omega, by omega⟩
        have w2 : wrap64 (q.1 * p.2) = M2 := by rw [hM2]; exact IntWalk.wrap64_in _ ⟨by omega, by omega⟩
        obtain ⟨T1, hT1⟩ : ∃ z, A1 + M1 = z := ⟨_, rfl⟩
        obtain ⟨T2, hT2⟩ : ∃ z, A2 + M2 = z := ⟨_, rfl⟩
        have w3 : wrap64 (A1 + M1) = T1 := by rw [hT1]; exact IntWalk.wrap64_in _ ⟨by omega, by omega⟩
        have w4 : wrap64 (A2 + M2) = T2 := by rw [hT2]; exact IntWalk.wrap64_in _ ⟨by omega, by omega⟩
        rw [hT1, hT2] at hnext
        have hk0 : (0 : Int) ≤ (k : Int) := by omega
        have hk1 : (k : Int) < (L : Int) := by omega
        have hk2 : (0 : Int) < (L : Int) := by omega
        have Hlt : Hid (k < L) := hlt
        clear i1 i2 j1 j2 hA1 hA2 hM1 hM2 hT1 hT2 ep eq0 en hlt
        go_upto_region 7 with (fail)
        go_region
        · obtain ⟨W1, hW1⟩ : ∃ W, W = ((wr.alloc (.cells #[.int .i64 p.1, .int .i64 p.2] 25)).alloc (.cells #[.int .i64 q.1, .int .i64 q.2] 25)).drew := ⟨_, rfl⟩
          obtain ⟨g0, hg0⟩ : ∃ z, z = wr.heap.size := ⟨_, rfl⟩
          obtain ⟨g1, hg1⟩ : ∃ z, z = g0 + 1 := ⟨_, rfl⟩
          have H0 : Whole W1 g0 25 #[.int .i64 p.1, .int .i64 p.2] := by rw [hW1, hg0]; exact ((Whole.new wr _ _).alloc _).drew
          have H1 : Whole W1 g1 25 #[.int .i64 q.1, .int .i64 q.2] := by
            have := (Whole.new (wr.alloc (.cells #[.int .i64 p.1, .int .i64 p.2] 25)) 25 #[.int .i64 q.1, .int .i64 q.2]).drew
            rw [World.size_alloc] at this
            rw [hW1, hg1, hg0]; exact this
          have HB1 : Hid (Below w.heap.size w W1) := by rw [hW1]; exact below_drewV ((HB.out.alloc HB.out.size _).alloc (by have := HB.out.size; simp; omega) _)
          have hbg0 : b ≠ g0 := by omega
          have hbg1 : b ≠ g1 := by omega
          have hg01 : g0 ≠ g1 := by omega
          have hwg : Hid (w.heap.size ≤ g0) := by show _ ≤ _; rw [hg0]; exact HB.out.size
          have hkb : Below wr.heap.size wr W1 := by rw [hW1]; exact below_drewV (((Below.refl _ _).alloc (Nat.le_refl _) _).alloc (by simp) _)
          rw [← hW1, ← hg0, ← hg1]
          have x0 := H0.cell 0
          have x1 := H0.cell 1
          have y0 := H1.cell 0
          have y1 := H1.cell 1
          simp only [List.getElem?_toArray, List.getElem?_cons_zero, List.getElem?_cons_succ] at x0 x1 y0 y1
          clear hW1 hg0 hg1 hkb hbw hbw2 hbw3 c0 c1 d0 d1
          go_wp2_with fail
          go_roundw
          case rel => exact ⟨k + 1, by have := Hlt.out; omega, by go_num, by rw [hnext.out.1, w3], by rw [hnext.out.2, w4], HB1⟩
          case measure => have := Hlt.out; simp [intOf]; omega
        · obtain ⟨W1, hW1⟩ : ∃ W, W = ((wr.alloc (.cells #[.int .i64 q.1, .int .i64 q.2] 25)).alloc (.cells #[.int .i64 p.1, .int .i64 p.2] 25)).drew := ⟨_, rfl⟩
          obtain ⟨g0, hg0⟩ : ∃ z, z = wr.heap.size := ⟨_, rfl⟩
          obtain ⟨g1, hg1⟩ : ∃ z, z = g0 + 1 := ⟨_, rfl⟩
          have H0 : Whole W1 g0 25 #[.int .i64 q.1, .int .i64 q.2] := by rw [hW1, hg0]; exact ((Whole.new wr _ _).alloc _).drew
          have H1 : Whole W1 g1 25 #[.int .i64 p.1, .int .i64 p.2] := by
            have := (Whole.new (wr.alloc (.cells #[.int .i64 q.1, .int .i64 q.2] 25)) 25 #[.int .i64 p.1, .int .i64 p.2]).drew
            rw [World.size_alloc] at this
            rw [hW1, hg1, hg0]; exact this
          have HB1 : Hid (Below w.heap.size w W1) := by rw [hW1]; exact below_drewV ((HB.out.alloc HB.out.size _).alloc (by have := HB.out.size; simp; omega) _)
          have hbg0 : b ≠ g0 := by omega
          have hbg1 : b ≠ g1 := by omega
          have hg01 : g0 ≠ g1 := by omega
          have hwg : Hid (w.heap.size ≤ g0) := by show _ ≤ _; rw [hg0]; exact HB.out.size
          have hkb : Below wr.heap.size wr W1 := by rw [hW1]; exact below_drewV (((Below.refl _ _).alloc (Nat.le_refl _) _).alloc (by simp) _)
          rw [← hW1, ← hg0, ← hg1]
          have x0 := H0.cell 0
          have x1 := H0.cell 1
          have y0 := H1.cell 0
          have y1 := H1.cell 1
          simp only [List.getElem?_toArray, List.getElem?_cons_zero, List.getElem?_cons_succ] at x0 x1 y0 y1
          clear hW1 hg0 hg1 hkb hbw hbw2 hbw3 c0 c1 d0 d1
          go_wp2_with fail
          go_roundw
          case rel => exact ⟨k + 1, by have := Hlt.out; omega, by go_num, by rw [hnext.out.1, w3], by rw [hnext.out.2, w4], HB1⟩
          case measure => have := Hlt.out; simp [intOf]; omega
    · obtain rfl : k = L := by omega
      have i1 := Hfa.out k
      have i2 := Hfb.out k
      have hA : Hid (sg (fa l) k - sg (fb l) k = area l) := by have := Har.out; rw [← HL.out] at this; exact this.symm
      have w5 : wrap64 (sg (fa l) k - sg (fb l) k) = area l := by rw [← hA.out]; exact IntWalk.wrap64_in _ ⟨by omega, by omega⟩
      clear i1 i2 hk hlt
      go_wp2_with fail
      go_ret2
      exact ⟨by rw [w5]; rfl, HB.out⟩

theorem refArea_no (v : Value) (l : List P2) (w : World) (h : RdP w w.heap.size v l) (hl : l.length ≤ 1000000) (hok : okR l = false) :
    Calls Try.prog 8 #[v] w fun e w' => e = .returned (.tuple #[.int .i64 0, .bool false]) ∧ Below w.heap.size w w' := by
  have Hr := Lib.hid (right_any v l w h hl false hok)
  obtain ⟨a, c, rfl, _, _, ha⟩ := h
  clear ha hok
  go_enter Try.func8, Try.ntmps8
  go_wp2_with fail
  refine Hr.out.mono ?_
  rintro e X ⟨rfl, hX⟩
  have HX := Lib.hid hX
  clear hX Hr
  go_wp2_with fail
  go_ret2
  exact ⟨rfl, HX.out⟩
theorem area_no (v : Value) (l : List P2) (w : World) (h : RdP w w.heap.size v l) (hl : l.length ≤ 1000000) (hok : okR l = false) :
    Calls Try.prog 7 #[v] w fun e w' => e = .returned (.tuple #[.int .i64 0, .bool false]) ∧ Below w.heap.size w w' := by
  have Hr := Lib.hid (bounded_any v l w h hl false hok)
  obtain ⟨a, c, rfl, _, _, ha⟩ := h
  clear ha hok
  go_enter Try.func7, Try.ntmps7
  go_wp2_with fail
  refine Hr.out.mono ?_
  rintro e X ⟨rfl, hX⟩
  have HX := Lib.hid hX
  clear hX Hr
  go_wp2_with fail
  go_ret2
  exact ⟨rfl, HX.out⟩
def areaO (l : List P2) : Int × Bool := if okR l = true then (area l, true) else (0, false)
theorem refArea_any (v : Value) (l : List P2) (w : World) (h : RdP w w.heap.size v l) (hl : l.length ≤ 1000000) (A : Int) (t : Bool) (hR : areaO l = (A, t)) :
    Calls Try.prog 8 #[v] w fun e w' => e = .returned (.tuple #[.int .i64 A, .bool t]) ∧ Below w.heap.size w w' := by
  unfold areaO at hR
  split at hR
  · next hok => injection hR with h1 h2; subst h1 h2; exact refArea_yes v l w h hok
  · next hok => injection hR with h1 h2; subst h1 h2; exact refArea_no v l w h hl (by simpa using hok)
def sgn (n : Int) : Int := if 0 < n then 1 else if n < 0 then -1 else 0
theorem sign_any (n : Int) (w : World) : Calls Try.prog 18 #[.int .i64 n] w fun e w' => e = .returned (.int .i64 (sgn n)) ∧ w = w' := by
  by_cases h1 : 0 < n
  · have e : sgn n = 1 := by unfold sgn; rw [if_pos h1]
    rw [e]
    clear e
    go_enter Try.func18, Try.ntmps18
    go_wp2_with fail
    go_ret
    exact ⟨rfl, rfl⟩
  · by_cases h2 : n < 0
    · have e : sgn n = -1 := by unfold sgn; rw [if_neg h1, if_pos h2]
      rw [e]
      clear e
      go_enter Try.func18, Try.ntmps18
      go_wp2_with fail
      go_ret
      exact ⟨rfl, rfl⟩
    · have e : sgn n = 0 := by unfold sgn; rw [if_neg h1, if_neg h2]
      rw [e]
      clear e
      go_enter Try.func18, Try.ntmps18
      go_wp2_with fail
      go_ret
      exact ⟨rfl, rfl⟩
theorem refSign_any (v : Value) (l : List P2) (w : World) (h : RdP w w.heap.size v l) (hl : l.length ≤ 1000000) :
    Calls Try.prog 10 #[v] w fun e w' => e = .returned (.int .i64 (sgn (areaO l).1)) ∧ Below w.heap.size w w' := by
  obtain ⟨⟨A, t⟩, hR⟩ : ∃ R, areaO l = R := ⟨_, rfl⟩
  have Hr := Lib.hid (refArea_any v l w h hl A t hR)
  rw [hR]
  show Calls _ _ _ _ fun e w' => e = .returned (.int .i64 (sgn A)) ∧ _
  obtain ⟨a, c, rfl, _, _, ha⟩ := h
  clear ha hR
  by_cases h1 : 0 < A
  · have e : sgn A = 1 := by unfold sgn; rw [if_pos h1]
    have h2 : ¬ A < 0 := by omega
    rw [e]
    clear e
    go_enter Try.func10, Try.ntmps10
    go_wp2_with fail
    refine Hr.out.mono ?_
    rintro e X ⟨rfl, hX⟩
    have HX := Lib.hid hX
    clear hX Hr
    go_wp2_with fail
    go_ret
    exact ⟨rfl, HX.out⟩
  · by_cases h2 : A < 0
    · have e : sgn A = -1 := by unfold sgn; rw [if_neg h1, if_pos h2]
      rw [e]
      clear e
      go_enter Try.func10, Try.ntmps10
      go_wp2_with fail
      refine Hr.out.mono ?_
      rintro e X ⟨rfl, hX⟩
      have HX := Lib.hid hX
      clear hX Hr
      go_wp2_with fail
      go_ret
      exact ⟨rfl, HX.out⟩
    · have e : sgn A = 0 := by unfold sgn; rw [if_neg h1, if_neg h2]
      rw [e]
      clear e
      go_enter Try.func10, Try.ntmps10
      go_wp2_with fail
      refine Hr.out.mono ?_
      rintro e X ⟨rfl, hX⟩
      have HX := Lib.hid hX
      clear hX Hr
      go_wp2_with fail
      go_ret
      exact ⟨rfl, HX.out⟩
end Go.Proofs.Ytlmnmilefggmpaa
