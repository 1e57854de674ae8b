/- Walks over layer 27: the reference's Around; what the program's Area, Sign, Around answer. -/
import Derived.Test.YtlmnmilefggmpaaWind6
import Derived.BigRegion
import Derived.Deep.DeepCutAuto
namespace Go.Proofs.Ytlmnmilefggmpaa
open Go.RowKit
set_option linter.unusedVariables false
set_option maxRecDepth 100000

theorem whole_below {W W' : World} {b : Nat} {t : TypeId} {cs : Array Value} (h : Whole W b t cs) (hb : Below W.heap.size W W') : Whole W' b t cs := h.below hb h.lt
theorem rdP_block {W : World} {b : Nat} {ps : List P2} (h : W.heap[b]? = some (.cells (pts ps).toArray 25 (0, 0))) (n : Nat) (hn : n = ps.length) (hm : ps.length ≤ maxLen) : RdP W W.heap.size (.slice (some ⟨b, 0, none⟩) n n) ps := by
  subst hn
  refine ⟨_, _, rfl, Nat.le_refl _, hm, ?_⟩
  have := Vals.of_block (w := W) (xs := pts ps) (n := ps.length) (size := 2) h (pts_length ps)
  exact this.more (by have := (Array.getElem?_eq_some_iff.1 h).1; omega)
set_option maxHeartbeats 40000000 in
theorem refAround_yes (v : Value) (l : List P2) (p : P2) (w : World) (h : RdP w w.heap.size v l) (hp : okP p = true) (hok : okR l = true) :
    Calls Try.prog 12 #[v, .agg #[.int .i64 p.1, .int .i64 p.2]] w fun e w' => e = .returned (.tuple #[.int .i64 (aro l p).1, .bool (aro l p).2]) ∧ Below w.heap.size w w' := by
  have hL := (okR_all hok).2
  have Hri := Lib.hid fun W (h : RdP W W.heap.size v l) => right_any v l W h (by omega) true hok
  have Hin := Lib.hid fun W => in_any p.1 p.2 W
  rw [show ((p.1, p.2) : P2) = p from rfl, hp] at Hin
  have Hp := Lib.hid hp
  have Hok := Lib.hid hok
  have HR := Lib.hid h
  obtain ⟨a, c, rfl, _, _, ha⟩ := h
  have HA := Lib.hid ha
  obtain ⟨L, hLl⟩ : ∃ L, L = l.length := ⟨_, rfl⟩
  have HL := Lib.hid hLl
  rw [← hLl] at hL Hri HR ⊢
  obtain ⟨px, hpx⟩ : ∃ z, p.1 = z := ⟨_, rfl⟩
  obtain ⟨py, hpy⟩ : ∃ z, p.2 = z := ⟨_, rfl⟩
  have hpp : p = (px, py) := by rw [← hpx, ← hpy]
  have hpb := okP_of hp
  rw [hpx, hpy] at hpb Hin ⊢
  have HPX := Lib.hid hpx
  have HPY := Lib.hid hpy
  have HPP := Lib.hid hpp
  have HPB := Lib.hid hpb
  clear ha hok hLl hp hpx hpy hpp hpb
  go_enter Try.func12, Try.ntmps12
  go_upto_region 1 with (fail)
  obtain ⟨np, hnp⟩ : ∃ z, z = w.heap.size := ⟨_, rfl⟩
  obtain ⟨X0, hX0⟩ : ∃ z, z = w.alloc (.cells #[.int .i64 px, .int .i64 py] 25) := ⟨_, rfl⟩
  have hW0 : Whole X0 np 25 #[.int .i64 px, .int .i64 py] := by rw [hX0, hnp]; exact Whole.new w _ _
  have hB0 : Below w.heap.size w X0 := by rw [hX0]; exact (Below.refl _ _).alloc (Nat.le_refl _) _
  have c0 : X0.cell? ⟨np, 0, none⟩ = some (.int .i64 px) := hW0.cell 0
  have c1 : X0.cell? ⟨np, 1, none⟩ = some (.int .i64 py) := hW0.cell 1
  have Hri0 := Lib.hid (Hri.out X0 ((HR.out.below hB0).more hB0.size))
  have HW0 := Lib.hid hW0
  have HB0 := Lib.hid hB0
  rw [← hX0, ← hnp]
  clear hX0 hnp hW0 hB0 Hri
  go_wp2_with fail
  refine Hri0.out.mono ?_
  rintro e X1 ⟨rfl, hX1⟩
  have HW1 := Lib.hid (whole_below HW0.out hX1)
  have HB1 := Lib.hid (HB0.out.trans (hX1.mono HB0.out.size))
  have c0 : X1.cell? ⟨np, 0, none⟩ = some (.int .i64 px) := HW1.out.cell 0
  have c1 : X1.cell? ⟨np, 1, none⟩ = some (.int .i64 py) := HW1.out.cell 1
  clear hX1 HW0 HB0 Hri0
  go_wp2_with fail
  refine (Hin.out X1).mono ?_
  rintro e X2 ⟨rfl, hX2⟩
  have HW2 := Lib.hid (whole_below HW1.out hX2)
  have HB2 := Lib.hid (HB1.out.trans (hX2.mono HB1.out.size))
  clear hX2 HW1 HB1 c0 c1 Hin
  go_wp2_with fail
  go_loopw [7, 6] (fun x s W => ∃ k : Nat, k ≤ L ∧ x = .int .i64 (k : Int) ∧ s = .int .i64 (windTo l p k) ∧ Hid (onTo l p k = false) ∧ Hid (Whole W np 25 #[.int .i64 px, .int .i64 py]) ∧ Hid (Below w.heap.size w W)) (fun x _ _ => L - (intOf x).toNat)
  case atStart => exact ⟨0, Nat.zero_le _, rfl, rfl, rfl, HW2, HB2⟩
  case round =>
    obtain ⟨k, hk, rfl, rfl, HON0, HWp, HB⟩ := hrel
    clear HW2 HB2
    have hwin := windTo_in l p k
    by_cases hlt : k < L
    · have hkl : k < l.length := by have := HL.out; omega
      obtain ⟨m, hm⟩ : ∃ m, m = (k + 1) % L := ⟨_, rfl⟩
      have hml : m < L := by rw [hm]; exact Nat.mod_lt _ (by omega)
      have hon := onTo_succ l p k
      rw [HON0.out, Bool.false_or] at hon
      have hwn : windTo l p (k + 1) = windTo l p k + stp (pt l k) (pt l ((k + 1) % l.length)) p := rfl
      rw [← HL.out, ← hm] at hon hwn
      obtain ⟨b, o, rfl, hb, c0, c1⟩ := HA.out.pt_at k hkl
      obtain ⟨b', o', e', hb', d0, d1⟩ := HA.out.pt_at m (by have := HL.out; omega)
      injection e' with e'
      injection e' with e1 e2
      subst e1 e2
      have c0 := (HB.out.cell (p := ⟨b, o + k * 2, none⟩) hb).trans c0
      have c1 := (HB.out.cell (p := ⟨b, o + k * 2 + 1, none⟩) hb).trans c1
      have d0 := (HB.out.cell (p := ⟨b, o + m * 2, none⟩) hb).trans d0
      have d1 := (HB.out.cell (p := ⟨b, o + m * 2 + 1, none⟩) hb).trans d1
      have HokA := Lib.hid (okP_pt Hok.out k)
      have HokB := Lib.hid (okP_pt Hok.out m)
      have hbw : b < wr.heap.size := Nat.lt_of_lt_of_le hb HB.out.size
      have hbw2 : b ≠ wr.heap.size := by omega
      have hbw3 : b ≠ wr.heap.size + 1 := by omega
      obtain ⟨K1, hK1⟩ : ∃ K, K = k + 1 := ⟨_, rfl⟩
      have w1 : IntKind.i64.wrap ((k : Int) + 1) = (K1 : Int) := by rw [IntWalk.i64_in _ ⟨by omega, by omega⟩]; omega
      have w1b : (k : Int) + 1 = (K1 : Int) := by omega
      have w1c : IntKind.i64.wrap (K1 : Int) = (K1 : Int) := IntWalk.i64_in _ ⟨by omega, by omega⟩
      have w2 : Int.tmod (K1 : Int) (L : Int) = (m : Int) := by rw [hm, hK1]; rfl
      have w3 : (K1 : Int) % (L : Int) = (m : Int) := by rw [hm, hK1]; rfl
      have w4 : IntKind.i64.wrap (m : Int) = (m : Int) := IntWalk.i64_in _ ⟨by omega, by omega⟩
      have hk0 : (0 : Int) ≤ (k : Int) := by omega
      have hk1 : (k : Int) < (L : Int) := by omega
      have hm0 : (0 : Int) ≤ (m : Int) := by omega
      have hm1 : (m : Int) < (L : Int) := by omega
      have hl0 : ¬ ((L : Int) = 0) := by omega
      have hst : stp (pt l k) (pt l m) p = (if (pt l k).2 ≤ p.2 ∧ p.2 < (pt l m).2 ∧ 0 < sd (pt l k) (pt l m) p then 1 else 0) - (if (pt l m).2 ≤ p.2 ∧ p.2 < (pt l k).2 ∧ sd (pt l k) (pt l m) p < 0 then 1 else 0) := rfl
      rw [hst] at hwn
      have hone : onE (pt l k) (pt l m) p = (decide (sd (pt l k) (pt l m) p = 0) && btw (pt l k).1 (pt l m).1 p.1 && btw (pt l k).2 (pt l m).2 p.2) := rfl
      rw [hone, btw_mul, btw_mul] at hon
      have har : areaO [pt l k, pt l m, p] = (sd (pt l k) (pt l m) p, true) := by
        unfold areaO
        have hk3 : okR [pt l k, pt l m, p] = true := by
          have e1 := HokA.out
          have e2 := HokB.out
          have e3 := Hp.out
          unfold okR
          simp [e1, e2, e3]
        rw [if_pos hk3, area3]
      have Har := Lib.hid fun W (vv : Value) (h : RdP W W.heap.size vv [pt l k, pt l m, p]) => refArea_any vv [pt l k, pt l m, p] W h (by simp) _ _ har
      have hob1 := okP_of HokA.out
      have hob2 := okP_of HokB.out
      have hob3 := HPB.out
      rw [HPY.out] at hwn
      rw [HPX.out, HPY.out] at hon
      generalize pt l k = A at *
      generalize pt l m = Bp at *
      obtain ⟨ax, ay⟩ := A
      obtain ⟨bx, by'⟩ := Bp
      simp only at c0 c1 d0 d1 hwn hon hob1 hob2 hob3
      obtain ⟨S, hS⟩ : ∃ S, sd (ax, ay) (bx, by') p = S := ⟨_, rfl⟩
      rw [hS] at hwn hon Har
      rw [HPP.out] at Har
      obtain ⟨x1, e1⟩ : ∃ x, px - ax = x := ⟨_, rfl⟩
      obtain ⟨x2, e2⟩ : ∃ x, px - bx = x := ⟨_, rfl⟩
      obtain ⟨y1, e3⟩ : ∃ x, py - ay = x := ⟨_, rfl⟩
      obtain ⟨y2, e4⟩ : ∃ x, py - by' = x := ⟨_, rfl⟩
      rw [e1, e2, e3, e4] at hon
      have m1 := mul_in22 (x := x1) (y := x2) (by omega) (by omega)
      have m2 := mul_in22 (x := y1) (y := y2) (by omega) (by omega)
      obtain ⟨MX, hMX⟩ : ∃ x, x1 * x2 = x := ⟨_, rfl⟩
      obtain ⟨MY, hMY⟩ : ∃ x, y1 * y2 = x := ⟨_, rfl⟩
      rw [hMX] at m1 hon
      rw [hMY] at m2 hon
      have v1 : wrap64 (px - ax) = x1 := by rw [e1]; exact IntWalk.wrap64_in _ ⟨by omega, by omega⟩
      have v2 : wrap64 (px - bx) = x2 := by rw [e2]; exact IntWalk.wrap64_in _ ⟨by omega, by omega⟩
      have v3 : wrap64 (py - ay) = y1 := by rw [e3]; exact IntWalk.wrap64_in _ ⟨by omega, by omega⟩
      have v4 : wrap64 (py - by') = y2 := by rw [e4]; exact IntWalk.wrap64_in _ ⟨by omega, by omega⟩
      have v5 : wrap64 (x1 * x2) = MX := by rw [hMX]; exact IntWalk.wrap64_in _ ⟨by omega, by omega⟩
      have v6 : wrap64 (y1 * y2) = MY := by rw [hMY]; exact IntWalk.wrap64_in _ ⟨by omega, by omega⟩
      obtain ⟨tX, htX⟩ : ∃ t, decide (MX ≤ 0) = t := ⟨_, rfl⟩
      obtain ⟨tY, htY⟩ : ∃ t, decide (MY ≤ 0) = t := ⟨_, rfl⟩
      rw [htX, htY] at hon
      obtain ⟨N, hN⟩ : ∃ N, windTo l p k = N := ⟨_, rfl⟩
      rw [hN] at hwn hwin
      rw [hN]
      have HSN := Lib.hid hwn
      rw [hK1.symm] at hon
      have HON := Lib.hid hon
      have HK1 := Lib.hid hK1
      have Hlt := Lib.hid hlt
      have hn1 : -262144 ≤ N := by omega
      have hn2 : N ≤ 262144 := by omega
      have V1 := Lib.hid v1
      have V2 := Lib.hid v2
      have V3 := Lib.hid v3
      have V4 := Lib.hid v4
      have V5 := Lib.hid v5
      have V6 := Lib.hid v6
      have HTX := Lib.hid htX
      have HTY := Lib.hid htY
      rw [hK1] at HON
      clear hwn hon hN hK1 hm hwin hlt hst hone har hob1 hob2 hob3 e1 e2 e3 e4 m1 m2 hMX hMY v1 v2 v3 v4 v5 v6 htX htY hS HokA HokB
      go_upto_region 7 with (fail)
      go_cut [8, 9] (fun s t W => ∃ g8 g9, s = .pointer (some ⟨g8, 0, none⟩) ∧ t = .pointer (some ⟨g9, 0, none⟩) ∧ Hid (Whole W g8 25 #[.int .i64 ax, .int .i64 ay] ∧ Whole W g9 25 #[.int .i64 bx, .int .i64 by'] ∧ Below wr.heap.size wr W))
      case first =>
        go_region
        · go_wp2_with fail
          go_meet
          refine ⟨_, _, rfl, rfl, (Whole.new wr _ _).alloc _ |>.drew, ?_, below_drewV (((Below.refl _ _).alloc (Nat.le_refl _) _).alloc (by simp) _)⟩
          have := (Whole.new (wr.alloc (.cells #[.int .i64 ax, .int .i64 ay] 25)) 25 #[.int .i64 bx, .int .i64 by']).drew
          rw [World.size_alloc] at this
          exact this
        · go_wp2_with fail
          go_meet
          refine ⟨_, _, rfl, rfl, ?_, (Whole.new wr _ _).alloc _ |>.drew, below_drewV (((Below.refl _ _).alloc (Nat.le_refl _) _).alloc (by simp) _)⟩
          have := (Whole.new (wr.alloc (.cells #[.int .i64 bx, .int .i64 by'] 25)) 25 #[.int .i64 ax, .int .i64 ay]).drew
          rw [World.size_alloc] at this
          exact this
      case rest =>
        obtain ⟨g8, g9, rfl, rfl, HC⟩ := hcut
        have HWp1 := Lib.hid (whole_below HWp.out HC.out.2.2)
        have HBc := Lib.hid (HB.out.trans (HC.out.2.2.mono HB.out.size))
        have a0 : wc.cell? ⟨g8, 0, none⟩ = some (.int .i64 ax) := HC.out.1.cell 0
        have a1 : wc.cell? ⟨g8, 1, none⟩ = some (.int .i64 ay) := HC.out.1.cell 1
        have b0 : wc.cell? ⟨g9, 0, none⟩ = some (.int .i64 bx) := HC.out.2.1.cell 0
        have b1 : wc.cell? ⟨g9, 1, none⟩ = some (.int .i64 by') := HC.out.2.1.cell 1
        have p0 : wc.cell? ⟨np, 0, none⟩ = some (.int .i64 px) := HWp1.out.cell 0
        have p1 : wc.cell? ⟨np, 1, none⟩ = some (.int .i64 py) := HWp1.out.cell 1
        have h8 := HC.out.1.lt
        have h9 := HC.out.2.1.lt
        have hn := HWp1.out.lt
        have HBu := Below.refl wc.heap.size wc |>.alloc (Nat.le_refl _) (.cells #[.int .i64 ax, .int .i64 ay, .int .i64 bx, .int .i64 by', .int .i64 px, .int .i64 py] 25)
        have HCA := Lib.hid (Har.out (wc.alloc (.cells #[.int .i64 ax, .int .i64 ay, .int .i64 bx, .int .i64 by', .int .i64 px, .int .i64 py] 25)) _ (rdP_block (b := wc.heap.size) (ps := [(ax, ay), (bx, by'), (px, py)]) (heap_alloc_new wc _) 3 rfl (by unfold maxLen; simp)))
        have HB8 := Lib.hid HBu
        clear HWp HB c0 c1 d0 d1 hbw hbw2 hbw3 w1 w1b w1c w2 w3 w4 hm0 hm1 hl0 Har HBu
        go_wp2_with fail
        refine HCA.out.mono ?_
        rintro e Y ⟨rfl, hY⟩
        have hYY : Below wc.heap.size wc Y := HB8.out.trans (hY.mono HB8.out.size)
        have HP9 := Lib.hid (whole_below HWp1.out hYY)
        have HB9 := Lib.hid (HBc.out.trans (hYY.mono HBc.out.size))
        have a0 : Y.cell? ⟨g8, 0, none⟩ = some (.int .i64 ax) := (whole_below HC.out.1 hYY).cell 0
        have a1 : Y.cell? ⟨g8, 1, none⟩ = some (.int .i64 ay) := (whole_below HC.out.1 hYY).cell 1
        have b0 : Y.cell? ⟨g9, 0, none⟩ = some (.int .i64 bx) := (whole_below HC.out.2.1 hYY).cell 0
        have b1 : Y.cell? ⟨g9, 1, none⟩ = some (.int .i64 by') := (whole_below HC.out.2.1 hYY).cell 1
        have p0 : Y.cell? ⟨np, 0, none⟩ = some (.int .i64 px) := HP9.out.cell 0
        have p1 : Y.cell? ⟨np, 1, none⟩ = some (.int .i64 py) := HP9.out.cell 1
        have v1 := V1.out
        have v2 := V2.out
        have v3 := V3.out
        have v4 := V4.out
        have v5 := V5.out
        have v6 := V6.out
        have htX := HTX.out
        have htY := HTY.out
        clear hY hYY HCA HB8 HC HWp1 HBc h8 h9 hn V1 V2 V3 V4 V5 V6 HTX HTY
        rcases Int.lt_trichotomy S 0 with hS | hS | hS
        · have s1 : decide (S = 0) = false := decide_eq_false (by omega)
          have s2 : decide (0 < S) = false := decide_eq_false (by omega)
          have s3 : decide (S < 0) = true := decide_eq_true hS
          have s4 : (S == 0) = false := by simpa using s1
          have HOF : Hid (onTo l p (k + 1) = false) := by show _ = _; rw [HON.out, s1]; rfl
          by_cases hA : ay ≤ py
          · by_cases hB : py < by'
            · have d1 : decide (ay ≤ py) = true := decide_eq_true (by omega)
              have d2 : decide (py < ay) = false := decide_eq_false (by omega)
              have d3 : decide (py < by') = true := decide_eq_true (by omega)
              have d4 : decide (by' ≤ py) = false := decide_eq_false (by omega)
              have HV : Hid (windTo l p (k + 1) = N) := by show _ = _; rw [HSN.out]; split <;> split <;> omega
              clear hA hB
              go_wp2_with fail
              go_roundw
              case rel => exact ⟨k + 1, by have := Hlt.out; omega, by go_num, by rw [HV.out], HOF, HP9, HB9⟩
              case measure => have := Hlt.out; simp [intOf]; omega
            · have d1 : decide (ay ≤ py) = true := decide_eq_true (by omega)
              have d2 : decide (py < ay) = false := decide_eq_false (by omega)
              have d3 : decide (py < by') = false := decide_eq_false (by omega)
              have d4 : decide (by' ≤ py) = true := decide_eq_true (by omega)
              have HV : Hid (windTo l p (k + 1) = N) := by show _ = _; rw [HSN.out]; split <;> split <;> omega
              clear hA hB
              go_wp2_with fail
              go_roundw
              case rel => exact ⟨k + 1, by have := Hlt.out; omega, by go_num, by rw [HV.out], HOF, HP9, HB9⟩
              case measure => have := Hlt.out; simp [intOf]; omega
          · by_cases hB : py < by'
            · have d1 : decide (ay ≤ py) = false := decide_eq_false (by omega)
              have d2 : decide (py < ay) = true := decide_eq_true (by omega)
              have d3 : decide (py < by') = true := decide_eq_true (by omega)
              have d4 : decide (by' ≤ py) = false := decide_eq_false (by omega)
              have HV : Hid (windTo l p (k + 1) = N) := by show _ = _; rw [HSN.out]; split <;> split <;> omega
              clear hA hB
              go_wp2_with fail
              go_roundw
              case rel => exact ⟨k + 1, by have := Hlt.out; omega, by go_num, by rw [HV.out], HOF, HP9, HB9⟩
              case measure => have := Hlt.out; simp [intOf]; omega
            · have d1 : decide (ay ≤ py) = false := decide_eq_false (by omega)
              have d2 : decide (py < ay) = true := decide_eq_true (by omega)
              have d3 : decide (py < by') = false := decide_eq_false (by omega)
              have d4 : decide (by' ≤ py) = true := decide_eq_true (by omega)
              have HV : Hid (windTo l p (k + 1) = N - 1) := by show _ = _; rw [HSN.out]; split <;> split <;> omega
              clear hA hB
              go_wp2_with fail
              go_roundw
              case rel => exact ⟨k + 1, by have := Hlt.out; omega, by go_num, by rw [HV.out], HOF, HP9, HB9⟩
              case measure => have := Hlt.out; simp [intOf]; omega
        · subst hS
          have hS : (0 : Int) = 0 := rfl
          cases tX
          · have HOF : Hid (onTo l p (k + 1) = false) := by show _ = _; rw [HON.out]; rfl
            by_cases hA : ay ≤ py
            · by_cases hB : py < by'
              · have d1 : decide (ay ≤ py) = true := decide_eq_true (by omega)
                have d2 : decide (py < ay) = false := decide_eq_false (by omega)
                have d3 : decide (py < by') = true := decide_eq_true (by omega)
                have d4 : decide (by' ≤ py) = false := decide_eq_false (by omega)
                have HV : Hid (windTo l p (k + 1) = N) := by show _ = _; rw [HSN.out]; split <;> split <;> omega
                clear hA hB
                go_wp2_with fail
                go_roundw
                case rel => exact ⟨k + 1, by have := Hlt.out; omega, by go_num, by rw [HV.out], HOF, HP9, HB9⟩
                case measure => have := Hlt.out; simp [intOf]; omega
              · have d1 : decide (ay ≤ py) = true := decide_eq_true (by omega)
                have d2 : decide (py < ay) = false := decide_eq_false (by omega)
                have d3 : decide (py < by') = false := decide_eq_false (by omega)
                have d4 : decide (by' ≤ py) = true := decide_eq_true (by omega)
                have HV : Hid (windTo l p (k + 1) = N) := by show _ = _; rw [HSN.out]; split <;> split <;> omega
                clear hA hB
                go_wp2_with fail
                go_roundw
                case rel => exact ⟨k + 1, by have := Hlt.out; omega, by go_num, by rw [HV.out], HOF, HP9, HB9⟩
                case measure => have := Hlt.out; simp [intOf]; omega
            · by_cases hB : py < by'
              · have d1 : decide (ay ≤ py) = false := decide_eq_false (by omega)
                have d2 : decide (py < ay) = true := decide_eq_true (by omega)
                have d3 : decide (py < by') = true := decide_eq_true (by omega)
                have d4 : decide (by' ≤ py) = false := decide_eq_false (by omega)
                have HV : Hid (windTo l p (k + 1) = N) := by show _ = _; rw [HSN.out]; split <;> split <;> omega
                clear hA hB
                go_wp2_with fail
                go_roundw
                case rel => exact ⟨k + 1, by have := Hlt.out; omega, by go_num, by rw [HV.out], HOF, HP9, HB9⟩
                case measure => have := Hlt.out; simp [intOf]; omega
              · have d1 : decide (ay ≤ py) = false := decide_eq_false (by omega)
                have d2 : decide (py < ay) = true := decide_eq_true (by omega)
                have d3 : decide (py < by') = false := decide_eq_false (by omega)
                have d4 : decide (by' ≤ py) = true := decide_eq_true (by omega)
                have HV : Hid (windTo l p (k + 1) = N) := by show _ = _; rw [HSN.out]; split <;> split <;> omega
                clear hA hB
                go_wp2_with fail
                go_roundw
                case rel => exact ⟨k + 1, by have := Hlt.out; omega, by go_num, by rw [HV.out], HOF, HP9, HB9⟩
                case measure => have := Hlt.out; simp [intOf]; omega
          · cases tY
            · have HOF : Hid (onTo l p (k + 1) = false) := by show _ = _; rw [HON.out]; rfl
              by_cases hA : ay ≤ py
              · by_cases hB : py < by'
                · have d1 : decide (ay ≤ py) = true := decide_eq_true (by omega)
                  have d2 : decide (py < ay) = false := decide_eq_false (by omega)
                  have d3 : decide (py < by') = true := decide_eq_true (by omega)
                  have d4 : decide (by' ≤ py) = false := decide_eq_false (by omega)
                  have HV : Hid (windTo l p (k + 1) = N) := by show _ = _; rw [HSN.out]; split <;> split <;> omega
                  clear hA hB
                  go_wp2_with fail
                  go_roundw
                  case rel => exact ⟨k + 1, by have := Hlt.out; omega, by go_num, by rw [HV.out], HOF, HP9, HB9⟩
                  case measure => have := Hlt.out; simp [intOf]; omega
                · have d1 : decide (ay ≤ py) = true := decide_eq_true (by omega)
                  have d2 : decide (py < ay) = false := decide_eq_false (by omega)
                  have d3 : decide (py < by') = false := decide_eq_false (by omega)
                  have d4 : decide (by' ≤ py) = true := decide_eq_true (by omega)
                  have HV : Hid (windTo l p (k + 1) = N) := by show _ = _; rw [HSN.out]; split <;> split <;> omega
                  clear hA hB
                  go_wp2_with fail
                  go_roundw
                  case rel => exact ⟨k + 1, by have := Hlt.out; omega, by go_num, by rw [HV.out], HOF, HP9, HB9⟩
                  case measure => have := Hlt.out; simp [intOf]; omega
              · by_cases hB : py < by'
                · have d1 : decide (ay ≤ py) = false := decide_eq_false (by omega)
                  have d2 : decide (py < ay) = true := decide_eq_true (by omega)
                  have d3 : decide (py < by') = true := decide_eq_true (by omega)
                  have d4 : decide (by' ≤ py) = false := decide_eq_false (by omega)
                  have HV : Hid (windTo l p (k + 1) = N) := by show _ = _; rw [HSN.out]; split <;> split <;> omega
                  clear hA hB
                  go_wp2_with fail
                  go_roundw
                  case rel => exact ⟨k + 1, by have := Hlt.out; omega, by go_num, by rw [HV.out], HOF, HP9, HB9⟩
                  case measure => have := Hlt.out; simp [intOf]; omega
                · have d1 : decide (ay ≤ py) = false := decide_eq_false (by omega)
                  have d2 : decide (py < ay) = true := decide_eq_true (by omega)
                  have d3 : decide (py < by') = false := decide_eq_false (by omega)
                  have d4 : decide (by' ≤ py) = true := decide_eq_true (by omega)
                  have HV : Hid (windTo l p (k + 1) = N) := by show _ = _; rw [HSN.out]; split <;> split <;> omega
                  clear hA hB
                  go_wp2_with fail
                  go_roundw
                  case rel => exact ⟨k + 1, by have := Hlt.out; omega, by go_num, by rw [HV.out], HOF, HP9, HB9⟩
                  case measure => have := Hlt.out; simp [intOf]; omega
            · have HOF : Hid (onTo l p (k + 1) = true) := by show _ = _; rw [HON.out]; rfl
              have he : aro l p = (0, false) := by
                unfold aro
                rw [if_pos ⟨Hp.out, Hok.out⟩, if_pos (onTo_mono HOF.out (by have := Hlt.out; have := HL.out; omega))]
              have HE := Lib.hid he
              clear he
              go_wp2_with fail
              go_ret2
              exact ⟨by rw [HE.out]; rfl, HB9.out⟩
        · have s1 : decide (S = 0) = false := decide_eq_false (by omega)
          have s2 : decide (0 < S) = true := decide_eq_true hS
          have s3 : decide (S < 0) = false := decide_eq_false (by omega)
          have s4 : (S == 0) = false := by simpa using s1
          have HOF : Hid (onTo l p (k + 1) = false) := by show _ = _; rw [HON.out, s1]; rfl
          by_cases hA : ay ≤ py
          · by_cases hB : py < by'
            · have d1 : decide (ay ≤ py) = true := decide_eq_true (by omega)
              have d2 : decide (py < ay) = false := decide_eq_false (by omega)
              have d3 : decide (py < by') = true := decide_eq_true (by omega)
              have d4 : decide (by' ≤ py) = false := decide_eq_false (by omega)
              have HV : Hid (windTo l p (k + 1) = N + 1) := by show _ = _; rw [HSN.out]; split <;> split <;> omega
              clear hA hB
              go_wp2_with fail
              go_roundw
              case rel => exact ⟨k + 1, by have := Hlt.out; omega, by go_num, by rw [HV.out], HOF, HP9, HB9⟩
              case measure => have := Hlt.out; simp [intOf]; omega
            · have d1 : decide (ay ≤ py) = true := decide_eq_true (by omega)
              have d2 : decide (py < ay) = false := decide_eq_false (by omega)
              have d3 : decide (py < by') = false := decide_eq_false (by omega)
              have d4 : decide (by' ≤ py) = true := decide_eq_true (by omega)
              have HV : Hid (windTo l p (k + 1) = N) := by show _ = _; rw [HSN.out]; split <;> split <;> omega
              clear hA hB
              go_wp2_with fail
              go_roundw
              case rel => exact ⟨k + 1, by have := Hlt.out; omega, by go_num, by rw [HV.out], HOF, HP9, HB9⟩
              case measure => have := Hlt.out; simp [intOf]; omega
          · by_cases hB : py < by'
            · have d1 : decide (ay ≤ py) = false := decide_eq_false (by omega)
              have d2 : decide (py < ay) = true := decide_eq_true (by omega)
              have d3 : decide (py < by') = true := decide_eq_true (by omega)
              have d4 : decide (by' ≤ py) = false := decide_eq_false (by omega)
              have HV : Hid (windTo l p (k + 1) = N) := by show _ = _; rw [HSN.out]; split <;> split <;> omega
              clear hA hB
              go_wp2_with fail
              go_roundw
              case rel => exact ⟨k + 1, by have := Hlt.out; omega, by go_num, by rw [HV.out], HOF, HP9, HB9⟩
              case measure => have := Hlt.out; simp [intOf]; omega
            · have d1 : decide (ay ≤ py) = false := decide_eq_false (by omega)
              have d2 : decide (py < ay) = true := decide_eq_true (by omega)
              have d3 : decide (py < by') = false := decide_eq_false (by omega)
              have d4 : decide (by' ≤ py) = true := decide_eq_true (by omega)
              have HV : Hid (windTo l p (k + 1) = N) := by show _ = _; rw [HSN.out]; split <;> split <;> omega
              clear hA hB
              go_wp2_with fail
              go_roundw
              case rel => exact ⟨k + 1, by have := Hlt.out; omega, by go_num, by rw [HV.out], HOF, HP9, HB9⟩
              case measure => have := Hlt.out; simp [intOf]; omega
    · obtain rfl : L = k := by omega
      have he : aro l p = (windTo l p L, true) := by
        unfold aro
        rw [if_pos ⟨Hp.out, Hok.out⟩, ← HL.out, if_neg (by rw [HON0.out]; simp)]
      have HE := Lib.hid he
      clear he hwin
      go_wp2_with fail
      go_ret2
      exact ⟨by rw [HE.out]; rfl, HB.out⟩
end Go.Proofs.Ytlmnmilefggmpaa
