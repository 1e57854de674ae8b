/- RefFind -/
import Derived.Test.YtngnhkghpnamoaaFind2
namespace Go.Proofs.Ytngnhkghpnamoaa
open Go.RowKit
set_option linter.unusedVariables false
set_option maxRecDepth 100000

structure RFindAt (w W : World) (b : Nat × Nat) : Prop where
  res : Whole W w.heap.size 65 (mcs (0, 0))
  best : Whole W (w.heap.size + 1) 65 (mcs b)
  below : Below w.heap.size w W
theorem RFindAt.drewN {w W : World} {b : Nat × Nat} (h : RFindAt w W b) (n : Nat) : RFindAt w (W.drewN n) b := ⟨h.res, h.best, ⟨h.below.os, h.below.tape, h.below.output, h.below.size, h.below.block⟩⟩
theorem RFindAt.set {w W : World} {b : Nat × Nat} (h : RFindAt w W b) (q : Nat × Nat) : RFindAt w ((W.setCell ⟨w.heap.size + 1, 0, none⟩ (.int .i64 (q.1 : Int))).setCell ⟨w.heap.size + 1, 1, none⟩ (.int .i64 (q.2 : Int))) q := by
  refine ⟨(h.res.far (p := ⟨w.heap.size + 1, 0, none⟩) (by simp) _).far (p := ⟨w.heap.size + 1, 1, none⟩) (by simp) _, ?_, (h.below.setCell (by simp) _).setCell (by simp) _⟩
  simpa [mcs] using (h.best.set 0 (.int .i64 (q.1 : Int))).set 1 (.int .i64 (q.2 : Int))
theorem rfind_out (A : Option Addr) (c : Nat) (l : List Nat) (z : Int) (w : World) (hl : l.length ≤ 1100000) (hz : z < 0 ∨ (l.length : Int) < z) :
    Calls Try.prog 56 #[.slice A l.length c, .int .i64 z] w (DFindPost w (0, 0)) := by
  rcases hz with hz | hz
  · have d1 : decide (z < 0) = true := decide_eq_true hz
    go_enter Try.func56, Try.ntmps56
    go_wp2_with fail
    exact bodyPost_ret (v := .agg (mcs (0, 0))) (by simp [results, Try.results56, go_sem, mcs]) rfl ⟨rfl, ((Below.refl _ _).alloc (Nat.le_refl _) _).alloc (by simp) _⟩
  · have d1 : decide (z < 0) = false := decide_eq_false (by omega)
    have d2 : decide ((l.length : Int) < z) = true := decide_eq_true hz
    go_enter Try.func56, Try.ntmps56
    go_wp2_with fail
    exact bodyPost_ret (v := .agg (mcs (0, 0))) (by simp [results, Try.results56, go_sem, mcs]) rfl ⟨rfl, ((Below.refl _ _).alloc (Nat.le_refl _) _).alloc (by simp) _⟩
set_option maxHeartbeats 8000000 in
theorem rfind_in (A : Option Addr) (c : Nat) (l : List Nat) (at' : Nat) (w : World) (hN : Nums .u8 w w.heap.size A l) (hl : l.length ≤ 1100000) (hat : at' ≤ l.length) :
    Calls Try.prog 56 #[.slice A l.length c, .int .i64 (at' : Int)] w (DFindPost w (findE l at')) := by
  obtain ⟨L, hL⟩ : ∃ L, L = l.length := ⟨_, rfl⟩
  have HL := Lib.hid hL
  have HN := Lib.hid hN
  obtain ⟨R, hR⟩ : ∃ R, R = findE l at' := ⟨_, rfl⟩
  have HR0 : Hid (downTo l at' 256 (0, 0) = R) := by show _ = _; rw [hR]; exact downTo_find hat
  rw [← hR, ← hL]
  rw [← hL] at hl hat
  have d1 : decide ((at' : Int) < 0) = false := decide_eq_false (by omega)
  have d2 : decide ((L : Int) < (at' : Int)) = false := decide_eq_false (by omega)
  have d3 : decide (L < at') = false := decide_eq_false (by omega)
  have h0 : Hid (RFindAt w ((w.alloc (.cells (mcs (0, 0)) 65)).alloc (.cells (mcs (0, 0)) 65)) (0, 0)) := by
    refine ⟨(Whole.new w _ _).alloc _, ?_, ((Below.refl _ _).alloc (Nat.le_refl _) _).alloc (by simp) _⟩
    have := Whole.new (w.alloc (.cells (mcs (0, 0)) 65)) 65 (mcs (0, 0))
    rwa [World.size_alloc] at this
  clear hN hR hL
  go_enter Try.func56, Try.ntmps56
  go_wp2_with fail
  go_loopw [6] (fun d W => ∃ (K : Nat) (b : Nat × Nat), d = .int .i64 (K : Int) ∧ K ≤ 256 ∧ Hid (downTo l at' K b = R) ∧ Hid (RFindAt w W b)) (fun d _ => (intOf d).toNat)
  case atStart => exact ⟨256, (0, 0), rfl, Nat.le_refl _, HR0.out, h0.out⟩
  case round =>
    obtain ⟨k, ⟨b1, b2⟩, rfl, hk, HD, hA⟩ := hrel
    have c0 : wr.cell? ⟨w.heap.size + 1, 0, none⟩ = some (.int .i64 (b1 : Int)) := hA.out.best.cell 0
    have c1 : wr.cell? ⟨w.heap.size + 1, 1, none⟩ = some (.int .i64 (b2 : Int)) := hA.out.best.cell 1
    have f0 : wr.frozen? ⟨w.heap.size + 1, 0, none⟩ = false := hA.out.best.frozen 0
    have f1 : wr.frozen? ⟨w.heap.size + 1, 1, none⟩ = false := hA.out.best.frozen 1
    have r0 : wr.cell? ⟨w.heap.size, 0, none⟩ = some (.int .i64 0) := hA.out.res.cell 0
    have r1 : wr.cell? ⟨w.heap.size, 1, none⟩ = some (.int .i64 0) := hA.out.res.cell 1
    have g0 : wr.frozen? ⟨w.heap.size, 0, none⟩ = false := hA.out.res.frozen 0
    have g1 : wr.frozen? ⟨w.heap.size, 1, none⟩ = false := hA.out.res.frozen 1
    have HAm := Lib.hid (hA.out.drewN)
    rcases k with _ | K
    · have HRv : Hid ((b1, b2) = R) := HD.out
      have d4 : decide ((1 : Int) ≤ ((0 : Nat) : Int)) = false := by decide
      go_wp2_with fail
      exact bodyPost_ret (v := .agg (mcs (b1, b2))) (by simp [results, Try.results56, go_sem, mcs, r0, r1, g0, g1, c0, c1]) rfl ⟨by rw [HRv.out], (hA.out.below.setCell (by simp) _).setCell (by simp) _⟩
    · obtain ⟨k, hk'⟩ : ∃ k, k = K + 1 := ⟨_, rfl⟩
      rw [← hk']
      rw [← hk'] at hk
      have hk1 : 1 ≤ k := by omega
      have Hk := Lib.hid hk'
      have d4 : decide ((1 : Int) ≤ (k : Int)) = true := decide_eq_true (by omega)
      clear hk'
      by_cases hka : k ≤ at'
      · have d5 : decide ((at' : Int) < (k : Int)) = false := decide_eq_false (by omega)
        have d5b : decide (at' < k) = false := decide_eq_false (by omega)
        obtain ⟨M, hM⟩ : ∃ M, mlen l at' (K + 1) = M := ⟨_, rfl⟩
        have HM := Lib.hid hM
        clear hM
        have HM0 : Hid (mrun l at' k 258 0 = M) := by show _ = _; rw [Hk.out]; exact HM.out
        obtain ⟨q, hq⟩ : ∃ q, q = at' - k := ⟨_, rfl⟩
        have hqk : q + k = at' := by omega
        have wq : IntKind.i64.wrap ((at' : Int) - (k : Int)) = (q : Int) := by rw [IntWalk.i64_in _ ⟨by omega, by omega⟩]; omega
        clear hq
        go_wp2_with fail
        go_loopw [7] (fun i W => ∃ (n m f : Nat), i = .int .i64 (n : Int) ∧ W = wr.drewN m ∧ n + f = 258 ∧ Hid (mrun l at' k f n = M)) (fun i _ => 258 - (intOf i).toNat)
        case atStart => exact ⟨0, 0, 258, rfl, rfl, by omega, HM0.out⟩
        case round =>
          obtain ⟨n, m, f, rfl, rfl, hnf, hE⟩ := hrel
          rcases f with _ | f
          · have e0 : decide ((n : Int) < 258) = false := decide_eq_false (by omega)
            have hF : n = M := hE.out
            subst hF
            clear hnf
            go_wp2_with fail
            go_quiet (fail)
            by_cases g3 : 3 ≤ n
            · have t1 : decide (3 ≤ (n : Int)) = true := decide_eq_true (by omega)
              have t1b : decide (3 ≤ n) = true := decide_eq_true g3
              by_cases gb : b1 ≤ n
              · have t2 : decide ((b1 : Int) ≤ (n : Int)) = true := decide_eq_true (by omega)
                have t2b : decide (b1 ≤ n) = true := decide_eq_true gb
                have HD2 : Hid (downTo l at' K (n, k) = R) := by
                  show _ = _
                  rw [← HD.out, downTo_yes ⟨by have := Hk.out; omega, by rw [HM.out]; exact g3, by rw [HM.out]; exact gb⟩, HM.out, Hk.out]
                clear g3 gb
                go_wp2_with fail
                go_roundw
                case rel => exact ⟨K, (n, k), by have := Hk.out; go_num, by have := Hk.out; omega, HD2.out, (HAm.out _).set (n, k)⟩
                case measure => have := Hk.out; simp [intOf]; omega
              · have t2 : decide ((b1 : Int) ≤ (n : Int)) = false := decide_eq_false (by omega)
                have t2b : decide (b1 ≤ n) = false := decide_eq_false gb
                have HD2 : Hid (downTo l at' K (b1, b2) = R) := by
                  show _ = _
                  rw [← HD.out, downTo_no (fun q => gb (by have := q.2.2; rw [HM.out] at this; exact this))]
                clear g3 gb
                go_wp2_with fail
                go_roundw
                case rel => exact ⟨K, (b1, b2), by have := Hk.out; go_num, by have := Hk.out; omega, HD2.out, HAm.out _⟩
                case measure => have := Hk.out; simp [intOf]; omega
            · have t1 : decide (3 ≤ (n : Int)) = false := decide_eq_false (by omega)
              have t1b : decide (3 ≤ n) = false := decide_eq_false g3
              have HD2 : Hid (downTo l at' K (b1, b2) = R) := by
                show _ = _
                rw [← HD.out, downTo_no (fun q => g3 (by have := q.2.1; rw [HM.out] at this; exact this))]
              clear g3
              go_wp2_with fail
              go_roundw
              case rel => exact ⟨K, (b1, b2), by have := Hk.out; go_num, by have := Hk.out; omega, HD2.out, HAm.out _⟩
              case measure => have := Hk.out; simp [intOf]; omega
          · have e0 : decide ((n : Int) < 258) = true := decide_eq_true (by omega)
            obtain ⟨i, hi⟩ : ∃ i, i = at' + n := ⟨_, rfl⟩
            have w1 : IntKind.i64.wrap ((at' : Int) + (n : Int)) = (i : Int) := by rw [IntWalk.i64_in _ ⟨by omega, by omega⟩]; omega
            have hn257 : n ≤ 257 := by omega
            have w1c : IntKind.i64.wrap (i : Int) = (i : Int) := IntWalk.i64_in _ ⟨by omega, by omega⟩
            have hil : i ≤ 1100258 := by omega
            by_cases h1 : i < L
            · have e2 : decide ((i : Int) < (L : Int)) = true := decide_eq_true (by omega)
              obtain ⟨j, hj⟩ : ∃ j, j = i - k := ⟨_, rfl⟩
              have w2 : IntKind.i64.wrap ((q : Int) + (n : Int)) = (j : Int) := by rw [IntWalk.i64_in _ ⟨by omega, by omega⟩]; omega
              have i0 : (0 : Int) ≤ (i : Int) := by omega
              have i1 : (i : Int) < (L : Int) := by omega
              have j0 : (0 : Int) ≤ (j : Int) := by omega
              have j1 : (j : Int) < (L : Int) := by omega
              have j2 : j < L := by omega
              have HNr := (HN.out.below hA.out.below)
              obtain ⟨b, off, rfl, hb, x0⟩ := HNr.byte (i := i) (by have := HL.out; omega)
              obtain ⟨b', off', e', _, x1⟩ := HNr.byte (i := j) (by have := HL.out; omega)
              obtain ⟨rfl, rfl⟩ : b' = b ∧ off' = off := by injection e' with e'; injection e' with e1 e2; exact ⟨e1.symm, e2.symm⟩
              have hyes := mrun_yes (l := l) (a := at') (d := k) (f := f) (n := n) (by rw [← hi, ← HL.out]; exact h1)
              have hno := mrun_no (l := l) (a := at') (d := k) (f := f) (n := n)
              rw [← hi, ← hj] at hyes hno
              obtain ⟨x, hx⟩ : ∃ x, x = l.getD i 0 := ⟨_, rfl⟩
              obtain ⟨y, hy⟩ : ∃ y, y = l.getD j 0 := ⟨_, rfl⟩
              rw [← hx] at x0 hyes hno
              rw [← hy] at x1 hyes hno
              have Hnf := Lib.hid hnf
              by_cases hxy : x = y
              · subst hxy
                have e1 : ((x : Int) == (x : Int)) = true := beq_self_eq_true _
                have HNx : Hid (mrun l at' k f (n + 1) = M) := by show _ = _; rw [← hyes rfl]; exact hE.out
                clear hyes hno hx hy hi hj e' hnf HNr
                go_wp2_with fail
                go_quiet (fail)
                go_wp2_with fail
                go_roundw
                case rel => exact ⟨n + 1, _, f, by go_num, by first | rfl | exact drewN_two _ _ _, by have := Hnf.out; omega, HNx.out⟩
                case measure => have := Hnf.out; simp [intOf]; omega
              · have e1 : ((x : Int) == (y : Int)) = false := beq_eq_false_iff_ne.mpr (by omega)
                have hF : n = M := by rw [← hE.out, hno (fun h => hxy h.2)]
                subst hF
                clear hyes hno hx hy hi hj e' hnf hxy HNr
                go_wp2_with fail
                go_quiet (fail)
                by_cases g3 : 3 ≤ n
                · have t1 : decide (3 ≤ (n : Int)) = true := decide_eq_true (by omega)
                  have t1b : decide (3 ≤ n) = true := decide_eq_true g3
                  by_cases gb : b1 ≤ n
                  · have t2 : decide ((b1 : Int) ≤ (n : Int)) = true := decide_eq_true (by omega)
                    have t2b : decide (b1 ≤ n) = true := decide_eq_true gb
                    have HD2 : Hid (downTo l at' K (n, k) = R) := by
                      show _ = _
                      rw [← HD.out, downTo_yes ⟨by have := Hk.out; omega, by rw [HM.out]; exact g3, by rw [HM.out]; exact gb⟩, HM.out, Hk.out]
                    clear g3 gb
                    go_wp2_with fail
                    go_roundw
                    case rel => exact ⟨K, (n, k), by have := Hk.out; go_num, by have := Hk.out; omega, HD2.out, (HAm.out _).set (n, k)⟩
                    case measure => have := Hk.out; simp [intOf]; omega
                  · have t2 : decide ((b1 : Int) ≤ (n : Int)) = false := decide_eq_false (by omega)
                    have t2b : decide (b1 ≤ n) = false := decide_eq_false gb
                    have HD2 : Hid (downTo l at' K (b1, b2) = R) := by
                      show _ = _
                      rw [← HD.out, downTo_no (fun q => gb (by have := q.2.2; rw [HM.out] at this; exact this))]
                    clear g3 gb
                    go_wp2_with fail
                    go_roundw
                    case rel => exact ⟨K, (b1, b2), by have := Hk.out; go_num, by have := Hk.out; omega, HD2.out, HAm.out _⟩
                    case measure => have := Hk.out; simp [intOf]; omega
                · have t1 : decide (3 ≤ (n : Int)) = false := decide_eq_false (by omega)
                  have t1b : decide (3 ≤ n) = false := decide_eq_false g3
                  have HD2 : Hid (downTo l at' K (b1, b2) = R) := by
                    show _ = _
                    rw [← HD.out, downTo_no (fun q => g3 (by have := q.2.1; rw [HM.out] at this; exact this))]
                  clear g3
                  go_wp2_with fail
                  go_roundw
                  case rel => exact ⟨K, (b1, b2), by have := Hk.out; go_num, by have := Hk.out; omega, HD2.out, HAm.out _⟩
                  case measure => have := Hk.out; simp [intOf]; omega
            · have e2 : decide ((i : Int) < (L : Int)) = false := decide_eq_false (by omega)
              have e3 : decide (i < L) = false := decide_eq_false h1
              have hF : n = M := by rw [← hE.out, mrun_no (fun h => h1 (by rw [hi, HL.out]; exact h.1))]
              subst hF
              clear hi hnf h1
              go_wp2_with fail
              go_quiet (fail)
              by_cases g3 : 3 ≤ n
              · have t1 : decide (3 ≤ (n : Int)) = true := decide_eq_true (by omega)
                have t1b : decide (3 ≤ n) = true := decide_eq_true g3
                by_cases gb : b1 ≤ n
                · have t2 : decide ((b1 : Int) ≤ (n : Int)) = true := decide_eq_true (by omega)
                  have t2b : decide (b1 ≤ n) = true := decide_eq_true gb
                  have HD2 : Hid (downTo l at' K (n, k) = R) := by
                    show _ = _
                    rw [← HD.out, downTo_yes ⟨by have := Hk.out; omega, by rw [HM.out]; exact g3, by rw [HM.out]; exact gb⟩, HM.out, Hk.out]
                  clear g3 gb
                  go_wp2_with fail
                  go_roundw
                  case rel => exact ⟨K, (n, k), by have := Hk.out; go_num, by have := Hk.out; omega, HD2.out, (HAm.out _).set (n, k)⟩
                  case measure => have := Hk.out; simp [intOf]; omega
                · have t2 : decide ((b1 : Int) ≤ (n : Int)) = false := decide_eq_false (by omega)
                  have t2b : decide (b1 ≤ n) = false := decide_eq_false gb
                  have HD2 : Hid (downTo l at' K (b1, b2) = R) := by
                    show _ = _
                    rw [← HD.out, downTo_no (fun q => gb (by have := q.2.2; rw [HM.out] at this; exact this))]
                  clear g3 gb
                  go_wp2_with fail
                  go_roundw
                  case rel => exact ⟨K, (b1, b2), by have := Hk.out; go_num, by have := Hk.out; omega, HD2.out, HAm.out _⟩
                  case measure => have := Hk.out; simp [intOf]; omega
              · have t1 : decide (3 ≤ (n : Int)) = false := decide_eq_false (by omega)
                have t1b : decide (3 ≤ n) = false := decide_eq_false g3
                have HD2 : Hid (downTo l at' K (b1, b2) = R) := by
                  show _ = _
                  rw [← HD.out, downTo_no (fun q => g3 (by have := q.2.1; rw [HM.out] at this; exact this))]
                clear g3
                go_wp2_with fail
                go_roundw
                case rel => exact ⟨K, (b1, b2), by have := Hk.out; go_num, by have := Hk.out; omega, HD2.out, HAm.out _⟩
                case measure => have := Hk.out; simp [intOf]; omega
      · have d5 : decide ((at' : Int) < (k : Int)) = true := decide_eq_true (by omega)
        have d5b : decide (at' < k) = true := decide_eq_true (by omega)
        have HD2 : Hid (downTo l at' K (b1, b2) = R) := by
          show _ = _
          rw [← HD.out, downTo_no (fun q => hka (by have := Hk.out; have := q.1; omega))]
        clear hka
        go_wp2_with fail
        go_roundw
        case rel => exact ⟨K, (b1, b2), by have := Hk.out; go_num, by have := Hk.out; omega, HD2.out, HAm.out 0⟩
        case measure => have := Hk.out; simp [intOf]; omega
end Go.Proofs.Ytngnhkghpnamoaa
