/- Find2 -/
import Derived.Test.YtngnhkghpnamoaaGc04
namespace Go.Proofs.Ytngnhkghpnamoaa
open Go.RowKit
set_option linter.unusedVariables false
set_option maxRecDepth 100000

def mcs (p : Nat × Nat) : Array Value := #[.int .i64 (p.1 : Int), .int .i64 (p.2 : Int)]
def DFindPost (w : World) (R : Nat × Nat) (e : Ending) (w' : World) : Prop := e = .returned (.agg (mcs R)) ∧ Below w.heap.size w w'
theorem dfind_out (A : Option Addr) (c : Nat) (l : List Nat) (z : Int) (w : World) (hl : l.length ≤ 1100000) (hz : z < 0 ∨ (l.length : Int) < z) :
    Calls Try.prog 67 #[.slice A l.length c, .int .i64 z] w (DFindPost w (0, 0)) := by
  rcases hz with hz | hz
  · have d1 : decide (z < 0) = true := decide_eq_true hz
    go_enter Try.func67, Try.ntmps67
    go_wp2_with fail
    exact bodyPost_ret (v := .agg (mcs (0, 0))) (by simp [results, Try.results67, go_sem, mcs]) rfl ⟨rfl, (Below.refl _ _).alloc (Nat.le_refl _) _⟩
  · have d1 : decide (z < 0) = false := decide_eq_false (by omega)
    have d2 : decide ((l.length : Int) < z) = true := decide_eq_true hz
    go_enter Try.func67, Try.ntmps67
    go_wp2_with fail
    exact bodyPost_ret (v := .agg (mcs (0, 0))) (by simp [results, Try.results67, go_sem, mcs]) rfl ⟨rfl, (Below.refl _ _).alloc (Nat.le_refl _) _⟩
structure FindAt (w W : World) (b : Nat × Nat) : Prop where
  res : Whole W w.heap.size 84 (mcs (0, 0))
  best : Whole W (w.heap.size + 1) 84 (mcs b)
  below : Below w.heap.size w W
theorem FindAt.drewN {w W : World} {b : Nat × Nat} (h : FindAt w W b) (n : Nat) : FindAt w (W.drewN n) b := ⟨h.res, h.best, ⟨h.below.os, h.below.tape, h.below.output, h.below.size, h.below.block⟩⟩
theorem FindAt.set {w W : World} {b : Nat × Nat} (h : FindAt w W b) (q : Nat × Nat) : FindAt w ((W.setCell ⟨w.heap.size + 1, 0, none⟩ (.int .i64 (q.1 : Int))).setCell ⟨w.heap.size + 1, 1, none⟩ (.int .i64 (q.2 : Int))) q := by
  refine ⟨(h.res.far (p := ⟨w.heap.size + 1, 0, none⟩) (by simp) _).far (p := ⟨w.heap.size + 1, 1, none⟩) (by simp) _, ?_, (h.below.setCell (by simp) _).setCell (by simp) _⟩
  simpa [mcs] using (h.best.set 0 (.int .i64 (q.1 : Int))).set 1 (.int .i64 (q.2 : Int))
set_option maxHeartbeats 8000000 in
theorem dfind_near (A : Option Addr) (c : Nat) (l : List Nat) (at' : Nat) (w : World) (hN : Nums .u8 w w.heap.size A l) (hl : l.length ≤ 1100000) (hat : at' ≤ l.length) (hsm : at' < 256) :
    Calls Try.prog 67 #[.slice A l.length c, .int .i64 (at' : Int)] w (DFindPost w (findE l at')) := by
  have HS := Lib.hid fun d W (hb : Below w.heap.size w W) h1 h2 R hR => same_any A c l at' d W ((hN.below hb).more hb.size) hl h1 h2 hat R hR
  have HR : Hid (findE l at' = if (bestTo l at' at').1 < 3 then (0, 0) else bestTo l at' at') := by show _ = _; unfold findE; rw [if_pos hat, show min 256 at' = at' by omega]
  obtain ⟨R, hR⟩ : ∃ R, R = findE l at' := ⟨_, rfl⟩
  rw [← hR] at HR ⊢
  have d1 : decide ((at' : Int) < 0) = false := decide_eq_false (by omega)
  have d2 : decide ((l.length : Int) < (at' : Int)) = false := decide_eq_false (by omega)
  have d3 : decide (l.length < at') = false := decide_eq_false (by omega)
  have h0 : Hid (FindAt w ((w.alloc (.cells (mcs (0, 0)) 84)).alloc (.cells (mcs (0, 0)) 84)) (0, 0)) := by
    refine ⟨(Whole.new w _ _).alloc _, ?_, ((Below.refl _ _).alloc (Nat.le_refl _) _).alloc (by simp) _⟩
    have := Whole.new (w.alloc (.cells (mcs (0, 0)) 84)) 84 (mcs (0, 0))
    rwa [World.size_alloc] at this
  clear hN hR
  go_enter Try.func67, Try.ntmps67
  go_wp2_with fail
  go_loopw [6] (fun d W => ∃ k K : Nat, d = .int .i64 (k : Int) ∧ Hid (k = K + 1) ∧ K ≤ at' ∧ Hid (FindAt w W (bestTo l at' K))) (fun d _ => 257 - (intOf d).toNat)
  case atStart => exact ⟨1, 0, rfl, rfl, Nat.zero_le _, h0.out⟩
  case round =>
    obtain ⟨k, K, rfl, hk, hK, hA⟩ := hrel
    have hsi : (at' : Int) < 256 := by omega
    have hbl := bestTo_le l at' K
    obtain ⟨b, hb⟩ : ∃ b, b = bestTo l at' K := ⟨_, rfl⟩
    rw [← hb] at hA hbl
    obtain ⟨b1, b2⟩ := b
    simp only at hbl
    have c0 : wr.cell? ⟨w.heap.size + 1, 0, none⟩ = some (.int .i64 (b1 : Int)) := hA.out.best.cell 0
    have c1 : wr.cell? ⟨w.heap.size + 1, 1, none⟩ = some (.int .i64 (b2 : Int)) := hA.out.best.cell 1
    have f0 : wr.frozen? ⟨w.heap.size + 1, 0, none⟩ = false := hA.out.best.frozen 0
    have f1 : wr.frozen? ⟨w.heap.size + 1, 1, none⟩ = false := hA.out.best.frozen 1
    have r0 : wr.cell? ⟨w.heap.size, 0, none⟩ = some (.int .i64 0) := hA.out.res.cell 0
    have r1 : wr.cell? ⟨w.heap.size, 1, none⟩ = some (.int .i64 0) := hA.out.res.cell 1
    have g0 : wr.frozen? ⟨w.heap.size, 0, none⟩ = false := hA.out.res.frozen 0
    have g1 : wr.frozen? ⟨w.heap.size, 1, none⟩ = false := hA.out.res.frozen 1
    have Hb := Lib.hid hb
    by_cases hlt : k ≤ at'
    · have d4 : decide ((k : Int) ≤ (at' : Int)) = true := decide_eq_true (by omega)
      have d5 : decide (k ≤ at') = true := decide_eq_true hlt
      obtain ⟨n, hn⟩ : ∃ n, mlen l at' k = n := ⟨_, rfl⟩
      have hnl : n ≤ 258 := by rw [← hn]; exact mlen_le _ _ _
      have HSk := Lib.hid (HS.out k wr hA.out.below (by have := hk.out; omega) (by omega) n hn)
      have HN : Hid (mlen l at' (K + 1) = n) := by show _ = _; rw [← hk.out]; exact hn
      have Hlt := Lib.hid hlt
      clear hn hb
      by_cases hb1 : b1 < n
      · have d6 : decide ((b1 : Int) < (n : Int)) = true := decide_eq_true (by omega)
        have d7 : decide (b1 < n) = true := decide_eq_true hb1
        have HBs : Hid (bestTo l at' (K + 1) = (n, k)) := by show _ = _; rw [bestTo_yes (by rw [← Hb.out, HN.out]; exact hb1), HN.out, hk.out]
        have HA2 : Hid (∀ m, FindAt w (((wr.drewN m).setCell ⟨w.heap.size + 1, 0, none⟩ (.int .i64 (n : Int))).setCell ⟨w.heap.size + 1, 1, none⟩ (.int .i64 (k : Int))) (n, k)) := fun m => (hA.out.drewN m).set (n, k)
        by_cases h258 : n = 258
        · subst h258
          have e6 : decide ((b1 : Int) < 258) = true := d6
          have e7 : decide (b1 < 258) = true := d7
          have HRv : Hid (R = (258, k)) := by
            show _ = _
            have hf := bestTo_full (l := l) (a := at') (K := K + 1) (by rw [HBs.out]) (at' - (K + 1))
            rw [show K + 1 + (at' - (K + 1)) = at' by have := hk.out; have := Hlt.out; omega, HBs.out] at hf
            rw [HR.out, hf]; rfl
          clear d6 d7
          go_wp2_with fail
          refine HSk.out.mono ?_
          rintro e W ⟨rfl, m, rfl⟩
          go_wp2_with fail
          · exact bodyPost_ret (v := .agg (mcs (258, k))) (by simp [results, Try.results67, go_sem, mcs, r0, r1, g0, g1, c0, c1]) rfl ⟨by rw [HRv.out], ((HA2.out m).below.setCell (by simp) _).setCell (by simp) _⟩
        · have d8 : ((n : Int) == 258) = false := beq_eq_false_iff_ne.mpr (by omega)
          clear h258 hb1
          go_wp2_with fail
          refine HSk.out.mono ?_
          rintro e W ⟨rfl, m, rfl⟩
          go_wp2_with fail
          go_roundw
          case rel => exact ⟨k + 1, K + 1, by go_num, by have := hk.out; (show _ = _); omega, by have := hk.out; have := Hlt.out; omega, by rw [HBs.out]; exact HA2.out m⟩
          case measure => have := hk.out; have := Hlt.out; simp [intOf]; omega
      · have d6 : decide ((b1 : Int) < (n : Int)) = false := decide_eq_false (by omega)
        have d7 : decide (b1 < n) = false := decide_eq_false hb1
        have HBs : Hid (bestTo l at' (K + 1) = (b1, b2)) := by show _ = _; rw [bestTo_no (by rw [← Hb.out, HN.out]; exact hb1), Hb.out]
        clear hb1
        by_cases h258 : b1 = 258
        · subst h258
          have e6 : decide ((258 : Int) < (n : Int)) = false := d6
          have HRv : Hid (R = (258, b2)) := by
            show _ = _
            have hf := bestTo_full (l := l) (a := at') (K := K + 1) (by rw [HBs.out]) (at' - (K + 1))
            rw [show K + 1 + (at' - (K + 1)) = at' by have := hk.out; have := Hlt.out; omega, HBs.out] at hf
            rw [HR.out, hf]; rfl
          go_wp2_with fail
          refine HSk.out.mono ?_
          rintro e W ⟨rfl, m, rfl⟩
          go_wp2_with fail
          · exact bodyPost_ret (v := .agg (mcs (258, b2))) (by simp [results, Try.results67, go_sem, mcs, r0, r1, g0, g1, c0, c1]) rfl ⟨by rw [HRv.out], ((hA.out.drewN m).below.setCell (by simp) _).setCell (by simp) _⟩
        · have d8 : ((b1 : Int) == 258) = false := beq_eq_false_iff_ne.mpr (by omega)
          clear h258
          go_wp2_with fail
          refine HSk.out.mono ?_
          rintro e W ⟨rfl, m, rfl⟩
          go_wp2_with fail
          go_roundw
          case rel => exact ⟨k + 1, K + 1, by go_num, by have := hk.out; (show _ = _); omega, by have := hk.out; have := Hlt.out; omega, by rw [HBs.out]; exact hA.out.drewN m⟩
          case measure => have := hk.out; have := Hlt.out; simp [intOf]; omega
    · have d4 : decide ((k : Int) ≤ (at' : Int)) = false := decide_eq_false (by omega)
      have d5 : decide (k ≤ at') = false := decide_eq_false hlt
      have hKD : K = at' := by have := hk.out; omega
      by_cases h3 : b1 < 3
      · have d9 : decide ((b1 : Int) < 3) = true := decide_eq_true (by omega)
        have d10 : decide (b1 < 3) = true := decide_eq_true h3
        have HRv : Hid (R = (0, 0)) := by show _ = _; have q := Hb.out; rw [hKD] at q; rw [HR.out, ← q]; exact if_pos h3
        clear h3
        go_wp2_with fail
        · exact bodyPost_ret (v := .agg (mcs (0, 0))) (by simp [results, Try.results67, go_sem, mcs, r0, r1, g0, g1, c0, c1]) rfl ⟨by rw [HRv.out], (hA.out.below.setCell (by simp) _).setCell (by simp) _⟩
      · have d9 : decide ((b1 : Int) < 3) = false := decide_eq_false (by omega)
        have d10 : decide (b1 < 3) = false := decide_eq_false h3
        have HRv : Hid (R = (b1, b2)) := by show _ = _; have q := Hb.out; rw [hKD] at q; rw [HR.out, ← q]; exact if_neg h3
        clear h3
        go_wp2_with fail
        · exact bodyPost_ret (v := .agg (mcs (b1, b2))) (by simp [results, Try.results67, go_sem, mcs, r0, r1, g0, g1, c0, c1]) rfl ⟨by rw [HRv.out], (hA.out.below.setCell (by simp) _).setCell (by simp) _⟩
set_option maxHeartbeats 8000000 in
theorem dfind_far (A : Option Addr) (c : Nat) (l : List Nat) (at' : Nat) (w : World) (hN : Nums .u8 w w.heap.size A l) (hl : l.length ≤ 1100000) (hat : at' ≤ l.length) (hsm : 256 ≤ at') :
    Calls Try.prog 67 #[.slice A l.length c, .int .i64 (at' : Int)] w (DFindPost w (findE l at')) := by
  have HS := Lib.hid fun d W (hb : Below w.heap.size w W) h1 h2 R hR => same_any A c l at' d W ((hN.below hb).more hb.size) hl h1 h2 hat R hR
  have HR : Hid (findE l at' = if (bestTo l at' 256).1 < 3 then (0, 0) else bestTo l at' 256) := by show _ = _; unfold findE; rw [if_pos hat, show min 256 at' = 256 by omega]
  obtain ⟨R, hR⟩ : ∃ R, R = findE l at' := ⟨_, rfl⟩
  rw [← hR] at HR ⊢
  have d1 : decide ((at' : Int) < 0) = false := decide_eq_false (by omega)
  have d2 : decide ((l.length : Int) < (at' : Int)) = false := decide_eq_false (by omega)
  have d3 : decide (l.length < at') = false := decide_eq_false (by omega)
  have h0 : Hid (FindAt w ((w.alloc (.cells (mcs (0, 0)) 84)).alloc (.cells (mcs (0, 0)) 84)) (0, 0)) := by
    refine ⟨(Whole.new w _ _).alloc _, ?_, ((Below.refl _ _).alloc (Nat.le_refl _) _).alloc (by simp) _⟩
    have := Whole.new (w.alloc (.cells (mcs (0, 0)) 84)) 84 (mcs (0, 0))
    rwa [World.size_alloc] at this
  clear hN hR
  go_enter Try.func67, Try.ntmps67
  go_wp2_with fail
  go_loopw [6] (fun d W => ∃ k K : Nat, d = .int .i64 (k : Int) ∧ Hid (k = K + 1) ∧ K ≤ 256 ∧ Hid (FindAt w W (bestTo l at' K))) (fun d _ => 257 - (intOf d).toNat)
  case atStart => exact ⟨1, 0, rfl, rfl, Nat.zero_le _, h0.out⟩
  case round =>
    obtain ⟨k, K, rfl, hk, hK, hA⟩ := hrel
    have hsi : ¬ (at' : Int) < 256 := by omega
    have hbl := bestTo_le l at' K
    obtain ⟨b, hb⟩ : ∃ b, b = bestTo l at' K := ⟨_, rfl⟩
    rw [← hb] at hA hbl
    obtain ⟨b1, b2⟩ := b
    simp only at hbl
    have c0 : wr.cell? ⟨w.heap.size + 1, 0, none⟩ = some (.int .i64 (b1 : Int)) := hA.out.best.cell 0
    have c1 : wr.cell? ⟨w.heap.size + 1, 1, none⟩ = some (.int .i64 (b2 : Int)) := hA.out.best.cell 1
    have f0 : wr.frozen? ⟨w.heap.size + 1, 0, none⟩ = false := hA.out.best.frozen 0
    have f1 : wr.frozen? ⟨w.heap.size + 1, 1, none⟩ = false := hA.out.best.frozen 1
    have r0 : wr.cell? ⟨w.heap.size, 0, none⟩ = some (.int .i64 0) := hA.out.res.cell 0
    have r1 : wr.cell? ⟨w.heap.size, 1, none⟩ = some (.int .i64 0) := hA.out.res.cell 1
    have g0 : wr.frozen? ⟨w.heap.size, 0, none⟩ = false := hA.out.res.frozen 0
    have g1 : wr.frozen? ⟨w.heap.size, 1, none⟩ = false := hA.out.res.frozen 1
    have Hb := Lib.hid hb
    by_cases hlt : k ≤ 256
    · have d4 : decide ((k : Int) ≤ (256 : Int)) = true := decide_eq_true (by omega)
      have d5 : decide (k ≤ 256) = true := decide_eq_true hlt
      obtain ⟨n, hn⟩ : ∃ n, mlen l at' k = n := ⟨_, rfl⟩
      have hnl : n ≤ 258 := by rw [← hn]; exact mlen_le _ _ _
      have HSk := Lib.hid (HS.out k wr hA.out.below (by have := hk.out; omega) (by omega) n hn)
      have HN : Hid (mlen l at' (K + 1) = n) := by show _ = _; rw [← hk.out]; exact hn
      have Hlt := Lib.hid hlt
      clear hn hb
      by_cases hb1 : b1 < n
      · have d6 : decide ((b1 : Int) < (n : Int)) = true := decide_eq_true (by omega)
        have d7 : decide (b1 < n) = true := decide_eq_true hb1
        have HBs : Hid (bestTo l at' (K + 1) = (n, k)) := by show _ = _; rw [bestTo_yes (by rw [← Hb.out, HN.out]; exact hb1), HN.out, hk.out]
        have HA2 : Hid (∀ m, FindAt w (((wr.drewN m).setCell ⟨w.heap.size + 1, 0, none⟩ (.int .i64 (n : Int))).setCell ⟨w.heap.size + 1, 1, none⟩ (.int .i64 (k : Int))) (n, k)) := fun m => (hA.out.drewN m).set (n, k)
        by_cases h258 : n = 258
        · subst h258
          have e6 : decide ((b1 : Int) < 258) = true := d6
          have e7 : decide (b1 < 258) = true := d7
          have HRv : Hid (R = (258, k)) := by
            show _ = _
            have hf := bestTo_full (l := l) (a := at') (K := K + 1) (by rw [HBs.out]) (256 - (K + 1))
            rw [show K + 1 + (256 - (K + 1)) = 256 by have := hk.out; have := Hlt.out; omega, HBs.out] at hf
            rw [HR.out, hf]; rfl
          clear d6 d7
          go_wp2_with fail
          refine HSk.out.mono ?_
          rintro e W ⟨rfl, m, rfl⟩
          go_wp2_with fail
          · exact bodyPost_ret (v := .agg (mcs (258, k))) (by simp [results, Try.results67, go_sem, mcs, r0, r1, g0, g1, c0, c1]) rfl ⟨by rw [HRv.out], ((HA2.out m).below.setCell (by simp) _).setCell (by simp) _⟩
        · have d8 : ((n : Int) == 258) = false := beq_eq_false_iff_ne.mpr (by omega)
          clear h258 hb1
          go_wp2_with fail
          refine HSk.out.mono ?_
          rintro e W ⟨rfl, m, rfl⟩
          go_wp2_with fail
          go_roundw
          case rel => exact ⟨k + 1, K + 1, by go_num, by have := hk.out; (show _ = _); omega, by have := hk.out; have := Hlt.out; omega, by rw [HBs.out]; exact HA2.out m⟩
          case measure => have := hk.out; have := Hlt.out; simp [intOf]; omega
      · have d6 : decide ((b1 : Int) < (n : Int)) = false := decide_eq_false (by omega)
        have d7 : decide (b1 < n) = false := decide_eq_false hb1
        have HBs : Hid (bestTo l at' (K + 1) = (b1, b2)) := by show _ = _; rw [bestTo_no (by rw [← Hb.out, HN.out]; exact hb1), Hb.out]
        clear hb1
        by_cases h258 : b1 = 258
        · subst h258
          have e6 : decide ((258 : Int) < (n : Int)) = false := d6
          have HRv : Hid (R = (258, b2)) := by
            show _ = _
            have hf := bestTo_full (l := l) (a := at') (K := K + 1) (by rw [HBs.out]) (256 - (K + 1))
            rw [show K + 1 + (256 - (K + 1)) = 256 by have := hk.out; have := Hlt.out; omega, HBs.out] at hf
            rw [HR.out, hf]; rfl
          go_wp2_with fail
          refine HSk.out.mono ?_
          rintro e W ⟨rfl, m, rfl⟩
          go_wp2_with fail
          · exact bodyPost_ret (v := .agg (mcs (258, b2))) (by simp [results, Try.results67, go_sem, mcs, r0, r1, g0, g1, c0, c1]) rfl ⟨by rw [HRv.out], ((hA.out.drewN m).below.setCell (by simp) _).setCell (by simp) _⟩
        · have d8 : ((b1 : Int) == 258) = false := beq_eq_false_iff_ne.mpr (by omega)
          clear h258
          go_wp2_with fail
          refine HSk.out.mono ?_
          rintro e W ⟨rfl, m, rfl⟩
          go_wp2_with fail
          go_roundw
          case rel => exact ⟨k + 1, K + 1, by go_num, by have := hk.out; (show _ = _); omega, by have := hk.out; have := Hlt.out; omega, by rw [HBs.out]; exact hA.out.drewN m⟩
          case measure => have := hk.out; have := Hlt.out; simp [intOf]; omega
    · have d4 : decide ((k : Int) ≤ (256 : Int)) = false := decide_eq_false (by omega)
      have d5 : decide (k ≤ 256) = false := decide_eq_false hlt
      have hKD : K = 256 := by have := hk.out; omega
      by_cases h3 : b1 < 3
      · have d9 : decide ((b1 : Int) < 3) = true := decide_eq_true (by omega)
        have d10 : decide (b1 < 3) = true := decide_eq_true h3
        have HRv : Hid (R = (0, 0)) := by show _ = _; have q := Hb.out; rw [hKD] at q; rw [HR.out, ← q]; exact if_pos h3
        clear h3
        go_wp2_with fail
        · exact bodyPost_ret (v := .agg (mcs (0, 0))) (by simp [results, Try.results67, go_sem, mcs, r0, r1, g0, g1, c0, c1]) rfl ⟨by rw [HRv.out], (hA.out.below.setCell (by simp) _).setCell (by simp) _⟩
      · have d9 : decide ((b1 : Int) < 3) = false := decide_eq_false (by omega)
        have d10 : decide (b1 < 3) = false := decide_eq_false h3
        have HRv : Hid (R = (b1, b2)) := by show _ = _; have q := Hb.out; rw [hKD] at q; rw [HR.out, ← q]; exact if_neg h3
        clear h3
        go_wp2_with fail
        · exact bodyPost_ret (v := .agg (mcs (b1, b2))) (by simp [results, Try.results67, go_sem, mcs, r0, r1, g0, g1, c0, c1]) rfl ⟨by rw [HRv.out], (hA.out.below.setCell (by simp) _).setCell (by simp) _⟩
end Go.Proofs.Ytngnhkghpnamoaa
