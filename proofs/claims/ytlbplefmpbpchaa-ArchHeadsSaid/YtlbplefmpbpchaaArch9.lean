/- Layer 13: the reference's Head. -/
import Derived.Test.YtlbplefmpbpchaaArch8
import Derived.Test.YtlbplefmpbpchaaArch5
import Derived.Test.YtlbplefmpbpchaaArch4
namespace Go.Proofs.Ytlbplefmpbpchaa
open Go.RowKit
set_option linter.unusedVariables false
set_option maxRecDepth 100000

theorem held_store_row {P : Program} {ops : Array Oper} {Q : Exit → Act → World → Prop} {w : World} {o : Oper} {a : Act} {K : Act → World → Prop} {N : Prop} (hw : Region.wanted o (yielded ops a.tmps) = true) (ty : TypeId) (x y : Operand) (ho : o.op = .store ty x y)
    (g : Nat) (cells : Array Value) (hx : a.eval x = .pointer (some ⟨g, 0, none⟩)) (hy : a.eval y = .agg cells)
    (t : TypeId) (old : Array Value) (hg : w.heap[g]? = some (.cells old t (0, 0))) (hi : (P.info? ty).map (·.size) = some cells.size)
    (hold : old.size = cells.size) (h1 : cells.all (·.oneCell') = true)
    (h : K (a.put o.dst undef) (w.setRow g cells)) : if Region.wanted o (yielded ops a.tmps) = true then Oper.wp P o a w K Q else N := by
  simp only [hw, if_true]
  exact wp_store_row ty x y ho g cells hx hy t old hg hi hold h1 h
/-- The header as far as the reference's first line lays it. -/
def hdA (l : List Nat) : Hd := ⟨num l 8, num l 16, num l 24, num l 32, num l 40, num l 48, num l 56, num l 64, num l 72, num l 80, num l 88, decide ((byt l 96 : Int) = 1), 0, 0, 0, 0, 0, 0, 0, 0, 0, 0, 0, 0⟩
def hdC (l : List Nat) (cb : Bool) : Hd := ⟨num l 8, num l 16, num l 24, num l 32, num l 40, num l 48, num l 56, num l 64, num l 72, num l 80, num l 88, cb, 0, 0, 0, 0, 0, 0, 0, 0, 0, 0, 0, 0⟩
theorem num_drop (l : List Nat) (k : Nat) : num (l.drop 8) k = num l (8 + k) := by unfold num; rw [List.drop_drop]
theorem byt_drop (l : List Nat) (k : Nat) : byt (l.drop 8) k = byt l (8 + k) := by unfold byt; rw [getD_drop]
theorem deg_drop (l : List Nat) (k : Nat) : deg (l.drop 8) k = deg l (8 + k) := by unfold deg; rw [List.drop_drop]
/-- The whole of it. -/
def hdB (l : List Nat) : Hd := ⟨num l 8, num l 16, num l 24, num l 32, num l 40, num l 48, num l 56, num l 64, num l 72, num l 80, num l 88, decide ((byt l 96 : Int) = 1), (byt l 97 : Int), (byt l 98 : Int), (byt l 99 : Int), (byt l 100 : Int), (byt l 101 : Int), deg l 102, deg l 106, deg l 110, deg l 114, deg l 119, deg l 123, (byt l 118 : Int)⟩
theorem hdB_eq (l : List Nat) : hdOf (l.drop 8) = hdB l := by unfold hdOf hdB; simp only [num_drop, byt_drop, deg_drop]
theorem take8_eq (l : List Nat) (h : 8 ≤ l.length) : l.take 8 = magicL ↔ l.take 7 = [80, 77, 84, 105, 108, 101, 115] ∧ byt l 7 = 3 := by
  rw [show l.take 8 = l.take 7 ++ [byt l 7] by unfold byt; rw [List.take_add_one, List.getElem?_eq_getElem (by omega), List.getD_eq_getElem?_getD, List.getElem?_eq_getElem (by omega)]; rfl]
  rw [show magicL = [80, 77, 84, 105, 108, 101, 115] ++ [3] from rfl]
  constructor
  · intro e
    have h7 : (l.take 7).length = 7 := by rw [List.length_take]; omega
    have := List.append_inj e (by rw [h7]; rfl)
    exact ⟨this.1, by simpa using this.2⟩
  · rintro ⟨e1, e2⟩; rw [e1, e2]
set_option maxHeartbeats 32000000 in
theorem rhead_any (A : Option Addr) (cap : Nat) (l : List Nat) (w : World) (hn : Nums .u8 w w.heap.size A l) (hl : ∀ x ∈ l, x < 256) (hcap : l.length ≤ cap) (hcm : cap ≤ maxLen) (hlen : l.length ≤ 4194304) :
    Calls Try.prog 6 #[.slice A l.length cap] w (fun e w' => e = .returned (.tuple #[hdV (headR l).1, .int .i64 (headR l).2]) ∧ Below w.heap.size w w') := by
  obtain ⟨H, hH⟩ : ∃ H, H = headR l := ⟨_, rfl⟩
  rw [← hH]
  have HH := Lib.hid hH
  clear hH
  obtain ⟨r, hr⟩ : ∃ r, r = w.heap.size := ⟨_, rfl⟩
  obtain ⟨X0, hX0⟩ : ∃ X, X = w.alloc (.cells zHd.cells 29) := ⟨_, rfl⟩
  have hR0 : Whole X0 r 29 zHd.cells := by rw [hX0, hr]; exact Whole.new w _ _
  have hB0 : Below w.heap.size w X0 := by rw [hX0]; exact (Below.refl _ _).alloc (Nat.le_refl _) _
  have hrs : Hid (X0.heap.size = r + 1) := by show _ = _; rw [hX0, hr]; simp
  have HX0 : Hid (w.alloc (.cells #[.int .u64 0, .int .u64 0, .int .u64 0, .int .u64 0, .int .u64 0, .int .u64 0, .int .u64 0, .int .u64 0, .int .u64 0, .int .u64 0, .int .u64 0, .bool false, .int .i64 0, .int .i64 0, .int .i64 0, .int .i64 0, .int .i64 0, .int .i64 0, .int .i64 0, .int .i64 0, .int .i64 0, .int .i64 0, .int .i64 0, .int .i64 0] 29) = X0) := hX0.symm
  have Hr := Lib.hid hr
  have HR0 := Lib.hid hR0
  have HB0 := Lib.hid hB0
  clear hX0 hr hR0 hB0
  obtain ⟨L, hL⟩ : ∃ L, L = l.length := ⟨_, rfl⟩
  have hL' := Lib.hid hL
  rw [← hL] at hcap hlen ⊢
  have HL := Lib.hid hL
  have hN := Lib.hid hn
  have hl2 := Lib.hid hl
  clear hL hn hl
  have e0 : decide (4194304 < (L : Int)) = false := decide_eq_false (by omega)
  by_cases h127 : L < 127
  · have e1 : decide ((L : Int) < 127) = true := decide_eq_true (by omega)
    have hHv : Hid (H = (zHd, 2)) := by show _ = _; rw [HH.out]; unfold headR; rw [← HL.out, if_pos h127]
    obtain rfl := hHv.out
    go_enter Try.func6, Try.ntmps6
    go_upto_region 1 with (fail)
    rw [HX0.out, ← Hr.out]
    go_wp2_with (refine wpList_store_row rfl 29 (.tmp 2) (.tmp 14) rfl r zHd.cells rfl rfl 29 zHd.cells HR0.out hd_info rfl (hd_all _) ?_)
    exact bodyPost_ret (results_hd2 rfl _ _ r zHd _ rfl rfl (HR0.out.row _)) rfl ⟨rfl, below_setRow HB0.out (by rw [Hr.out]; exact Nat.le_refl _) _⟩
  · have e1 : decide ((L : Int) < 127) = false := decide_eq_false (by omega)
    obtain ⟨b, off, rfl, hb, hc⟩ := hN.out (by rw [← HL.out]; omega)
    have hcell : Hid (∀ i, i < l.length → X0.cell? ⟨b, off + i, none⟩ = some (.int .u8 ((l.getD i 0 : Nat) : Int))) := by
      intro i hi
      rw [HB0.out.cell (p := ⟨b, off + i, none⟩) hb]
      exact hc i hi
    have hbr : Hid (b < r) := by show _ < _; rw [Hr.out]; exact hb
    clear hc hb hN
    have hnum7 : Nums .u8 X0 (b + 1) (some ⟨b, off, none⟩) (l.take 7) := fun _ => ⟨b, off, rfl, Nat.lt_succ_self _, fun i hi => by
      have hi8 : i < 7 ∧ i < l.length := by rw [List.length_take] at hi; omega
      rw [hcell.out i hi8.2]
      congr 3
      simp [List.getD, List.getElem?_take, hi8.1]⟩
    have h7 : (l.take 7).length = 7 := by rw [List.length_take, ← HL.out]; omega
    have hconv := str_of_nums (P := Try.prog) X0 (b + 1) 22 9 5 (some ⟨b, off, none⟩) cap (l.take 7) Try.underlying22 Try.underlying5 Try.underlying9 hnum7 (fun x hx => hl2.out x (List.mem_of_mem_take hx))
    rw [h7] at hconv
    obtain ⟨s, hs⟩ : ∃ s, s = strOf (l.take 7) := ⟨_, rfl⟩
    rw [← hs] at hconv
    have Hs := Lib.hid hs
    clear hs h7 hnum7
    have hq0 := magic_eq (l.take 7) (fun x hx => hl2.out x (List.mem_of_mem_take hx)) [80, 77, 84, 105, 108, 101, 115]
    rw [← Hs.out] at hq0
    have hq : (s.toList == [80, 77, 84, 105, 108, 101, 115]) = decide (l.take 7 = [80, 77, 84, 105, 108, 101, 115]) := hq0
    clear Hs hq0
    have ht8 := Lib.hid (take8_eq l (by rw [← HL.out]; omega))
    by_cases hM : l.take 7 = [80, 77, 84, 105, 108, 101, 115]
    · rw [decide_eq_true hM] at hq
      have q7 : X0.cell? ⟨b, off + 7, none⟩ = some (.int .u8 (byt l 7 : Int)) := hcell.out 7 (by rw [← HL.out]; omega)
      by_cases h3 : byt l 7 = 3
      · have d3 : ((byt l 7 : Int) != 3) = false := by rw [h3]; rfl
        have d3' : ((byt l 7 : Int) == 3) = true := by rw [h3]; rfl
        have q96 : X0.cell? ⟨b, off + 96, none⟩ = some (.int .u8 (byt l 96 : Int)) := hcell.out 96 (by rw [← HL.out]; omega)
        by_cases h1 : 1 < byt l 96
        · have d1 : decide (1 < (byt l 96 : Int)) = true := decide_eq_true (by omega)
          have hHv : Hid (H = (zHd, 3)) := by show _ = _; rw [HH.out]; unfold headR; rw [← HL.out, if_neg h127, byt_drop, if_neg (not_not_intro (ht8.out.2 ⟨hM, h3⟩)), if_pos h1]
          obtain rfl := hHv.out
          clear hM h3
          go_enter Try.func6, Try.ntmps6
          go_upto_region 1 with (fail)
          rw [HX0.out, ← Hr.out]
          go_wp2_with (refine wpList_store_row rfl 29 (.tmp 2) (.tmp 31) rfl r zHd.cells rfl rfl 29 zHd.cells HR0.out hd_info rfl (hd_all _) ?_)
          exact bodyPost_ret (results_hd2 rfl _ _ r zHd _ rfl rfl (HR0.out.row _)) rfl ⟨rfl, below_setRow HB0.out (by rw [Hr.out]; exact Nat.le_refl _) _⟩
        · have d1 : decide (1 < (byt l 96 : Int)) = false := decide_eq_false (by omega)
          have hG : Hid (l.take 8 = magicL) := ht8.out.2 ⟨hM, h3⟩
          clear hM h3 ht8
          go_enter Try.func6, Try.ntmps6
          go_upto_region 1 with (fail)
          rw [HX0.out, ← Hr.out]
          go_upto_region 7 with (fail)
          clear hconv hq q7 d3 d3' q96 d1
          obtain ⟨X1, hX1⟩ : ∃ X, X = X0.alloc (.cells #[.int .u64 0, .int .u64 0, .int .u64 0, .int .u64 0, .int .u64 0, .int .u64 0, .int .u64 0, .int .u64 0, .int .u64 0, .int .u64 0, .int .u64 0] 46) := ⟨_, rfl⟩
          obtain ⟨c, hc⟩ : ∃ c, c = r + 1 := ⟨_, rfl⟩
          have hA1 : Whole X1 c 46 #[.int .u64 0, .int .u64 0, .int .u64 0, .int .u64 0, .int .u64 0, .int .u64 0, .int .u64 0, .int .u64 0, .int .u64 0, .int .u64 0, .int .u64 0] := by rw [hX1, hc, ← hrs.out]; exact Whole.new X0 _ _
          have hB1 : Below c X0 X1 := by rw [hX1, hc, ← hrs.out]; exact (Below.refl _ _).alloc (Nat.le_refl _) _
          have HA := Lib.hid (show Whole X1 c 46 #[.int .u64 (upTo 0 0 (num l 8) : Int), .int .u64 (upTo 0 1 (num l 16) : Int), .int .u64 (upTo 0 2 (num l 24) : Int), .int .u64 (upTo 0 3 (num l 32) : Int), .int .u64 (upTo 0 4 (num l 40) : Int), .int .u64 (upTo 0 5 (num l 48) : Int), .int .u64 (upTo 0 6 (num l 56) : Int), .int .u64 (upTo 0 7 (num l 64) : Int), .int .u64 (upTo 0 8 (num l 72) : Int), .int .u64 (upTo 0 9 (num l 80) : Int), .int .u64 (upTo 0 10 (num l 88) : Int)] from hA1)
          have HB1 := Lib.hid hB1
          have HX1 : Hid (X0.alloc (.cells #[.int .u64 0, .int .u64 0, .int .u64 0, .int .u64 0, .int .u64 0, .int .u64 0, .int .u64 0, .int .u64 0, .int .u64 0, .int .u64 0, .int .u64 0] 46) = X1) := hX1.symm
          have Hc := Lib.hid hc
          clear hX1 hc hA1 hB1
          go_upto_region 8 with (fail)
          rw [HX1.out, hrs.out, ← Hc.out]
          go_wp2_with fail
          go_loopw [5] (fun x5 W => ∃ k : Nat, k ≤ 11 ∧ x5 = .int .i64 (k : Int) ∧ Hid (Whole W c 46 #[.int .u64 (upTo k 0 (num l 8) : Int), .int .u64 (upTo k 1 (num l 16) : Int), .int .u64 (upTo k 2 (num l 24) : Int), .int .u64 (upTo k 3 (num l 32) : Int), .int .u64 (upTo k 4 (num l 40) : Int), .int .u64 (upTo k 5 (num l 48) : Int), .int .u64 (upTo k 6 (num l 56) : Int), .int .u64 (upTo k 7 (num l 64) : Int), .int .u64 (upTo k 8 (num l 72) : Int), .int .u64 (upTo k 9 (num l 80) : Int), .int .u64 (upTo k 10 (num l 88) : Int)]) ∧ Hid (Below c X0 W)) (fun x5 _ => 11 - (intOf x5).toNat)
          case atStart => exact ⟨0, by omega, rfl, HA, HB1⟩
          case round =>
            clear HA HB1 HX1
            obtain ⟨k, hk, rfl, HA, HB1⟩ := hrel
            have hcw : Hid (∀ i, i < l.length → wr.cell? ⟨b, off + i, none⟩ = some (.int .u8 ((l.getD i 0 : Nat) : Int))) := fun i hi => by
              rw [HB1.out.cell (p := ⟨b, off + i, none⟩) (by have := hbr.out; have := Hc.out; show b < c; omega)]
              exact hcell.out i hi
            have hk5 : k = 0 ∨ k = 1 ∨ k = 2 ∨ k = 3 ∨ k = 4 ∨ k = 5 ∨ k = 6 ∨ k = 7 ∨ k = 8 ∨ k = 9 ∨ k = 10 ∨ k = 11 := by omega
            rcases hk5 with rfl | rfl | rfl | rfl | rfl | rfl | rfl | rfl | rfl | rfl | rfl | rfl
            · have HN : Hid (Calls Try.prog 13 #[.slice (some ⟨b, off, none⟩) L cap, .int .i64 8, .int .i64 8] wr fun e w' => e = .returned (.int .u64 (num l 8 : Int)) ∧ wr = w') := by
                have := rnumber_any l b off cap 8 8 wr hl2.out (by rw [← HL.out]; omega) (by omega) (by rw [← HL.out]; omega) hcw.out
                rw [← HL.out] at this
                exact this
              have q := HA.out.cell 0
              have f := HA.out.frozen 0
              have HA2 : Hid (Whole (wr.setCell ⟨c, 0, none⟩ (.int .u64 (num l 8 : Int))) c 46 #[.int .u64 (upTo 1 0 (num l 8) : Int), .int .u64 (upTo 1 1 (num l 16) : Int), .int .u64 (upTo 1 2 (num l 24) : Int), .int .u64 (upTo 1 3 (num l 32) : Int), .int .u64 (upTo 1 4 (num l 40) : Int), .int .u64 (upTo 1 5 (num l 48) : Int), .int .u64 (upTo 1 6 (num l 56) : Int), .int .u64 (upTo 1 7 (num l 64) : Int), .int .u64 (upTo 1 8 (num l 72) : Int), .int .u64 (upTo 1 9 (num l 80) : Int), .int .u64 (upTo 1 10 (num l 88) : Int)]) := HA.out.set 0 _
              have HB2 : Hid (Below c X0 (wr.setCell ⟨c, 0, none⟩ (.int .u64 (num l 8 : Int)))) := HB1.out.setCell (Nat.le_refl _) _
              simp only [List.getElem?_toArray, List.getElem?_cons_zero, List.getElem?_cons_succ] at q
              clear HA HB1 hcw
              go_wp2_with fail
              refine HN.out.mono ?_
              rintro e Y ⟨rfl, rfl⟩
              go_wp2_with fail
              exact ⟨⟨1, by omega, rfl, HA2, HB2⟩, by decide⟩
            · have HN : Hid (Calls Try.prog 13 #[.slice (some ⟨b, off, none⟩) L cap, .int .i64 16, .int .i64 8] wr fun e w' => e = .returned (.int .u64 (num l 16 : Int)) ∧ wr = w') := by
                have := rnumber_any l b off cap 16 8 wr hl2.out (by rw [← HL.out]; omega) (by omega) (by rw [← HL.out]; omega) hcw.out
                rw [← HL.out] at this
                exact this
              have q := HA.out.cell 1
              have f := HA.out.frozen 1
              have HA2 : Hid (Whole (wr.setCell ⟨c, 1, none⟩ (.int .u64 (num l 16 : Int))) c 46 #[.int .u64 (upTo 2 0 (num l 8) : Int), .int .u64 (upTo 2 1 (num l 16) : Int), .int .u64 (upTo 2 2 (num l 24) : Int), .int .u64 (upTo 2 3 (num l 32) : Int), .int .u64 (upTo 2 4 (num l 40) : Int), .int .u64 (upTo 2 5 (num l 48) : Int), .int .u64 (upTo 2 6 (num l 56) : Int), .int .u64 (upTo 2 7 (num l 64) : Int), .int .u64 (upTo 2 8 (num l 72) : Int), .int .u64 (upTo 2 9 (num l 80) : Int), .int .u64 (upTo 2 10 (num l 88) : Int)]) := HA.out.set 1 _
              have HB2 : Hid (Below c X0 (wr.setCell ⟨c, 1, none⟩ (.int .u64 (num l 16 : Int)))) := HB1.out.setCell (Nat.le_refl _) _
              simp only [List.getElem?_toArray, List.getElem?_cons_zero, List.getElem?_cons_succ] at q
              clear HA HB1 hcw
              go_wp2_with fail
              refine HN.out.mono ?_
              rintro e Y ⟨rfl, rfl⟩
              go_wp2_with fail
              exact ⟨⟨2, by omega, rfl, HA2, HB2⟩, by decide⟩
            · have HN : Hid (Calls Try.prog 13 #[.slice (some ⟨b, off, none⟩) L cap, .int .i64 24, .int .i64 8] wr fun e w' => e = .returned (.int .u64 (num l 24 : Int)) ∧ wr = w') := by
                have := rnumber_any l b off cap 24 8 wr hl2.out (by rw [← HL.out]; omega) (by omega) (by rw [← HL.out]; omega) hcw.out
                rw [← HL.out] at this
                exact this
              have q := HA.out.cell 2
              have f := HA.out.frozen 2
              have HA2 : Hid (Whole (wr.setCell ⟨c, 2, none⟩ (.int .u64 (num l 24 : Int))) c 46 #[.int .u64 (upTo 3 0 (num l 8) : Int), .int .u64 (upTo 3 1 (num l 16) : Int), .int .u64 (upTo 3 2 (num l 24) : Int), .int .u64 (upTo 3 3 (num l 32) : Int), .int .u64 (upTo 3 4 (num l 40) : Int), .int .u64 (upTo 3 5 (num l 48) : Int), .int .u64 (upTo 3 6 (num l 56) : Int), .int .u64 (upTo 3 7 (num l 64) : Int), .int .u64 (upTo 3 8 (num l 72) : Int), .int .u64 (upTo 3 9 (num l 80) : Int), .int .u64 (upTo 3 10 (num l 88) : Int)]) := HA.out.set 2 _
              have HB2 : Hid (Below c X0 (wr.setCell ⟨c, 2, none⟩ (.int .u64 (num l 24 : Int)))) := HB1.out.setCell (Nat.le_refl _) _
              simp only [List.getElem?_toArray, List.getElem?_cons_zero, List.getElem?_cons_succ] at q
              clear HA HB1 hcw
              go_wp2_with fail
              refine HN.out.mono ?_
              rintro e Y ⟨rfl, rfl⟩
              go_wp2_with fail
              exact ⟨⟨3, by omega, rfl, HA2, HB2⟩, by decide⟩
            · have HN : Hid (Calls Try.prog 13 #[.slice (some ⟨b, off, none⟩) L cap, .int .i64 32, .int .i64 8] wr fun e w' => e = .returned (.int .u64 (num l 32 : Int)) ∧ wr = w') := by
                have := rnumber_any l b off cap 32 8 wr hl2.out (by rw [← HL.out]; omega) (by omega) (by rw [← HL.out]; omega) hcw.out
                rw [← HL.out] at this
                exact this
              have q := HA.out.cell 3
              have f := HA.out.frozen 3
              have HA2 : Hid (Whole (wr.setCell ⟨c, 3, none⟩ (.int .u64 (num l 32 : Int))) c 46 #[.int .u64 (upTo 4 0 (num l 8) : Int), .int .u64 (upTo 4 1 (num l 16) : Int), .int .u64 (upTo 4 2 (num l 24) : Int), .int .u64 (upTo 4 3 (num l 32) : Int), .int .u64 (upTo 4 4 (num l 40) : Int), .int .u64 (upTo 4 5 (num l 48) : Int), .int .u64 (upTo 4 6 (num l 56) : Int), .int .u64 (upTo 4 7 (num l 64) : Int), .int .u64 (upTo 4 8 (num l 72) : Int), .int .u64 (upTo 4 9 (num l 80) : Int), .int .u64 (upTo 4 10 (num l 88) : Int)]) := HA.out.set 3 _
              have HB2 : Hid (Below c X0 (wr.setCell ⟨c, 3, none⟩ (.int .u64 (num l 32 : Int)))) := HB1.out.setCell (Nat.le_refl _) _
              simp only [List.getElem?_toArray, List.getElem?_cons_zero, List.getElem?_cons_succ] at q
              clear HA HB1 hcw
              go_wp2_with fail
              refine HN.out.mono ?_
              rintro e Y ⟨rfl, rfl⟩
              go_wp2_with fail
              exact ⟨⟨4, by omega, rfl, HA2, HB2⟩, by decide⟩
            · have HN : Hid (Calls Try.prog 13 #[.slice (some ⟨b, off, none⟩) L cap, .int .i64 40, .int .i64 8] wr fun e w' => e = .returned (.int .u64 (num l 40 : Int)) ∧ wr = w') := by
                have := rnumber_any l b off cap 40 8 wr hl2.out (by rw [← HL.out]; omega) (by omega) (by rw [← HL.out]; omega) hcw.out
                rw [← HL.out] at this
                exact this
              have q := HA.out.cell 4
              have f := HA.out.frozen 4
              have HA2 : Hid (Whole (wr.setCell ⟨c, 4, none⟩ (.int .u64 (num l 40 : Int))) c 46 #[.int .u64 (upTo 5 0 (num l 8) : Int), .int .u64 (upTo 5 1 (num l 16) : Int), .int .u64 (upTo 5 2 (num l 24) : Int), .int .u64 (upTo 5 3 (num l 32) : Int), .int .u64 (upTo 5 4 (num l 40) : Int), .int .u64 (upTo 5 5 (num l 48) : Int), .int .u64 (upTo 5 6 (num l 56) : Int), .int .u64 (upTo 5 7 (num l 64) : Int), .int .u64 (upTo 5 8 (num l 72) : Int), .int .u64 (upTo 5 9 (num l 80) : Int), .int .u64 (upTo 5 10 (num l 88) : Int)]) := HA.out.set 4 _
              have HB2 : Hid (Below c X0 (wr.setCell ⟨c, 4, none⟩ (.int .u64 (num l 40 : Int)))) := HB1.out.setCell (Nat.le_refl _) _
              simp only [List.getElem?_toArray, List.getElem?_cons_zero, List.getElem?_cons_succ] at q
              clear HA HB1 hcw
              go_wp2_with fail
              refine HN.out.mono ?_
              rintro e Y ⟨rfl, rfl⟩
              go_wp2_with fail
              exact ⟨⟨5, by omega, rfl, HA2, HB2⟩, by decide⟩
            · have HN : Hid (Calls Try.prog 13 #[.slice (some ⟨b, off, none⟩) L cap, .int .i64 48, .int .i64 8] wr fun e w' => e = .returned (.int .u64 (num l 48 : Int)) ∧ wr = w') := by
                have := rnumber_any l b off cap 48 8 wr hl2.out (by rw [← HL.out]; omega) (by omega) (by rw [← HL.out]; omega) hcw.out
                rw [← HL.out] at this
                exact this
              have q := HA.out.cell 5
              have f := HA.out.frozen 5
              have HA2 : Hid (Whole (wr.setCell ⟨c, 5, none⟩ (.int .u64 (num l 48 : Int))) c 46 #[.int .u64 (upTo 6 0 (num l 8) : Int), .int .u64 (upTo 6 1 (num l 16) : Int), .int .u64 (upTo 6 2 (num l 24) : Int), .int .u64 (upTo 6 3 (num l 32) : Int), .int .u64 (upTo 6 4 (num l 40) : Int), .int .u64 (upTo 6 5 (num l 48) : Int), .int .u64 (upTo 6 6 (num l 56) : Int), .int .u64 (upTo 6 7 (num l 64) : Int), .int .u64 (upTo 6 8 (num l 72) : Int), .int .u64 (upTo 6 9 (num l 80) : Int), .int .u64 (upTo 6 10 (num l 88) : Int)]) := HA.out.set 5 _
              have HB2 : Hid (Below c X0 (wr.setCell ⟨c, 5, none⟩ (.int .u64 (num l 48 : Int)))) := HB1.out.setCell (Nat.le_refl _) _
              simp only [List.getElem?_toArray, List.getElem?_cons_zero, List.getElem?_cons_succ] at q
              clear HA HB1 hcw
              go_wp2_with fail
              refine HN.out.mono ?_
              rintro e Y ⟨rfl, rfl⟩
              go_wp2_with fail
              exact ⟨⟨6, by omega, rfl, HA2, HB2⟩, by decide⟩
            · have HN : Hid (Calls Try.prog 13 #[.slice (some ⟨b, off, none⟩) L cap, .int .i64 56, .int .i64 8] wr fun e w' => e = .returned (.int .u64 (num l 56 : Int)) ∧ wr = w') := by
                have := rnumber_any l b off cap 56 8 wr hl2.out (by rw [← HL.out]; omega) (by omega) (by rw [← HL.out]; omega) hcw.out
                rw [← HL.out] at this
                exact this
              have q := HA.out.cell 6
              have f := HA.out.frozen 6
              have HA2 : Hid (Whole (wr.setCell ⟨c, 6, none⟩ (.int .u64 (num l 56 : Int))) c 46 #[.int .u64 (upTo 7 0 (num l 8) : Int), .int .u64 (upTo 7 1 (num l 16) : Int), .int .u64 (upTo 7 2 (num l 24) : Int), .int .u64 (upTo 7 3 (num l 32) : Int), .int .u64 (upTo 7 4 (num l 40) : Int), .int .u64 (upTo 7 5 (num l 48) : Int), .int .u64 (upTo 7 6 (num l 56) : Int), .int .u64 (upTo 7 7 (num l 64) : Int), .int .u64 (upTo 7 8 (num l 72) : Int), .int .u64 (upTo 7 9 (num l 80) : Int), .int .u64 (upTo 7 10 (num l 88) : Int)]) := HA.out.set 6 _
              have HB2 : Hid (Below c X0 (wr.setCell ⟨c, 6, none⟩ (.int .u64 (num l 56 : Int)))) := HB1.out.setCell (Nat.le_refl _) _
              simp only [List.getElem?_toArray, List.getElem?_cons_zero, List.getElem?_cons_succ] at q
              clear HA HB1 hcw
              go_wp2_with fail
              refine HN.out.mono ?_
              rintro e Y ⟨rfl, rfl⟩
              go_wp2_with fail
              exact ⟨⟨7, by omega, rfl, HA2, HB2⟩, by decide⟩
            · have HN : Hid (Calls Try.prog 13 #[.slice (some ⟨b, off, none⟩) L cap, .int .i64 64, .int .i64 8] wr fun e w' => e = .returned (.int .u64 (num l 64 : Int)) ∧ wr = w') := by
                have := rnumber_any l b off cap 64 8 wr hl2.out (by rw [← HL.out]; omega) (by omega) (by rw [← HL.out]; omega) hcw.out
                rw [← HL.out] at this
                exact this
              have q := HA.out.cell 7
              have f := HA.out.frozen 7
              have HA2 : Hid (Whole (wr.setCell ⟨c, 7, none⟩ (.int .u64 (num l 64 : Int))) c 46 #[.int .u64 (upTo 8 0 (num l 8) : Int), .int .u64 (upTo 8 1 (num l 16) : Int), .int .u64 (upTo 8 2 (num l 24) : Int), .int .u64 (upTo 8 3 (num l 32) : Int), .int .u64 (upTo 8 4 (num l 40) : Int), .int .u64 (upTo 8 5 (num l 48) : Int), .int .u64 (upTo 8 6 (num l 56) : Int), .int .u64 (upTo 8 7 (num l 64) : Int), .int .u64 (upTo 8 8 (num l 72) : Int), .int .u64 (upTo 8 9 (num l 80) : Int), .int .u64 (upTo 8 10 (num l 88) : Int)]) := HA.out.set 7 _
              have HB2 : Hid (Below c X0 (wr.setCell ⟨c, 7, none⟩ (.int .u64 (num l 64 : Int)))) := HB1.out.setCell (Nat.le_refl _) _
              simp only [List.getElem?_toArray, List.getElem?_cons_zero, List.getElem?_cons_succ] at q
              clear HA HB1 hcw
              go_wp2_with fail
              refine HN.out.mono ?_
              rintro e Y ⟨rfl, rfl⟩
              go_wp2_with fail
              exact ⟨⟨8, by omega, rfl, HA2, HB2⟩, by decide⟩
            · have HN : Hid (Calls Try.prog 13 #[.slice (some ⟨b, off, none⟩) L cap, .int .i64 72, .int .i64 8] wr fun e w' => e = .returned (.int .u64 (num l 72 : Int)) ∧ wr = w') := by
                have := rnumber_any l b off cap 72 8 wr hl2.out (by rw [← HL.out]; omega) (by omega) (by rw [← HL.out]; omega) hcw.out
                rw [← HL.out] at this
                exact this
              have q := HA.out.cell 8
              have f := HA.out.frozen 8
              have HA2 : Hid (Whole (wr.setCell ⟨c, 8, none⟩ (.int .u64 (num l 72 : Int))) c 46 #[.int .u64 (upTo 9 0 (num l 8) : Int), .int .u64 (upTo 9 1 (num l 16) : Int), .int .u64 (upTo 9 2 (num l 24) : Int), .int .u64 (upTo 9 3 (num l 32) : Int), .int .u64 (upTo 9 4 (num l 40) : Int), .int .u64 (upTo 9 5 (num l 48) : Int), .int .u64 (upTo 9 6 (num l 56) : Int), .int .u64 (upTo 9 7 (num l 64) : Int), .int .u64 (upTo 9 8 (num l 72) : Int), .int .u64 (upTo 9 9 (num l 80) : Int), .int .u64 (upTo 9 10 (num l 88) : Int)]) := HA.out.set 8 _
              have HB2 : Hid (Below c X0 (wr.setCell ⟨c, 8, none⟩ (.int .u64 (num l 72 : Int)))) := HB1.out.setCell (Nat.le_refl _) _
              simp only [List.getElem?_toArray, List.getElem?_cons_zero, List.getElem?_cons_succ] at q
              clear HA HB1 hcw
              go_wp2_with fail
              refine HN.out.mono ?_
              rintro e Y ⟨rfl, rfl⟩
              go_wp2_with fail
              exact ⟨⟨9, by omega, rfl, HA2, HB2⟩, by decide⟩
            · have HN : Hid (Calls Try.prog 13 #[.slice (some ⟨b, off, none⟩) L cap, .int .i64 80, .int .i64 8] wr fun e w' => e = .returned (.int .u64 (num l 80 : Int)) ∧ wr = w') := by
                have := rnumber_any l b off cap 80 8 wr hl2.out (by rw [← HL.out]; omega) (by omega) (by rw [← HL.out]; omega) hcw.out
                rw [← HL.out] at this
                exact this
              have q := HA.out.cell 9
              have f := HA.out.frozen 9
              have HA2 : Hid (Whole (wr.setCell ⟨c, 9, none⟩ (.int .u64 (num l 80 : Int))) c 46 #[.int .u64 (upTo 10 0 (num l 8) : Int), .int .u64 (upTo 10 1 (num l 16) : Int), .int .u64 (upTo 10 2 (num l 24) : Int), .int .u64 (upTo 10 3 (num l 32) : Int), .int .u64 (upTo 10 4 (num l 40) : Int), .int .u64 (upTo 10 5 (num l 48) : Int), .int .u64 (upTo 10 6 (num l 56) : Int), .int .u64 (upTo 10 7 (num l 64) : Int), .int .u64 (upTo 10 8 (num l 72) : Int), .int .u64 (upTo 10 9 (num l 80) : Int), .int .u64 (upTo 10 10 (num l 88) : Int)]) := HA.out.set 9 _
              have HB2 : Hid (Below c X0 (wr.setCell ⟨c, 9, none⟩ (.int .u64 (num l 80 : Int)))) := HB1.out.setCell (Nat.le_refl _) _
              simp only [List.getElem?_toArray, List.getElem?_cons_zero, List.getElem?_cons_succ] at q
              clear HA HB1 hcw
              go_wp2_with fail
              refine HN.out.mono ?_
              rintro e Y ⟨rfl, rfl⟩
              go_wp2_with fail
              exact ⟨⟨10, by omega, rfl, HA2, HB2⟩, by decide⟩
            · have HN : Hid (Calls Try.prog 13 #[.slice (some ⟨b, off, none⟩) L cap, .int .i64 88, .int .i64 8] wr fun e w' => e = .returned (.int .u64 (num l 88 : Int)) ∧ wr = w') := by
                have := rnumber_any l b off cap 88 8 wr hl2.out (by rw [← HL.out]; omega) (by omega) (by rw [← HL.out]; omega) hcw.out
                rw [← HL.out] at this
                exact this
              have q := HA.out.cell 10
              have f := HA.out.frozen 10
              have HA2 : Hid (Whole (wr.setCell ⟨c, 10, none⟩ (.int .u64 (num l 88 : Int))) c 46 #[.int .u64 (upTo 11 0 (num l 8) : Int), .int .u64 (upTo 11 1 (num l 16) : Int), .int .u64 (upTo 11 2 (num l 24) : Int), .int .u64 (upTo 11 3 (num l 32) : Int), .int .u64 (upTo 11 4 (num l 40) : Int), .int .u64 (upTo 11 5 (num l 48) : Int), .int .u64 (upTo 11 6 (num l 56) : Int), .int .u64 (upTo 11 7 (num l 64) : Int), .int .u64 (upTo 11 8 (num l 72) : Int), .int .u64 (upTo 11 9 (num l 80) : Int), .int .u64 (upTo 11 10 (num l 88) : Int)]) := HA.out.set 10 _
              have HB2 : Hid (Below c X0 (wr.setCell ⟨c, 10, none⟩ (.int .u64 (num l 88 : Int)))) := HB1.out.setCell (Nat.le_refl _) _
              simp only [List.getElem?_toArray, List.getElem?_cons_zero, List.getElem?_cons_succ] at q
              clear HA HB1 hcw
              go_wp2_with fail
              refine HN.out.mono ?_
              rintro e Y ⟨rfl, rfl⟩
              go_wp2_with fail
              exact ⟨⟨11, by omega, rfl, HA2, HB2⟩, by decide⟩
            · have HAf := Lib.hid (show Whole wr c 46 #[.int .u64 (num l 8 : Int), .int .u64 (num l 16 : Int), .int .u64 (num l 24 : Int), .int .u64 (num l 32 : Int), .int .u64 (num l 40 : Int), .int .u64 (num l 48 : Int), .int .u64 (num l 56 : Int), .int .u64 (num l 64 : Int), .int .u64 (num l 72 : Int), .int .u64 (num l 80 : Int), .int .u64 (num l 88 : Int)] from HA.out)
              have HRr := Lib.hid (HR0.out.below HB1.out (by have := Hc.out; omega))
              have HBw := Lib.hid (HB0.out.trans ⟨HB1.out.os, HB1.out.tape, HB1.out.output, HB1.out.size, fun k hk => HB1.out.block k (by have := Hc.out; have := Hr.out; omega)⟩)
              have hcr : Hid (c < wr.heap.size) := HAf.out.lt
              clear HA HB1 HB0 HR0 hcell
              obtain ⟨cb, hcb⟩ : ∃ cb, ((byt l 96 : Int) == 1) = cb := ⟨_, rfl⟩
              have hcb2 : Hid (cb = decide ((byt l 96 : Int) = 1)) := by show _ = _; rw [← hcb]; exact Bool.beq_eq_decide_eq _ _
              have q96 : Hid (wr.drew.cell? ⟨b, off + 96, none⟩ = some (.int .u8 (byt l 96 : Int))) := hcw.out 96 (by rw [← HL.out]; omega)
              have hbw : Hid (b < wr.heap.size) := by have := hbr.out; have := Hc.out; have := hcr.out; show _ < _; omega
              have hNw := Lib.hid (heap_alloc_new wr.drew (.cells zHd.cells 29))
              go_upto_region 12 with (fail)
              refine wp_region_held (S := (fun V => Whole V c 46 #[.int .u64 (num l 8 : Int), .int .u64 (num l 16 : Int), .int .u64 (num l 24 : Int), .int .u64 (num l 32 : Int), .int .u64 (num l 40 : Int), .int .u64 (num l 48 : Int), .int .u64 (num l 56 : Int), .int .u64 (num l 64 : Int), .int .u64 (num l 72 : Int), .int .u64 (num l 80 : Int), .int .u64 (num l 88 : Int)] ∧ V.cell? ⟨b, off + 96, none⟩ = some (.int .u8 (byt l 96 : Int)))) (by kernel_rfl) ?_
              refine wpAnyH_take (i := 0) (oi := { dst := some 43, op := Go.Op.indexAddr 46 (Go.Operand.tmp 4) (Go.Operand.const (Go.Value.int Go.IntKind.i64 0)), type := 0, pos := "ref.go:112", after := #[], guard := none }) (v := ?_) rfl (by kernel_rfl) (by kernel_rfl) (by kernel_rfl) (fun _ _ _ h => h) (Or.inl ⟨by rfl, ?_⟩) (⟨HAf.out, q96.out⟩) ?_
              rotate_left 1
              · intro w5 hSw
                go_simp; all_goals (with_reducible rfl)
              try simp only [Act.put, List.setIfInBounds_toArray, List.set_cons_zero, List.set_cons_succ]
              refine wpAnyH_take (i := 1) (oi := { dst := some 44, op := Go.Op.load 23 (Go.Operand.tmp 43), type := 23, pos := "ref.go:112", after := #[{ on := 0, ground := Go.Ground.data }], guard := none }) (v := ?_) rfl (by kernel_rfl) (by kernel_rfl) (by kernel_rfl) (fun _ _ _ h => h) (Or.inl ⟨by rfl, ?_⟩) (⟨HAf.out, q96.out⟩) ?_
              rotate_left 1
              · intro w5 hSw
                have q : w5.cell? ⟨c, 0, none⟩ = some (.int .u64 (num l 8 : Int)) := hSw.1.cell 0
                go_simp; all_goals (with_reducible rfl)
              try simp only [Act.put, List.setIfInBounds_toArray, List.set_cons_zero, List.set_cons_succ]
              refine wpAnyH_take (i := 2) (oi := { dst := some 45, op := Go.Op.indexAddr 46 (Go.Operand.tmp 4) (Go.Operand.const (Go.Value.int Go.IntKind.i64 1)), type := 0, pos := "ref.go:112", after := #[], guard := none }) (v := ?_) rfl (by kernel_rfl) (by kernel_rfl) (by kernel_rfl) (fun _ _ _ h => h) (Or.inl ⟨by rfl, ?_⟩) (⟨HAf.out, q96.out⟩) ?_
              rotate_left 1
              · intro w5 hSw
                go_simp; all_goals (with_reducible rfl)
              try simp only [Act.put, List.setIfInBounds_toArray, List.set_cons_zero, List.set_cons_succ]
              refine wpAnyH_take (i := 3) (oi := { dst := some 46, op := Go.Op.load 23 (Go.Operand.tmp 45), type := 23, pos := "ref.go:112", after := #[{ on := 2, ground := Go.Ground.data }], guard := none }) (v := ?_) rfl (by kernel_rfl) (by kernel_rfl) (by kernel_rfl) (fun _ _ _ h => h) (Or.inl ⟨by rfl, ?_⟩) (⟨HAf.out, q96.out⟩) ?_
              rotate_left 1
              · intro w5 hSw
                have q : w5.cell? ⟨c, 1, none⟩ = some (.int .u64 (num l 16 : Int)) := hSw.1.cell 1
                go_simp; all_goals (with_reducible rfl)
              try simp only [Act.put, List.setIfInBounds_toArray, List.set_cons_zero, List.set_cons_succ]
              refine wpAnyH_take (i := 4) (oi := { dst := some 47, op := Go.Op.build 24 #[(0, Go.Operand.tmp 44), (1, Go.Operand.tmp 46)], type := 24, pos := "ref.go:112", after := #[{ on := 1, ground := Go.Ground.data }, { on := 3, ground := Go.Ground.data }], guard := none }) (v := ?_) rfl (by kernel_rfl) (by kernel_rfl) (by kernel_rfl) (fun _ _ _ h => h) (Or.inl ⟨by rfl, ?_⟩) (⟨HAf.out, q96.out⟩) ?_
              rotate_left 1
              · intro w5 hSw
                go_simp; all_goals (with_reducible rfl)
              try simp only [Act.put, List.setIfInBounds_toArray, List.set_cons_zero, List.set_cons_succ]
              refine wpAnyH_take (i := 5) (oi := { dst := some 48, op := Go.Op.indexAddr 46 (Go.Operand.tmp 4) (Go.Operand.const (Go.Value.int Go.IntKind.i64 2)), type := 0, pos := "ref.go:112", after := #[], guard := none }) (v := ?_) rfl (by kernel_rfl) (by kernel_rfl) (by kernel_rfl) (fun _ _ _ h => h) (Or.inl ⟨by rfl, ?_⟩) (⟨HAf.out, q96.out⟩) ?_
              rotate_left 1
              · intro w5 hSw
                go_simp; all_goals (with_reducible rfl)
              try simp only [Act.put, List.setIfInBounds_toArray, List.set_cons_zero, List.set_cons_succ]
              refine wpAnyH_take (i := 6) (oi := { dst := some 49, op := Go.Op.load 23 (Go.Operand.tmp 48), type := 23, pos := "ref.go:112", after := #[{ on := 5, ground := Go.Ground.data }], guard := none }) (v := ?_) rfl (by kernel_rfl) (by kernel_rfl) (by kernel_rfl) (fun _ _ _ h => h) (Or.inl ⟨by rfl, ?_⟩) (⟨HAf.out, q96.out⟩) ?_
              rotate_left 1
              · intro w5 hSw
                have q : w5.cell? ⟨c, 2, none⟩ = some (.int .u64 (num l 24 : Int)) := hSw.1.cell 2
                go_simp; all_goals (with_reducible rfl)
              try simp only [Act.put, List.setIfInBounds_toArray, List.set_cons_zero, List.set_cons_succ]
              refine wpAnyH_take (i := 7) (oi := { dst := some 50, op := Go.Op.indexAddr 46 (Go.Operand.tmp 4) (Go.Operand.const (Go.Value.int Go.IntKind.i64 3)), type := 0, pos := "ref.go:112", after := #[], guard := none }) (v := ?_) rfl (by kernel_rfl) (by kernel_rfl) (by kernel_rfl) (fun _ _ _ h => h) (Or.inl ⟨by rfl, ?_⟩) (⟨HAf.out, q96.out⟩) ?_
              rotate_left 1
              · intro w5 hSw
                go_simp; all_goals (with_reducible rfl)
              try simp only [Act.put, List.setIfInBounds_toArray, List.set_cons_zero, List.set_cons_succ]
              refine wpAnyH_take (i := 8) (oi := { dst := some 51, op := Go.Op.load 23 (Go.Operand.tmp 50), type := 23, pos := "ref.go:112", after := #[{ on := 7, ground := Go.Ground.data }], guard := none }) (v := ?_) rfl (by kernel_rfl) (by kernel_rfl) (by kernel_rfl) (fun _ _ _ h => h) (Or.inl ⟨by rfl, ?_⟩) (⟨HAf.out, q96.out⟩) ?_
              rotate_left 1
              · intro w5 hSw
                have q : w5.cell? ⟨c, 3, none⟩ = some (.int .u64 (num l 32 : Int)) := hSw.1.cell 3
                go_simp; all_goals (with_reducible rfl)
              try simp only [Act.put, List.setIfInBounds_toArray, List.set_cons_zero, List.set_cons_succ]
              refine wpAnyH_take (i := 9) (oi := { dst := some 52, op := Go.Op.build 24 #[(0, Go.Operand.tmp 49), (1, Go.Operand.tmp 51)], type := 24, pos := "ref.go:112", after := #[{ on := 6, ground := Go.Ground.data }, { on := 8, ground := Go.Ground.data }], guard := none }) (v := ?_) rfl (by kernel_rfl) (by kernel_rfl) (by kernel_rfl) (fun _ _ _ h => h) (Or.inl ⟨by rfl, ?_⟩) (⟨HAf.out, q96.out⟩) ?_
              rotate_left 1
              · intro w5 hSw
                go_simp; all_goals (with_reducible rfl)
              try simp only [Act.put, List.setIfInBounds_toArray, List.set_cons_zero, List.set_cons_succ]
              refine wpAnyH_take (i := 10) (oi := { dst := some 53, op := Go.Op.indexAddr 46 (Go.Operand.tmp 4) (Go.Operand.const (Go.Value.int Go.IntKind.i64 4)), type := 0, pos := "ref.go:112", after := #[], guard := none }) (v := ?_) rfl (by kernel_rfl) (by kernel_rfl) (by kernel_rfl) (fun _ _ _ h => h) (Or.inl ⟨by rfl, ?_⟩) (⟨HAf.out, q96.out⟩) ?_
              rotate_left 1
              · intro w5 hSw
                go_simp; all_goals (with_reducible rfl)
              try simp only [Act.put, List.setIfInBounds_toArray, List.set_cons_zero, List.set_cons_succ]
              refine wpAnyH_take (i := 11) (oi := { dst := some 54, op := Go.Op.load 23 (Go.Operand.tmp 53), type := 23, pos := "ref.go:112", after := #[{ on := 10, ground := Go.Ground.data }], guard := none }) (v := ?_) rfl (by kernel_rfl) (by kernel_rfl) (by kernel_rfl) (fun _ _ _ h => h) (Or.inl ⟨by rfl, ?_⟩) (⟨HAf.out, q96.out⟩) ?_
              rotate_left 1
              · intro w5 hSw
                have q : w5.cell? ⟨c, 4, none⟩ = some (.int .u64 (num l 40 : Int)) := hSw.1.cell 4
                go_simp; all_goals (with_reducible rfl)
              try simp only [Act.put, List.setIfInBounds_toArray, List.set_cons_zero, List.set_cons_succ]
              refine wpAnyH_take (i := 12) (oi := { dst := some 55, op := Go.Op.indexAddr 46 (Go.Operand.tmp 4) (Go.Operand.const (Go.Value.int Go.IntKind.i64 5)), type := 0, pos := "ref.go:112", after := #[], guard := none }) (v := ?_) rfl (by kernel_rfl) (by kernel_rfl) (by kernel_rfl) (fun _ _ _ h => h) (Or.inl ⟨by rfl, ?_⟩) (⟨HAf.out, q96.out⟩) ?_
              rotate_left 1
              · intro w5 hSw
                go_simp; all_goals (with_reducible rfl)
              try simp only [Act.put, List.setIfInBounds_toArray, List.set_cons_zero, List.set_cons_succ]
              refine wpAnyH_take (i := 13) (oi := { dst := some 56, op := Go.Op.load 23 (Go.Operand.tmp 55), type := 23, pos := "ref.go:112", after := #[{ on := 12, ground := Go.Ground.data }], guard := none }) (v := ?_) rfl (by kernel_rfl) (by kernel_rfl) (by kernel_rfl) (fun _ _ _ h => h) (Or.inl ⟨by rfl, ?_⟩) (⟨HAf.out, q96.out⟩) ?_
              rotate_left 1
              · intro w5 hSw
                have q : w5.cell? ⟨c, 5, none⟩ = some (.int .u64 (num l 48 : Int)) := hSw.1.cell 5
                go_simp; all_goals (with_reducible rfl)
              try simp only [Act.put, List.setIfInBounds_toArray, List.set_cons_zero, List.set_cons_succ]
              refine wpAnyH_take (i := 14) (oi := { dst := some 57, op := Go.Op.build 24 #[(0, Go.Operand.tmp 54), (1, Go.Operand.tmp 56)], type := 24, pos := "ref.go:112", after := #[{ on := 11, ground := Go.Ground.data }, { on := 13, ground := Go.Ground.data }], guard := none }) (v := ?_) rfl (by kernel_rfl) (by kernel_rfl) (by kernel_rfl) (fun _ _ _ h => h) (Or.inl ⟨by rfl, ?_⟩) (⟨HAf.out, q96.out⟩) ?_
              rotate_left 1
              · intro w5 hSw
                go_simp; all_goals (with_reducible rfl)
              try simp only [Act.put, List.setIfInBounds_toArray, List.set_cons_zero, List.set_cons_succ]
              refine wpAnyH_take (i := 15) (oi := { dst := some 58, op := Go.Op.indexAddr 46 (Go.Operand.tmp 4) (Go.Operand.const (Go.Value.int Go.IntKind.i64 6)), type := 0, pos := "ref.go:112", after := #[], guard := none }) (v := ?_) rfl (by kernel_rfl) (by kernel_rfl) (by kernel_rfl) (fun _ _ _ h => h) (Or.inl ⟨by rfl, ?_⟩) (⟨HAf.out, q96.out⟩) ?_
              rotate_left 1
              · intro w5 hSw
                go_simp; all_goals (with_reducible rfl)
              try simp only [Act.put, List.setIfInBounds_toArray, List.set_cons_zero, List.set_cons_succ]
              refine wpAnyH_take (i := 16) (oi := { dst := some 59, op := Go.Op.load 23 (Go.Operand.tmp 58), type := 23, pos := "ref.go:112", after := #[{ on := 15, ground := Go.Ground.data }], guard := none }) (v := ?_) rfl (by kernel_rfl) (by kernel_rfl) (by kernel_rfl) (fun _ _ _ h => h) (Or.inl ⟨by rfl, ?_⟩) (⟨HAf.out, q96.out⟩) ?_
              rotate_left 1
              · intro w5 hSw
                have q : w5.cell? ⟨c, 6, none⟩ = some (.int .u64 (num l 56 : Int)) := hSw.1.cell 6
                go_simp; all_goals (with_reducible rfl)
              try simp only [Act.put, List.setIfInBounds_toArray, List.set_cons_zero, List.set_cons_succ]
              refine wpAnyH_take (i := 17) (oi := { dst := some 60, op := Go.Op.indexAddr 46 (Go.Operand.tmp 4) (Go.Operand.const (Go.Value.int Go.IntKind.i64 7)), type := 0, pos := "ref.go:112", after := #[], guard := none }) (v := ?_) rfl (by kernel_rfl) (by kernel_rfl) (by kernel_rfl) (fun _ _ _ h => h) (Or.inl ⟨by rfl, ?_⟩) (⟨HAf.out, q96.out⟩) ?_
              rotate_left 1
              · intro w5 hSw
                go_simp; all_goals (with_reducible rfl)
              try simp only [Act.put, List.setIfInBounds_toArray, List.set_cons_zero, List.set_cons_succ]
              refine wpAnyH_take (i := 18) (oi := { dst := some 61, op := Go.Op.load 23 (Go.Operand.tmp 60), type := 23, pos := "ref.go:112", after := #[{ on := 17, ground := Go.Ground.data }], guard := none }) (v := ?_) rfl (by kernel_rfl) (by kernel_rfl) (by kernel_rfl) (fun _ _ _ h => h) (Or.inl ⟨by rfl, ?_⟩) (⟨HAf.out, q96.out⟩) ?_
              rotate_left 1
              · intro w5 hSw
                have q : w5.cell? ⟨c, 7, none⟩ = some (.int .u64 (num l 64 : Int)) := hSw.1.cell 7
                go_simp; all_goals (with_reducible rfl)
              try simp only [Act.put, List.setIfInBounds_toArray, List.set_cons_zero, List.set_cons_succ]
              refine wpAnyH_take (i := 19) (oi := { dst := some 62, op := Go.Op.build 24 #[(0, Go.Operand.tmp 59), (1, Go.Operand.tmp 61)], type := 24, pos := "ref.go:112", after := #[{ on := 16, ground := Go.Ground.data }, { on := 18, ground := Go.Ground.data }], guard := none }) (v := ?_) rfl (by kernel_rfl) (by kernel_rfl) (by kernel_rfl) (fun _ _ _ h => h) (Or.inl ⟨by rfl, ?_⟩) (⟨HAf.out, q96.out⟩) ?_
              rotate_left 1
              · intro w5 hSw
                go_simp; all_goals (with_reducible rfl)
              try simp only [Act.put, List.setIfInBounds_toArray, List.set_cons_zero, List.set_cons_succ]
              refine wpAnyH_take (i := 20) (oi := { dst := some 63, op := Go.Op.indexAddr 46 (Go.Operand.tmp 4) (Go.Operand.const (Go.Value.int Go.IntKind.i64 8)), type := 0, pos := "ref.go:112", after := #[], guard := none }) (v := ?_) rfl (by kernel_rfl) (by kernel_rfl) (by kernel_rfl) (fun _ _ _ h => h) (Or.inl ⟨by rfl, ?_⟩) (⟨HAf.out, q96.out⟩) ?_
              rotate_left 1
              · intro w5 hSw
                go_simp; all_goals (with_reducible rfl)
              try simp only [Act.put, List.setIfInBounds_toArray, List.set_cons_zero, List.set_cons_succ]
              refine wpAnyH_take (i := 21) (oi := { dst := some 64, op := Go.Op.load 23 (Go.Operand.tmp 63), type := 23, pos := "ref.go:112", after := #[{ on := 20, ground := Go.Ground.data }], guard := none }) (v := ?_) rfl (by kernel_rfl) (by kernel_rfl) (by kernel_rfl) (fun _ _ _ h => h) (Or.inl ⟨by rfl, ?_⟩) (⟨HAf.out, q96.out⟩) ?_
              rotate_left 1
              · intro w5 hSw
                have q : w5.cell? ⟨c, 8, none⟩ = some (.int .u64 (num l 72 : Int)) := hSw.1.cell 8
                go_simp; all_goals (with_reducible rfl)
              try simp only [Act.put, List.setIfInBounds_toArray, List.set_cons_zero, List.set_cons_succ]
              refine wpAnyH_take (i := 22) (oi := { dst := some 65, op := Go.Op.indexAddr 46 (Go.Operand.tmp 4) (Go.Operand.const (Go.Value.int Go.IntKind.i64 9)), type := 0, pos := "ref.go:112", after := #[], guard := none }) (v := ?_) rfl (by kernel_rfl) (by kernel_rfl) (by kernel_rfl) (fun _ _ _ h => h) (Or.inl ⟨by rfl, ?_⟩) (⟨HAf.out, q96.out⟩) ?_
              rotate_left 1
              · intro w5 hSw
                go_simp; all_goals (with_reducible rfl)
              try simp only [Act.put, List.setIfInBounds_toArray, List.set_cons_zero, List.set_cons_succ]
              refine wpAnyH_take (i := 23) (oi := { dst := some 66, op := Go.Op.load 23 (Go.Operand.tmp 65), type := 23, pos := "ref.go:112", after := #[{ on := 22, ground := Go.Ground.data }], guard := none }) (v := ?_) rfl (by kernel_rfl) (by kernel_rfl) (by kernel_rfl) (fun _ _ _ h => h) (Or.inl ⟨by rfl, ?_⟩) (⟨HAf.out, q96.out⟩) ?_
              rotate_left 1
              · intro w5 hSw
                have q : w5.cell? ⟨c, 9, none⟩ = some (.int .u64 (num l 80 : Int)) := hSw.1.cell 9
                go_simp; all_goals (with_reducible rfl)
              try simp only [Act.put, List.setIfInBounds_toArray, List.set_cons_zero, List.set_cons_succ]
              refine wpAnyH_take (i := 24) (oi := { dst := some 67, op := Go.Op.indexAddr 46 (Go.Operand.tmp 4) (Go.Operand.const (Go.Value.int Go.IntKind.i64 10)), type := 0, pos := "ref.go:112", after := #[], guard := none }) (v := ?_) rfl (by kernel_rfl) (by kernel_rfl) (by kernel_rfl) (fun _ _ _ h => h) (Or.inl ⟨by rfl, ?_⟩) (⟨HAf.out, q96.out⟩) ?_
              rotate_left 1
              · intro w5 hSw
                go_simp; all_goals (with_reducible rfl)
              try simp only [Act.put, List.setIfInBounds_toArray, List.set_cons_zero, List.set_cons_succ]
              refine wpAnyH_take (i := 25) (oi := { dst := some 68, op := Go.Op.load 23 (Go.Operand.tmp 67), type := 23, pos := "ref.go:112", after := #[{ on := 24, ground := Go.Ground.data }], guard := none }) (v := ?_) rfl (by kernel_rfl) (by kernel_rfl) (by kernel_rfl) (fun _ _ _ h => h) (Or.inl ⟨by rfl, ?_⟩) (⟨HAf.out, q96.out⟩) ?_
              rotate_left 1
              · intro w5 hSw
                have q : w5.cell? ⟨c, 10, none⟩ = some (.int .u64 (num l 88 : Int)) := hSw.1.cell 10
                go_simp; all_goals (with_reducible rfl)
              try simp only [Act.put, List.setIfInBounds_toArray, List.set_cons_zero, List.set_cons_succ]
              refine wpAnyH_take (i := 26) (oi := { dst := some 69, op := Go.Op.build 25 #[(0, Go.Operand.tmp 64), (1, Go.Operand.tmp 66), (2, Go.Operand.tmp 68)], type := 25, pos := "ref.go:112", after := #[{ on := 21, ground := Go.Ground.data }, { on := 23, ground := Go.Ground.data }, { on := 25, ground := Go.Ground.data }], guard := none }) (v := ?_) rfl (by kernel_rfl) (by kernel_rfl) (by kernel_rfl) (fun _ _ _ h => h) (Or.inl ⟨by rfl, ?_⟩) (⟨HAf.out, q96.out⟩) ?_
              rotate_left 1
              · intro w5 hSw
                go_simp; all_goals (with_reducible rfl)
              try simp only [Act.put, List.setIfInBounds_toArray, List.set_cons_zero, List.set_cons_succ]
              refine wpAnyH_take (i := 27) (oi := { dst := some 70, op := Go.Op.move (Go.Operand.tmp 0), type := 22, pos := "ref.go:112", after := #[], guard := none }) (v := ?_) rfl (by kernel_rfl) (by kernel_rfl) (by kernel_rfl) (fun _ _ _ h => h) (Or.inl ⟨by rfl, ?_⟩) (⟨HAf.out, q96.out⟩) ?_
              rotate_left 1
              · intro w5 hSw
                go_simp; all_goals (with_reducible rfl)
              try simp only [Act.put, List.setIfInBounds_toArray, List.set_cons_zero, List.set_cons_succ]
              refine wpAnyH_take (i := 28) (oi := { dst := some 71, op := Go.Op.indexAddr 22 (Go.Operand.tmp 70) (Go.Operand.const (Go.Value.int Go.IntKind.i64 96)), type := 0, pos := "ref.go:112", after := #[{ on := 27, ground := Go.Ground.data }], guard := none }) (v := ?_) rfl (by kernel_rfl) (by kernel_rfl) (by kernel_rfl) (fun _ _ _ h => h) (Or.inl ⟨by rfl, ?_⟩) (⟨HAf.out, q96.out⟩) ?_
              rotate_left 1
              · intro w5 hSw
                have hi96 : (96 : Int) < (L : Int) := by omega
                go_simp; all_goals (with_reducible rfl)
              try simp only [Act.put, List.setIfInBounds_toArray, List.set_cons_zero, List.set_cons_succ]
              refine wpAnyH_take (i := 29) (oi := { dst := some 72, op := Go.Op.load 5 (Go.Operand.tmp 71), type := 5, pos := "ref.go:112", after := #[{ on := 28, ground := Go.Ground.data }], guard := none }) (v := ?_) rfl (by kernel_rfl) (by kernel_rfl) (by kernel_rfl) (fun _ _ _ h => h) (Or.inl ⟨by rfl, ?_⟩) (⟨HAf.out, q96.out⟩) ?_
              rotate_left 1
              · intro w5 hSw
                have q := hSw.2
                go_simp; all_goals (with_reducible rfl)
              try simp only [Act.put, List.setIfInBounds_toArray, List.set_cons_zero, List.set_cons_succ]
              refine wpAnyH_take (i := 30) (oi := { dst := some 73, op := Go.Op.binOp Go.BinOp.eql 5 (Go.Operand.tmp 72) (Go.Operand.const (Go.Value.int Go.IntKind.u8 1)) 5, type := 4, pos := "ref.go:112", after := #[{ on := 29, ground := Go.Ground.data }], guard := none }) (v := ?_) rfl (by kernel_rfl) (by kernel_rfl) (by kernel_rfl) (fun _ _ _ h => h) (Or.inl ⟨by rfl, ?_⟩) (⟨HAf.out, q96.out⟩) ?_
              rotate_left 1
              · intro w5 hSw
                have q := hcb
                go_simp; all_goals (with_reducible rfl)
              try simp only [Act.put, List.setIfInBounds_toArray, List.set_cons_zero, List.set_cons_succ]
              refine wpAnyH_take (i := 31) (oi := { dst := some 74, op := Go.Op.build 29 #[(0, Go.Operand.tmp 47), (1, Go.Operand.tmp 52), (2, Go.Operand.tmp 57), (3, Go.Operand.tmp 62), (4, Go.Operand.tmp 69), (5, Go.Operand.tmp 73)], type := 29, pos := "ref.go:112", after := #[{ on := 4, ground := Go.Ground.data }, { on := 9, ground := Go.Ground.data }, { on := 14, ground := Go.Ground.data }, { on := 19, ground := Go.Ground.data }, { on := 26, ground := Go.Ground.data }, { on := 30, ground := Go.Ground.data }], guard := none }) (v := ?_) rfl (by kernel_rfl) (by kernel_rfl) (by kernel_rfl) (fun _ _ _ h => h) (Or.inl ⟨by rfl, ?_⟩) (⟨HAf.out, q96.out⟩) ?_
              rotate_left 1
              · intro w5 hSw
                go_simp; all_goals (with_reducible rfl)
              try simp only [Act.put, List.setIfInBounds_toArray, List.set_cons_zero, List.set_cons_succ]
              refine wpAnyH_ready (rs := [32]) (by kernel_rfl) (by simp) ?_
              refine AllReadyH.cons (o := { dst := some 6, op := Go.Op.alloc 29, type := 0, pos := "ref.go:112", after := #[], guard := none }) rfl (fun K hK => ?_) AllReadyH.nil
              go_simp
              refine hK.out _ _ (⟨HAf.out.alloc _, (World.cell?_of_block (w := wr.drew) (Below.heap_alloc wr.drew _ b hbw.out)).trans q96.out⟩) (fun _ => ?_)
              clear hK K
              try simp only [Act.put, List.setIfInBounds_toArray, List.set_cons_zero, List.set_cons_succ]
              refine wpAnyH_ready (rs := [33]) (by kernel_rfl) (by simp) ?_
              refine AllReadyH.cons (o := { dst := none, op := Go.Op.store 29 (Go.Operand.tmp 6) (Go.Operand.tmp 74), type := 0, pos := "ref.go:112", after := #[{ on := 32, ground := Go.Ground.data }, { on := 31, ground := Go.Ground.data }, { on := 0, ground := Go.Ground.phase }, { on := 1, ground := Go.Ground.phase }, { on := 2, ground := Go.Ground.phase }, { on := 3, ground := Go.Ground.phase }, { on := 4, ground := Go.Ground.phase }, { on := 5, ground := Go.Ground.phase }, { on := 6, ground := Go.Ground.phase }, { on := 7, ground := Go.Ground.phase }, { on := 8, ground := Go.Ground.phase }, { on := 9, ground := Go.Ground.phase }, { on := 10, ground := Go.Ground.phase }, { on := 11, ground := Go.Ground.phase }, { on := 12, ground := Go.Ground.phase }, { on := 13, ground := Go.Ground.phase }, { on := 14, ground := Go.Ground.phase }, { on := 15, ground := Go.Ground.phase }, { on := 16, ground := Go.Ground.phase }, { on := 17, ground := Go.Ground.phase }, { on := 18, ground := Go.Ground.phase }, { on := 19, ground := Go.Ground.phase }, { on := 20, ground := Go.Ground.phase }, { on := 21, ground := Go.Ground.phase }, { on := 22, ground := Go.Ground.phase }, { on := 23, ground := Go.Ground.phase }, { on := 24, ground := Go.Ground.phase }, { on := 25, ground := Go.Ground.phase }, { on := 26, ground := Go.Ground.phase }, { on := 27, ground := Go.Ground.phase }, { on := 28, ground := Go.Ground.phase }, { on := 29, ground := Go.Ground.phase }, { on := 30, ground := Go.Ground.phase }, { on := 31, ground := Go.Ground.phase }, { on := 32, ground := Go.Ground.phase }], guard := none }) rfl (fun K hK => ?_) AllReadyH.nil
              refine held_store_row (by rfl) 29 (.tmp 6) (.tmp 74) rfl (wr.drew.heap.size) ((hdC l cb).cells) rfl rfl 29 (zHd.cells) (hNw.out) (hd_infoc _) (rfl) (hd_all _) ?_
              refine hK.out _ _ (⟨Whole.rowFar (HAf.out.alloc _) (by have := hcr.out; show c ≠ wr.heap.size; omega) _, ((World.cell?_of_block (setRow_other _ _ b _ (by have := hbw.out; show b ≠ wr.heap.size; omega))).trans (World.cell?_of_block (w := wr.drew) (Below.heap_alloc wr.drew _ b hbw.out))).trans q96.out⟩) (fun _ => ?_)
              clear hK K
              try simp only [Act.put, List.setIfInBounds_toArray, List.set_cons_zero, List.set_cons_succ]
              refine wpAnyH_done (by kernel_rfl) ?_ _
              obtain ⟨s6, hs6⟩ : ∃ s, s = wr.heap.size := ⟨_, rfl⟩
              obtain ⟨D2, hD2⟩ : ∃ D, D = (wr.drew.alloc (.cells zHd.cells 29)).setRow wr.drew.heap.size (hdC l cb).cells := ⟨_, rfl⟩
              have hW0 : Whole D2 s6 29 (hdC l cb).cells := by rw [hD2, hs6]; exact Whole.row (heap_alloc_new wr.drew _) _
              have hR2 : Whole D2 r 29 zHd.cells := by rw [hD2]; exact Whole.rowFar (HRr.out.alloc _) (by have := HRr.out.lt; show r ≠ wr.heap.size; omega) _
              have hbs : b < s6 := by rw [hs6]; exact hbw.out
              have hc2 : ∀ i, i < l.length → D2.cell? ⟨b, off + i, none⟩ = some (.int .u8 ((l.getD i 0 : Nat) : Int)) := fun i hi => by
                rw [hD2]
                exact ((World.cell?_of_block (setRow_other _ _ b _ (by have := hbw.out; show b ≠ wr.heap.size; omega))).trans (World.cell?_of_block (w := wr.drew) (Below.heap_alloc wr.drew _ b hbw.out))).trans (hcw.out i hi)
              have hB2 : Below w.heap.size w D2 := by
                rw [hD2]
                have h0 : Below w.heap.size w wr.drew := ⟨HBw.out.os, HBw.out.tape, HBw.out.output, HBw.out.size, HBw.out.block⟩
                exact below_setRow (h0.alloc HBw.out.size _) HBw.out.size _
              have hsb : Hid (s6 ≠ b ∧ r ≠ s6 ∧ w.heap.size ≤ s6) := ⟨by omega, by have := HRr.out.lt; omega, by rw [hs6]; exact HBw.out.size⟩
              have hD3 : (wr.alloc (.cells #[.int .u64 0, .int .u64 0, .int .u64 0, .int .u64 0, .int .u64 0, .int .u64 0, .int .u64 0, .int .u64 0, .int .u64 0, .int .u64 0, .int .u64 0, .bool false, .int .i64 0, .int .i64 0, .int .i64 0, .int .i64 0, .int .i64 0, .int .i64 0, .int .i64 0, .int .i64 0, .int .i64 0, .int .i64 0, .int .i64 0, .int .i64 0] 29)).drew.setRow wr.drew.heap.size (hdC l cb).cells = D2 := hD2.symm
              rw [hD3, ← hs6]
              have HW0 := Lib.hid hW0
              have HR2 := Lib.hid hR2
              have Hc2 := Lib.hid hc2
              have HB2 := Lib.hid hB2
              clear hD2 hD3 hs6 hW0 hR2 hc2 hB2 hbs HAf HRr HBw hcr q96 hbw hNw hcb hcw
              go_upto_region 13 with (fail)
              have Hcv : Hid (∀ k, IntKind.i64.wrap (byt l k : Int) = (byt l k : Int)) := fun k => by
                have := getD_lt hl2.out k
                have h2 : byt l k < 256 := this
                rw [IntKind.wrap_i64]; omega
              refine wp_region_held (S := (fun V => ∀ i, i < l.length → V.cell? ⟨b, off + i, none⟩ = some (.int .u8 ((l.getD i 0 : Nat) : Int)))) (by kernel_rfl) ?_
              refine wpAnyH_take (i := 0) (oi := { dst := some 75, op := Go.Op.move (Go.Operand.tmp 0), type := 22, pos := "ref.go:113", after := #[], guard := none }) (v := ?_) rfl (by kernel_rfl) (by kernel_rfl) (by kernel_rfl) (fun _ _ _ h => h) (Or.inl ⟨by rfl, ?_⟩) (Hc2.out) ?_
              rotate_left 1
              · intro w5 hSw
                go_simp; all_goals (with_reducible rfl)
              try simp only [Act.put, List.setIfInBounds_toArray, List.set_cons_zero, List.set_cons_succ]
              refine wpAnyH_take (i := 1) (oi := { dst := some 76, op := Go.Op.indexAddr 22 (Go.Operand.tmp 75) (Go.Operand.const (Go.Value.int Go.IntKind.i64 97)), type := 0, pos := "ref.go:113", after := #[{ on := 0, ground := Go.Ground.data }], guard := none }) (v := ?_) rfl (by kernel_rfl) (by kernel_rfl) (by kernel_rfl) (fun _ _ _ h => h) (Or.inl ⟨by rfl, ?_⟩) (Hc2.out) ?_
              rotate_left 1
              · intro w5 hSw
                have hi5 : (97 : Int) < (L : Int) := by omega
                go_simp; all_goals (with_reducible rfl)
              try simp only [Act.put, List.setIfInBounds_toArray, List.set_cons_zero, List.set_cons_succ]
              refine wpAnyH_take (i := 2) (oi := { dst := some 77, op := Go.Op.load 5 (Go.Operand.tmp 76), type := 5, pos := "ref.go:113", after := #[{ on := 1, ground := Go.Ground.data }], guard := none }) (v := ?_) rfl (by kernel_rfl) (by kernel_rfl) (by kernel_rfl) (fun _ _ _ h => h) (Or.inl ⟨by rfl, ?_⟩) (Hc2.out) ?_
              rotate_left 1
              · intro w5 hSw
                have q : w5.cell? ⟨b, off + 97, none⟩ = some (.int .u8 (byt l 97 : Int)) := hSw 97 (by rw [← HL.out]; omega)
                go_simp; all_goals (with_reducible rfl)
              try simp only [Act.put, List.setIfInBounds_toArray, List.set_cons_zero, List.set_cons_succ]
              refine wpAnyH_take (i := 3) (oi := { dst := some 78, op := Go.Op.convert 5 3 (Go.Operand.tmp 77), type := 3, pos := "ref.go:113", after := #[{ on := 2, ground := Go.Ground.data }], guard := none }) (v := ?_) rfl (by kernel_rfl) (by kernel_rfl) (by kernel_rfl) (fun _ _ _ h => h) (Or.inl ⟨by rfl, ?_⟩) (Hc2.out) ?_
              rotate_left 1
              · intro w5 hSw
                have hcv : IntKind.i64.wrap (byt l 97 : Int) = (byt l 97 : Int) := Hcv.out 97
                go_simp; all_goals (with_reducible rfl)
              try simp only [Act.put, List.setIfInBounds_toArray, List.set_cons_zero, List.set_cons_succ]
              refine wpAnyH_take (i := 4) (oi := { dst := some 79, op := Go.Op.move (Go.Operand.tmp 0), type := 22, pos := "ref.go:113", after := #[{ on := 25, ground := Go.Ground.gcOnly Go.Departure.lateStores }], guard := none }) (v := ?_) rfl (by kernel_rfl) (by kernel_rfl) (by kernel_rfl) (fun _ _ _ h => h) (Or.inl ⟨by rfl, ?_⟩) (Hc2.out) ?_
              rotate_left 1
              · intro w5 hSw
                go_simp; all_goals (with_reducible rfl)
              try simp only [Act.put, List.setIfInBounds_toArray, List.set_cons_zero, List.set_cons_succ]
              refine wpAnyH_take (i := 5) (oi := { dst := some 80, op := Go.Op.indexAddr 22 (Go.Operand.tmp 79) (Go.Operand.const (Go.Value.int Go.IntKind.i64 98)), type := 0, pos := "ref.go:113", after := #[{ on := 4, ground := Go.Ground.data }, { on := 25, ground := Go.Ground.gcOnly Go.Departure.lateStores }], guard := none }) (v := ?_) rfl (by kernel_rfl) (by kernel_rfl) (by kernel_rfl) (fun _ _ _ h => h) (Or.inl ⟨by rfl, ?_⟩) (Hc2.out) ?_
              rotate_left 1
              · intro w5 hSw
                have hi5 : (98 : Int) < (L : Int) := by omega
                go_simp; all_goals (with_reducible rfl)
              try simp only [Act.put, List.setIfInBounds_toArray, List.set_cons_zero, List.set_cons_succ]
              refine wpAnyH_take (i := 6) (oi := { dst := some 81, op := Go.Op.load 5 (Go.Operand.tmp 80), type := 5, pos := "ref.go:113", after := #[{ on := 5, ground := Go.Ground.data }, { on := 25, ground := Go.Ground.gcOnly Go.Departure.lateStores }], guard := none }) (v := ?_) rfl (by kernel_rfl) (by kernel_rfl) (by kernel_rfl) (fun _ _ _ h => h) (Or.inl ⟨by rfl, ?_⟩) (Hc2.out) ?_
              rotate_left 1
              · intro w5 hSw
                have q : w5.cell? ⟨b, off + 98, none⟩ = some (.int .u8 (byt l 98 : Int)) := hSw 98 (by rw [← HL.out]; omega)
                go_simp; all_goals (with_reducible rfl)
              try simp only [Act.put, List.setIfInBounds_toArray, List.set_cons_zero, List.set_cons_succ]
              refine wpAnyH_take (i := 7) (oi := { dst := some 82, op := Go.Op.convert 5 3 (Go.Operand.tmp 81), type := 3, pos := "ref.go:113", after := #[{ on := 6, ground := Go.Ground.data }, { on := 25, ground := Go.Ground.gcOnly Go.Departure.lateStores }], guard := none }) (v := ?_) rfl (by kernel_rfl) (by kernel_rfl) (by kernel_rfl) (fun _ _ _ h => h) (Or.inl ⟨by rfl, ?_⟩) (Hc2.out) ?_
              rotate_left 1
              · intro w5 hSw
                have hcv : IntKind.i64.wrap (byt l 98 : Int) = (byt l 98 : Int) := Hcv.out 98
                go_simp; all_goals (with_reducible rfl)
              try simp only [Act.put, List.setIfInBounds_toArray, List.set_cons_zero, List.set_cons_succ]
              refine wpAnyH_take (i := 8) (oi := { dst := some 83, op := Go.Op.move (Go.Operand.tmp 0), type := 22, pos := "ref.go:113", after := #[{ on := 27, ground := Go.Ground.gcOnly Go.Departure.lateStores }], guard := none }) (v := ?_) rfl (by kernel_rfl) (by kernel_rfl) (by kernel_rfl) (fun _ _ _ h => h) (Or.inl ⟨by rfl, ?_⟩) (Hc2.out) ?_
              rotate_left 1
              · intro w5 hSw
                go_simp; all_goals (with_reducible rfl)
              try simp only [Act.put, List.setIfInBounds_toArray, List.set_cons_zero, List.set_cons_succ]
              refine wpAnyH_take (i := 9) (oi := { dst := some 84, op := Go.Op.indexAddr 22 (Go.Operand.tmp 83) (Go.Operand.const (Go.Value.int Go.IntKind.i64 99)), type := 0, pos := "ref.go:113", after := #[{ on := 8, ground := Go.Ground.data }, { on := 27, ground := Go.Ground.gcOnly Go.Departure.lateStores }], guard := none }) (v := ?_) rfl (by kernel_rfl) (by kernel_rfl) (by kernel_rfl) (fun _ _ _ h => h) (Or.inl ⟨by rfl, ?_⟩) (Hc2.out) ?_
              rotate_left 1
              · intro w5 hSw
                have hi5 : (99 : Int) < (L : Int) := by omega
                go_simp; all_goals (with_reducible rfl)
              try simp only [Act.put, List.setIfInBounds_toArray, List.set_cons_zero, List.set_cons_succ]
              refine wpAnyH_take (i := 10) (oi := { dst := some 85, op := Go.Op.load 5 (Go.Operand.tmp 84), type := 5, pos := "ref.go:113", after := #[{ on := 9, ground := Go.Ground.data }, { on := 27, ground := Go.Ground.gcOnly Go.Departure.lateStores }], guard := none }) (v := ?_) rfl (by kernel_rfl) (by kernel_rfl) (by kernel_rfl) (fun _ _ _ h => h) (Or.inl ⟨by rfl, ?_⟩) (Hc2.out) ?_
              rotate_left 1
              · intro w5 hSw
                have q : w5.cell? ⟨b, off + 99, none⟩ = some (.int .u8 (byt l 99 : Int)) := hSw 99 (by rw [← HL.out]; omega)
                go_simp; all_goals (with_reducible rfl)
              try simp only [Act.put, List.setIfInBounds_toArray, List.set_cons_zero, List.set_cons_succ]
              refine wpAnyH_take (i := 11) (oi := { dst := some 86, op := Go.Op.convert 5 3 (Go.Operand.tmp 85), type := 3, pos := "ref.go:113", after := #[{ on := 10, ground := Go.Ground.data }, { on := 27, ground := Go.Ground.gcOnly Go.Departure.lateStores }], guard := none }) (v := ?_) rfl (by kernel_rfl) (by kernel_rfl) (by kernel_rfl) (fun _ _ _ h => h) (Or.inl ⟨by rfl, ?_⟩) (Hc2.out) ?_
              rotate_left 1
              · intro w5 hSw
                have hcv : IntKind.i64.wrap (byt l 99 : Int) = (byt l 99 : Int) := Hcv.out 99
                go_simp; all_goals (with_reducible rfl)
              try simp only [Act.put, List.setIfInBounds_toArray, List.set_cons_zero, List.set_cons_succ]
              refine wpAnyH_take (i := 12) (oi := { dst := some 87, op := Go.Op.move (Go.Operand.tmp 0), type := 22, pos := "ref.go:113", after := #[{ on := 29, ground := Go.Ground.gcOnly Go.Departure.lateStores }], guard := none }) (v := ?_) rfl (by kernel_rfl) (by kernel_rfl) (by kernel_rfl) (fun _ _ _ h => h) (Or.inl ⟨by rfl, ?_⟩) (Hc2.out) ?_
              rotate_left 1
              · intro w5 hSw
                go_simp; all_goals (with_reducible rfl)
              try simp only [Act.put, List.setIfInBounds_toArray, List.set_cons_zero, List.set_cons_succ]
              refine wpAnyH_take (i := 13) (oi := { dst := some 88, op := Go.Op.indexAddr 22 (Go.Operand.tmp 87) (Go.Operand.const (Go.Value.int Go.IntKind.i64 100)), type := 0, pos := "ref.go:113", after := #[{ on := 12, ground := Go.Ground.data }, { on := 29, ground := Go.Ground.gcOnly Go.Departure.lateStores }], guard := none }) (v := ?_) rfl (by kernel_rfl) (by kernel_rfl) (by kernel_rfl) (fun _ _ _ h => h) (Or.inl ⟨by rfl, ?_⟩) (Hc2.out) ?_
              rotate_left 1
              · intro w5 hSw
                have hi5 : (100 : Int) < (L : Int) := by omega
                go_simp; all_goals (with_reducible rfl)
              try simp only [Act.put, List.setIfInBounds_toArray, List.set_cons_zero, List.set_cons_succ]
              refine wpAnyH_take (i := 14) (oi := { dst := some 89, op := Go.Op.load 5 (Go.Operand.tmp 88), type := 5, pos := "ref.go:113", after := #[{ on := 13, ground := Go.Ground.data }, { on := 29, ground := Go.Ground.gcOnly Go.Departure.lateStores }], guard := none }) (v := ?_) rfl (by kernel_rfl) (by kernel_rfl) (by kernel_rfl) (fun _ _ _ h => h) (Or.inl ⟨by rfl, ?_⟩) (Hc2.out) ?_
              rotate_left 1
              · intro w5 hSw
                have q : w5.cell? ⟨b, off + 100, none⟩ = some (.int .u8 (byt l 100 : Int)) := hSw 100 (by rw [← HL.out]; omega)
                go_simp; all_goals (with_reducible rfl)
              try simp only [Act.put, List.setIfInBounds_toArray, List.set_cons_zero, List.set_cons_succ]
              refine wpAnyH_take (i := 15) (oi := { dst := some 90, op := Go.Op.convert 5 3 (Go.Operand.tmp 89), type := 3, pos := "ref.go:113", after := #[{ on := 14, ground := Go.Ground.data }, { on := 29, ground := Go.Ground.gcOnly Go.Departure.lateStores }], guard := none }) (v := ?_) rfl (by kernel_rfl) (by kernel_rfl) (by kernel_rfl) (fun _ _ _ h => h) (Or.inl ⟨by rfl, ?_⟩) (Hc2.out) ?_
              rotate_left 1
              · intro w5 hSw
                have hcv : IntKind.i64.wrap (byt l 100 : Int) = (byt l 100 : Int) := Hcv.out 100
                go_simp; all_goals (with_reducible rfl)
              try simp only [Act.put, List.setIfInBounds_toArray, List.set_cons_zero, List.set_cons_succ]
              refine wpAnyH_take (i := 16) (oi := { dst := some 91, op := Go.Op.move (Go.Operand.tmp 0), type := 22, pos := "ref.go:113", after := #[{ on := 31, ground := Go.Ground.gcOnly Go.Departure.lateStores }], guard := none }) (v := ?_) rfl (by kernel_rfl) (by kernel_rfl) (by kernel_rfl) (fun _ _ _ h => h) (Or.inl ⟨by rfl, ?_⟩) (Hc2.out) ?_
              rotate_left 1
              · intro w5 hSw
                go_simp; all_goals (with_reducible rfl)
              try simp only [Act.put, List.setIfInBounds_toArray, List.set_cons_zero, List.set_cons_succ]
              refine wpAnyH_take (i := 17) (oi := { dst := some 92, op := Go.Op.indexAddr 22 (Go.Operand.tmp 91) (Go.Operand.const (Go.Value.int Go.IntKind.i64 101)), type := 0, pos := "ref.go:113", after := #[{ on := 16, ground := Go.Ground.data }, { on := 31, ground := Go.Ground.gcOnly Go.Departure.lateStores }], guard := none }) (v := ?_) rfl (by kernel_rfl) (by kernel_rfl) (by kernel_rfl) (fun _ _ _ h => h) (Or.inl ⟨by rfl, ?_⟩) (Hc2.out) ?_
              rotate_left 1
              · intro w5 hSw
                have hi5 : (101 : Int) < (L : Int) := by omega
                go_simp; all_goals (with_reducible rfl)
              try simp only [Act.put, List.setIfInBounds_toArray, List.set_cons_zero, List.set_cons_succ]
              refine wpAnyH_take (i := 18) (oi := { dst := some 93, op := Go.Op.load 5 (Go.Operand.tmp 92), type := 5, pos := "ref.go:113", after := #[{ on := 17, ground := Go.Ground.data }, { on := 31, ground := Go.Ground.gcOnly Go.Departure.lateStores }], guard := none }) (v := ?_) rfl (by kernel_rfl) (by kernel_rfl) (by kernel_rfl) (fun _ _ _ h => h) (Or.inl ⟨by rfl, ?_⟩) (Hc2.out) ?_
              rotate_left 1
              · intro w5 hSw
                have q : w5.cell? ⟨b, off + 101, none⟩ = some (.int .u8 (byt l 101 : Int)) := hSw 101 (by rw [← HL.out]; omega)
                go_simp; all_goals (with_reducible rfl)
              try simp only [Act.put, List.setIfInBounds_toArray, List.set_cons_zero, List.set_cons_succ]
              refine wpAnyH_take (i := 19) (oi := { dst := some 94, op := Go.Op.convert 5 3 (Go.Operand.tmp 93), type := 3, pos := "ref.go:113", after := #[{ on := 18, ground := Go.Ground.data }, { on := 31, ground := Go.Ground.gcOnly Go.Departure.lateStores }], guard := none }) (v := ?_) rfl (by kernel_rfl) (by kernel_rfl) (by kernel_rfl) (fun _ _ _ h => h) (Or.inl ⟨by rfl, ?_⟩) (Hc2.out) ?_
              rotate_left 1
              · intro w5 hSw
                have hcv : IntKind.i64.wrap (byt l 101 : Int) = (byt l 101 : Int) := Hcv.out 101
                go_simp; all_goals (with_reducible rfl)
              try simp only [Act.put, List.setIfInBounds_toArray, List.set_cons_zero, List.set_cons_succ]
              refine wpAnyH_take (i := 20) (oi := { dst := some 95, op := Go.Op.move (Go.Operand.tmp 0), type := 22, pos := "ref.go:113", after := #[{ on := 33, ground := Go.Ground.gcOnly Go.Departure.lateStores }], guard := none }) (v := ?_) rfl (by kernel_rfl) (by kernel_rfl) (by kernel_rfl) (fun _ _ _ h => h) (Or.inl ⟨by rfl, ?_⟩) (Hc2.out) ?_
              rotate_left 1
              · intro w5 hSw
                go_simp; all_goals (with_reducible rfl)
              try simp only [Act.put, List.setIfInBounds_toArray, List.set_cons_zero, List.set_cons_succ]
              refine wpAnyH_take (i := 21) (oi := { dst := some 96, op := Go.Op.indexAddr 22 (Go.Operand.tmp 95) (Go.Operand.const (Go.Value.int Go.IntKind.i64 118)), type := 0, pos := "ref.go:113", after := #[{ on := 20, ground := Go.Ground.data }, { on := 33, ground := Go.Ground.gcOnly Go.Departure.lateStores }], guard := none }) (v := ?_) rfl (by kernel_rfl) (by kernel_rfl) (by kernel_rfl) (fun _ _ _ h => h) (Or.inl ⟨by rfl, ?_⟩) (Hc2.out) ?_
              rotate_left 1
              · intro w5 hSw
                have hi5 : (118 : Int) < (L : Int) := by omega
                go_simp; all_goals (with_reducible rfl)
              try simp only [Act.put, List.setIfInBounds_toArray, List.set_cons_zero, List.set_cons_succ]
              refine wpAnyH_take (i := 22) (oi := { dst := some 97, op := Go.Op.load 5 (Go.Operand.tmp 96), type := 5, pos := "ref.go:113", after := #[{ on := 21, ground := Go.Ground.data }, { on := 33, ground := Go.Ground.gcOnly Go.Departure.lateStores }], guard := none }) (v := ?_) rfl (by kernel_rfl) (by kernel_rfl) (by kernel_rfl) (fun _ _ _ h => h) (Or.inl ⟨by rfl, ?_⟩) (Hc2.out) ?_
              rotate_left 1
              · intro w5 hSw
                have q : w5.cell? ⟨b, off + 118, none⟩ = some (.int .u8 (byt l 118 : Int)) := hSw 118 (by rw [← HL.out]; omega)
                go_simp; all_goals (with_reducible rfl)
              try simp only [Act.put, List.setIfInBounds_toArray, List.set_cons_zero, List.set_cons_succ]
              refine wpAnyH_take (i := 23) (oi := { dst := some 98, op := Go.Op.convert 5 3 (Go.Operand.tmp 97), type := 3, pos := "ref.go:113", after := #[{ on := 22, ground := Go.Ground.data }, { on := 33, ground := Go.Ground.gcOnly Go.Departure.lateStores }], guard := none }) (v := ?_) rfl (by kernel_rfl) (by kernel_rfl) (by kernel_rfl) (fun _ _ _ h => h) (Or.inl ⟨by rfl, ?_⟩) (Hc2.out) ?_
              rotate_left 1
              · intro w5 hSw
                have hcv : IntKind.i64.wrap (byt l 118 : Int) = (byt l 118 : Int) := Hcv.out 118
                go_simp; all_goals (with_reducible rfl)
              try simp only [Act.put, List.setIfInBounds_toArray, List.set_cons_zero, List.set_cons_succ]
              refine wpAnyH_take (i := 24) (oi := { dst := some 99, op := Go.Op.fieldAddr 29 (Go.Operand.tmp 6) 6, type := 0, pos := "ref.go:113", after := #[{ on := 0, ground := Go.Ground.phase }, { on := 1, ground := Go.Ground.phase }, { on := 2, ground := Go.Ground.phase }, { on := 3, ground := Go.Ground.phase }, { on := 4, ground := Go.Ground.textOnly Go.Departure.lateStores }, { on := 5, ground := Go.Ground.textOnly Go.Departure.lateStores }, { on := 6, ground := Go.Ground.textOnly Go.Departure.lateStores }, { on := 7, ground := Go.Ground.textOnly Go.Departure.lateStores }, { on := 8, ground := Go.Ground.textOnly Go.Departure.lateStores }, { on := 9, ground := Go.Ground.textOnly Go.Departure.lateStores }, { on := 10, ground := Go.Ground.textOnly Go.Departure.lateStores }, { on := 11, ground := Go.Ground.textOnly Go.Departure.lateStores }, { on := 12, ground := Go.Ground.textOnly Go.Departure.lateStores }, { on := 13, ground := Go.Ground.textOnly Go.Departure.lateStores }, { on := 14, ground := Go.Ground.textOnly Go.Departure.lateStores }, { on := 15, ground := Go.Ground.textOnly Go.Departure.lateStores }, { on := 16, ground := Go.Ground.textOnly Go.Departure.lateStores }, { on := 17, ground := Go.Ground.textOnly Go.Departure.lateStores }, { on := 18, ground := Go.Ground.textOnly Go.Departure.lateStores }, { on := 19, ground := Go.Ground.textOnly Go.Departure.lateStores }, { on := 20, ground := Go.Ground.textOnly Go.Departure.lateStores }, { on := 21, ground := Go.Ground.textOnly Go.Departure.lateStores }, { on := 22, ground := Go.Ground.textOnly Go.Departure.lateStores }, { on := 23, ground := Go.Ground.textOnly Go.Departure.lateStores }], guard := none }) (v := ?_) rfl (by kernel_rfl) (by kernel_rfl) (by kernel_rfl) (fun _ _ _ h => h) (Or.inl ⟨by rfl, ?_⟩) (Hc2.out) ?_
              rotate_left 1
              · intro w5 hSw
                go_simp; all_goals (with_reducible rfl)
              try simp only [Act.put, List.setIfInBounds_toArray, List.set_cons_zero, List.set_cons_succ]
              refine wpAnyH_ready (rs := [25]) (by kernel_rfl) (by simp) ?_
              refine AllReadyH.cons (o := { dst := none, op := Go.Op.store 3 (Go.Operand.tmp 99) (Go.Operand.tmp 78), type := 0, pos := "ref.go:113", after := #[{ on := 24, ground := Go.Ground.data }, { on := 3, ground := Go.Ground.data }, { on := 0, ground := Go.Ground.phase }, { on := 1, ground := Go.Ground.phase }, { on := 2, ground := Go.Ground.phase }, { on := 3, ground := Go.Ground.phase }, { on := 4, ground := Go.Ground.textOnly Go.Departure.lateStores }, { on := 5, ground := Go.Ground.textOnly Go.Departure.lateStores }, { on := 6, ground := Go.Ground.textOnly Go.Departure.lateStores }, { on := 7, ground := Go.Ground.textOnly Go.Departure.lateStores }, { on := 8, ground := Go.Ground.textOnly Go.Departure.lateStores }, { on := 9, ground := Go.Ground.textOnly Go.Departure.lateStores }, { on := 10, ground := Go.Ground.textOnly Go.Departure.lateStores }, { on := 11, ground := Go.Ground.textOnly Go.Departure.lateStores }, { on := 12, ground := Go.Ground.textOnly Go.Departure.lateStores }, { on := 13, ground := Go.Ground.textOnly Go.Departure.lateStores }, { on := 14, ground := Go.Ground.textOnly Go.Departure.lateStores }, { on := 15, ground := Go.Ground.textOnly Go.Departure.lateStores }, { on := 16, ground := Go.Ground.textOnly Go.Departure.lateStores }, { on := 17, ground := Go.Ground.textOnly Go.Departure.lateStores }, { on := 18, ground := Go.Ground.textOnly Go.Departure.lateStores }, { on := 19, ground := Go.Ground.textOnly Go.Departure.lateStores }, { on := 20, ground := Go.Ground.textOnly Go.Departure.lateStores }, { on := 21, ground := Go.Ground.textOnly Go.Departure.lateStores }, { on := 22, ground := Go.Ground.textOnly Go.Departure.lateStores }, { on := 23, ground := Go.Ground.textOnly Go.Departure.lateStores }], guard := none }) rfl (fun K hK => ?_) AllReadyH.nil
              have q0 : D2.cell? ⟨s6, 12, none⟩ = some (.int .i64 0) := HW0.out.cell 12
              have f0 := HW0.out.frozen 12
              have hcc0 : Hid (∀ i, i < l.length → (D2.setCell ⟨s6, 12, none⟩ (.int .i64 (byt l 97 : Int))).cell? ⟨b, off + i, none⟩ = some (.int .u8 ((l.getD i 0 : Nat) : Int))) := fun i hi => (World.cell?_setCell_far _ ⟨s6, 12, none⟩ _ _ hsb.out.1).trans (Hc2.out i hi)
              go_simp
              refine hK.out _ ((D2.setCell ⟨s6, 12, none⟩ (.int .i64 (byt l 97 : Int))).drew) (hcc0.out) (fun _ => ?_)
              clear hK K
              try simp only [Act.put, List.setIfInBounds_toArray, List.set_cons_zero, List.set_cons_succ]
              obtain ⟨E1, hE⟩ : ∃ D, D = (D2.setCell ⟨s6, 12, none⟩ (.int .i64 (byt l 97 : Int))) := ⟨_, rfl⟩
              rw [← hE]
              have HWE1 := Lib.hid (show Whole E1 s6 29 (Hd.mk (num l 8) (num l 16) (num l 24) (num l 32) (num l 40) (num l 48) (num l 56) (num l 64) (num l 72) (num l 80) (num l 88) (cb) ((byt l 97 : Int)) (0) (0) (0) (0) (0) (0) (0) (0) (0) (0) (0)).cells from hE ▸ HW0.out.set 12 _)
              have HRE1 := Lib.hid (show Whole E1 r 29 zHd.cells from hE ▸ HR2.out.far hsb.out.2.1 _)
              have HBE1 := Lib.hid (show Below w.heap.size w E1 from hE ▸ HB2.out.setCell hsb.out.2.2 _)
              have HcE1 : Hid (∀ i, i < l.length → E1.cell? ⟨b, off + i, none⟩ = some (.int .u8 ((l.getD i 0 : Nat) : Int))) := hE ▸ hcc0
              clear hE hcc0 q0 f0 HW0 HR2 HB2 Hc2
              refine wpAnyH_take (i := 26) (oi := { dst := some 100, op := Go.Op.fieldAddr 29 (Go.Operand.tmp 6) 7, type := 0, pos := "ref.go:113", after := #[{ on := 0, ground := Go.Ground.phase }, { on := 1, ground := Go.Ground.phase }, { on := 2, ground := Go.Ground.phase }, { on := 3, ground := Go.Ground.phase }, { on := 4, ground := Go.Ground.phase }, { on := 5, ground := Go.Ground.phase }, { on := 6, ground := Go.Ground.phase }, { on := 7, ground := Go.Ground.phase }, { on := 8, ground := Go.Ground.textOnly Go.Departure.lateStores }, { on := 9, ground := Go.Ground.textOnly Go.Departure.lateStores }, { on := 10, ground := Go.Ground.textOnly Go.Departure.lateStores }, { on := 11, ground := Go.Ground.textOnly Go.Departure.lateStores }, { on := 12, ground := Go.Ground.textOnly Go.Departure.lateStores }, { on := 13, ground := Go.Ground.textOnly Go.Departure.lateStores }, { on := 14, ground := Go.Ground.textOnly Go.Departure.lateStores }, { on := 15, ground := Go.Ground.textOnly Go.Departure.lateStores }, { on := 16, ground := Go.Ground.textOnly Go.Departure.lateStores }, { on := 17, ground := Go.Ground.textOnly Go.Departure.lateStores }, { on := 18, ground := Go.Ground.textOnly Go.Departure.lateStores }, { on := 19, ground := Go.Ground.textOnly Go.Departure.lateStores }, { on := 20, ground := Go.Ground.textOnly Go.Departure.lateStores }, { on := 21, ground := Go.Ground.textOnly Go.Departure.lateStores }, { on := 22, ground := Go.Ground.textOnly Go.Departure.lateStores }, { on := 23, ground := Go.Ground.textOnly Go.Departure.lateStores }, { on := 24, ground := Go.Ground.phase }, { on := 25, ground := Go.Ground.phase }], guard := none }) (v := ?_) rfl (by kernel_rfl) (by kernel_rfl) (by kernel_rfl) (fun _ _ _ h => h) (Or.inl ⟨by rfl, ?_⟩) (HcE1.out) ?_
              rotate_left 1
              · intro w5 hSw
                go_simp; all_goals (with_reducible rfl)
              try simp only [Act.put, List.setIfInBounds_toArray, List.set_cons_zero, List.set_cons_succ]
              refine wpAnyH_ready (rs := [27]) (by kernel_rfl) (by simp) ?_
              refine AllReadyH.cons (o := { dst := none, op := Go.Op.store 3 (Go.Operand.tmp 100) (Go.Operand.tmp 82), type := 0, pos := "ref.go:113", after := #[{ on := 26, ground := Go.Ground.data }, { on := 7, ground := Go.Ground.data }, { on := 25, ground := Go.Ground.chain }, { on := 0, ground := Go.Ground.phase }, { on := 1, ground := Go.Ground.phase }, { on := 2, ground := Go.Ground.phase }, { on := 3, ground := Go.Ground.phase }, { on := 4, ground := Go.Ground.phase }, { on := 5, ground := Go.Ground.phase }, { on := 6, ground := Go.Ground.phase }, { on := 7, ground := Go.Ground.phase }, { on := 8, ground := Go.Ground.textOnly Go.Departure.lateStores }, { on := 9, ground := Go.Ground.textOnly Go.Departure.lateStores }, { on := 10, ground := Go.Ground.textOnly Go.Departure.lateStores }, { on := 11, ground := Go.Ground.textOnly Go.Departure.lateStores }, { on := 12, ground := Go.Ground.textOnly Go.Departure.lateStores }, { on := 13, ground := Go.Ground.textOnly Go.Departure.lateStores }, { on := 14, ground := Go.Ground.textOnly Go.Departure.lateStores }, { on := 15, ground := Go.Ground.textOnly Go.Departure.lateStores }, { on := 16, ground := Go.Ground.textOnly Go.Departure.lateStores }, { on := 17, ground := Go.Ground.textOnly Go.Departure.lateStores }, { on := 18, ground := Go.Ground.textOnly Go.Departure.lateStores }, { on := 19, ground := Go.Ground.textOnly Go.Departure.lateStores }, { on := 20, ground := Go.Ground.textOnly Go.Departure.lateStores }, { on := 21, ground := Go.Ground.textOnly Go.Departure.lateStores }, { on := 22, ground := Go.Ground.textOnly Go.Departure.lateStores }, { on := 23, ground := Go.Ground.textOnly Go.Departure.lateStores }, { on := 24, ground := Go.Ground.phase }, { on := 25, ground := Go.Ground.phase }], guard := none }) rfl (fun K hK => ?_) AllReadyH.nil
              have q1 : E1.cell? ⟨s6, 13, none⟩ = some (.int .i64 0) := HWE1.out.cell 13
              have f1 := HWE1.out.frozen 13
              have hcc1 : Hid (∀ i, i < l.length → (E1.setCell ⟨s6, 13, none⟩ (.int .i64 (byt l 98 : Int))).cell? ⟨b, off + i, none⟩ = some (.int .u8 ((l.getD i 0 : Nat) : Int))) := fun i hi => (World.cell?_setCell_far _ ⟨s6, 13, none⟩ _ _ hsb.out.1).trans (HcE1.out i hi)
              go_simp
              refine hK.out _ ((E1.setCell ⟨s6, 13, none⟩ (.int .i64 (byt l 98 : Int))).drew) (hcc1.out) (fun _ => ?_)
              clear hK K
              try simp only [Act.put, List.setIfInBounds_toArray, List.set_cons_zero, List.set_cons_succ]
              obtain ⟨E2, hE⟩ : ∃ D, D = (E1.setCell ⟨s6, 13, none⟩ (.int .i64 (byt l 98 : Int))) := ⟨_, rfl⟩
              rw [← hE]
              have HWE2 := Lib.hid (show Whole E2 s6 29 (Hd.mk (num l 8) (num l 16) (num l 24) (num l 32) (num l 40) (num l 48) (num l 56) (num l 64) (num l 72) (num l 80) (num l 88) (cb) ((byt l 97 : Int)) ((byt l 98 : Int)) (0) (0) (0) (0) (0) (0) (0) (0) (0) (0)).cells from hE ▸ HWE1.out.set 13 _)
              have HRE2 := Lib.hid (show Whole E2 r 29 zHd.cells from hE ▸ HRE1.out.far hsb.out.2.1 _)
              have HBE2 := Lib.hid (show Below w.heap.size w E2 from hE ▸ HBE1.out.setCell hsb.out.2.2 _)
              have HcE2 : Hid (∀ i, i < l.length → E2.cell? ⟨b, off + i, none⟩ = some (.int .u8 ((l.getD i 0 : Nat) : Int))) := hE ▸ hcc1
              clear hE hcc1 q1 f1 HWE1 HRE1 HBE1 HcE1
              refine wpAnyH_take (i := 28) (oi := { dst := some 101, op := Go.Op.fieldAddr 29 (Go.Operand.tmp 6) 8, type := 0, pos := "ref.go:113", after := #[{ on := 0, ground := Go.Ground.phase }, { on := 1, ground := Go.Ground.phase }, { on := 2, ground := Go.Ground.phase }, { on := 3, ground := Go.Ground.phase }, { on := 4, ground := Go.Ground.phase }, { on := 5, ground := Go.Ground.phase }, { on := 6, ground := Go.Ground.phase }, { on := 7, ground := Go.Ground.phase }, { on := 8, ground := Go.Ground.phase }, { on := 9, ground := Go.Ground.phase }, { on := 10, ground := Go.Ground.phase }, { on := 11, ground := Go.Ground.phase }, { on := 12, ground := Go.Ground.textOnly Go.Departure.lateStores }, { on := 13, ground := Go.Ground.textOnly Go.Departure.lateStores }, { on := 14, ground := Go.Ground.textOnly Go.Departure.lateStores }, { on := 15, ground := Go.Ground.textOnly Go.Departure.lateStores }, { on := 16, ground := Go.Ground.textOnly Go.Departure.lateStores }, { on := 17, ground := Go.Ground.textOnly Go.Departure.lateStores }, { on := 18, ground := Go.Ground.textOnly Go.Departure.lateStores }, { on := 19, ground := Go.Ground.textOnly Go.Departure.lateStores }, { on := 20, ground := Go.Ground.textOnly Go.Departure.lateStores }, { on := 21, ground := Go.Ground.textOnly Go.Departure.lateStores }, { on := 22, ground := Go.Ground.textOnly Go.Departure.lateStores }, { on := 23, ground := Go.Ground.textOnly Go.Departure.lateStores }, { on := 24, ground := Go.Ground.phase }, { on := 25, ground := Go.Ground.phase }, { on := 26, ground := Go.Ground.phase }, { on := 27, ground := Go.Ground.phase }], guard := none }) (v := ?_) rfl (by kernel_rfl) (by kernel_rfl) (by kernel_rfl) (fun _ _ _ h => h) (Or.inl ⟨by rfl, ?_⟩) (HcE2.out) ?_
              rotate_left 1
              · intro w5 hSw
                go_simp; all_goals (with_reducible rfl)
              try simp only [Act.put, List.setIfInBounds_toArray, List.set_cons_zero, List.set_cons_succ]
              refine wpAnyH_ready (rs := [29]) (by kernel_rfl) (by simp) ?_
              refine AllReadyH.cons (o := { dst := none, op := Go.Op.store 3 (Go.Operand.tmp 101) (Go.Operand.tmp 86), type := 0, pos := "ref.go:113", after := #[{ on := 28, ground := Go.Ground.data }, { on := 11, ground := Go.Ground.data }, { on := 27, ground := Go.Ground.chain }, { on := 0, ground := Go.Ground.phase }, { on := 1, ground := Go.Ground.phase }, { on := 2, ground := Go.Ground.phase }, { on := 3, ground := Go.Ground.phase }, { on := 4, ground := Go.Ground.phase }, { on := 5, ground := Go.Ground.phase }, { on := 6, ground := Go.Ground.phase }, { on := 7, ground := Go.Ground.phase }, { on := 8, ground := Go.Ground.phase }, { on := 9, ground := Go.Ground.phase }, { on := 10, ground := Go.Ground.phase }, { on := 11, ground := Go.Ground.phase }, { on := 12, ground := Go.Ground.textOnly Go.Departure.lateStores }, { on := 13, ground := Go.Ground.textOnly Go.Departure.lateStores }, { on := 14, ground := Go.Ground.textOnly Go.Departure.lateStores }, { on := 15, ground := Go.Ground.textOnly Go.Departure.lateStores }, { on := 16, ground := Go.Ground.textOnly Go.Departure.lateStores }, { on := 17, ground := Go.Ground.textOnly Go.Departure.lateStores }, { on := 18, ground := Go.Ground.textOnly Go.Departure.lateStores }, { on := 19, ground := Go.Ground.textOnly Go.Departure.lateStores }, { on := 20, ground := Go.Ground.textOnly Go.Departure.lateStores }, { on := 21, ground := Go.Ground.textOnly Go.Departure.lateStores }, { on := 22, ground := Go.Ground.textOnly Go.Departure.lateStores }, { on := 23, ground := Go.Ground.textOnly Go.Departure.lateStores }, { on := 24, ground := Go.Ground.phase }, { on := 25, ground := Go.Ground.phase }, { on := 26, ground := Go.Ground.phase }, { on := 27, ground := Go.Ground.phase }], guard := none }) rfl (fun K hK => ?_) AllReadyH.nil
              have q2 : E2.cell? ⟨s6, 14, none⟩ = some (.int .i64 0) := HWE2.out.cell 14
              have f2 := HWE2.out.frozen 14
              have hcc2 : Hid (∀ i, i < l.length → (E2.setCell ⟨s6, 14, none⟩ (.int .i64 (byt l 99 : Int))).cell? ⟨b, off + i, none⟩ = some (.int .u8 ((l.getD i 0 : Nat) : Int))) := fun i hi => (World.cell?_setCell_far _ ⟨s6, 14, none⟩ _ _ hsb.out.1).trans (HcE2.out i hi)
              go_simp
              refine hK.out _ ((E2.setCell ⟨s6, 14, none⟩ (.int .i64 (byt l 99 : Int))).drew) (hcc2.out) (fun _ => ?_)
              clear hK K
              try simp only [Act.put, List.setIfInBounds_toArray, List.set_cons_zero, List.set_cons_succ]
              obtain ⟨E3, hE⟩ : ∃ D, D = (E2.setCell ⟨s6, 14, none⟩ (.int .i64 (byt l 99 : Int))) := ⟨_, rfl⟩
              rw [← hE]
              have HWE3 := Lib.hid (show Whole E3 s6 29 (Hd.mk (num l 8) (num l 16) (num l 24) (num l 32) (num l 40) (num l 48) (num l 56) (num l 64) (num l 72) (num l 80) (num l 88) (cb) ((byt l 97 : Int)) ((byt l 98 : Int)) ((byt l 99 : Int)) (0) (0) (0) (0) (0) (0) (0) (0) (0)).cells from hE ▸ HWE2.out.set 14 _)
              have HRE3 := Lib.hid (show Whole E3 r 29 zHd.cells from hE ▸ HRE2.out.far hsb.out.2.1 _)
              have HBE3 := Lib.hid (show Below w.heap.size w E3 from hE ▸ HBE2.out.setCell hsb.out.2.2 _)
              have HcE3 : Hid (∀ i, i < l.length → E3.cell? ⟨b, off + i, none⟩ = some (.int .u8 ((l.getD i 0 : Nat) : Int))) := hE ▸ hcc2
              clear hE hcc2 q2 f2 HWE2 HRE2 HBE2 HcE2
              refine wpAnyH_take (i := 30) (oi := { dst := some 102, op := Go.Op.fieldAddr 29 (Go.Operand.tmp 6) 9, type := 0, pos := "ref.go:113", after := #[{ on := 0, ground := Go.Ground.phase }, { on := 1, ground := Go.Ground.phase }, { on := 2, ground := Go.Ground.phase }, { on := 3, ground := Go.Ground.phase }, { on := 4, ground := Go.Ground.phase }, { on := 5, ground := Go.Ground.phase }, { on := 6, ground := Go.Ground.phase }, { on := 7, ground := Go.Ground.phase }, { on := 8, ground := Go.Ground.phase }, { on := 9, ground := Go.Ground.phase }, { on := 10, ground := Go.Ground.phase }, { on := 11, ground := Go.Ground.phase }, { on := 12, ground := Go.Ground.phase }, { on := 13, ground := Go.Ground.phase }, { on := 14, ground := Go.Ground.phase }, { on := 15, ground := Go.Ground.phase }, { on := 16, ground := Go.Ground.textOnly Go.Departure.lateStores }, { on := 17, ground := Go.Ground.textOnly Go.Departure.lateStores }, { on := 18, ground := Go.Ground.textOnly Go.Departure.lateStores }, { on := 19, ground := Go.Ground.textOnly Go.Departure.lateStores }, { on := 20, ground := Go.Ground.textOnly Go.Departure.lateStores }, { on := 21, ground := Go.Ground.textOnly Go.Departure.lateStores }, { on := 22, ground := Go.Ground.textOnly Go.Departure.lateStores }, { on := 23, ground := Go.Ground.textOnly Go.Departure.lateStores }, { on := 24, ground := Go.Ground.phase }, { on := 25, ground := Go.Ground.phase }, { on := 26, ground := Go.Ground.phase }, { on := 27, ground := Go.Ground.phase }, { on := 28, ground := Go.Ground.phase }, { on := 29, ground := Go.Ground.phase }], guard := none }) (v := ?_) rfl (by kernel_rfl) (by kernel_rfl) (by kernel_rfl) (fun _ _ _ h => h) (Or.inl ⟨by rfl, ?_⟩) (HcE3.out) ?_
              rotate_left 1
              · intro w5 hSw
                go_simp; all_goals (with_reducible rfl)
              try simp only [Act.put, List.setIfInBounds_toArray, List.set_cons_zero, List.set_cons_succ]
              refine wpAnyH_ready (rs := [31]) (by kernel_rfl) (by simp) ?_
              refine AllReadyH.cons (o := { dst := none, op := Go.Op.store 3 (Go.Operand.tmp 102) (Go.Operand.tmp 90), type := 0, pos := "ref.go:113", after := #[{ on := 30, ground := Go.Ground.data }, { on := 15, ground := Go.Ground.data }, { on := 29, ground := Go.Ground.chain }, { on := 0, ground := Go.Ground.phase }, { on := 1, ground := Go.Ground.phase }, { on := 2, ground := Go.Ground.phase }, { on := 3, ground := Go.Ground.phase }, { on := 4, ground := Go.Ground.phase }, { on := 5, ground := Go.Ground.phase }, { on := 6, ground := Go.Ground.phase }, { on := 7, ground := Go.Ground.phase }, { on := 8, ground := Go.Ground.phase }, { on := 9, ground := Go.Ground.phase }, { on := 10, ground := Go.Ground.phase }, { on := 11, ground := Go.Ground.phase }, { on := 12, ground := Go.Ground.phase }, { on := 13, ground := Go.Ground.phase }, { on := 14, ground := Go.Ground.phase }, { on := 15, ground := Go.Ground.phase }, { on := 16, ground := Go.Ground.textOnly Go.Departure.lateStores }, { on := 17, ground := Go.Ground.textOnly Go.Departure.lateStores }, { on := 18, ground := Go.Ground.textOnly Go.Departure.lateStores }, { on := 19, ground := Go.Ground.textOnly Go.Departure.lateStores }, { on := 20, ground := Go.Ground.textOnly Go.Departure.lateStores }, { on := 21, ground := Go.Ground.textOnly Go.Departure.lateStores }, { on := 22, ground := Go.Ground.textOnly Go.Departure.lateStores }, { on := 23, ground := Go.Ground.textOnly Go.Departure.lateStores }, { on := 24, ground := Go.Ground.phase }, { on := 25, ground := Go.Ground.phase }, { on := 26, ground := Go.Ground.phase }, { on := 27, ground := Go.Ground.phase }, { on := 28, ground := Go.Ground.phase }, { on := 29, ground := Go.Ground.phase }], guard := none }) rfl (fun K hK => ?_) AllReadyH.nil
              have q3 : E3.cell? ⟨s6, 15, none⟩ = some (.int .i64 0) := HWE3.out.cell 15
              have f3 := HWE3.out.frozen 15
              have hcc3 : Hid (∀ i, i < l.length → (E3.setCell ⟨s6, 15, none⟩ (.int .i64 (byt l 100 : Int))).cell? ⟨b, off + i, none⟩ = some (.int .u8 ((l.getD i 0 : Nat) : Int))) := fun i hi => (World.cell?_setCell_far _ ⟨s6, 15, none⟩ _ _ hsb.out.1).trans (HcE3.out i hi)
              go_simp
              refine hK.out _ ((E3.setCell ⟨s6, 15, none⟩ (.int .i64 (byt l 100 : Int))).drew) (hcc3.out) (fun _ => ?_)
              clear hK K
              try simp only [Act.put, List.setIfInBounds_toArray, List.set_cons_zero, List.set_cons_succ]
              obtain ⟨E4, hE⟩ : ∃ D, D = (E3.setCell ⟨s6, 15, none⟩ (.int .i64 (byt l 100 : Int))) := ⟨_, rfl⟩
              rw [← hE]
              have HWE4 := Lib.hid (show Whole E4 s6 29 (Hd.mk (num l 8) (num l 16) (num l 24) (num l 32) (num l 40) (num l 48) (num l 56) (num l 64) (num l 72) (num l 80) (num l 88) (cb) ((byt l 97 : Int)) ((byt l 98 : Int)) ((byt l 99 : Int)) ((byt l 100 : Int)) (0) (0) (0) (0) (0) (0) (0) (0)).cells from hE ▸ HWE3.out.set 15 _)
              have HRE4 := Lib.hid (show Whole E4 r 29 zHd.cells from hE ▸ HRE3.out.far hsb.out.2.1 _)
              have HBE4 := Lib.hid (show Below w.heap.size w E4 from hE ▸ HBE3.out.setCell hsb.out.2.2 _)
              have HcE4 : Hid (∀ i, i < l.length → E4.cell? ⟨b, off + i, none⟩ = some (.int .u8 ((l.getD i 0 : Nat) : Int))) := hE ▸ hcc3
              clear hE hcc3 q3 f3 HWE3 HRE3 HBE3 HcE3
              refine wpAnyH_take (i := 32) (oi := { dst := some 103, op := Go.Op.fieldAddr 29 (Go.Operand.tmp 6) 10, type := 0, pos := "ref.go:113", after := #[{ on := 0, ground := Go.Ground.phase }, { on := 1, ground := Go.Ground.phase }, { on := 2, ground := Go.Ground.phase }, { on := 3, ground := Go.Ground.phase }, { on := 4, ground := Go.Ground.phase }, { on := 5, ground := Go.Ground.phase }, { on := 6, ground := Go.Ground.phase }, { on := 7, ground := Go.Ground.phase }, { on := 8, ground := Go.Ground.phase }, { on := 9, ground := Go.Ground.phase }, { on := 10, ground := Go.Ground.phase }, { on := 11, ground := Go.Ground.phase }, { on := 12, ground := Go.Ground.phase }, { on := 13, ground := Go.Ground.phase }, { on := 14, ground := Go.Ground.phase }, { on := 15, ground := Go.Ground.phase }, { on := 16, ground := Go.Ground.phase }, { on := 17, ground := Go.Ground.phase }, { on := 18, ground := Go.Ground.phase }, { on := 19, ground := Go.Ground.phase }, { on := 20, ground := Go.Ground.textOnly Go.Departure.lateStores }, { on := 21, ground := Go.Ground.textOnly Go.Departure.lateStores }, { on := 22, ground := Go.Ground.textOnly Go.Departure.lateStores }, { on := 23, ground := Go.Ground.textOnly Go.Departure.lateStores }, { on := 24, ground := Go.Ground.phase }, { on := 25, ground := Go.Ground.phase }, { on := 26, ground := Go.Ground.phase }, { on := 27, ground := Go.Ground.phase }, { on := 28, ground := Go.Ground.phase }, { on := 29, ground := Go.Ground.phase }, { on := 30, ground := Go.Ground.phase }, { on := 31, ground := Go.Ground.phase }], guard := none }) (v := ?_) rfl (by kernel_rfl) (by kernel_rfl) (by kernel_rfl) (fun _ _ _ h => h) (Or.inl ⟨by rfl, ?_⟩) (HcE4.out) ?_
              rotate_left 1
              · intro w5 hSw
                go_simp; all_goals (with_reducible rfl)
              try simp only [Act.put, List.setIfInBounds_toArray, List.set_cons_zero, List.set_cons_succ]
              refine wpAnyH_ready (rs := [33]) (by kernel_rfl) (by simp) ?_
              refine AllReadyH.cons (o := { dst := none, op := Go.Op.store 3 (Go.Operand.tmp 103) (Go.Operand.tmp 94), type := 0, pos := "ref.go:113", after := #[{ on := 32, ground := Go.Ground.data }, { on := 19, ground := Go.Ground.data }, { on := 31, ground := Go.Ground.chain }, { on := 0, ground := Go.Ground.phase }, { on := 1, ground := Go.Ground.phase }, { on := 2, ground := Go.Ground.phase }, { on := 3, ground := Go.Ground.phase }, { on := 4, ground := Go.Ground.phase }, { on := 5, ground := Go.Ground.phase }, { on := 6, ground := Go.Ground.phase }, { on := 7, ground := Go.Ground.phase }, { on := 8, ground := Go.Ground.phase }, { on := 9, ground := Go.Ground.phase }, { on := 10, ground := Go.Ground.phase }, { on := 11, ground := Go.Ground.phase }, { on := 12, ground := Go.Ground.phase }, { on := 13, ground := Go.Ground.phase }, { on := 14, ground := Go.Ground.phase }, { on := 15, ground := Go.Ground.phase }, { on := 16, ground := Go.Ground.phase }, { on := 17, ground := Go.Ground.phase }, { on := 18, ground := Go.Ground.phase }, { on := 19, ground := Go.Ground.phase }, { on := 20, ground := Go.Ground.textOnly Go.Departure.lateStores }, { on := 21, ground := Go.Ground.textOnly Go.Departure.lateStores }, { on := 22, ground := Go.Ground.textOnly Go.Departure.lateStores }, { on := 23, ground := Go.Ground.textOnly Go.Departure.lateStores }, { on := 24, ground := Go.Ground.phase }, { on := 25, ground := Go.Ground.phase }, { on := 26, ground := Go.Ground.phase }, { on := 27, ground := Go.Ground.phase }, { on := 28, ground := Go.Ground.phase }, { on := 29, ground := Go.Ground.phase }, { on := 30, ground := Go.Ground.phase }, { on := 31, ground := Go.Ground.phase }], guard := none }) rfl (fun K hK => ?_) AllReadyH.nil
              have q4 : E4.cell? ⟨s6, 16, none⟩ = some (.int .i64 0) := HWE4.out.cell 16
              have f4 := HWE4.out.frozen 16
              have hcc4 : Hid (∀ i, i < l.length → (E4.setCell ⟨s6, 16, none⟩ (.int .i64 (byt l 101 : Int))).cell? ⟨b, off + i, none⟩ = some (.int .u8 ((l.getD i 0 : Nat) : Int))) := fun i hi => (World.cell?_setCell_far _ ⟨s6, 16, none⟩ _ _ hsb.out.1).trans (HcE4.out i hi)
              go_simp
              refine hK.out _ ((E4.setCell ⟨s6, 16, none⟩ (.int .i64 (byt l 101 : Int))).drew) (hcc4.out) (fun _ => ?_)
              clear hK K
              try simp only [Act.put, List.setIfInBounds_toArray, List.set_cons_zero, List.set_cons_succ]
              obtain ⟨E5, hE⟩ : ∃ D, D = (E4.setCell ⟨s6, 16, none⟩ (.int .i64 (byt l 101 : Int))) := ⟨_, rfl⟩
              rw [← hE]
              have HWE5 := Lib.hid (show Whole E5 s6 29 (Hd.mk (num l 8) (num l 16) (num l 24) (num l 32) (num l 40) (num l 48) (num l 56) (num l 64) (num l 72) (num l 80) (num l 88) (cb) ((byt l 97 : Int)) ((byt l 98 : Int)) ((byt l 99 : Int)) ((byt l 100 : Int)) ((byt l 101 : Int)) (0) (0) (0) (0) (0) (0) (0)).cells from hE ▸ HWE4.out.set 16 _)
              have HRE5 := Lib.hid (show Whole E5 r 29 zHd.cells from hE ▸ HRE4.out.far hsb.out.2.1 _)
              have HBE5 := Lib.hid (show Below w.heap.size w E5 from hE ▸ HBE4.out.setCell hsb.out.2.2 _)
              have HcE5 : Hid (∀ i, i < l.length → E5.cell? ⟨b, off + i, none⟩ = some (.int .u8 ((l.getD i 0 : Nat) : Int))) := hE ▸ hcc4
              clear hE hcc4 q4 f4 HWE4 HRE4 HBE4 HcE4
              refine wpAnyH_take (i := 34) (oi := { dst := some 104, op := Go.Op.fieldAddr 29 (Go.Operand.tmp 6) 14, type := 0, pos := "ref.go:113", after := #[{ on := 0, ground := Go.Ground.phase }, { on := 1, ground := Go.Ground.phase }, { on := 2, ground := Go.Ground.phase }, { on := 3, ground := Go.Ground.phase }, { on := 4, ground := Go.Ground.phase }, { on := 5, ground := Go.Ground.phase }, { on := 6, ground := Go.Ground.phase }, { on := 7, ground := Go.Ground.phase }, { on := 8, ground := Go.Ground.phase }, { on := 9, ground := Go.Ground.phase }, { on := 10, ground := Go.Ground.phase }, { on := 11, ground := Go.Ground.phase }, { on := 12, ground := Go.Ground.phase }, { on := 13, ground := Go.Ground.phase }, { on := 14, ground := Go.Ground.phase }, { on := 15, ground := Go.Ground.phase }, { on := 16, ground := Go.Ground.phase }, { on := 17, ground := Go.Ground.phase }, { on := 18, ground := Go.Ground.phase }, { on := 19, ground := Go.Ground.phase }, { on := 20, ground := Go.Ground.phase }, { on := 21, ground := Go.Ground.phase }, { on := 22, ground := Go.Ground.phase }, { on := 23, ground := Go.Ground.phase }, { on := 24, ground := Go.Ground.phase }, { on := 25, ground := Go.Ground.phase }, { on := 26, ground := Go.Ground.phase }, { on := 27, ground := Go.Ground.phase }, { on := 28, ground := Go.Ground.phase }, { on := 29, ground := Go.Ground.phase }, { on := 30, ground := Go.Ground.phase }, { on := 31, ground := Go.Ground.phase }, { on := 32, ground := Go.Ground.phase }, { on := 33, ground := Go.Ground.phase }], guard := none }) (v := ?_) rfl (by kernel_rfl) (by kernel_rfl) (by kernel_rfl) (fun _ _ _ h => h) (Or.inl ⟨by rfl, ?_⟩) (HcE5.out) ?_
              rotate_left 1
              · intro w5 hSw
                go_simp; all_goals (with_reducible rfl)
              try simp only [Act.put, List.setIfInBounds_toArray, List.set_cons_zero, List.set_cons_succ]
              refine wpAnyH_ready (rs := [35]) (by kernel_rfl) (by simp) ?_
              refine AllReadyH.cons (o := { dst := none, op := Go.Op.store 3 (Go.Operand.tmp 104) (Go.Operand.tmp 98), type := 0, pos := "ref.go:113", after := #[{ on := 34, ground := Go.Ground.data }, { on := 23, ground := Go.Ground.data }, { on := 33, ground := Go.Ground.chain }, { on := 0, ground := Go.Ground.phase }, { on := 1, ground := Go.Ground.phase }, { on := 2, ground := Go.Ground.phase }, { on := 3, ground := Go.Ground.phase }, { on := 4, ground := Go.Ground.phase }, { on := 5, ground := Go.Ground.phase }, { on := 6, ground := Go.Ground.phase }, { on := 7, ground := Go.Ground.phase }, { on := 8, ground := Go.Ground.phase }, { on := 9, ground := Go.Ground.phase }, { on := 10, ground := Go.Ground.phase }, { on := 11, ground := Go.Ground.phase }, { on := 12, ground := Go.Ground.phase }, { on := 13, ground := Go.Ground.phase }, { on := 14, ground := Go.Ground.phase }, { on := 15, ground := Go.Ground.phase }, { on := 16, ground := Go.Ground.phase }, { on := 17, ground := Go.Ground.phase }, { on := 18, ground := Go.Ground.phase }, { on := 19, ground := Go.Ground.phase }, { on := 20, ground := Go.Ground.phase }, { on := 21, ground := Go.Ground.phase }, { on := 22, ground := Go.Ground.phase }, { on := 23, ground := Go.Ground.phase }, { on := 24, ground := Go.Ground.phase }, { on := 25, ground := Go.Ground.phase }, { on := 26, ground := Go.Ground.phase }, { on := 27, ground := Go.Ground.phase }, { on := 28, ground := Go.Ground.phase }, { on := 29, ground := Go.Ground.phase }, { on := 30, ground := Go.Ground.phase }, { on := 31, ground := Go.Ground.phase }, { on := 32, ground := Go.Ground.phase }, { on := 33, ground := Go.Ground.phase }], guard := none }) rfl (fun K hK => ?_) AllReadyH.nil
              have q5 : E5.cell? ⟨s6, 23, none⟩ = some (.int .i64 0) := HWE5.out.cell 23
              have f5 := HWE5.out.frozen 23
              have hcc5 : Hid (∀ i, i < l.length → (E5.setCell ⟨s6, 23, none⟩ (.int .i64 (byt l 118 : Int))).cell? ⟨b, off + i, none⟩ = some (.int .u8 ((l.getD i 0 : Nat) : Int))) := fun i hi => (World.cell?_setCell_far _ ⟨s6, 23, none⟩ _ _ hsb.out.1).trans (HcE5.out i hi)
              go_simp
              refine hK.out _ ((E5.setCell ⟨s6, 23, none⟩ (.int .i64 (byt l 118 : Int))).drew) (hcc5.out) (fun _ => ?_)
              clear hK K
              try simp only [Act.put, List.setIfInBounds_toArray, List.set_cons_zero, List.set_cons_succ]
              obtain ⟨E6, hE⟩ : ∃ D, D = (E5.setCell ⟨s6, 23, none⟩ (.int .i64 (byt l 118 : Int))) := ⟨_, rfl⟩
              rw [← hE]
              have HWE6 := Lib.hid (show Whole E6 s6 29 (Hd.mk (num l 8) (num l 16) (num l 24) (num l 32) (num l 40) (num l 48) (num l 56) (num l 64) (num l 72) (num l 80) (num l 88) (cb) ((byt l 97 : Int)) ((byt l 98 : Int)) ((byt l 99 : Int)) ((byt l 100 : Int)) ((byt l 101 : Int)) (0) (0) (0) (0) (0) (0) ((byt l 118 : Int))).cells from hE ▸ HWE5.out.set 23 _)
              have HRE6 := Lib.hid (show Whole E6 r 29 zHd.cells from hE ▸ HRE5.out.far hsb.out.2.1 _)
              have HBE6 := Lib.hid (show Below w.heap.size w E6 from hE ▸ HBE5.out.setCell hsb.out.2.2 _)
              have HcE6 : Hid (∀ i, i < l.length → E6.cell? ⟨b, off + i, none⟩ = some (.int .u8 ((l.getD i 0 : Nat) : Int))) := hE ▸ hcc5
              clear hE hcc5 q5 f5 HWE5 HRE5 HBE5 HcE5
              refine wpAnyH_done (by kernel_rfl) ?_ _
              obtain ⟨D6, hD6⟩ : ∃ D, D = E6.drew := ⟨_, rfl⟩
              have HW6 : Hid (Whole D6 s6 29 (Hd.mk (num l 8) (num l 16) (num l 24) (num l 32) (num l 40) (num l 48) (num l 56) (num l 64) (num l 72) (num l 80) (num l 88) (cb) ((byt l 97 : Int)) ((byt l 98 : Int)) ((byt l 99 : Int)) ((byt l 100 : Int)) ((byt l 101 : Int)) (0) (0) (0) (0) (0) (0) ((byt l 118 : Int))).cells) := hD6 ▸ HWE6.out
              have HR6 : Hid (Whole D6 r 29 zHd.cells) := hD6 ▸ HRE6.out
              have HB6 : Hid (Below w.heap.size w D6) := hD6 ▸ (show Below w.heap.size w E6.drew from ⟨HBE6.out.os, HBE6.out.tape, HBE6.out.output, HBE6.out.size, HBE6.out.block⟩)
              have Hc6 : Hid (∀ i, i < l.length → D6.cell? ⟨b, off + i, none⟩ = some (.int .u8 ((l.getD i 0 : Nat) : Int))) := hD6 ▸ HcE6.out
              have HSG : Hid (∀ k, k + 4 ≤ L → Calls Try.prog 14 #[.slice (some ⟨b, off, none⟩) L cap, .int .i64 (k : Int)] D6 fun e w' => e = .returned (.int .i64 (deg l k)) ∧ D6 = w') := fun k hk => by
                have := rsigned_any l b off cap k D6 hl2.out (by rw [← HL.out]; omega) (by rw [← HL.out]; omega) Hc6.out
                rw [← HL.out] at this
                exact this
              rw [← hD6]
              clear hD6 HWE6 HRE6 HBE6 HcE6 Hcv
              go_upto_region 14 with (fail)
              go_wp2_with fail
              refine (HSG.out 102 (by omega)).mono ?_
              rintro e Y ⟨rfl, rfl⟩
              go_wp2_with fail
              refine (HSG.out 106 (by omega)).mono ?_
              rintro e Y ⟨rfl, rfl⟩
              go_wp2_with fail
              refine (HSG.out 110 (by omega)).mono ?_
              rintro e Y ⟨rfl, rfl⟩
              go_wp2_with fail
              refine (HSG.out 114 (by omega)).mono ?_
              rintro e Y ⟨rfl, rfl⟩
              go_wp2_with fail
              refine (HSG.out 119 (by omega)).mono ?_
              rintro e Y ⟨rfl, rfl⟩
              go_wp2_with fail
              refine (HSG.out 123 (by omega)).mono ?_
              rintro e Y ⟨rfl, rfl⟩
              have q17 : D6.cell? ⟨s6, 17, none⟩ = some (.int .i64 0) := HW6.out.cell 17
              have f17 := HW6.out.frozen 17
              have q18 : D6.cell? ⟨s6, 18, none⟩ = some (.int .i64 0) := HW6.out.cell 18
              have f18 := HW6.out.frozen 18
              have q19 : D6.cell? ⟨s6, 19, none⟩ = some (.int .i64 0) := HW6.out.cell 19
              have f19 := HW6.out.frozen 19
              have q20 : D6.cell? ⟨s6, 20, none⟩ = some (.int .i64 0) := HW6.out.cell 20
              have f20 := HW6.out.frozen 20
              have q21 : D6.cell? ⟨s6, 21, none⟩ = some (.int .i64 0) := HW6.out.cell 21
              have f21 := HW6.out.frozen 21
              have q22 : D6.cell? ⟨s6, 22, none⟩ = some (.int .i64 0) := HW6.out.cell 22
              have f22 := HW6.out.frozen 22
              go_upto_region 15 with (fail)
              obtain ⟨D7, hD7⟩ : ∃ D, D = ((((((D6.setCell ⟨s6, 17, none⟩ (.int .i64 (deg l 102))).setCell ⟨s6, 18, none⟩ (.int .i64 (deg l 106))).setCell ⟨s6, 19, none⟩ (.int .i64 (deg l 110))).setCell ⟨s6, 20, none⟩ (.int .i64 (deg l 114))).setCell ⟨s6, 21, none⟩ (.int .i64 (deg l 119))).setCell ⟨s6, 22, none⟩ (.int .i64 (deg l 123))) := ⟨_, rfl⟩
              have HW7 : Hid (Whole D7 s6 29 (hdB l).cells) := by
                rw [hcb2.out] at HW6
                exact hD7 ▸ ((((((HW6.out.set 17 _).set 18 _).set 19 _).set 20 _).set 21 _).set 22 _)
              have HR7 : Hid (Whole D7 r 29 zHd.cells) := hD7 ▸ ((((((HR6.out.far (p := ⟨s6, 17, none⟩) hsb.out.2.1 _).far (p := ⟨s6, 18, none⟩) hsb.out.2.1 _).far (p := ⟨s6, 19, none⟩) hsb.out.2.1 _).far (p := ⟨s6, 20, none⟩) hsb.out.2.1 _).far (p := ⟨s6, 21, none⟩) hsb.out.2.1 _).far (p := ⟨s6, 22, none⟩) hsb.out.2.1 _)
              have HB7 : Hid (Below w.heap.size w D7) := hD7 ▸ ((((((HB6.out.setCell (p := ⟨s6, 17, none⟩) hsb.out.2.2 _).setCell (p := ⟨s6, 18, none⟩) hsb.out.2.2 _).setCell (p := ⟨s6, 19, none⟩) hsb.out.2.2 _).setCell (p := ⟨s6, 20, none⟩) hsb.out.2.2 _).setCell (p := ⟨s6, 21, none⟩) hsb.out.2.2 _).setCell (p := ⟨s6, 22, none⟩) hsb.out.2.2 _)
              rw [← hD7]
              clear hD7 HW6 HR6 HB6 Hc6 HSG q17 q18 q19 q20 q21 q22 f17 f18 f19 f20 f21 f22
              obtain ⟨h, hh⟩ : ∃ h, h = hdB l := ⟨_, rfl⟩
              rw [← hh] at HW7
              have Hh : Hid (h = hdOf (l.drop 8)) := by show _ = _; rw [hh, hdB_eq]
              clear hh
              obtain ⟨e, he⟩ : ∃ e, e = rightD h (L : Int) := ⟨_, rfl⟩
              have HRt := Lib.hid (fun W => rright_any h (L : Int) W ⟨by omega, by omega⟩)
              unfold hdV at HRt
              rw [← he] at HRt
              have hHv : Hid (H = if e ≠ 0 then (zHd, e) else (h, 0)) := by
                show _ = _
                rw [HH.out, he, Hh.out, HL.out]; unfold headR; rw [← HL.out, if_neg h127, if_neg (not_not_intro hG.out), if_neg (by rw [byt_drop]; exact h1)]
              clear he
              go_wp2_with (refine wpList_load_g 29 (.tmp 6) rfl (by rfl) s6 rfl 29 h.cells (0, 0) _ HW7.out Try.underlying29 rfl (hd_infoc _) ?_)
              refine (HRt.out _).mono ?_
              rintro e' Y2 ⟨rfl, hb⟩
              have HW8 := Lib.hid (HW7.out.below hb HW7.out.lt)
              have HR8 := Lib.hid (HR7.out.below hb HR7.out.lt)
              have HB8 := Lib.hid (keepBelow hb HB7.out)
              clear hb HW7 HR7 HB7
              by_cases h0 : e = 0
              · subst h0
                have hHv2 : Hid (H = (h, 0)) := hHv
                obtain rfl := hHv2.out
                clear hHv hHv2 HRt
                go_wp2_with (first | (refine wpList_load_g 29 (.tmp 6) rfl (by rfl) s6 rfl 29 h.cells (0, 0) _ HW8.out Try.underlying29 rfl (hd_infoc _) ?_) | (refine wpList_store_row rfl 29 (.tmp 2) (.tmp 133) rfl r h.cells rfl rfl 29 zHd.cells HR8.out (hd_infoc _) rfl (hd_all _) ?_))
                exact bodyPost_ret (results_hd2 rfl _ _ r h _ rfl rfl (HR8.out.row _)) rfl ⟨rfl, below_setRow HB8.out (by rw [Hr.out]; exact Nat.le_refl _) _⟩
              · have hHv2 : Hid (H = (zHd, e)) := by show _ = _; rw [hHv.out, if_pos h0]
                obtain rfl := hHv2.out
                have e9 : (e != 0) = true := bne_iff_ne.mpr h0
                clear hHv hHv2 h0
                go_wp2_with (refine wpList_load_g 29 (.tmp 6) rfl (by rfl) s6 rfl 29 h.cells (0, 0) _ HW8.out Try.underlying29 rfl (hd_infoc _) ?_)
                refine (HRt.out _).mono ?_
                rintro e' Y3 ⟨rfl, hb⟩
                have HR9 := Lib.hid (HR8.out.below hb HR8.out.lt)
                have HB9 := Lib.hid (keepBelow hb HB8.out)
                clear hb HW8 HR8 HB8 HRt
                go_wp2_with (refine wpList_store_row rfl 29 (.tmp 2) (.tmp 128) rfl r zHd.cells rfl rfl 29 zHd.cells HR9.out hd_info rfl (hd_all _) ?_)
                exact bodyPost_ret (results_hd2 rfl _ _ r zHd _ rfl rfl (HR9.out.row _)) rfl ⟨rfl, below_setRow HB9.out (by rw [Hr.out]; exact Nat.le_refl _) _⟩

      · have d3 : ((byt l 7 : Int) != 3) = true := bne_iff_ne.mpr (fun e => h3 (by omega))
        have d3' : ((byt l 7 : Int) == 3) = false := beq_eq_false_iff_ne.mpr (fun e => h3 (by omega))
        have hHv : Hid (H = (zHd, 3)) := by show _ = _; rw [HH.out]; unfold headR; rw [← HL.out, if_neg h127, if_pos (fun e => h3 (ht8.out.1 e).2)]
        obtain rfl := hHv.out
        clear hM h3
        go_enter Try.func6, Try.ntmps6
        go_upto_region 1 with (fail)
        rw [HX0.out, ← Hr.out]
        go_wp2_with (refine wpList_store_row rfl 29 (.tmp 2) (.tmp 31) rfl r zHd.cells rfl rfl 29 zHd.cells HR0.out hd_info rfl (hd_all _) ?_)
        exact bodyPost_ret (results_hd2 rfl _ _ r zHd _ rfl rfl (HR0.out.row _)) rfl ⟨rfl, below_setRow HB0.out (by rw [Hr.out]; exact Nat.le_refl _) _⟩
    · rw [decide_eq_false hM] at hq
      have hHv : Hid (H = (zHd, 3)) := by show _ = _; rw [HH.out]; unfold headR; rw [← HL.out, if_neg h127, if_pos (fun e => hM (ht8.out.1 e).1)]
      obtain rfl := hHv.out
      have hq2 : (!(s.toList == [80, 77, 84, 105, 108, 101, 115])) = true := by rw [hq]; rfl
      clear hM
      go_enter Try.func6, Try.ntmps6
      go_upto_region 1 with (fail)
      rw [HX0.out, ← Hr.out]
      go_wp2_with (refine wpList_store_row rfl 29 (.tmp 2) (.tmp 31) rfl r zHd.cells rfl rfl 29 zHd.cells HR0.out hd_info rfl (hd_all _) ?_)
      exact bodyPost_ret (results_hd2 rfl _ _ r zHd _ rfl rfl (HR0.out.row _)) rfl ⟨rfl, below_setRow HB0.out (by rw [Hr.out]; exact Nat.le_refl _) _⟩
end Go.Proofs.Ytlbplefmpbpchaa
