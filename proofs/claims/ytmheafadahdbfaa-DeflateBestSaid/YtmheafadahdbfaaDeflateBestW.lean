/- Layer 5: DeflateBest, the law's walk. Written by gendefbest.py. -/
import Derived.Test.YtmheafadahdbfaaPar5
namespace Go.Proofs.Ytmheafadahdbfaa
open Go.RowKit
set_option linter.unusedVariables false
set_option maxRecDepth 100000

theorem best_ok {l : List Nat} {i back : Nat} (h1 : 1 ≤ back) (h2 : back ≤ i) (h3 : back ≤ 256) (hi : i ≤ l.length) (hn : 3 ≤ mlen l i back) : mlen l i back < (findE l i).1 ∨ ((findE l i).1 = mlen l i back ∧ (findE l i).2 ≤ back) := by
  have hm := bestTo_max l i (min 256 i) back h1 (by omega)
  unfold findE
  rw [if_pos hi, if_neg (by omega)]
  rcases Nat.lt_or_eq_of_le hm.1 with h | h
  · exact .inl h
  · exact .inr ⟨h.symm, hm.2 h (by omega)⟩
theorem best_low (l : List Nat) (i : Nat) : (findE l i).1 = 0 ∨ 3 ≤ (findE l i).1 := by
  rcases findE_cases l i with h | h
  · exact .inl (by rw [h])
  · exact .inr h.1
set_option maxHeartbeats 8000000 in
theorem deflateBest_walk (l : List Nat) (a0 : Option Addr) (c0 : Nat) (at' d : Nat) (w : World)
    (hld : ∀ x ∈ l, x < 256) (hlc : l.length ≤ c0) (hcm : c0 ≤ maxLen) (hN : Nums .u8 w w.heap.size a0 l) (hat : at' < 65536) (hd : d < 256) :
    Calls Try.prog 8 #[.slice a0 l.length c0, .int .u16 (at' : Int), .int .u8 (d : Int)] w fun e w' => e = .returned (.bool true) ∧ Below w.heap.size w w' := by
  have HL := Lib.hid live_any
  obtain ⟨L, hL⟩ : ∃ L, L = l.length := ⟨_, rfl⟩
  have HLn := Lib.hid hL
  have hm : maxLen ≤ 9223372036854775807 := by decide
  have hL2 : L ≤ 9223372036854775807 := by omega
  by_cases hbig : 400 < L
  · have d1 : decide (400 < (L : Int)) = true := decide_eq_true (by omega)
    rw [← hL]
    clear hN hlc hcm hld hL hbig
    go_enter Try.func8, Try.ntmps8
    go_wp2_with fail
    refine (HL.out _).mono ?_
    rintro e Y ⟨rfl, hB⟩
    have HB := Lib.hid hB
    clear hB
    go_wp2_with fail
    go_ret
    exact ⟨rfl, HB.out⟩
  · have d1 : decide (400 < (L : Int)) = false := decide_eq_false (by omega)
    by_cases h0 : L = 0
    · rw [← hL]
      subst h0
      clear hN hlc hcm hld hL hbig
      go_enter Try.func8, Try.ntmps8
      go_wp2_with fail
      refine (HL.out _).mono ?_
      rintro e Y ⟨rfl, hB⟩
      have HB := Lib.hid hB
      clear hB
      go_wp2_with fail
      go_ret
      exact ⟨rfl, HB.out⟩
    · have d2 : ((L : Int) == 0) = false := beq_eq_false_iff_ne.mpr (by omega)
      have hL400 : L ≤ 400 := by omega
      obtain ⟨i, hi⟩ : ∃ i, at' % L = i := ⟨_, rfl⟩
      have hiL : i < L := by rw [← hi]; exact Nat.mod_lt _ (by omega)
      obtain ⟨back, hback⟩ : ∃ b, b = d + 1 := ⟨_, rfl⟩
      have w1 : (at' : Int).tmod (L : Int) = (i : Int) := by rw [← hi]; rfl
      have w2 : (at' : Int) % (L : Int) = (i : Int) := by rw [← hi]; rfl
      have w3 : (d : Int) + 1 = (back : Int) := by omega
      have w4 : IntKind.i64.wrap (back : Int) = (back : Int) := IntWalk.i64_in _ ⟨by omega, by omega⟩
      have w5 : IntKind.i64.wrap (i : Int) = (i : Int) := IntWalk.i64_in _ ⟨by omega, by omega⟩
      have hL0 : ¬ ((L : Int) = 0) := by omega
      have hb1 : 1 ≤ back := by omega
      have hb2 : back ≤ 256 := by omega
      obtain ⟨⟨r1, r2⟩, hr⟩ : ∃ r, findE l i = r := ⟨_, rfl⟩
      have HF := Lib.hid (dfind_any a0 c0 l i w hN (by omega) (by omega))
      rw [← hL, hr] at HF
      have Hlow : Hid (r1 = 0 ∨ 3 ≤ r1) := by have := best_low l i; rw [hr] at this; exact this
      have Hbest : Hid (back ≤ i → ∀ R, mlen l i back = R → 3 ≤ R → R < r1 ∨ (r1 = R ∧ r2 ≤ back)) := fun h R hR h3 => by subst hR; have := best_ok hb1 h hb2 (by omega) h3; rw [hr] at this; exact this
      have HN := Lib.hid hN
      have Hb := Lib.hid hback
      rw [← hL]
      clear hN hlc hcm hld hL hbig h0 hi hback hr hm
      go_enter Try.func8, Try.ntmps8
      go_wp2_with fail
      refine HF.out.mono ?_
      rintro e X1 ⟨rfl, hB⟩
      have HNX := Lib.hid (HN.out.below hB)
      have HBX := Lib.hid hB
      clear hB HF HN
      simp only [mcs]
      go_wp2_with fail
      obtain ⟨W1, hW1⟩ : ∃ W1, X1.alloc (.cells #[.int .i64 (r1 : Int), .int .i64 (r2 : Int)] 35) = W1 := ⟨_, rfl⟩
      obtain ⟨g, hg⟩ : ∃ g, X1.heap.size = g := ⟨_, rfl⟩
      have hwh : Whole W1 g 35 #[.int .i64 (r1 : Int), .int .i64 (r2 : Int)] := by rw [← hW1, ← hg]; exact Whole.new X1 _ _
      have b0 : W1.cell? ⟨g, 0, none⟩ = some (.int .i64 (r1 : Int)) := hwh.cell 0
      have b1 : W1.cell? ⟨g, 1, none⟩ = some (.int .i64 (r2 : Int)) := hwh.cell 1
      have HB1 : Hid (Below w.heap.size w W1) := by show Below _ _ _; rw [← hW1]; exact HBX.out.alloc HBX.out.size _
      have HN1 : Hid (Nums .u8 W1 w.heap.size a0 l) := by show Nums _ _ _ _ _; rw [← hW1]; exact HNX.out.below ((Below.refl _ _).alloc HBX.out.size _)
      rw [hW1, hg]
      clear hwh hW1 hg HNX HBX
      by_cases hbi : back ≤ i
      · have d5 : decide ((back : Int) ≤ (i : Int)) = true := decide_eq_true (by omega)
        have d5b : decide (back ≤ i) = true := decide_eq_true hbi
        obtain ⟨R, hR⟩ : ∃ R, mlen l i back = R := ⟨_, rfl⟩
        have Hhi := Lib.hid (Hbest.out hbi R hR)
        have HR : Hid (mrun l i back 258 0 = R) := hR
        clear hR
        go_loopw [10] (fun x W => ∃ (n m f : Nat), x = .int .i64 (n : Int) ∧ W = W1.drewN m ∧ n + f = 258 ∧ Hid (mrun l i back f n = R)) (fun x _ => 258 - (intOf x).toNat)
        case atStart => exact ⟨0, 0, 258, rfl, rfl, by omega, HR.out⟩
        case round =>
          obtain ⟨n, m, f, rfl, rfl, hnf, hE⟩ := hrel
          rcases f with _ | f
          · have e0 : decide ((n : Int) < 258) = false := decide_eq_false (by omega)
            have hF : n = R := hE.out
            subst hF
            clear hnf
            go_wp2_with fail
            go_quiet (fail)
            by_cases h3 : n < 3
            · have t1 : decide ((n : Int) < 3) = true := decide_eq_true (by omega)
              rcases Hlow.out with h | h
              · have t2 : ((r1 : Int) == 0) = true := beq_iff_eq.mpr (by omega)
                clear h h3
                go_wp2_with fail
                refine (HL.out _).mono ?_
                rintro e Y ⟨rfl, hB⟩
                have HBY : Hid (Below w.heap.size w Y) := by first | exact (below_drawn HB1.out _).trans (hB.mono HB1.out.size) | exact (below_drawn (below_drawn HB1.out _) _).trans (hB.mono HB1.out.size)
                clear hB
                go_wp2_with fail
                go_ret
                exact ⟨rfl, HBY.out⟩
              · have t2 : ((r1 : Int) == 0) = false := beq_eq_false_iff_ne.mpr (by omega)
                have t3 : decide (3 ≤ (r1 : Int)) = true := decide_eq_true (by omega)
                clear h h3
                go_wp2_with fail
                refine (HL.out _).mono ?_
                rintro e Y ⟨rfl, hB⟩
                have HBY : Hid (Below w.heap.size w Y) := by first | exact (below_drawn HB1.out _).trans (hB.mono HB1.out.size) | exact (below_drawn (below_drawn HB1.out _) _).trans (hB.mono HB1.out.size)
                clear hB
                go_wp2_with fail
                go_ret
                exact ⟨rfl, HBY.out⟩
            · have t1 : decide ((n : Int) < 3) = false := decide_eq_false (by omega)
              rcases Hhi.out (by omega) with h | ⟨h, h'⟩
              · have t2 : decide ((n : Int) < (r1 : Int)) = true := decide_eq_true (by omega)
                have t3 : decide (n < r1) = true := decide_eq_true h
                clear h h3
                go_wp2_with fail
                refine (HL.out _).mono ?_
                rintro e Y ⟨rfl, hB⟩
                have HBY : Hid (Below w.heap.size w Y) := by first | exact (below_drawn HB1.out _).trans (hB.mono HB1.out.size) | exact (below_drawn (below_drawn HB1.out _) _).trans (hB.mono HB1.out.size)
                clear hB
                go_wp2_with fail
                go_ret
                exact ⟨rfl, HBY.out⟩
              · have t2 : decide ((n : Int) < (r1 : Int)) = false := decide_eq_false (by omega)
                have t3 : decide (n < r1) = false := decide_eq_false (by omega)
                have t4 : ((r1 : Int) == (n : Int)) = true := beq_iff_eq.mpr (by omega)
                have t5 : decide ((r2 : Int) ≤ (back : Int)) = true := decide_eq_true (by omega)
                have t6 : decide (r2 ≤ back) = true := decide_eq_true h'
                clear h h' h3
                go_wp2_with fail
                refine (HL.out _).mono ?_
                rintro e Y ⟨rfl, hB⟩
                have HBY : Hid (Below w.heap.size w Y) := by first | exact (below_drawn HB1.out _).trans (hB.mono HB1.out.size) | exact (below_drawn (below_drawn HB1.out _) _).trans (hB.mono HB1.out.size)
                clear hB
                go_wp2_with fail
                go_ret
                exact ⟨rfl, HBY.out⟩
          · have e0 : decide ((n : Int) < 258) = true := decide_eq_true (by omega)
            obtain ⟨q, hq⟩ : ∃ q, q = i + n := ⟨_, rfl⟩
            have v1 : IntKind.i64.wrap ((i : Int) + (n : Int)) = (q : Int) := by rw [IntWalk.i64_in _ ⟨by omega, by omega⟩]; omega
            have hn257 : n ≤ 257 := by omega
            have v1c : IntKind.i64.wrap (q : Int) = (q : Int) := IntWalk.i64_in _ ⟨by omega, by omega⟩
            by_cases h1 : q < L
            · have e2 : decide ((q : Int) < (L : Int)) = true := decide_eq_true (by omega)
              obtain ⟨j, hj⟩ : ∃ j, j = q - back := ⟨_, rfl⟩
              have v2 : IntKind.i64.wrap ((q : Int) - (back : Int)) = (j : Int) := by rw [IntWalk.i64_in _ ⟨by omega, by omega⟩]; omega
              have i0 : (0 : Int) ≤ (q : Int) := by omega
              have i1 : (q : Int) < (L : Int) := by omega
              have j0 : (0 : Int) ≤ (j : Int) := by omega
              have j1 : (j : Int) < (L : Int) := by omega
              have j2 : j < L := by omega
              obtain ⟨b, off, rfl, hb, x0⟩ := HN1.out.byte (i := q) (by have := HLn.out; omega)
              obtain ⟨b', off', e', _, x1⟩ := HN1.out.byte (i := j) (by have := HLn.out; omega)
              obtain ⟨rfl, rfl⟩ : b' = b ∧ off' = off := by injection e' with e'; injection e' with e1 e2; exact ⟨e1.symm, e2.symm⟩
              have hyes := mrun_yes (l := l) (a := i) (d := back) (f := f) (n := n) (by rw [← hq, ← HLn.out]; exact h1)
              have hno := mrun_no (l := l) (a := i) (d := back) (f := f) (n := n)
              rw [← hq, ← hj] at hyes hno
              obtain ⟨x, hx⟩ : ∃ x, x = l.getD q 0 := ⟨_, rfl⟩
              obtain ⟨y, hy⟩ : ∃ y, y = l.getD j 0 := ⟨_, rfl⟩
              rw [← hx] at x0 hyes hno
              rw [← hy] at x1 hyes hno
              have Hnf := Lib.hid hnf
              by_cases hxy : x = y
              · subst hxy
                have e1 : ((x : Int) == (x : Int)) = true := beq_self_eq_true _
                have HNx : Hid (mrun l i back f (n + 1) = R) := by show _ = _; rw [← hyes rfl]; exact hE.out
                clear hyes hno hx hy hq hj e' hnf
                go_wp2_with fail
                go_quiet (fail)
                go_wp2_with fail
                go_roundw
                case rel => exact ⟨n + 1, _, f, by go_num, by first | rfl | exact drewN_two _ _ _, by have := Hnf.out; omega, HNx.out⟩
                case measure => have := Hnf.out; simp [intOf]; omega
              · have e1 : ((x : Int) == (y : Int)) = false := beq_eq_false_iff_ne.mpr (by omega)
                have hF : n = R := by rw [← hE.out, hno (fun h => hxy h.2)]
                subst hF
                clear hyes hno hx hy hq hj e' hnf hxy
                go_wp2_with fail
                go_quiet (fail)
                by_cases h3 : n < 3
                · have t1 : decide ((n : Int) < 3) = true := decide_eq_true (by omega)
                  rcases Hlow.out with h | h
                  · have t2 : ((r1 : Int) == 0) = true := beq_iff_eq.mpr (by omega)
                    clear h h3
                    go_wp2_with fail
                    refine (HL.out _).mono ?_
                    rintro e Y ⟨rfl, hB⟩
                    have HBY : Hid (Below w.heap.size w Y) := by first | exact (below_drawn HB1.out _).trans (hB.mono HB1.out.size) | exact (below_drawn (below_drawn HB1.out _) _).trans (hB.mono HB1.out.size)
                    clear hB
                    go_wp2_with fail
                    go_ret
                    exact ⟨rfl, HBY.out⟩
                  · have t2 : ((r1 : Int) == 0) = false := beq_eq_false_iff_ne.mpr (by omega)
                    have t3 : decide (3 ≤ (r1 : Int)) = true := decide_eq_true (by omega)
                    clear h h3
                    go_wp2_with fail
                    refine (HL.out _).mono ?_
                    rintro e Y ⟨rfl, hB⟩
                    have HBY : Hid (Below w.heap.size w Y) := by first | exact (below_drawn HB1.out _).trans (hB.mono HB1.out.size) | exact (below_drawn (below_drawn HB1.out _) _).trans (hB.mono HB1.out.size)
                    clear hB
                    go_wp2_with fail
                    go_ret
                    exact ⟨rfl, HBY.out⟩
                · have t1 : decide ((n : Int) < 3) = false := decide_eq_false (by omega)
                  rcases Hhi.out (by omega) with h | ⟨h, h'⟩
                  · have t2 : decide ((n : Int) < (r1 : Int)) = true := decide_eq_true (by omega)
                    have t3 : decide (n < r1) = true := decide_eq_true h
                    clear h h3
                    go_wp2_with fail
                    refine (HL.out _).mono ?_
                    rintro e Y ⟨rfl, hB⟩
                    have HBY : Hid (Below w.heap.size w Y) := by first | exact (below_drawn HB1.out _).trans (hB.mono HB1.out.size) | exact (below_drawn (below_drawn HB1.out _) _).trans (hB.mono HB1.out.size)
                    clear hB
                    go_wp2_with fail
                    go_ret
                    exact ⟨rfl, HBY.out⟩
                  · have t2 : decide ((n : Int) < (r1 : Int)) = false := decide_eq_false (by omega)
                    have t3 : decide (n < r1) = false := decide_eq_false (by omega)
                    have t4 : ((r1 : Int) == (n : Int)) = true := beq_iff_eq.mpr (by omega)
                    have t5 : decide ((r2 : Int) ≤ (back : Int)) = true := decide_eq_true (by omega)
                    have t6 : decide (r2 ≤ back) = true := decide_eq_true h'
                    clear h h' h3
                    go_wp2_with fail
                    refine (HL.out _).mono ?_
                    rintro e Y ⟨rfl, hB⟩
                    have HBY : Hid (Below w.heap.size w Y) := by first | exact (below_drawn HB1.out _).trans (hB.mono HB1.out.size) | exact (below_drawn (below_drawn HB1.out _) _).trans (hB.mono HB1.out.size)
                    clear hB
                    go_wp2_with fail
                    go_ret
                    exact ⟨rfl, HBY.out⟩
            · have e2 : decide ((q : Int) < (L : Int)) = false := decide_eq_false (by omega)
              have e3 : decide (q < L) = false := decide_eq_false h1
              have hF : n = R := by rw [← hE.out, mrun_no (fun h => h1 (by rw [hq, HLn.out]; exact h.1))]
              subst hF
              clear hq hnf h1
              go_wp2_with fail
              go_quiet (fail)
              by_cases h3 : n < 3
              · have t1 : decide ((n : Int) < 3) = true := decide_eq_true (by omega)
                rcases Hlow.out with h | h
                · have t2 : ((r1 : Int) == 0) = true := beq_iff_eq.mpr (by omega)
                  clear h h3
                  go_wp2_with fail
                  refine (HL.out _).mono ?_
                  rintro e Y ⟨rfl, hB⟩
                  have HBY : Hid (Below w.heap.size w Y) := by first | exact (below_drawn HB1.out _).trans (hB.mono HB1.out.size) | exact (below_drawn (below_drawn HB1.out _) _).trans (hB.mono HB1.out.size)
                  clear hB
                  go_wp2_with fail
                  go_ret
                  exact ⟨rfl, HBY.out⟩
                · have t2 : ((r1 : Int) == 0) = false := beq_eq_false_iff_ne.mpr (by omega)
                  have t3 : decide (3 ≤ (r1 : Int)) = true := decide_eq_true (by omega)
                  clear h h3
                  go_wp2_with fail
                  refine (HL.out _).mono ?_
                  rintro e Y ⟨rfl, hB⟩
                  have HBY : Hid (Below w.heap.size w Y) := by first | exact (below_drawn HB1.out _).trans (hB.mono HB1.out.size) | exact (below_drawn (below_drawn HB1.out _) _).trans (hB.mono HB1.out.size)
                  clear hB
                  go_wp2_with fail
                  go_ret
                  exact ⟨rfl, HBY.out⟩
              · have t1 : decide ((n : Int) < 3) = false := decide_eq_false (by omega)
                rcases Hhi.out (by omega) with h | ⟨h, h'⟩
                · have t2 : decide ((n : Int) < (r1 : Int)) = true := decide_eq_true (by omega)
                  have t3 : decide (n < r1) = true := decide_eq_true h
                  clear h h3
                  go_wp2_with fail
                  refine (HL.out _).mono ?_
                  rintro e Y ⟨rfl, hB⟩
                  have HBY : Hid (Below w.heap.size w Y) := by first | exact (below_drawn HB1.out _).trans (hB.mono HB1.out.size) | exact (below_drawn (below_drawn HB1.out _) _).trans (hB.mono HB1.out.size)
                  clear hB
                  go_wp2_with fail
                  go_ret
                  exact ⟨rfl, HBY.out⟩
                · have t2 : decide ((n : Int) < (r1 : Int)) = false := decide_eq_false (by omega)
                  have t3 : decide (n < r1) = false := decide_eq_false (by omega)
                  have t4 : ((r1 : Int) == (n : Int)) = true := beq_iff_eq.mpr (by omega)
                  have t5 : decide ((r2 : Int) ≤ (back : Int)) = true := decide_eq_true (by omega)
                  have t6 : decide (r2 ≤ back) = true := decide_eq_true h'
                  clear h h' h3
                  go_wp2_with fail
                  refine (HL.out _).mono ?_
                  rintro e Y ⟨rfl, hB⟩
                  have HBY : Hid (Below w.heap.size w Y) := by first | exact (below_drawn HB1.out _).trans (hB.mono HB1.out.size) | exact (below_drawn (below_drawn HB1.out _) _).trans (hB.mono HB1.out.size)
                  clear hB
                  go_wp2_with fail
                  go_ret
                  exact ⟨rfl, HBY.out⟩
      · have d5 : decide ((back : Int) ≤ (i : Int)) = false := decide_eq_false (by omega)
        have d5b : decide (back ≤ i) = false := decide_eq_false hbi
        clear hbi
        go_loopw [10] (fun x W => x = .int .i64 0 ∧ ∃ m, W = W1.drewN m) (fun x _ => 258)
        case atStart => exact ⟨rfl, 0, rfl⟩
        case round =>
          obtain ⟨rfl, m, rfl⟩ := hrel
          go_wp2_with fail
          go_quiet (fail)
          rcases Hlow.out with h | h
          · have t2 : ((r1 : Int) == 0) = true := beq_iff_eq.mpr (by omega)
            clear h
            go_wp2_with fail
            refine (HL.out _).mono ?_
            rintro e Y ⟨rfl, hB⟩
            have HBY : Hid (Below w.heap.size w Y) := by first | exact (below_drawn HB1.out _).trans (hB.mono HB1.out.size) | exact (below_drawn (below_drawn HB1.out _) _).trans (hB.mono HB1.out.size)
            clear hB
            go_wp2_with fail
            go_ret
            exact ⟨rfl, HBY.out⟩
          · have t2 : ((r1 : Int) == 0) = false := beq_eq_false_iff_ne.mpr (by omega)
            have t3 : decide (3 ≤ (r1 : Int)) = true := decide_eq_true (by omega)
            clear h
            go_wp2_with fail
            refine (HL.out _).mono ?_
            rintro e Y ⟨rfl, hB⟩
            have HBY : Hid (Below w.heap.size w Y) := by first | exact (below_drawn HB1.out _).trans (hB.mono HB1.out.size) | exact (below_drawn (below_drawn HB1.out _) _).trans (hB.mono HB1.out.size)
            clear hB
            go_wp2_with fail
            go_ret
            exact ⟨rfl, HBY.out⟩
end Go.Proofs.Ytmheafadahdbfaa
