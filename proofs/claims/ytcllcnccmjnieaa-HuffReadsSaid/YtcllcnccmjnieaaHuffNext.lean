/- Walks over layer 3: the reference's Next. -/
import Derived.Test.YtcllcnccmjnieaaHuffMake
import Derived.Test.YtcllcnccmjnieaaHuffRefRd
namespace Go.Proofs.Ytcllcnccmjnieaa
open Go.RowKit Huff Bit
set_option linter.unusedVariables false
set_option maxRecDepth 100000

def Rd3B (w : World) (R : Nat × Nat × Nat) (e : Ending) (w' : World) : Prop := e = .returned (.tuple #[.int .i64 (R.1 : Int), .int .i64 (R.2.1 : Int), .int .i64 (R.2.2 : Int)]) ∧ Below w.heap.size w w'
set_option maxHeartbeats 8000000 in
theorem refNext_any (base : Nat) (bv : Value) (p N cb : Nat) (ab : Option Addr) (l bs : List Nat) (w : World) (hB : BookV w base l bv) (hV : Vals w w.heap.size 1 ab N (bools (bitsFrom bs 0 N))) (hl : l.length ≤ 288)
    (hN : N ≤ 1000000) (hp : p ≤ N) (R : Nat × Nat × Nat) (hR : scan l (bitOf bs) N p 15 0 0 = R) :
    Calls Try.prog 20 #[bv, .slice ab N cb, .int .i64 (p : Int)] w (Rd3B w R) := by
  obtain ⟨v, rfl, _, hrow⟩ := hB
  obtain ⟨T, hT⟩ : ∃ T, T = (bcells (firstTo l 16) v).toArray := ⟨_, rfl⟩
  rw [← hT]
  have Hbit : Hid (∀ q, q < N → ∃ b off, ab = some ⟨b, off, none⟩ ∧ b < w.heap.size ∧ w.cell? ⟨b, off + q, none⟩ = some (.bool (bitOf bs q == 1))) := fun q hq => by
    obtain ⟨b, off, e, hb, hc⟩ := hV.2 (by simp [bools, bitsFrom_length]; omega)
    refine ⟨b, off, e, hb, ?_⟩
    rw [hc q (by simp [bools, bitsFrom_length]; exact hq)]
    simp [bools, bitsFrom_get bs 0 N q hq]
  have Hbt : Hid (∀ q, bitOf bs q < 2) := bitOf_lt bs
  have Hs0 := Lib.hid hR
  have Hnx : Hid (∀ n, 1 ≤ n → n ≤ 15 → fst l n < 30000000 ∧ (syms l n).length ≤ 288) := fun n h1 h2 => by
    have := nxt_lt l hl (n - 1) (by omega)
    exact ⟨by unfold fst; omega, Nat.le_trans (syms_len l n) hl⟩
  have Hrow := Lib.hid hrow
  have Hw : Hid (∀ n, 1 ≤ n → n ≤ 15 → T[n]? = some (.int .i64 (fst l n : Int)) ∧ T[16 + n]? = some (v n)) := fun n h1 h2 => by
    rw [hT]
    refine ⟨?_, by simpa using bcells_of (firstTo l 16) v (show n < 16 by omega)⟩
    have := bcells_first (firstTo l 16) v (show n < 16 by omega)
    have hF : firstTo l 16 n = fst l n := by unfold firstTo; rw [if_pos ⟨h1, by omega⟩]
    rw [hF] at this
    simpa using this
  have Hlit : Hid (T = #[.int .i64 (firstTo l 16 0 : Int), .int .i64 (firstTo l 16 1 : Int), .int .i64 (firstTo l 16 2 : Int), .int .i64 (firstTo l 16 3 : Int), .int .i64 (firstTo l 16 4 : Int), .int .i64 (firstTo l 16 5 : Int), .int .i64 (firstTo l 16 6 : Int), .int .i64 (firstTo l 16 7 : Int), .int .i64 (firstTo l 16 8 : Int), .int .i64 (firstTo l 16 9 : Int), .int .i64 (firstTo l 16 10 : Int), .int .i64 (firstTo l 16 11 : Int), .int .i64 (firstTo l 16 12 : Int), .int .i64 (firstTo l 16 13 : Int), .int .i64 (firstTo l 16 14 : Int), .int .i64 (firstTo l 16 15 : Int), v 0, v 1, v 2, v 3, v 4, v 5, v 6, v 7, v 8, v 9, v 10, v 11, v 12, v 13, v 14, v 15]) := by rw [hT]; rfl
  clear hV hR hrow hT hl
  go_enter Try.func20, Try.ntmps20
  go_upto_region 1 with (fail)
  obtain ⟨g, hg⟩ : ∃ g, g = w.heap.size := ⟨_, rfl⟩
  obtain ⟨X1, hX1⟩ : ∃ X, X = w.alloc (.cells T 44) := ⟨_, rfl⟩
  have HW : Hid (Whole X1 g 44 T) := by rw [hX1, hg]; exact Whole.new w _ _
  have HB : Hid (Below w.heap.size w X1) := by rw [hX1]; exact (Below.refl _ _).alloc (Nat.le_refl _) _
  rw [← hX1, ← hg]
  clear hX1 hg
  go_wp2_with fail
  go_loop [2, 9, 10] (fun x y z => ∃ (k u n q : Nat), n = k + 1 ∧ n ≤ 16 ∧ q = p + k ∧ x = .int .i64 (q : Int) ∧ y = .int .i64 (u : Int) ∧ z = .int .i64 (n : Int) ∧ u < 2 ^ k ∧ q ≤ N ∧ Hid (scan l (bitOf bs) N p (15 - k) k u = R)) (fun _ _ z => 16 - (intOf z).toNat)
  case atStart => exact ⟨0, 0, 1, p, rfl, by omega, rfl, rfl, rfl, rfl, by decide, hp, Hs0⟩
  case round =>
    obtain ⟨k, u, n, q, hkn, hn16, hq, rfl, rfl, rfl, hu, hqN, HS⟩ := hrel
    clear Hs0
    by_cases hlt : n < 16
    · have d1 : decide ((n : Int) < 16) = true := decide_eq_true (by omega)
      have d2 : decide (n < 16) = true := decide_eq_true hlt
      have hsc := HS.out
      obtain ⟨f, hf⟩ : ∃ f, 15 - k = f + 1 := ⟨14 - k, by omega⟩
      rw [hf] at hsc
      by_cases hN2 : N ≤ q
      · have d3 : decide ((N : Int) ≤ (q : Int)) = true := decide_eq_true (by omega)
        have d4 : decide (N ≤ q) = true := decide_eq_true hN2
        rw [scan_short (by omega), ← hq] at hsc
        subst hsc
        clear hq hN2 hf hlt hkn hu
        go_wp2_with fail
        go_ret3
        exact ⟨rfl, HB.out⟩
      · have d3 : decide ((N : Int) ≤ (q : Int)) = false := decide_eq_false (by omega)
        have d4 : decide (N ≤ q) = false := decide_eq_false hN2
        obtain ⟨b1, o1, rfl, hb1, p0⟩ := Hbit.out q (by omega)
        have p0 := (HB.out.cell (p := ⟨b1, o1 + q, none⟩) hb1).trans p0
        have hb2 := Hbt.out q
        have hN3 : ¬ N ≤ p + k := by omega
        have hmiss := fun h => (scan_miss (l := l) (bt := bitOf bs) (f := f) (v := u) hN3 h).symm.trans hsc
        have hhit := fun s h => (scan_hit (s := s) (l := l) (bt := bitOf bs) (f := f) (v := u) hN3 h).symm.trans hsc
        rw [← hq, ← hkn] at hmiss hhit
        generalize bitOf bs q = b at *
        have hu2 : 2 * u + b < 2 ^ (k + 1) := by rw [Nat.pow_succ]; omega
        have hpw : 2 ^ k ≤ 2 ^ 14 := Nat.pow_le_pow_right (by omega) (by omega)
        obtain ⟨a, cc, hvn, hNs, _⟩ := Hrow.out n (by omega) (by omega)
        obtain ⟨t1, t2⟩ := Hw.out n (by omega) (by omega)
        rw [hvn] at t2
        have c1 : X1.cell? ⟨g, n, none⟩ = some (.int .i64 (fst l n : Int)) := by rw [HW.out.cell]; exact t1
        have c2 : X1.cell? ⟨g, 16 + n, none⟩ = some (.slice a (syms l n).length cc) := by rw [HW.out.cell]; exact t2
        obtain ⟨n1, n2⟩ := Hnx.out n (by omega) (by omega)
        obtain ⟨H, hH⟩ : ∃ H, hit l n (2 * u + b) = H := ⟨_, rfl⟩
        rw [hH] at hmiss hhit
        have hHd := hH
        unfold hit at hHd
        have hNs2 : ∀ i (h : i < (syms l n).length), ∃ b off, a = some ⟨b, off, none⟩ ∧ X1.cell? ⟨b, off + i, none⟩ = some (.int .i64 (((syms l n)[i] : Nat) : Int)) := fun i h => by
          obtain ⟨b, off, e, hbl, hc⟩ := hNs (by omega)
          refine ⟨b, off, e, ?_⟩
          rw [HB.out.cell (p := ⟨b, off + i, none⟩) hbl, hc i h]
          simp [h]
        generalize fst l n = F at *
        generalize syms l n = sy at *
        obtain ⟨M, hM⟩ : ∃ M, sy.length = M := ⟨_, rfl⟩
        rw [hM] at c2 n2
        have HM := Lib.hid hM
        have hn0 : (0 : Int) ≤ (n : Int) := by omega
        have hn16 : (n : Int) < 16 := by omega
        have hq0 : (0 : Int) ≤ (q : Int) := by omega
        have hqn : (q : Int) < (N : Int) := by omega
        have hq1 : q + 1 ≤ N := by omega
        obtain ⟨U, hU⟩ : ∃ U, 2 * u + b = U := ⟨_, rfl⟩
        rw [hU] at hu2 hmiss hHd
        have hUl : U < 100000 := by omega
        have hb01 : b = 0 ∨ b = 1 := by omega
        have hUU : (b = 0 → 2 * (u : Int) = (U : Int)) ∧ (b = 1 → 2 * (u : Int) + 1 = (U : Int)) := by omega
        have Hmiss := Lib.hid hmiss
        have Hhit := Lib.hid hhit
        have Hu2 := Lib.hid hu2
        have HUU := Lib.hid hUU
        have Hq := Lib.hid hq
        have Hf := Lib.hid hf
        have Hkn := Lib.hid hkn
        have HNs := Lib.hid hNs2
        clear hsc hmiss hhit hu2 hH hq hf hN2 hN3 hkn hNs hNs2 hvn t1 t2 hM hU hb2 hUU hpw hu
        by_cases hge : F ≤ U
        · rw [if_pos hge] at hHd
          obtain ⟨d, hd⟩ : ∃ d, U - F = d := ⟨_, rfl⟩
          rw [hd] at hHd
          have hdi : (U : Int) - (F : Int) = (d : Int) := by omega
          have e1 : decide ((0 : Int) ≤ (d : Int)) = true := decide_eq_true (by omega)
          have hd0 : (0 : Int) ≤ (d : Int) := by omega
          by_cases hdM : d < M
          · have hds : d < sy.length := by have := HM.out; omega
            rw [List.getElem?_eq_getElem hds] at hHd
            obtain ⟨b3, o3, rfl, s0⟩ := HNs.out d hds
            generalize sy[d]'hds = s at *
            subst hHd
            have e9 := Hhit.out s rfl
            subst e9
            have e2 : decide ((d : Int) < (M : Int)) = true := decide_eq_true (by omega)
            have e3 : decide (d < M) = true := decide_eq_true hdM
            have hdm : (d : Int) < (M : Int) := by omega
            have hdl : d < 1000 := by omega
            clear Hmiss Hhit hd hge hdM
            rcases hb01 with rfl | rfl
            · have w1 := HUU.out.1 rfl
              rw [show ((0 : Nat) == 1) = false from rfl] at p0
              go_wp2_with fail
              go_ret3
              exact ⟨by go_num, HB.out⟩
            · have w1 := HUU.out.2 rfl
              rw [show ((1 : Nat) == 1) = true from rfl] at p0
              go_wp2_with fail
              go_ret3
              exact ⟨by go_num, HB.out⟩
          · have hn9 : sy[d]? = none := List.getElem?_eq_none (by have := HM.out; omega)
            rw [hn9] at hHd
            subst hHd
            have HS2 : Hid (scan l (bitOf bs) N p (15 - (k + 1)) (k + 1) U = R) := by
              have := Hmiss.out rfl
              show _ = _
              rw [show 15 - (k + 1) = f by have := Hf.out; omega, ← Hkn.out]
              exact this
            have e2 : decide ((d : Int) < (M : Int)) = false := decide_eq_false (by omega)
            have e3 : decide (d < M) = false := decide_eq_false hdM
            have hdl : d < 100000 := by omega
            clear Hmiss Hhit hd hge hdM hn9
            rcases hb01 with rfl | rfl
            · have w1 := HUU.out.1 rfl
              rw [show ((0 : Nat) == 1) = false from rfl] at p0
              go_wp2_with fail
              go_round
              case rel => exact ⟨k + 1, U, n + 1, q + 1, by have := Hkn.out; omega, by omega, by have := Hq.out; omega, by go_num, rfl, by go_num, Hu2.out, hq1, HS2⟩
              case measure => simp [intOf]; omega
            · have w1 := HUU.out.2 rfl
              rw [show ((1 : Nat) == 1) = true from rfl] at p0
              go_wp2_with fail
              go_round
              case rel => exact ⟨k + 1, U, n + 1, q + 1, by have := Hkn.out; omega, by omega, by have := Hq.out; omega, by go_num, rfl, by go_num, Hu2.out, hq1, HS2⟩
              case measure => simp [intOf]; omega
        · rw [if_neg hge] at hHd
          subst hHd
          have HS2 : Hid (scan l (bitOf bs) N p (15 - (k + 1)) (k + 1) U = R) := by
            have := Hmiss.out rfl
            show _ = _
            rw [show 15 - (k + 1) = f by have := Hf.out; omega, ← Hkn.out]
            exact this
          have e1 : decide ((0 : Int) ≤ (U : Int) - (F : Int)) = false := decide_eq_false (by omega)
          have e1' : decide ((F : Int) ≤ (U : Int)) = false := decide_eq_false (by omega)
          have e2' : decide (F ≤ U) = false := decide_eq_false hge
          clear Hmiss Hhit hge
          rcases hb01 with rfl | rfl
          · have w1 := HUU.out.1 rfl
            rw [show ((0 : Nat) == 1) = false from rfl] at p0
            go_wp2_with fail
            go_round
            case rel => exact ⟨k + 1, U, n + 1, q + 1, by have := Hkn.out; omega, by omega, by have := Hq.out; omega, by go_num, rfl, by go_num, Hu2.out, hq1, HS2⟩
            case measure => simp [intOf]; omega
          · have w1 := HUU.out.2 rfl
            rw [show ((1 : Nat) == 1) = true from rfl] at p0
            go_wp2_with fail
            go_round
            case rel => exact ⟨k + 1, U, n + 1, q + 1, by have := Hkn.out; omega, by omega, by have := Hq.out; omega, by go_num, rfl, by go_num, Hu2.out, hq1, HS2⟩
            case measure => simp [intOf]; omega
    · have hk15 : k = 15 := by omega
      have hsc := HS.out
      rw [show 15 - k = 0 by omega] at hsc
      have e9 : (0, p + k, 3) = R := hsc
      rw [← hq] at e9
      subst e9
      have d1 : decide ((n : Int) < 16) = false := decide_eq_false (by omega)
      have d2 : decide (n < 16) = false := decide_eq_false hlt
      clear hsc hlt hq hk15 hkn
      go_wp2_with fail
      go_ret3
      exact ⟨rfl, HB.out⟩
end Go.Proofs.Ytcllcnccmjnieaa
