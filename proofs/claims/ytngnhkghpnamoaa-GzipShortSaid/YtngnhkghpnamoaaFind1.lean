/- Find1 -/
import Derived.Test.YtngnhkghpnamoaaFindMath
import Derived.Test.YtngnhkghpnamoaaGb03
import Derived.BigQuiet
import Derived.Deep.QuietTactic
namespace Go.Proofs.Ytngnhkghpnamoaa
open Go.RowKit
set_option linter.unusedVariables false
set_option maxRecDepth 100000

theorem drewN_two (w : World) (n m : Nat) : (w.drewN n).drewN m = w.drewN (n + m) := World.drewN_drewN ..
/-- A byte of a slice that reads as l. -/
theorem Nums.byte {w : World} {B : Nat} {a : Option Addr} {l : List Nat} (h : Nums .u8 w B a l) {i : Nat} (hi : i < l.length) : ∃ b off, a = some ⟨b, off, none⟩ ∧ b < B ∧ w.cell? ⟨b, off + i, none⟩ = some (.int .u8 ((l.getD i 0 : Nat) : Int)) := by
  obtain ⟨b, off, e, hb, hc⟩ := h (by omega)
  exact ⟨b, off, e, hb, hc i hi⟩
set_option maxHeartbeats 4000000 in
theorem same_any (A : Option Addr) (c : Nat) (l : List Nat) (at' d : Nat) (w : World) (hN : Nums .u8 w w.heap.size A l) (hl : l.length ≤ 1100000) (hd1 : 1 ≤ d) (hd2 : d ≤ at') (hat : at' ≤ l.length) (R : Nat) (hR : mlen l at' d = R) :
    Calls Try.prog 79 #[.slice A l.length c, .int .i64 (at' : Int), .int .i64 (d : Int)] w fun e w' => e = .returned (.int .i64 (R : Int)) ∧ ∃ k, w' = w.drewN k := by
  have HN := Lib.hid hN
  obtain ⟨L, hL⟩ : ∃ L, L = l.length := ⟨_, rfl⟩
  rw [← hL] at hl hat ⊢
  have HL := Lib.hid hL
  have HR : Hid (mrun l at' d 258 0 = R) := hR
  clear hN hL hR
  go_enter Try.func79, Try.ntmps79
  go_wp2_with fail
  go_loopw [7] (fun i W => ∃ (n k f : Nat), i = .int .i64 (n : Int) ∧ W = w.drewN k ∧ n + f = 258 ∧ Hid (mrun l at' d f n = R)) (fun i _ => 258 - (intOf i).toNat)
  case atStart => exact ⟨0, 0, 258, rfl, rfl, by omega, HR.out⟩
  case round =>
    obtain ⟨n, k, f, rfl, rfl, hnf, hE⟩ := hrel
    rcases f with _ | f
    · have d1 : decide ((n : Int) < 258) = false := decide_eq_false (by omega)
      have hF : n = R := hE.out
      subst hF
      clear hnf
      go_wp2_with fail
      go_quiet (fail)
      go_wp2_with fail
      go_ret
      first | exact ⟨rfl, _, rfl⟩ | exact ⟨rfl, _, drewN_two _ _ _⟩
    · have d1 : decide ((n : Int) < 258) = true := decide_eq_true (by omega)
      obtain ⟨i, hi⟩ : ∃ i, i = at' + n := ⟨_, rfl⟩
      have w1 : IntKind.i64.wrap ((at' : Int) + (n : Int)) = (i : Int) := by rw [IntWalk.i64_in _ ⟨by omega, by omega⟩]; omega
      have hn257 : n ≤ 257 := by omega
      have w1c : IntKind.i64.wrap (i : Int) = (i : Int) := IntWalk.i64_in _ ⟨by omega, by omega⟩
      have hil : i ≤ 1100258 := by omega
      by_cases h1 : i < L
      · have d2 : decide ((i : Int) < (L : Int)) = true := decide_eq_true (by omega)
        obtain ⟨j, hj⟩ : ∃ j, j = i - d := ⟨_, rfl⟩
        have w2 : IntKind.i64.wrap ((i : Int) - (d : Int)) = (j : Int) := by rw [IntWalk.i64_in _ ⟨by omega, by omega⟩]; omega
        have i0 : (0 : Int) ≤ (i : Int) := by omega
        have i1 : (i : Int) < (L : Int) := by omega
        have j0 : (0 : Int) ≤ (j : Int) := by omega
        have j1 : (j : Int) < (L : Int) := by omega
        have j2 : j < L := by omega
        obtain ⟨b, off, rfl, hb, c0⟩ := HN.out.byte (i := i) (by have := HL.out; omega)
        obtain ⟨b', off', e', _, c1⟩ := HN.out.byte (i := j) (by have := HL.out; omega)
        obtain ⟨rfl, rfl⟩ : b' = b ∧ off' = off := by injection e' with e'; injection e' with e1 e2; exact ⟨e1.symm, e2.symm⟩
        have hyes := mrun_yes (l := l) (a := at') (d := d) (f := f) (n := n) (by rw [← hi, ← HL.out]; exact h1)
        have hno := mrun_no (l := l) (a := at') (d := d) (f := f) (n := n)
        rw [← hi, ← hj] at hyes hno
        obtain ⟨x, hx⟩ : ∃ x, x = l.getD i 0 := ⟨_, rfl⟩
        obtain ⟨y, hy⟩ : ∃ y, y = l.getD j 0 := ⟨_, rfl⟩
        rw [← hx] at c0 hyes hno
        rw [← hy] at c1 hyes hno
        have Hnf := Lib.hid hnf
        by_cases hxy : x = y
        · subst hxy
          have e1 : ((x : Int) == (x : Int)) = true := beq_self_eq_true _
          have HNx : Hid (mrun l at' d f (n + 1) = R) := by show _ = _; rw [← hyes rfl]; exact hE.out
          clear hyes hno hx hy hi hj e' hnf
          go_wp2_with fail
          go_quiet (fail)
          go_wp2_with fail
          go_roundw
          case rel => exact ⟨n + 1, _, f, by go_num, by first | rfl | exact drewN_two _ _ _, by have := Hnf.out; omega, HNx.out⟩
          case measure => have := Hnf.out; simp [intOf]; omega
        · have e1 : ((x : Int) == (y : Int)) = false := beq_eq_false_iff_ne.mpr (by omega)
          have hF : n = R := by rw [← hE.out, hno (fun h => hxy h.2)]
          subst hF
          clear hyes hno hx hy hi hj e' hnf hxy
          go_wp2_with fail
          go_quiet (fail)
          go_wp2_with fail
          go_ret
          first | exact ⟨rfl, _, rfl⟩ | exact ⟨rfl, _, drewN_two _ _ _⟩
      · have d2 : decide ((i : Int) < (L : Int)) = false := decide_eq_false (by omega)
        have d3 : decide (i < L) = false := decide_eq_false h1
        have hF : n = R := by rw [← hE.out, mrun_no (fun h => h1 (by rw [hi, HL.out]; exact h.1))]
        subst hF
        clear hi hnf h1
        go_wp2_with fail
        go_quiet (fail)
        go_wp2_with fail
        go_ret
        first | exact ⟨rfl, _, rfl⟩ | exact ⟨rfl, _, drewN_two _ _ _⟩
end Go.Proofs.Ytngnhkghpnamoaa
