/- FindMath Find1 -/
import Derived.Test.YtngnhkghpnamoaaGc02
import Derived.BigQuiet
import Derived.Deep.QuietTactic
/- Layer 5: matches: plain mathematics. -/
namespace Go.Proofs.Ytngnhkghpnamoaa

def mrun (l : List Nat) (at' d : Nat) : Nat → Nat → Nat
  | 0, n => n
  | f + 1, n => if at' + n < l.length ∧ l.getD (at' + n) 0 = l.getD (at' + n - d) 0 then mrun l at' d f (n + 1) else n
/-- How long the bytes d back go on alike, at most 258. -/
def mlen (l : List Nat) (at' d : Nat) : Nat := mrun l at' d 258 0
theorem mrun_yes {l : List Nat} {a d f n : Nat} (h : a + n < l.length) (h1 : l.getD (a + n) 0 = l.getD (a + n - d) 0) : mrun l a d (f + 1) n = mrun l a d f (n + 1) := by
  conv => lhs; unfold mrun
  rw [if_pos ⟨h, h1⟩]
theorem mrun_no {l : List Nat} {a d f n : Nat} (h : ¬ (a + n < l.length ∧ l.getD (a + n) 0 = l.getD (a + n - d) 0)) : mrun l a d (f + 1) n = n := by
  conv => lhs; unfold mrun
  rw [if_neg h]
theorem mrun_le {l : List Nat} {a d : Nat} : ∀ (f n : Nat), n ≤ mrun l a d f n ∧ mrun l a d f n ≤ n + f
  | 0, n => ⟨Nat.le_refl _, Nat.le_refl _⟩
  | f + 1, n => by
    by_cases h : a + n < l.length ∧ l.getD (a + n) 0 = l.getD (a + n - d) 0
    · rw [mrun_yes h.1 h.2]
      have := mrun_le (l := l) (a := a) (d := d) f (n + 1)
      omega
    · rw [mrun_no h]; omega
theorem mlen_le (l : List Nat) (a d : Nat) : mlen l a d ≤ 258 := by have := (mrun_le (l := l) (a := a) (d := d) 258 0).2; unfold mlen; omega
theorem mrun_in {l : List Nat} {a d : Nat} : ∀ (f n : Nat), a + n ≤ l.length → a + mrun l a d f n ≤ l.length
  | 0, n, h => h
  | f + 1, n, h => by
    by_cases h1 : a + n < l.length ∧ l.getD (a + n) 0 = l.getD (a + n - d) 0
    · rw [mrun_yes h1.1 h1.2]; exact mrun_in f (n + 1) h1.1
    · rw [mrun_no h1]; exact h
theorem mlen_in {l : List Nat} {a d : Nat} (h : a ≤ l.length) : a + mlen l a d ≤ l.length := mrun_in 258 0 h
/-- The best of the first K distances: its length, itself. -/
def bestTo (l : List Nat) (a : Nat) : Nat → Nat × Nat
  | 0 => (0, 0)
  | K + 1 => if (bestTo l a K).1 < mlen l a (K + 1) then (mlen l a (K + 1), K + 1) else bestTo l a K
theorem bestTo_yes {l : List Nat} {a K : Nat} (h : (bestTo l a K).1 < mlen l a (K + 1)) : bestTo l a (K + 1) = (mlen l a (K + 1), K + 1) := by
  show (if _ then _ else _) = _; rw [if_pos h]
theorem bestTo_no {l : List Nat} {a K : Nat} (h : ¬ (bestTo l a K).1 < mlen l a (K + 1)) : bestTo l a (K + 1) = bestTo l a K := by
  conv => lhs; unfold bestTo
  rw [if_neg h]
theorem bestTo_le (l : List Nat) (a : Nat) : ∀ K, (bestTo l a K).1 ≤ 258 ∧ (bestTo l a K).2 ≤ K
  | 0 => ⟨Nat.zero_le _, Nat.le_refl _⟩
  | K + 1 => by
    have := bestTo_le l a K
    by_cases h : (bestTo l a K).1 < mlen l a (K + 1)
    · rw [bestTo_yes h]; exact ⟨mlen_le _ _ _, Nat.le_refl _⟩
    · rw [bestTo_no h]; exact ⟨this.1, by omega⟩
theorem bestTo_full {l : List Nat} {a K : Nat} (h : (bestTo l a K).1 = 258) : ∀ m, bestTo l a (K + m) = bestTo l a K
  | 0 => rfl
  | m + 1 => by
    have ih := bestTo_full h m
    have hl := mlen_le l a (K + m + 1)
    show bestTo l a ((K + m) + 1) = _
    rw [bestTo_no (by rw [ih, h]; omega), ih]
/-- Nothing among the first K is longer; what is as long is no nearer. -/
theorem bestTo_max (l : List Nat) (a : Nat) : ∀ K d, 1 ≤ d → d ≤ K → mlen l a d ≤ (bestTo l a K).1 ∧ (mlen l a d = (bestTo l a K).1 → 0 < mlen l a d → (bestTo l a K).2 ≤ d)
  | 0, d, h1, h2 => by omega
  | K + 1, d, h1, h2 => by
    have hle := bestTo_le l a K
    by_cases h : (bestTo l a K).1 < mlen l a (K + 1)
    · rw [bestTo_yes h]
      by_cases hd : d = K + 1
      · subst hd; exact ⟨Nat.le_refl _, fun _ _ => Nat.le_refl _⟩
      · have := bestTo_max l a K d h1 (by omega)
        exact ⟨by omega, fun e _ => by have := this.1; simp only at e; omega⟩
    · rw [bestTo_no h]
      by_cases hd : d = K + 1
      · subst hd; exact ⟨by omega, fun _ _ => by omega⟩
      · exact bestTo_max l a K d h1 (by omega)
theorem bestTo_is (l : List Nat) (a : Nat) : ∀ K, (bestTo l a K = (0, 0)) ∨ (1 ≤ (bestTo l a K).2 ∧ (bestTo l a K).2 ≤ K ∧ (bestTo l a K).1 = mlen l a (bestTo l a K).2 ∧ 0 < (bestTo l a K).1)
  | 0 => .inl rfl
  | K + 1 => by
    by_cases h : (bestTo l a K).1 < mlen l a (K + 1)
    · rw [bestTo_yes h]; exact .inr ⟨by simp, by simp, rfl, by simp only; omega⟩
    · rw [bestTo_no h]
      rcases bestTo_is l a K with h1 | ⟨h1, h2, h3⟩
      · exact .inl h1
      · exact .inr ⟨h1, by omega, h3⟩
def findE (l : List Nat) (a : Nat) : Nat × Nat := if a ≤ l.length then (if (bestTo l a (min 256 a)).1 < 3 then (0, 0) else bestTo l a (min 256 a)) else (0, 0)
theorem findE_cases (l : List Nat) (a : Nat) : findE l a = (0, 0) ∨ (3 ≤ (findE l a).1 ∧ (findE l a).1 ≤ 258 ∧ 1 ≤ (findE l a).2 ∧ (findE l a).2 ≤ 256 ∧ (findE l a).2 ≤ a ∧ (findE l a).1 = mlen l a (findE l a).2 ∧ a ≤ l.length) := by
  unfold findE
  by_cases h : a ≤ l.length
  · rw [if_pos h]
    by_cases h1 : (bestTo l a (min 256 a)).1 < 3
    · rw [if_pos h1]; exact .inl rfl
    · rw [if_neg h1]
      rcases bestTo_is l a (min 256 a) with h2 | ⟨h2, h3, h4, h5⟩
      · rw [h2] at h1; exact absurd (by decide) h1
      · exact .inr ⟨by omega, (bestTo_le l a _).1, h2, by omega, by omega, h4, h⟩
  · rw [if_neg h]; exact .inl rfl
/-- The same from the far distances on: those above K. -/
def downTo (l : List Nat) (a : Nat) : Nat → Nat × Nat → Nat × Nat
  | 0, b => b
  | K + 1, b => downTo l a K (if K + 1 ≤ a ∧ 3 ≤ mlen l a (K + 1) ∧ b.1 ≤ mlen l a (K + 1) then (mlen l a (K + 1), K + 1) else b)
theorem downTo_yes {l : List Nat} {a K : Nat} {b : Nat × Nat} (h : K + 1 ≤ a ∧ 3 ≤ mlen l a (K + 1) ∧ b.1 ≤ mlen l a (K + 1)) : downTo l a (K + 1) b = downTo l a K (mlen l a (K + 1), K + 1) := by
  conv => lhs; unfold downTo
  rw [if_pos h]
theorem downTo_no {l : List Nat} {a K : Nat} {b : Nat × Nat} (h : ¬ (K + 1 ≤ a ∧ 3 ≤ mlen l a (K + 1) ∧ b.1 ≤ mlen l a (K + 1))) : downTo l a (K + 1) b = downTo l a K b := by
  conv => lhs; unfold downTo
  rw [if_neg h]
/-- Behind all: the best of those up to K, if it is long enough and as long as b. -/
theorem downTo_best (l : List Nat) (a : Nat) : ∀ K b, (b.1 = 0 → b = (0, 0)) → downTo l a K b = if 3 ≤ (bestTo l a (min K a)).1 ∧ b.1 ≤ (bestTo l a (min K a)).1 then bestTo l a (min K a) else b
  | 0, b, hb => by
    rw [Nat.zero_min, if_neg (by show ¬ (3 ≤ 0 ∧ _); omega)]; rfl
  | K + 1, b, hb => by
    by_cases hka : K + 1 ≤ a
    · have e1 : min (K + 1) a = K + 1 := by omega
      have e2 : min K a = K := by omega
      rw [e1]
      by_cases h : 3 ≤ mlen l a (K + 1) ∧ b.1 ≤ mlen l a (K + 1)
      · rw [downTo_yes ⟨hka, h⟩, downTo_best l a K _ (fun h0 => by simp only at h0; omega), e2]
        by_cases h2 : (bestTo l a K).1 < mlen l a (K + 1)
        · rw [bestTo_yes h2, if_neg (by simp only; omega), if_pos h]
        · rw [bestTo_no h2, if_pos (by simp only; omega), if_pos (by omega)]
      · rw [downTo_no (fun q => h q.2), downTo_best l a K b hb, e2]
        by_cases h2 : (bestTo l a K).1 < mlen l a (K + 1)
        · rw [bestTo_yes h2, if_neg h, if_neg (by omega)]
        · rw [bestTo_no h2]
    · rw [downTo_no (fun q => hka q.1), downTo_best l a K b hb, show min (K + 1) a = min K a by omega]
theorem downTo_find {l : List Nat} {a : Nat} (h : a ≤ l.length) : downTo l a 256 (0, 0) = findE l a := by
  rw [downTo_best l a 256 (0, 0) (fun _ => rfl)]
  unfold findE
  rw [if_pos h]
  by_cases h1 : (bestTo l a (min 256 a)).1 < 3
  · rw [if_neg (by omega), if_pos h1]
  · rw [if_pos ⟨by omega, Nat.zero_le _⟩, if_neg h1]
end Go.Proofs.Ytngnhkghpnamoaa

namespace Go.Proofs.Ytngnhkghpnamoaa
open Go.RowKit
set_option linter.unusedVariables false
set_option maxRecDepth 100000

theorem drewN_two (w : World) (n m : Nat) : (w.drewN n).drewN m = w.drewN (n + m) := World.drewN_drewN ..
/-- A byte of a slice that reads as l. -/
theorem Nums.byte {w : World} {B : Nat} {a : Option Addr} {l : List Nat} (h : Nums .u8 w B a l) {i : Nat} (hi : i < l.length) : ∃ b off, a = some ⟨b, off, none⟩ ∧ b < B ∧ w.cell? ⟨b, off + i, none⟩ = some (.int .u8 ((l.getD i 0 : Nat) : Int)) := by
  obtain ⟨b, off, e, hb, hc⟩ := h (by omega)
  exact ⟨b, off, e, hb, hc i hi⟩
set_option maxHeartbeats 4000000 in
theorem same_any (A : Option Addr) (c : Nat) (l : List Nat) (at' d : Nat) (w : World) (hN : Nums .u8 w w.heap.size A l) (hl : l.length ≤ 1100000) (hd1 : 1 ≤ d) (hd2 : d ≤ at') (hat : at' ≤ l.length) (R : Nat) (hR : mlen l at' d = R) :
    Calls Try.prog 79 #[.slice A l.length c, .int .i64 (at' : Int), .int .i64 (d : Int)] w fun e w' => e = .returned (.int .i64 (R : Int)) ∧ ∃ k, w' = w.drewN k := by
  have HN := Lib.hid hN
  obtain ⟨L, hL⟩ : ∃ L, L = l.length := ⟨_, rfl⟩
  rw [← hL] at hl hat ⊢
  have HL := Lib.hid hL
  have HR : Hid (mrun l at' d 258 0 = R) := hR
  clear hN hL hR
  go_enter Try.func79, Try.ntmps79
  go_wp2_with fail
  go_loopw [7] (fun i W => ∃ (n k f : Nat), i = .int .i64 (n : Int) ∧ W = w.drewN k ∧ n + f = 258 ∧ Hid (mrun l at' d f n = R)) (fun i _ => 258 - (intOf i).toNat)
  case atStart => exact ⟨0, 0, 258, rfl, rfl, by omega, HR.out⟩
  case round =>
    obtain ⟨n, k, f, rfl, rfl, hnf, hE⟩ := hrel
    rcases f with _ | f
    · have d1 : decide ((n : Int) < 258) = false := decide_eq_false (by omega)
      have hF : n = R := hE.out
      subst hF
      clear hnf
      go_wp2_with fail
      go_quiet (fail)
      go_wp2_with fail
      go_ret
      first | exact ⟨rfl, _, rfl⟩ | exact ⟨rfl, _, drewN_two _ _ _⟩
    · have d1 : decide ((n : Int) < 258) = true := decide_eq_true (by omega)
      obtain ⟨i, hi⟩ : ∃ i, i = at' + n := ⟨_, rfl⟩
      have w1 : IntKind.i64.wrap ((at' : Int) + (n : Int)) = (i : Int) := by rw [IntWalk.i64_in _ ⟨by omega, by omega⟩]; omega
      have hn257 : n ≤ 257 := by omega
      have w1c : IntKind.i64.wrap (i : Int) = (i : Int) := IntWalk.i64_in _ ⟨by omega, by omega⟩
      have hil : i ≤ 1100258 := by omega
      by_cases h1 : i < L
      · have d2 : decide ((i : Int) < (L : Int)) = true := decide_eq_true (by omega)
        obtain ⟨j, hj⟩ : ∃ j, j = i - d := ⟨_, rfl⟩
        have w2 : IntKind.i64.wrap ((i : Int) - (d : Int)) = (j : Int) := by rw [IntWalk.i64_in _ ⟨by omega, by omega⟩]; omega
        have i0 : (0 : Int) ≤ (i : Int) := by omega
        have i1 : (i : Int) < (L : Int) := by omega
        have j0 : (0 : Int) ≤ (j : Int) := by omega
        have j1 : (j : Int) < (L : Int) := by omega
        have j2 : j < L := by omega
        obtain ⟨b, off, rfl, hb, c0⟩ := HN.out.byte (i := i) (by have := HL.out; omega)
        obtain ⟨b', off', e', _, c1⟩ := HN.out.byte (i := j) (by have := HL.out; omega)
        obtain ⟨rfl, rfl⟩ : b' = b ∧ off' = off := by injection e' with e'; injection e' with e1 e2; exact ⟨e1.symm, e2.symm⟩
        have hyes := mrun_yes (l := l) (a := at') (d := d) (f := f) (n := n) (by rw [← hi, ← HL.out]; exact h1)
        have hno := mrun_no (l := l) (a := at') (d := d) (f := f) (n := n)
        rw [← hi, ← hj] at hyes hno
        obtain ⟨x, hx⟩ : ∃ x, x = l.getD i 0 := ⟨_, rfl⟩
        obtain ⟨y, hy⟩ : ∃ y, y = l.getD j 0 := ⟨_, rfl⟩
        rw [← hx] at c0 hyes hno
        rw [← hy] at c1 hyes hno
        have Hnf := Lib.hid hnf
        by_cases hxy : x = y
        · subst hxy
          have e1 : ((x : Int) == (x : Int)) = true := beq_self_eq_true _
          have HNx : Hid (mrun l at' d f (n + 1) = R) := by show _ = _; rw [← hyes rfl]; exact hE.out
          clear hyes hno hx hy hi hj e' hnf
          go_wp2_with fail
          go_quiet (fail)
          go_wp2_with fail
          go_roundw
          case rel => exact ⟨n + 1, _, f, by go_num, by first | rfl | exact drewN_two _ _ _, by have := Hnf.out; omega, HNx.out⟩
          case measure => have := Hnf.out; simp [intOf]; omega
        · have e1 : ((x : Int) == (y : Int)) = false := beq_eq_false_iff_ne.mpr (by omega)
          have hF : n = R := by rw [← hE.out, hno (fun h => hxy h.2)]
          subst hF
          clear hyes hno hx hy hi hj e' hnf hxy
          go_wp2_with fail
          go_quiet (fail)
          go_wp2_with fail
          go_ret
          first | exact ⟨rfl, _, rfl⟩ | exact ⟨rfl, _, drewN_two _ _ _⟩
      · have d2 : decide ((i : Int) < (L : Int)) = false := decide_eq_false (by omega)
        have d3 : decide (i < L) = false := decide_eq_false h1
        have hF : n = R := by rw [← hE.out, mrun_no (fun h => h1 (by rw [hi, HL.out]; exact h.1))]
        subst hF
        clear hi hnf h1
        go_wp2_with fail
        go_quiet (fail)
        go_wp2_with fail
        go_ret
        first | exact ⟨rfl, _, rfl⟩ | exact ⟨rfl, _, drewN_two _ _ _⟩
end Go.Proofs.Ytngnhkghpnamoaa
