/- PutW DefTab -/
import Derived.Test.YtngnhkghpnamoaaGc21
import Derived.Test.YtngnhkghpnamoaaHuff4
import Derived.Test.YtngnhkghpnamoaaGc06
import Derived.Test.YtngnhkghpnamoaaGc02
namespace Go.Proofs.Ytngnhkghpnamoaa
open Go.RowKit Huff Bit
set_option linter.unusedVariables false
set_option maxRecDepth 100000

/-- The words of a code, in their two blocks. -/
def WordsAt (w : World) (g : Nat) (l : List Nat) : Prop := ∃ (gw : Nat) (v : Nat → Value), gw < g ∧ Whole w g 118 (ccells (.slice (some ⟨gw, 0, none⟩) l.length l.length) (firstTo l 16) v).toArray ∧ Whole w gw 120 (wcells (words l)).toArray
theorem WordsAt.of {w : World} {base g : Nat} {l : List Nat} (h : CodeAt w base g l) : WordsAt w g l := by
  obtain ⟨gw, v, h1, hC, hW, hG⟩ := h
  exact ⟨gw, v, h1, hC, hW⟩
theorem WordsAt.lt {w : World} {g : Nat} {l : List Nat} (h : WordsAt w g l) : g < w.heap.size := by
  obtain ⟨gw, v, h1, hC, hW⟩ := h
  exact hC.lt
theorem WordsAt.kept {w w' : World} {g : Nat} {l : List Nat} (h : WordsAt w g l) (hb : ∀ k, k ≤ g → (∀ e cs, Whole w k e cs → (e = 118 ∨ e = 120) → w'.heap[k]? = w.heap[k]?)) : WordsAt w' g l := by
  obtain ⟨gw, v, h1, hC, hW⟩ := h
  exact ⟨gw, v, h1, (hb g (Nat.le_refl _) _ _ hC (.inl rfl)).trans hC, (hb gw (by omega) _ _ hW (.inr rfl)).trans hW⟩
theorem WordsAt.drawn {w : World} {g : Nat} {l : List Nat} (h : WordsAt w g l) (k : Nat) : WordsAt (w.drewN k) g l := h
theorem WordsAt.below {w w' : World} {g : Nat} {l : List Nat} (h : WordsAt w g l) (hb : Below w.heap.size w w') : WordsAt w' g l := h.kept fun k hk e cs hw _ => hb.block k hw.lt
set_option maxHeartbeats 2000000 in
theorem of_words (g : Nat) (l : List Nat) (i : Nat) (w : World) (h : WordsAt w g l) (hi : i < l.length) (R : Nat × Nat) (hR : wordOf l i = R) :
    Calls Try.prog 68 #[.pointer (some ⟨g, 0, none⟩), .int .i64 (i : Int)] w fun e w' => e = .returned (.tuple #[.int .u32 (R.1 : Int), .int .i64 (R.2 : Int)]) ∧ ∃ k, w' = w.drewN k := by
    obtain ⟨gw, v, h1, hC, hW⟩ := h
    have c0 : w.cell? ⟨g, 0, none⟩ = some (.slice (some ⟨gw, 0, none⟩) l.length l.length) := by rw [hC.cell]; rfl
    obtain ⟨x0, x1⟩ := wcells_get (words l) i (by simpa [words] using hi)
    rw [words_get hi, hR] at x0 x1
    have hx0 : w.cell? ⟨gw, i * 2, none⟩ = some (.int .u32 (R.1 : Int)) := by rw [hW.cell]; simpa using x0
    have hx1 : w.cell? ⟨gw, i * 2 + 1, none⟩ = some (.int .i64 (R.2 : Int)) := by rw [hW.cell]; simpa using x1
    obtain ⟨L, hL⟩ : ∃ L, L = l.length := ⟨_, rfl⟩
    rw [← hL] at c0 hi
    have d1 : decide ((i : Int) < 0) = false := decide_eq_false (by omega)
    have d2 : decide ((L : Int) ≤ (i : Int)) = false := decide_eq_false (by omega)
    have d3 : decide (L ≤ i) = false := decide_eq_false (by omega)
    have i0 : (0 : Int) ≤ (i : Int) := by omega
    have i1 : (i : Int) < (L : Int) := by omega
    clear hR hL hC hW x0 x1
    go_enter Try.func68, Try.ntmps68
    go_wp2_with fail
    go_quiet (fail)
    go_wp2_with fail
    go_ret2
    exact ⟨rfl, _, rfl⟩
set_option maxHeartbeats 2000000 in
theorem write_words (g gw i V m N n : Nat) (vw : Value) (l : List Nat) (w : World) (hK : WordsAt w g l) (hWr : Wr w gw vw N n) (hn : n < 100000) (hi : i < l.length) (hw : wordOf l i = (V, m)) (hm : 0 < m) (hm2 : m ≤ 15) (hV : V < 100000) :
    Calls Try.prog 43 #[.pointer (some ⟨g, 0, none⟩), .pointer (some ⟨gw, 0, none⟩), .int .i64 (i : Int)] w (WrYes w gw vw (N + turned V m m * 2 ^ n) (n + m)) := by
  have Hof := Lib.hid (of_words g l i w hK hi _ hw)
  simp only at Hof
  have Htu := Lib.hid fun k => wturned_ok gw N n V m vw (w.drewN k) (hWr.drawn k) (by omega) (by omega) (by omega)
  have d1 : ((m : Int) == 0) = false := beq_eq_false_iff_ne.mpr (by omega)
  clear hK hWr hw hi hm
  go_enter Try.func43, Try.ntmps43
  go_wp2_with fail
  refine Hof.out.mono ?_
  rintro e X ⟨rfl, k, rfl⟩
  go_wp2_with fail
  refine (Htu.out k).mono ?_
  rintro e X ⟨rfl, hG⟩
  have HG := Lib.hid hG.undrawn
  clear hG
  go_wp2_with fail
  go_ret
  exact ⟨rfl, HG.out⟩

/-- The words of the fixed code. -/
def fixW (i : Nat) : Nat × Nat := if i < 144 then (48 + i, 8) else if i < 256 then (400 + (i - 144), 9) else if i < 280 then (i - 256, 7) else (192 + (i - 280), 8)
theorem fixL_length : fixL.length = 288 := by simp [fixL]
theorem fixL_at {n : Nat} (h : n < 288) : fixL.getD n 99 = fxl n := by
  rw [List.getD_eq_getElem?_getD, show fixL[n]? = some (fxl n) by simp [fixL, h]]; rfl
def slF (k n : Nat) : Nat := if k = 8 then min n 144 + (n - 280) else if k = 9 then min n 256 - 144 else if k = 7 then min n 280 - 256 else 0
theorem slF_all (k : Nat) : ∀ n, n ≤ 288 → (symsTo fixL k n).length = slF k n
  | 0, _ => by unfold slF; show 0 = _; split <;> (try split) <;> (try split) <;> omega
  | n + 1, hn => by
    have ih := slF_all k n (by omega)
    show (symsTo fixL k n ++ _).length = _
    rw [List.length_append, ih, fixL_at (by omega), show (if fxl n = k then [n] else []).length = if fxl n = k then 1 else 0 by split <;> rfl]
    have hx : (n < 144 ∧ fxl n = 8) ∨ (144 ≤ n ∧ n < 256 ∧ fxl n = 9) ∨ (256 ≤ n ∧ n < 280 ∧ fxl n = 7) ∨ (280 ≤ n ∧ fxl n = 8) := by
      unfold fxl
      by_cases h1 : n < 144
      · exact .inl ⟨h1, if_pos h1⟩
      · rw [if_neg h1]
        by_cases h2 : n < 256
        · exact .inr (.inl ⟨by omega, h2, if_pos h2⟩)
        · rw [if_neg h2]
          by_cases h3 : n < 280
          · exact .inr (.inr (.inl ⟨by omega, h3, if_pos h3⟩))
          · exact .inr (.inr (.inr ⟨by omega, if_neg h3⟩))
    obtain ⟨e, he⟩ : ∃ e, fxl n = e := ⟨_, rfl⟩
    rw [he] at hx ⊢
    unfold slF
    by_cases k8 : k = 8
    · subst k8; simp only [if_pos]; split <;> omega
    · rw [if_neg k8, if_neg k8]
      by_cases k9 : k = 9
      · subst k9; simp only [if_pos]; split <;> omega
      · rw [if_neg k9, if_neg k9]
        by_cases k7 : k = 7
        · subst k7; simp only [if_pos]; split <;> omega
        · rw [if_neg k7, if_neg k7, if_neg (by omega)]
theorem fixS (k : Nat) : (syms fixL k).length = slF k 288 := by unfold syms; rw [fixL_length]; exact slF_all k 288 (Nat.le_refl _)
theorem fix_nxt : nxt fixL 6 = 0 ∧ nxt fixL 7 = 24 ∧ nxt fixL 8 = 200 := by
  have h : ∀ k, nxt fixL (k + 1) = 2 * nxt fixL k + slF (k + 1) 288 := fun k => by rw [← fixS]; rfl
  have h0 : nxt fixL 0 = 0 := rfl
  have h1 : nxt fixL 1 = 0 := by rw [h 0, h0]; rfl
  have h2 : nxt fixL 2 = 0 := by rw [h 1, h1]; rfl
  have h3 : nxt fixL 3 = 0 := by rw [h 2, h2]; rfl
  have h4 : nxt fixL 4 = 0 := by rw [h 3, h3]; rfl
  have h5 : nxt fixL 5 = 0 := by rw [h 4, h4]; rfl
  have h6 : nxt fixL 6 = 0 := by rw [h 5, h5]; rfl
  have h7 : nxt fixL 7 = 24 := by rw [h 6, h6]; rfl
  exact ⟨h6, h7, by rw [h 7, h7]; rfl⟩
theorem fixW_of {i : Nat} (h : i < 288) : wordOf fixL i = fixW i := by
  obtain ⟨n6, n7, n8⟩ := fix_nxt
  have hr : rank fixL i = slF (fxl i) i := by unfold rank; rw [fixL_at h]; exact slF_all _ i (by omega)
  unfold wordOf
  rw [hr, fixL_at h]
  have f7 : fst fixL 7 = 0 := by show 2 * nxt fixL 6 = _; rw [n6]
  have f8 : fst fixL 8 = 48 := by show 2 * nxt fixL 7 = _; rw [n7]
  have f9 : fst fixL 9 = 400 := by show 2 * nxt fixL 8 = _; rw [n8]
  unfold fixW fxl slF
  by_cases h1 : i < 144
  · simp only [if_pos h1]; rw [if_neg (by decide), f8]; simp; omega
  · simp only [if_neg h1]
    by_cases h2 : i < 256
    · simp only [if_pos h2]; rw [if_neg (by decide), f9]; simp; omega
    · simp only [if_neg h2]
      by_cases h3 : i < 280
      · simp only [if_pos h3]; rw [if_neg (by decide), f7]; simp; omega
      · simp only [if_neg h3]; rw [if_neg (by decide), f8]; simp; omega
theorem fixW_bounds (i : Nat) (h : i < 288) : 0 < (fixW i).2 ∧ (fixW i).2 ≤ 9 ∧ (fixW i).1 < 1000 := by
  unfold fixW
  split
  · exact ⟨by omega, by omega, by simp only; omega⟩
  · split
    · exact ⟨by simp only; omega, by simp only; omega, by simp only; omega⟩
    · split
      · exact ⟨by simp only; omega, by simp only; omega, by simp only; omega⟩
      · exact ⟨by simp only; omega, by simp only; omega, by simp only; omega⟩
end Go.Proofs.Ytngnhkghpnamoaa

namespace Go.Proofs.Ytngnhkghpnamoaa
open Go.RowKit
set_option linter.unusedVariables false
set_option maxRecDepth 100000

theorem length_mid (j : Nat) (h8 : 8 ≤ j) (hj : j < 28) (z : Int) (hz : z = 257 + (j : Int)) (w : World) : Calls Try.prog 70 #[.int .i64 z] w fun e w' => e = .returned (.tuple #[.int .i64 (lenB j : Int), .int .i64 (lenX j : Int)]) ∧ w = w' := by
  rcases (show j = 8 ∨ j = 9 ∨ j = 10 ∨ j = 11 ∨ j = 12 ∨ j = 13 ∨ j = 14 ∨ j = 15 ∨ j = 16 ∨ j = 17 ∨ j = 18 ∨ j = 19 ∨ j = 20 ∨ j = 21 ∨ j = 22 ∨ j = 23 ∨ j = 24 ∨ j = 25 ∨ j = 26 ∨ j = 27 by omega) with rfl | rfl | rfl | rfl | rfl | rfl | rfl | rfl | rfl | rfl | rfl | rfl | rfl | rfl | rfl | rfl | rfl | rfl | rfl | rfl <;>
  · obtain rfl := hz
    go_enter Try.func70, Try.ntmps70
    go_wp2_with fail
    go_ret2
    exact ⟨rfl, rfl⟩
theorem length_any (j : Nat) (hj : j ≤ 28) (z : Int) (hz : z = 257 + (j : Int)) (w : World) : Calls Try.prog 70 #[.int .i64 z] w fun e w' => e = .returned (.tuple #[.int .i64 (lenB j : Int), .int .i64 (lenX j : Int)]) ∧ w = w' := by
  by_cases h8 : j < 8
  · have e1 : lenB j = 3 + j := by unfold lenB; rw [if_pos h8]
    have e2 : lenX j = 0 := by unfold lenX; rw [if_pos h8]
    have w1 : IntKind.i64.wrap (z - 257) = (j : Int) := by rw [IntWalk.i64_in _ ⟨by omega, by omega⟩]; omega
    have w2 : z - 257 = (j : Int) := by omega
    have d1 : decide (z < 257) = false := decide_eq_false (by omega)
    have d2 : decide (285 < z) = false := decide_eq_false (by omega)
    have d3 : (z == 285) = false := beq_eq_false_iff_ne.mpr (by omega)
    have d4 : decide ((j : Int) < 8) = true := decide_eq_true (by omega)
    have d5 : decide (j < 8) = true := decide_eq_true h8
    have w3 : wrap64 (3 + (j : Int)) = 3 + (j : Int) := IntWalk.wrap64_in _ ⟨by omega, by omega⟩
    rw [e1, e2]
    have b1 : (j : Int) ≤ 8 := by omega
    clear hz h8 e1 e2
    go_enter Try.func70, Try.ntmps70
    go_wp2_with fail
    go_ret2
    exact ⟨ret_ints (by omega) rfl, rfl⟩
  · by_cases h28 : j < 28
    · exact length_mid j (by omega) h28 z hz w
    · obtain rfl : j = 28 := by omega
      obtain rfl := hz
      go_enter Try.func70, Try.ntmps70
      go_wp2_with fail
      go_ret2
      exact ⟨rfl, rfl⟩
theorem distance_mid (j : Nat) (h8 : 4 ≤ j) (hj : j < 30) (z : Int) (hz : z = (j : Int)) (w : World) : Calls Try.prog 71 #[.int .i64 z] w fun e w' => e = .returned (.tuple #[.int .i64 (farB j : Int), .int .i64 (farX j : Int)]) ∧ w = w' := by
  rcases (show j = 4 ∨ j = 5 ∨ j = 6 ∨ j = 7 ∨ j = 8 ∨ j = 9 ∨ j = 10 ∨ j = 11 ∨ j = 12 ∨ j = 13 ∨ j = 14 ∨ j = 15 ∨ j = 16 ∨ j = 17 ∨ j = 18 ∨ j = 19 ∨ j = 20 ∨ j = 21 ∨ j = 22 ∨ j = 23 ∨ j = 24 ∨ j = 25 ∨ j = 26 ∨ j = 27 ∨ j = 28 ∨ j = 29 by omega) with rfl | rfl | rfl | rfl | rfl | rfl | rfl | rfl | rfl | rfl | rfl | rfl | rfl | rfl | rfl | rfl | rfl | rfl | rfl | rfl | rfl | rfl | rfl | rfl | rfl | rfl <;>
  · obtain rfl := hz
    go_enter Try.func71, Try.ntmps71
    go_wp2_with fail
    go_ret2
    exact ⟨rfl, rfl⟩
theorem distance_any (j : Nat) (hj : j < 30) (z : Int) (hz : z = (j : Int)) (w : World) : Calls Try.prog 71 #[.int .i64 z] w fun e w' => e = .returned (.tuple #[.int .i64 (farB j : Int), .int .i64 (farX j : Int)]) ∧ w = w' := by
  by_cases h8 : j < 4
  · have e1 : farB j = 1 + j := by unfold farB; rw [if_pos h8]
    have e2 : farX j = 0 := by unfold farX; rw [if_pos h8]
    subst hz
    have d1 : decide ((j : Int) < 0) = false := decide_eq_false (by omega)
    have d2 : decide ((29 : Int) < (j : Int)) = false := decide_eq_false (by omega)
    have d4 : decide ((j : Int) < 4) = true := decide_eq_true (by omega)
    have b1 : (j : Int) ≤ 8 := by omega
    rw [e1, e2]
    clear h8 e1 e2
    go_enter Try.func71, Try.ntmps71
    go_wp2_with fail
    go_ret2
    exact ⟨ret_ints (by omega) rfl, rfl⟩
  · exact distance_mid j (by omega) hj z hz w
end Go.Proofs.Ytngnhkghpnamoaa
