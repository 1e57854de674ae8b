/- Layer 18: the page's example; the walk of CsvParses. -/
import Derived.Test.YtedpdlfoccacmaaCsv7
namespace Go.Proofs.Ytedpdlfoccacmaa
open Go.RowKit
set_option linter.unusedVariables false
set_option maxRecDepth 100000

theorem code18_any (n : Int) (w : World) : Calls Try.prog 10 #[.int .i64 n] w fun e w' => e = .returned (.int .i64 n) ∧ w = w' := by
  go_enter Try.func10, Try.ntmps10
  go_wp2_with fail
  go_ret
  exact ⟨rfl, rfl⟩
theorem rd_block {W : World} {g : Nat} {l : List ByteArray} (h : W.heap[g]? = some (.cells (txs l).toArray 9 (0, 0))) (hl : l.length ≤ maxLen) : RdT W W.heap.size (.slice (some ⟨g, 0, none⟩) l.length l.length) l :=
  ⟨_, _, rfl, Nat.le_refl _, hl, Vals.of_block (xs := txs l) h (by rw [txs_length, Nat.mul_one])⟩
theorem rdtt_lit (W : World) (p q r s : ByteArray) : ∀ Z, Z = ((W.alloc (.cells #[.string p, .string q] 9)).alloc (.cells #[.string r, .string s] 9)).alloc (.cells #[.slice (some ⟨W.heap.size, 0, none⟩) 2 2, .slice (some ⟨W.heap.size + 1, 0, none⟩) 2 2] 36) →
    RdTT Z Z.heap.size (.slice (some ⟨W.heap.size + 2, 0, none⟩) 2 2) [[p, q], [r, s]] := by
  rintro Z rfl
  obtain ⟨X, hX⟩ : ∃ X, X = (W.alloc (.cells #[.string p, .string q] 9)).alloc (.cells #[.string r, .string s] 9) := ⟨_, rfl⟩
  have hXs : X.heap.size = W.heap.size + 2 := by rw [hX]; simp
  have h0 : Whole X W.heap.size 9 #[.string p, .string q] := by rw [hX]; exact (Whole.new W _ _).alloc _
  have h1 : Whole X (W.heap.size + 1) 9 #[.string r, .string s] := by rw [hX]; exact heap_alloc2_new W _ _
  rw [← hX]
  have h2 := Whole.new X 36 #[.slice (some ⟨W.heap.size, 0, none⟩) 2 2, .slice (some ⟨W.heap.size + 1, 0, none⟩) 2 2]
  rw [hXs] at h2
  refine ⟨_, _, [.slice (some ⟨W.heap.size, 0, none⟩) 2 2, .slice (some ⟨W.heap.size + 1, 0, none⟩) 2 2], rfl, Nat.le_refl _, by unfold maxLen; decide, ?_, ?_⟩
  · have := Vals.of_block (size := 1) (n := 2) (xs := [Value.slice (some ⟨W.heap.size, 0, none⟩) 2 2, Value.slice (some ⟨W.heap.size + 1, 0, none⟩) 2 2]) h2 rfl
    exact this
  · intro i hi
    rcases i with _ | _ | i
    · exact ⟨_, rfl, rd_block (l := [p, q]) (h0.alloc _) (by simp [maxLen])⟩
    · exact ⟨_, rfl, rd_block (l := [r, s]) (h1.alloc _) (by simp [maxLen])⟩
    · simp at hi; omega
theorem live_parse : parseE (bs ⟨#[97, 44, 98, 13, 10, 49, 44, 34, 120, 44, 34, 34, 121, 34, 13, 10]⟩) ((bs ⟨#[97, 44, 98, 13, 10, 49, 44, 34, 120, 44, 34, 34, 121, 34, 13, 10]⟩).length + 1) 0 [] = ([[⟨#[97]⟩, ⟨#[98]⟩], [⟨#[49]⟩, ⟨#[120, 44, 34, 121]⟩]], 16, 0) := by decide +kernel
set_option maxHeartbeats 4000000 in
theorem live18_any (w : World) : Calls Try.prog 6 #[] w fun e w' => e = .returned (.bool true) ∧ Below w.heap.size w w' := by
  have HP := Lib.hid fun W => parse_any ⟨#[97, 44, 98, 13, 10, 49, 44, 34, 120, 44, 34, 34, 121, 34, 13, 10]⟩ W (by decide)
  rw [live_parse] at HP
  have HC := Lib.hid code18_any
  go_enter Try.func6, Try.ntmps6
  go_wp2_with fail
  refine (HP.out _).mono ?_
  rintro e W1 ⟨v, rfl, hR, hb⟩
  have HR := Lib.hid hR
  have HB := Lib.hid hb
  clear hR hb HP
  go_wp2_with (go_at_call 10; refine (HC.out _ _).mono ?_; rintro e Z9 ⟨rfl, rfl⟩)
  have HS := Lib.hid (refSame_any v (.slice (some ⟨W1.heap.size + 2, 0, none⟩) 2 2) _ _ _ ((HR.out.below ((((Below.refl _ W1).alloc (Nat.le_refl _) (.cells #[.string ⟨#[97]⟩, .string ⟨#[98]⟩] 9)).alloc (by simp) (.cells #[.string ⟨#[49]⟩, .string ⟨#[120, 44, 34, 121]⟩] 9)).alloc (by simp; omega) (.cells #[.slice (some ⟨W1.heap.size, 0, none⟩) 2 2, .slice (some ⟨W1.heap.size + 1, 0, none⟩) 2 2] 36))).more (by simp; omega)) (rdtt_lit W1 ⟨#[97]⟩ ⟨#[98]⟩ ⟨#[49]⟩ ⟨#[120, 44, 34, 121]⟩ _ rfl) true (by decide +kernel))
  refine HS.out.mono ?_
  rintro e W2 ⟨rfl, n, rfl⟩
  go_wp2_with fail
  go_ret
  exact ⟨rfl, below_drawnT ((((HB.out.alloc HB.out.size _).alloc (by have := HB.out.size; simp; omega) _).alloc (by have := HB.out.size; simp; omega) _)) _⟩
set_option maxHeartbeats 4000000 in
theorem csvParses_walk (s : ByteArray) (w : World) (hs : s.size ≤ maxLen) :
    Calls Try.prog 3 #[.string s] w fun e w' => e = .returned (.bool true) ∧ Below w.heap.size w w' := by
  have HL := Lib.hid fun W => live18_any W
  have HC := Lib.hid code18_any
  have hsm : s.size ≤ 9223372036854775807 := hs
  by_cases h : 1000 < s.size
  · have d1 : decide ((1000 : Int) < (s.size : Int)) = true := decide_eq_true (by omega)
    go_enter Try.func3, Try.ntmps3
    go_wp2_with fail
    refine (HL.out _).mono ?_
    rintro e W ⟨rfl, hb⟩
    have HB := Lib.hid hb
    clear hb
    go_wp2_with fail
    go_ret
    exact ⟨rfl, HB.out⟩
  · have d1 : decide ((1000 : Int) < (s.size : Int)) = false := decide_eq_false (by omega)
    have HP := Lib.hid fun W => parse_any s W (by omega)
    have HQ := Lib.hid fun W => refParse_any s W (by omega)
    obtain ⟨P, hP⟩ : ∃ P, P = parseE (bs s) ((bs s).length + 1) 0 [] := ⟨_, rfl⟩
    rw [← hP] at HP HQ
    clear hP
    go_enter Try.func3, Try.ntmps3
    go_wp2_with fail
    refine (HP.out _).mono ?_
    rintro e W1 ⟨v1, rfl, hR1, hb1⟩
    have HR1 := Lib.hid hR1
    have HB1 := Lib.hid hb1
    clear hR1 hb1
    go_wp2_with fail
    refine (HQ.out _).mono ?_
    rintro e W2 ⟨v2, rfl, hR2, hb2⟩
    have HS := Lib.hid (refSame_any v1 v2 _ _ W2 ((HR1.out.below hb2).more hb2.size) hR2 true (decide_eq_true rfl))
    have HB2 := Lib.hid (HB1.out.trans (hb2.mono HB1.out.size))
    clear hR2 hb2
    go_wp2_with fail
    refine HS.out.mono ?_
    rintro e W3 ⟨rfl, n, rfl⟩
    go_wp2_with (go_at_call 10; refine (HC.out _ _).mono ?_; rintro e Z9 ⟨rfl, rfl⟩)
    refine (HL.out _).mono ?_
    rintro e W4 ⟨rfl, hb4⟩
    have HB4 := Lib.hid ((below_drawnT HB2.out n).trans (hb4.mono (below_drawnT HB2.out n).size))
    clear hb4
    go_wp2_with fail
    go_ret
    exact ⟨rfl, HB4.out⟩
end Go.Proofs.Ytedpdlfoccacmaa
