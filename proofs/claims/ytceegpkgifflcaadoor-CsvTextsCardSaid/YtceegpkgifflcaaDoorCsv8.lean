/- Layer 18: the page's example; the walk of CsvParses. -/
import Derived.Test.YtceegpkgifflcaaDoorCsv7
namespace Go.Proofs.YtceegpkgifflcaaDoor
open Go.RowKit
set_option linter.unusedVariables false
set_option maxRecDepth 100000

theorem code18_any (n : Int) (w : World) : Calls Tryd.prog 11 #[.int .i64 n] w fun e w' => e = .returned (.int .i64 n) ∧ w = w' := by
  go_enter Tryd.func11, Tryd.ntmps11
  go_wp2_with fail
  go_ret
  exact ⟨rfl, rfl⟩
theorem rd_block {W : World} {g : Nat} {l : List ByteArray} (h : W.heap[g]? = some (.cells (txs l).toArray 9 (0, 0))) (hl : l.length ≤ maxLen) : RdT W W.heap.size (.slice (some ⟨g, 0, none⟩) l.length l.length) l :=
  ⟨_, _, rfl, Nat.le_refl _, hl, Vals.of_block (xs := txs l) h (by rw [txs_length, Nat.mul_one])⟩
theorem rdtt_lit (W : World) (p q r s : ByteArray) : ∀ Z, Z = ((W.alloc (.cells #[.string p, .string q] 9)).alloc (.cells #[.string r, .string s] 9)).alloc (.cells #[.slice (some ⟨W.heap.size, 0, none⟩) 2 2, .slice (some ⟨W.heap.size + 1, 0, none⟩) 2 2] 31) →
    RdTT Z Z.heap.size (.slice (some ⟨W.heap.size + 2, 0, none⟩) 2 2) [[p, q], [r, s]] := by
  rintro Z rfl
  obtain ⟨X, hX⟩ : ∃ X, X = (W.alloc (.cells #[.string p, .string q] 9)).alloc (.cells #[.string r, .string s] 9) := ⟨_, rfl⟩
  have hXs : X.heap.size = W.heap.size + 2 := by rw [hX]; simp
  have h0 : Whole X W.heap.size 9 #[.string p, .string q] := by rw [hX]; exact (Whole.new W _ _).alloc _
  have h1 : Whole X (W.heap.size + 1) 9 #[.string r, .string s] := by rw [hX]; exact heap_alloc2_new W _ _
  rw [← hX]
  have h2 := Whole.new X 31 #[.slice (some ⟨W.heap.size, 0, none⟩) 2 2, .slice (some ⟨W.heap.size + 1, 0, none⟩) 2 2]
  rw [hXs] at h2
  refine ⟨_, _, [.slice (some ⟨W.heap.size, 0, none⟩) 2 2, .slice (some ⟨W.heap.size + 1, 0, none⟩) 2 2], rfl, Nat.le_refl _, by unfold maxLen; decide, ?_, ?_⟩
  · have := Vals.of_block (size := 1) (n := 2) (xs := [Value.slice (some ⟨W.heap.size, 0, none⟩) 2 2, Value.slice (some ⟨W.heap.size + 1, 0, none⟩) 2 2]) h2 rfl
    exact this
  · intro i hi
    rcases i with _ | _ | i
    · exact ⟨_, rfl, rd_block (l := [p, q]) (h0.alloc _) (by simp [maxLen])⟩
    · exact ⟨_, rfl, rd_block (l := [r, s]) (h1.alloc _) (by simp [maxLen])⟩
    · simp at hi; omega
theorem live_parse : parseE (bs ⟨#[97, 44, 98, 13, 10, 49, 44, 34, 120, 44, 34, 34, 121, 34, 13, 10]⟩) ((bs ⟨#[97, 44, 98, 13, 10, 49, 44, 34, 120, 44, 34, 34, 121, 34, 13, 10]⟩).length + 1) 0 [] = ([[⟨#[97]⟩, ⟨#[98]⟩], [⟨#[49]⟩, ⟨#[120, 44, 34, 121]⟩]], 16, 0) := by decide +kernel
set_option maxHeartbeats 4000000 in
theorem live18_any (w : World) : Calls Tryd.prog 5 #[] w fun e w' => e = .returned (.bool true) ∧ Below w.heap.size w w' := by
  have HP := Lib.hid fun W => parse_any ⟨#[97, 44, 98, 13, 10, 49, 44, 34, 120, 44, 34, 34, 121, 34, 13, 10]⟩ W (by decide)
  rw [live_parse] at HP
  have HC := Lib.hid code18_any
  go_enter Tryd.func5, Tryd.ntmps5
  go_wp2_with fail
  refine (HP.out _).mono ?_
  rintro e W1 ⟨v, rfl, hR, hb⟩
  have HR := Lib.hid hR
  have HB := Lib.hid hb
  clear hR hb HP
  go_wp2_with (go_at_call 11; refine (HC.out _ _).mono ?_; rintro e Z9 ⟨rfl, rfl⟩)
  have HS := Lib.hid (refSame_any v (.slice (some ⟨W1.heap.size + 2, 0, none⟩) 2 2) _ _ _ ((HR.out.below ((((Below.refl _ W1).alloc (Nat.le_refl _) (.cells #[.string ⟨#[97]⟩, .string ⟨#[98]⟩] 9)).alloc (by simp) (.cells #[.string ⟨#[49]⟩, .string ⟨#[120, 44, 34, 121]⟩] 9)).alloc (by simp; omega) (.cells #[.slice (some ⟨W1.heap.size, 0, none⟩) 2 2, .slice (some ⟨W1.heap.size + 1, 0, none⟩) 2 2] 31))).more (by simp; omega)) (rdtt_lit W1 ⟨#[97]⟩ ⟨#[98]⟩ ⟨#[49]⟩ ⟨#[120, 44, 34, 121]⟩ _ rfl) true (by decide +kernel))
  refine HS.out.mono ?_
  rintro e W2 ⟨rfl, n, rfl⟩
  go_wp2_with fail
  go_ret
  exact ⟨rfl, below_drawnT ((((HB.out.alloc HB.out.size _).alloc (by have := HB.out.size; simp; omega) _).alloc (by have := HB.out.size; simp; omega) _)) _⟩
end Go.Proofs.YtceegpkgifflcaaDoor
