/- Layer 4: the document's example. -/
import Derived.Test.YtfbfflgffibjbaaInfM
import Derived.Test.YtfbfflgffibjbaaStr
import Derived.Lib.SlBytesConst
namespace Go.Proofs.Ytfbfflgffibjbaa
open Go.RowKit Huff Bit
set_option linter.unusedVariables false
set_option maxRecDepth 100000

theorem live_infl : dataZ [75, 76, 74, 6, 0] 100 = ([97, 98, 99], 5, 0) := by decide +kernel
theorem code04_any (n : Int) (w : World) : Calls Try.prog 8 #[.int .i64 n] w fun e w' => e = .returned (.int .i64 n) ∧ w = w' := by
  go_enter Try.func8, Try.ntmps8
  go_wp2_with fail
  go_ret
  exact ⟨rfl, rfl⟩
set_option maxHeartbeats 4000000 in
theorem live04_any (w : World) : Calls Try.prog 6 #[] w fun e w' => e = .returned (.bool true) ∧ Below w.heap.size w w' := by
  have Hcode := Lib.hid code04_any
  have HD := Lib.hid fun X A c h hz => infl_any A c [75, 76, 74, 6, 0] 100 X h hz (by decide) (by decide)
  rw [live_infl] at HD
  go_enter Try.func6, Try.ntmps6
  go_wp2_with fail
  have hN : Nums .u8 (w.alloc (.cells #[.int .u8 75, .int .u8 76, .int .u8 74, .int .u8 6, .int .u8 0] 5)) (w.heap.size + 1) (some ⟨w.heap.size, 0, none⟩) [75, 76, 74, 6, 0] := by
    have := Nums.of_block (k := .u8) (w := w.alloc (.cells #[.int .u8 75, .int .u8 76, .int .u8 74, .int .u8 6, .int .u8 0] 5)) (g := w.heap.size) (t := 5) (fr := (0, 0)) (l := [75, 76, 74, 6, 0]) (heap_alloc_new w _)
    simpa using this
  refine (HD.out _ _ _ (hN.more (by simp)) (fun h => by cases h)).mono ?_
  rintro e X ⟨a, c, rfl, hN2, _, _, _, hB⟩
  have hs := str_of_nums (P := Try.prog) X X.heap.size 22 9 5 a c _ Try.underlying22 Try.underlying5 Try.underlying9 hN2 (by decide)
  rw [show strOf [97, 98, 99] = ⟨#[97, 98, 99]⟩ by rfl] at hs
  have HB : Hid (Below w.heap.size w X) := ((Below.refl _ _).alloc (Nat.le_refl _) _).trans (hB.mono (by simp))
  simp only [List.length_cons, List.length_nil, Nat.reduceAdd] at hs ⊢
  clear hN hN2 hB HD
  go_wp2_with fail
  refine (Hcode.out _ _).mono ?_
  rintro e Y ⟨rfl, rfl⟩
  go_wp2_with fail
  go_ret
  exact ⟨rfl, HB.out⟩
end Go.Proofs.Ytfbfflgffibjbaa
