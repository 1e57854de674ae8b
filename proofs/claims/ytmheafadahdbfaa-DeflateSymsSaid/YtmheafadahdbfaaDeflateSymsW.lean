/- Layer 5: DeflateSyms, the law's walk. -/
import Derived.Test.YtmheafadahdbfaaPar5
import Derived.Test.YtmheafadahdbfaaDefRef
namespace Go.Proofs.Ytmheafadahdbfaa
open Go.RowKit
set_option linter.unusedVariables false
set_option maxRecDepth 100000

set_option maxHeartbeats 4000000 in
theorem deflateSyms_walk (z : Int) (w : World) (hz : -9223372036854775808 ≤ z ∧ z < 9223372036854775808) :
    Calls Try.prog 6 #[.int .i64 z] w fun e w' => e = .returned (.bool true) ∧ Below w.heap.size w w' := by
  have H1 := fun X => sym_any z hz X
  have H2 := fun X => refsym_any z hz X
  have H3 := fun X => far_any z hz X
  have H4 := fun X => reffar_any z hz X
  obtain ⟨⟨s1, s2, s3⟩, hs⟩ : ∃ s, (if 3 ≤ z ∧ z ≤ 258 then symR lenB lenX 257 z.toNat (lastLe lenB z.toNat 29) else (0, 0, 0)) = s := ⟨_, rfl⟩
  obtain ⟨⟨f1, f2, f3⟩, hf⟩ : ∃ s, (if 1 ≤ z ∧ z ≤ 32768 then symR farB farX 0 z.toNat (lastLe farB z.toNat 30) else (0, 0, 0)) = s := ⟨_, rfl⟩
  rw [hs] at H1 H2
  rw [hf] at H3 H4
  simp only [tup3] at H1 H2 H3 H4
  have H1 := Lib.hid H1
  have H2 := Lib.hid H2
  have H3 := Lib.hid H3
  have H4 := Lib.hid H4
  have HL := Lib.hid live_any
  clear hs hf hz
  go_enter Try.func6, Try.ntmps6
  go_wp2_with fail
  refine (H1.out _).mono ?_
  rintro e Y ⟨rfl, rfl⟩
  go_wp2_with fail
  refine (H2.out _).mono ?_
  rintro e Y ⟨rfl, rfl⟩
  go_wp2_with fail
  refine (H3.out _).mono ?_
  rintro e Y ⟨rfl, rfl⟩
  go_wp2_with fail
  refine (H4.out _).mono ?_
  rintro e Y ⟨rfl, rfl⟩
  go_wp2_with fail
  refine (HL.out _).mono ?_
  rintro e Y ⟨rfl, hB⟩
  have HB := Lib.hid hB
  clear hB
  go_wp2_with fail
  go_ret
  exact ⟨rfl, HB.out⟩
end Go.Proofs.Ytmheafadahdbfaa
