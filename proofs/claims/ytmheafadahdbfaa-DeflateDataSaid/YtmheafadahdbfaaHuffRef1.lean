/- Walks over layer 3: the reference's Kraft, ones, Right. -/
import Derived.Test.YtmheafadahdbfaaHuff3
namespace Go.Proofs.Ytmheafadahdbfaa
open Go.RowKit Huff
set_option linter.unusedVariables false
set_option maxRecDepth 100000

theorem half_pow (j : Nat) (h : j < 15) : ((2 ^ (15 - j) : Nat) : Int) / 2 = ((2 ^ (15 - (j + 1)) : Nat) : Int) := by
  obtain ⟨m, hm⟩ : ∃ m, 15 - j = m + 1 := ⟨14 - j, by omega⟩
  rw [hm, show 15 - (j + 1) = m by omega, Nat.pow_succ]
  omega
theorem pow_le15 (j : Nat) : 2 ^ (15 - j) ≤ 32768 := Nat.le_trans (Nat.pow_le_pow_right (by omega) (show 15 - j ≤ 15 by omega)) (by decide)
theorem kraft_big {zs : List Int} (h : 288 < zs.length) : kraft zs = (0, false) := by
  unfold kraft okL
  rw [if_neg]
  simp
  intro h2; omega
theorem kraft_not {zs : List Int} (h : okL zs = false) : kraft zs = (0, false) := by unfold kraft; rw [if_neg (by simp [h])]

theorem ones_take (l : List Nat) (k : Nat) (h : k < l.length) : ones (l.take (k + 1)) = ones (l.take k) + if l[k] = 1 then 1 else 0 := by
  rw [List.take_succ_eq_append_getElem h]
  unfold ones
  rw [List.filter_append, List.length_append]
  by_cases h1 : l[k] = 1 <;> simp [h1]
theorem ones_le (l : List Nat) : ones l ≤ l.length := List.length_filter_le _ _
end Go.Proofs.Ytmheafadahdbfaa
