/- Layer 12: what Get leaves. -/
import Derived.Test.YtaafcmgkmdbefaaDirGet1
namespace Go.Proofs.Ytaafcmgkmdbefaa
open Go.RowKit Var
set_option linter.unusedVariables false
set_option maxRecDepth 100000

def GetPost (w : World) (R : List En × Nat) (e : Ending) (w' : World) : Prop := ∃ v, e = .returned (.tuple #[v, .int .i64 (R.2 : Int)]) ∧ RdE w' w'.heap.size v R.1 ∧ Below w.heap.size w w'
theorem rde_nil (w : World) (B : Nat) : RdE w B (.slice none 0 0) [] := ⟨none, 0, rfl, Nat.le_refl _, by unfold maxLen; omega, Vals.nil_, fun s h => by simp at h⟩
theorem vd_zero : ∀ (l : List Nat) (i v : Nat), (vd l i v).2.2 ≠ 0 → (vd l i v).1 = 0
  | [], i, v, _ => rfl
  | c :: r, i, v, h => by
    by_cases h1 : i = 9 ∧ 1 < c
    · rw [vd_bad h1.1 h1.2]
    · by_cases h2 : c < 128
      · rw [vd_last h1 h2] at h; exact absurd rfl h
      · rw [vd_more h1 h2] at h ⊢
        exact vd_zero r _ _ h
theorem vres_zero (l : List Nat) (p : Int) (h : (vres l p).2.2 ≠ 0) : (vres l p).1 = 0 := by
  unfold vres at h ⊢
  split
  · rfl
  · next h1 => rw [if_neg h1] at h; exact vd_zero _ _ _ h
end Go.Proofs.Ytaafcmgkmdbefaa
