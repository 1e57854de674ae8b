/- Layer 8: Put of what is not right; Kind. -/
import Derived.Test.YtdifojeghplpeaaDoorVal8
import Derived.Test.YtdifojeghplpeaaDoorVal7
namespace Go.Proofs.YtdifojeghplpeaaDoor
open Go.RowKit
set_option linter.unusedVariables false
set_option maxRecDepth 100000

theorem valuePut_no (v : V3) (w : World) (HR : ∀ W, Below w.heap.size w W → Calls Tryd.prog 8 #[vv v] W fun e w' => e = .returned (.bool false) ∧ Below W.heap.size W w') :
    Calls Tryd.prog 7 #[vv v] w fun e w' => e = .returned (.slice none 0 0) ∧ Below w.heap.size w w' := by
  have HRi := Lib.hid HR
  clear HR
  obtain ⟨k, s, b⟩ := v
  unfold vv at HRi ⊢
  simp only at HRi ⊢
  go_enter Tryd.func7, Tryd.ntmps7
  have hX : Hid (Below w.heap.size w (w.alloc (.cells #[.int .i64 k, .string s, .int .u64 (b : Int)] 24))) := (Below.refl _ _).alloc (Nat.le_refl _) _
  go_wp2_with fail
  refine (HRi.out _ hX.out).mono ?_
  rintro e Y ⟨rfl, hY⟩
  have HB := Lib.hid (hX.out.trans (hY.mono hX.out.size))
  clear hY HRi
  go_wp2_with fail
  go_ret
  exact ⟨rfl, HB.out⟩
theorem rvaluePut_no (v : V3) (w : World) (HR : ∀ W, Below w.heap.size w W → Calls Tryd.prog 9 #[vv v] W fun e w' => e = .returned (.bool false) ∧ Below W.heap.size W w') :
    Calls Tryd.prog 10 #[vv v] w fun e w' => e = .returned (.slice none 0 0) ∧ Below w.heap.size w w' := by
  have HRi := Lib.hid HR
  clear HR
  obtain ⟨k, s, b⟩ := v
  unfold vv at HRi ⊢
  simp only at HRi ⊢
  go_enter Tryd.func10, Tryd.ntmps10
  have hX : Hid (Below w.heap.size w (w.alloc (.cells #[.int .i64 k, .string s, .int .u64 (b : Int)] 24))) := (Below.refl _ _).alloc (Nat.le_refl _) _
  go_wp2_with fail
  refine (HRi.out _ hX.out).mono ?_
  rintro e Y ⟨rfl, hY⟩
  have HB := Lib.hid (hX.out.trans (hY.mono hX.out.size))
  clear hY HRi
  go_wp2_with fail
  go_ret
  exact ⟨rfl, HB.out⟩
def kindV (k : Int) : ByteArray := if k = 1 then ⟨#[83, 116, 114, 105, 110, 103]⟩ else if k = 7 then ⟨#[66, 111, 111, 108, 101, 97, 110]⟩ else ⟨#[78, 117, 109, 98, 101, 114]⟩
theorem kind_any (v : V3) (w : World) : Calls Tryd.prog 11 #[vv v] w fun e w' => e = .returned (.string (kindV v.1)) ∧ Below w.heap.size w w' := by
  obtain ⟨k, s, b⟩ := v
  unfold vv
  simp only
  have hX : Hid (Below w.heap.size w (w.alloc (.cells #[.int .i64 k, .string s, .int .u64 (b : Int)] 24))) := (Below.refl _ _).alloc (Nat.le_refl _) _
  by_cases h1 : k = 1
  · subst h1
    go_enter Tryd.func11, Tryd.ntmps11
    go_wp2_with fail
    go_ret
    exact ⟨rfl, hX.out⟩
  · have e1 : (k == 1) = false := by simpa using h1
    by_cases h7 : k = 7
    · subst h7
      go_enter Tryd.func11, Tryd.ntmps11
      go_wp2_with fail
      go_ret
      exact ⟨rfl, hX.out⟩
    · have e7 : (k == 7) = false := by simpa using h7
      have e : kindV k = ⟨#[78, 117, 109, 98, 101, 114]⟩ := by unfold kindV; rw [if_neg h1, if_neg h7]
      rw [e]
      clear e
      go_enter Tryd.func11, Tryd.ntmps11
      go_wp2_with fail
      go_ret
      exact ⟨rfl, hX.out⟩
theorem rkind_any (v : V3) (w : World) : Calls Tryd.prog 12 #[vv v] w fun e w' => e = .returned (.string (kindV v.1)) ∧ Below w.heap.size w w' := by
  obtain ⟨k, s, b⟩ := v
  unfold vv
  simp only
  have hX : Hid (Below w.heap.size w (w.alloc (.cells #[.int .i64 k, .string s, .int .u64 (b : Int)] 24))) := (Below.refl _ _).alloc (Nat.le_refl _) _
  by_cases h1 : k = 1
  · subst h1
    go_enter Tryd.func12, Tryd.ntmps12
    go_wp2_with fail
    go_ret
    exact ⟨rfl, hX.out⟩
  · have e1 : (k == 1) = false := by simpa using h1
    by_cases h7 : k = 7
    · subst h7
      go_enter Tryd.func12, Tryd.ntmps12
      go_wp2_with fail
      go_ret
      exact ⟨rfl, hX.out⟩
    · have e7 : (k == 7) = false := by simpa using h7
      have e : kindV k = ⟨#[78, 117, 109, 98, 101, 114]⟩ := by unfold kindV; rw [if_neg h1, if_neg h7]
      rw [e]
      clear e
      go_enter Tryd.func12, Tryd.ntmps12
      go_wp2_with fail
      go_ret
      exact ⟨rfl, hX.out⟩
end Go.Proofs.YtdifojeghplpeaaDoor
