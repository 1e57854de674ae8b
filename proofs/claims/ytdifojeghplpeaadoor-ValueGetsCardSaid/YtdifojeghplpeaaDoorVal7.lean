/- Layer 8: the order's mathematics. -/
import Derived.Test.YtdifojeghplpeaaDoorVal6
namespace Go.Proofs.YtdifojeghplpeaaDoor
open Go.RowKit
set_option linter.unusedVariables false

theorem cmpI_anti (a b : Int) : cmpI b a = -cmpI a b := by unfold cmpI; split <;> split <;> (try split) <;> (try split) <;> omega
theorem cmpS_anti (s t : ByteArray) : cmpS t s = -cmpS s t := cb_anti _ _
theorem ord_anti (u v : V3) : ord v u = -ord u v := by
  obtain ⟨k, s, a⟩ := u
  obtain ⟨j, t, b⟩ := v
  rcases Int.lt_trichotomy k j with h | h | h
  · rw [ord_lt (u := (k, s, a)) (v := (j, t, b)) h, ord_gt (u := (j, t, b)) (v := (k, s, a)) h]; rfl
  · subst h
    by_cases h1 : k = 1
    · subst h1
      rw [ord_text, ord_text, cmpS_anti]
    · rw [ord_bits k h1, ord_bits k h1, cmpI_anti]
  · rw [ord_gt (u := (k, s, a)) (v := (j, t, b)) h, ord_lt (u := (j, t, b)) (v := (k, s, a)) h]
theorem ord_ways (u v : V3) : ord u v = -1 ∨ ord u v = 0 ∨ ord u v = 1 := by
  obtain ⟨k, s, a⟩ := u
  obtain ⟨j, t, b⟩ := v
  rcases Int.lt_trichotomy k j with h | h | h
  · exact .inl (ord_lt h)
  · subst h
    by_cases h1 : k = 1
    · subst h1
      rw [ord_text]; exact cmpS_ways _ _
    · rw [ord_bits k h1]
      rcases cmpI_ways (a : Int) (b : Int) with ⟨h, _⟩ | ⟨h, _⟩ | ⟨h, _⟩
      · exact .inl h
      · exact .inr (.inl h)
      · exact .inr (.inr h)
  · exact .inr (.inr (ord_gt h))
theorem ord_fst {u v : V3} (h : ord u v ≤ 0) : u.1 ≤ v.1 := by
  rcases Int.lt_or_le v.1 u.1 with h1 | h1
  · rw [ord_gt h1] at h; omega
  · exact h1
theorem ord_trans (u v t : V3) (h1 : ord u v ≤ 0) (h2 : ord v t ≤ 0) : ord u t ≤ 0 := by
  have a1 := ord_fst h1
  have a2 := ord_fst h2
  obtain ⟨k, s, a⟩ := u
  obtain ⟨j, s2, b⟩ := v
  obtain ⟨l, s3, c⟩ := t
  simp only at a1 a2
  by_cases h3 : k < l
  · rw [ord_lt (u := (k, s, a)) (v := (l, s3, c)) h3]; omega
  · obtain rfl : k = j := by omega
    obtain rfl : k = l := by omega
    by_cases h4 : k = 1
    · subst h4
      rw [ord_text] at h1 h2 ⊢
      exact (cb_trans _ _ _ h1 h2).1
    · rw [ord_bits k h4] at h1 h2 ⊢
      rcases cmpI_ways (a : Int) (b : Int) with ⟨h, _⟩ | ⟨h, _⟩ | ⟨h, _⟩ <;> rcases cmpI_ways (b : Int) (c : Int) with ⟨h', _⟩ | ⟨h', _⟩ | ⟨h', _⟩ <;> rcases cmpI_ways (a : Int) (c : Int) with ⟨h'', _⟩ | ⟨h'', _⟩ | ⟨h'', _⟩ <;> omega
theorem ord_wrap (u v : V3) : IntKind.i64.wrap (-ord u v) = -ord u v := by
  rcases ord_ways u v with h | h | h <;> rw [h] <;> decide
theorem three_boxes (w X : World) (c d e : Array Value) {t : TypeId} (h : X = ((w.alloc (.cells c t)).alloc (.cells d t)).alloc (.cells e t)) : Whole X w.heap.size t c ∧ Whole X (w.heap.size + 1) t d ∧ Whole X (w.heap.size + 1 + 1) t e ∧ Below w.heap.size w X := by
  subst h
  refine ⟨((Whole.new w _ _).alloc _).alloc _, ?_, ?_, (((Below.refl _ _).alloc (Nat.le_refl _) _).alloc (by simp) _).alloc (by simp; omega) _⟩
  · have := (Whole.new (w.alloc (.cells c t)) t d).alloc (.cells e t)
    simpa using this
  · have := Whole.new ((w.alloc (.cells c t)).alloc (.cells d t)) t e
    simpa using this
end Go.Proofs.YtdifojeghplpeaaDoor
