/- Plain mathematics of fields: numbers and lists alone. -/
import Derived.Test.YtdifojeghplpeaaDoorPackMath
namespace Go.Proofs.YtdifojeghplpeaaDoor.Var

/-- Bytes as a number, the least first. -/
def le : List Nat → Nat
  | [] => 0
  | c :: r => c + 256 * le r
theorem le_append (l : List Nat) (x : Nat) : le (l ++ [x]) = le l + x * 256 ^ l.length := by
  induction l with
  | nil => simp [le]
  | cons c r ih =>
    simp only [List.cons_append, le, ih, List.length_cons, Nat.pow_succ]
    rw [Nat.mul_add, Nat.add_assoc, Nat.mul_comm (256 ^ r.length) 256, ← Nat.mul_assoc x, ← Nat.mul_assoc 256, Nat.mul_comm 256 x]
theorem le_lt : ∀ (l : List Nat), (∀ x ∈ l, x < 256) → le l < 256 ^ l.length
  | [], _ => by simp [le]
  | c :: r, h => by
    have h1 := le_lt r (fun x hx => h x (List.mem_cons_of_mem _ hx))
    have h2 := h c (List.mem_cons_self ..)
    simp only [le, List.length_cons, Nat.pow_succ]
    omega
/-- The n bytes from place p on. -/
def cut (l : List Nat) (p n : Nat) : List Nat := (l.drop p).take n
theorem cut_length {l : List Nat} {p n : Nat} (h : p + n ≤ l.length) : (cut l p n).length = n := by simp [cut]; omega
theorem cut_get {l : List Nat} {p n i : Nat} (h : i < n) (hp : p + n ≤ l.length) : (cut l p n).getD i 0 = l.getD (p + i) 0 := by
  have : i < (cut l p n).length := by rw [cut_length hp]; exact h
  have h2 : p + i < l.length := by omega
  simp [cut, h]
theorem cut_lt {l : List Nat} (p n : Nat) (h : ∀ x ∈ l, x < 256) : ∀ x ∈ cut l p n, x < 256 := fun x hx => h x (List.mem_of_mem_drop (List.mem_of_mem_take hx))
theorem cut_succ {l : List Nat} {p n : Nat} (h : p + n < l.length) : cut l p (n + 1) = cut l p n ++ [l.getD (p + n) 0] := by
  unfold cut
  rw [List.take_succ_eq_append_getElem (by simp; omega)]
  simp [h]
theorem cut_nought (l : List Nat) (p : Nat) : cut l p 0 = [] := by simp [cut]
theorem le_step {l : List Nat} {p n : Nat} (h : p + n < l.length) : le (cut l p (n + 1)) = le (cut l p n) + l.getD (p + n) 0 * 256 ^ n := by
  rw [cut_succ h, le_append, cut_length (by omega)]
/-- As the reference reckons: from the end. -/
theorem le_drop (l : List Nat) (k : Nat) (h : k < l.length) : le (l.drop k) = 256 * le (l.drop (k + 1)) + l.getD k 0 := by
  rw [drop_cons h, le]; omega

/-- A field. -/
structure F where
  num : Nat
  kind : Nat
  int : Nat
  data : List Nat

/-- The field at a place: the error, the field, the place behind it. -/
def fld (l : List Nat) (p : Nat) : Nat × F × Nat :=
  if (vat l p).2.2 ≠ 0 then ((vat l p).2.2, ⟨0, 0, 0, []⟩, 0)
  else if (vat l p).1 / 8 < 1 ∨ 536870911 < (vat l p).1 / 8 then (3, ⟨0, 0, 0, []⟩, 0)
  else if (vat l p).1 % 8 = 0 then
    (if (vat l (vat l p).2.1).2.2 ≠ 0 then ((vat l (vat l p).2.1).2.2, ⟨0, 0, 0, []⟩, 0)
     else (0, ⟨(vat l p).1 / 8, 0, (vat l (vat l p).2.1).1, []⟩, (vat l (vat l p).2.1).2.1))
  else if (vat l p).1 % 8 = 1 then
    (if l.length - (vat l p).2.1 < 8 then (2, ⟨0, 0, 0, []⟩, 0) else (0, ⟨(vat l p).1 / 8, 1, le (cut l (vat l p).2.1 8), []⟩, (vat l p).2.1 + 8))
  else if (vat l p).1 % 8 = 5 then
    (if l.length - (vat l p).2.1 < 4 then (2, ⟨0, 0, 0, []⟩, 0) else (0, ⟨(vat l p).1 / 8, 5, le (cut l (vat l p).2.1 4), []⟩, (vat l p).2.1 + 4))
  else if (vat l p).1 % 8 = 2 then
    (if (vat l (vat l p).2.1).2.2 ≠ 0 then ((vat l (vat l p).2.1).2.2, ⟨0, 0, 0, []⟩, 0)
     else if l.length - (vat l (vat l p).2.1).2.1 < (vat l (vat l p).2.1).1 then (2, ⟨0, 0, 0, []⟩, 0)
     else (0, ⟨(vat l p).1 / 8, 2, 0, cut l (vat l (vat l p).2.1).2.1 (vat l (vat l p).2.1).1⟩, (vat l (vat l p).2.1).2.1 + (vat l (vat l p).2.1).1))
  else (3, ⟨0, 0, 0, []⟩, 0)

/-- All fields from a place on, or the error. -/
def gets (l : List Nat) : Nat → Nat → List F → List F × Nat
  | 0, _, acc => (acc, 0)
  | f + 1, p, acc => if p < l.length then (if (fld l p).1 ≠ 0 then ([], (fld l p).1) else gets l f (fld l p).2.2 (acc ++ [(fld l p).2.1])) else (acc, 0)
theorem gets_end {l : List Nat} {f p : Nat} {acc : List F} (h : ¬ p < l.length) : gets l (f + 1) p acc = (acc, 0) := by simp only [gets]; rw [if_neg h]
theorem gets_err {l : List Nat} {f p : Nat} {acc : List F} (h : p < l.length) (h1 : (fld l p).1 ≠ 0) : gets l (f + 1) p acc = ([], (fld l p).1) := by simp only [gets]; rw [if_pos h, if_pos h1]
theorem gets_more {l : List Nat} {f p : Nat} {acc : List F} (h : p < l.length) (h1 : (fld l p).1 = 0) : gets l (f + 1) p acc = gets l f (fld l p).2.2 (acc ++ [(fld l p).2.1]) := by simp only [gets]; rw [if_pos h, if_neg (by simpa using h1)]

theorem vat_next {l : List Nat} {p : Nat} (hp : p ≤ l.length) : (vat l p).2.1 ≤ l.length := by
  by_cases h : (vat l p).2.2 = 0
  · exact (vat_step hp h).2
  · have h' : ¬ (vd (l.drop p) 0 0).2.2 = 0 := h
    unfold vat
    simp only
    rw [if_neg h']
    omega
theorem fld_all (l : List Nat) (p : Nat) (P : Nat × F × Nat → Prop)
    (h0 : (vat l p).2.2 ≠ 0 → P ((vat l p).2.2, ⟨0, 0, 0, []⟩, 0)) (h3 : P (3, ⟨0, 0, 0, []⟩, 0))
    (hv : (vat l p).2.2 = 0 → (vat l (vat l p).2.1).2.2 ≠ 0 → P ((vat l (vat l p).2.1).2.2, ⟨0, 0, 0, []⟩, 0))
    (hv0 : (vat l p).2.2 = 0 → 1 ≤ (vat l p).1 / 8 → (vat l p).1 / 8 ≤ 536870911 → (vat l (vat l p).2.1).2.2 = 0 → P (0, ⟨(vat l p).1 / 8, 0, (vat l (vat l p).2.1).1, []⟩, (vat l (vat l p).2.1).2.1))
    (h2 : P (2, ⟨0, 0, 0, []⟩, 0))
    (h8 : (vat l p).2.2 = 0 → 1 ≤ (vat l p).1 / 8 → (vat l p).1 / 8 ≤ 536870911 → ¬ l.length - (vat l p).2.1 < 8 → P (0, ⟨(vat l p).1 / 8, 1, le (cut l (vat l p).2.1 8), []⟩, (vat l p).2.1 + 8))
    (h4 : (vat l p).2.2 = 0 → 1 ≤ (vat l p).1 / 8 → (vat l p).1 / 8 ≤ 536870911 → ¬ l.length - (vat l p).2.1 < 4 → P (0, ⟨(vat l p).1 / 8, 5, le (cut l (vat l p).2.1 4), []⟩, (vat l p).2.1 + 4))
    (hb : (vat l p).2.2 = 0 → 1 ≤ (vat l p).1 / 8 → (vat l p).1 / 8 ≤ 536870911 → (vat l (vat l p).2.1).2.2 = 0 → ¬ l.length - (vat l (vat l p).2.1).2.1 < (vat l (vat l p).2.1).1 →
      P (0, ⟨(vat l p).1 / 8, 2, 0, cut l (vat l (vat l p).2.1).2.1 (vat l (vat l p).2.1).1⟩, (vat l (vat l p).2.1).2.1 + (vat l (vat l p).2.1).1)) : P (fld l p) := by
  unfold fld
  split
  · next h => exact h0 h
  · next h =>
    have h' : (vat l p).2.2 = 0 := by simpa using h
    split
    · exact h3
    · next hn =>
      split
      · split
        · next g => exact hv h' g
        · next g => exact hv0 h' (by omega) (by omega) (by simpa using g)
      · split
        · split
          · exact h2
          · next g => exact h8 h' (by omega) (by omega) g
        · split
          · split
            · exact h2
            · next g => exact h4 h' (by omega) (by omega) g
          · split
            · split
              · next g => exact hv h' g
              · next g =>
                split
                · exact h2
                · next k => exact hb h' (by omega) (by omega) (by simpa using g) k
            · exact h3
theorem fld_step {l : List Nat} {p : Nat} (hp : p < l.length) : (fld l p).1 = 0 → p < (fld l p).2.2 ∧ (fld l p).2.2 ≤ l.length := by
  have hs := fun h => vat_step (Nat.le_of_lt hp) h
  have ht := fun h h1 => vat_step (hs h).2 h1
  refine fld_all l p (fun r => r.1 = 0 → p < r.2.2 ∧ r.2.2 ≤ l.length) (fun h e => absurd e h) (fun e => by simp at e) (fun _ h e => absurd e h) (fun h _ _ h1 _ => ?_) (fun e => by simp at e) (fun h _ _ h1 _ => ?_) (fun h _ _ h1 _ => ?_) (fun h _ _ h1 h2 _ => ?_)
  · have := hs h; have := ht h h1; simp only; omega
  · have := hs h; simp only; omega
  · have := hs h; simp only; omega
  · have := hs h; have := ht h h1; simp only; omega

/-- What a field that was read is. -/
structure FOk (f : F) (m : Nat) : Prop where
  num : 1 ≤ f.num ∧ f.num ≤ 536870911
  int : f.int < 18446744073709551616
  kind : f.kind = 0 ∨ f.kind = 1 ∨ f.kind = 2 ∨ f.kind = 5
  data : (∀ x ∈ f.data, x < 256) ∧ f.data.length ≤ m
  only : f.kind ≠ 2 → f.data = []
  none_ : f.kind = 2 → f.int = 0
  four : f.kind = 5 → f.int < 4294967296
theorem pow8 : (256 : Nat) ^ 8 = 18446744073709551616 := by decide
theorem pow4 : (256 : Nat) ^ 4 = 4294967296 := by decide
theorem fld_ok {l : List Nat} {p : Nat} (hd : ∀ x ∈ l, x < 256) (hp : p < l.length) : (fld l p).1 = 0 → FOk (fld l p).2.1 l.length := by
  have hs := fun h => vat_step (Nat.le_of_lt hp) h
  refine fld_all l p (fun r => r.1 = 0 → FOk r.2.1 l.length) (fun h e => absurd e h) (fun e => by simp at e) (fun _ h e => absurd e h) (fun h a b h1 _ => ?_) (fun e => by simp at e) (fun h a b h1 _ => ?_) (fun h a b h1 _ => ?_) (fun h a b h1 h2 _ => ?_)
  · exact ⟨⟨a, b⟩, vat_bound _ _, by simp, by simp, fun _ => rfl, by simp, by simp⟩
  · have h3 := le_lt (cut l (vat l p).2.1 8) (cut_lt _ _ hd)
    rw [cut_length (by have := hs h; omega), pow8] at h3
    exact ⟨⟨a, b⟩, h3, by simp, by simp, fun _ => rfl, by simp, by simp⟩
  · have h3 := le_lt (cut l (vat l p).2.1 4) (cut_lt _ _ hd)
    rw [cut_length (by have := hs h; omega), pow4] at h3
    exact ⟨⟨a, b⟩, by simp only; omega, by simp, by simp, fun _ => rfl, by simp, fun _ => h3⟩
  · exact ⟨⟨a, b⟩, by simp, by simp, ⟨cut_lt _ _ hd, by simp [cut]; omega⟩, by simp, fun _ => rfl, by simp⟩
theorem gets_len : ∀ (l : List Nat) (f p : Nat) (acc : List F), (gets l f p acc).1.length ≤ acc.length + f
  | _, 0, _, _ => by simp [gets]
  | l, f + 1, p, acc => by
    simp only [gets]
    split
    · split
      · simp
      · have := gets_len l f (fld l p).2.2 (acc ++ [(fld l p).2.1])
        simp at this
        omega
    · simp
theorem gets_ok (l : List Nat) (hd : ∀ x ∈ l, x < 256) : ∀ (f p : Nat) (acc : List F), (∀ g ∈ acc, FOk g l.length) → ∀ g ∈ (gets l f p acc).1, FOk g l.length
  | 0, _, _, h => by simpa [gets] using h
  | f + 1, p, acc, h => by
    simp only [gets]
    split
    · next hp =>
      split
      · simp
      · next h1 =>
        refine gets_ok l hd f _ _ ?_
        intro g hg
        simp only [List.mem_append, List.mem_singleton] at hg
        rcases hg with hg | rfl
        · exact h g hg
        · exact fld_ok hd hp (by simpa using h1)
    · exact h
theorem gets_err0 (l : List Nat) : ∀ (f p : Nat) (acc : List F), (gets l f p acc).2 ≠ 0 → (gets l f p acc).1 = []
  | 0, _, _, h => by simp [gets] at h
  | f + 1, p, acc, h => by
    simp only [gets] at h ⊢
    split at h
    · split at h
      · rw [if_pos ‹_›, if_pos ‹_›]
      · rw [if_pos ‹_›, if_neg ‹_›]; exact gets_err0 l f _ _ h
    · simp at h
end Go.Proofs.YtdifojeghplpeaaDoor.Var
