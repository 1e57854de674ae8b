/- The model of Unquote: lists of bytes alone. -/
import Derived.Test.YtdaipnlgloafdaaUnqTurn
namespace Go.Proofs.Ytdaipnlgloafdaa
open Go.RowKit Utf
set_option linter.unusedVariables false

theorem fourE_len (l : List Nat) : ∀ (f k : Nat) (m : Int), k ≤ l.length → (fourE l f k m).2 = 0 → k + f ≤ l.length
  | 0, k, m, hk, _ => hk
  | f + 1, k, m, hk, he => by
    simp only [fourE] at he
    split at he
    · split at he
      · cases he
      · next a1 _ => have := fourE_len l f (k + 1) _ (by omega) he; omega
    · cases he
theorem lowE_len (l : List Nat) (k : Nat) (h : (lowE l k).2 = 0) : k + 6 ≤ l.length := by
  unfold lowE at h
  by_cases a1 : k < l.length
  · rw [if_pos a1] at h
    by_cases a2 : l.getD k 0 = 92
    · rw [if_pos a2] at h
      by_cases a3 : k + 1 < l.length
      · rw [if_pos a3] at h
        by_cases a4 : l.getD (k + 1) 0 = 117
        · rw [if_pos a4] at h
          have hf := fourE_len l 4 (k + 2) 0 (by omega)
          generalize fourE l 4 (k + 2) 0 = F at *
          unfold lowD at h
          by_cases b1 : F.2 = 0
          · have := hf b1; omega
          · rw [if_neg b1] at h; exact absurd h b1
        · rw [if_neg a4] at h; cases h
      · rw [if_neg a3] at h; cases h
    · rw [if_neg a2] at h; cases h
  · rw [if_neg a1] at h; cases h
theorem runeB_lt (n : Nat) (h : n ≤ 1114111) : ∀ x ∈ runeB n, x < 256 := by
  intro x hx
  unfold runeB at hx
  split at hx
  · simp at hx; omega
  · split at hx
    · simp at hx; omega
    · split at hx
      · simp at hx; omega
      · simp at hx; omega
theorem pointE_end (l : List Nat) (k : Nat) (hk : k ≤ l.length) (h : (pointE l k).2.2 = 0) : (pointE l k).2.1 ≤ l.length ∧ ∀ x ∈ runeB (pointE l k).1.toNat, x < 256 := by
  have hF := fourE_lt l 4 k 0 1 (by omega) (by omega)
  have hG := fourE_len l 4 k 0 hk
  have hL := lowE_lt l (k + 4)
  have hM := lowE_len l (k + 4)
  unfold pointE at h ⊢
  generalize fourE l 4 k 0 = F at *
  generalize lowE l (k + 4) = L at *
  by_cases a1 : F.2 = 0
  · rw [if_pos a1] at h ⊢
    have h1 := hF a1
    have h2 := hG a1
    have h3 : F.1 < 65536 := by simpa using h1.2
    by_cases a2 : 56320 ≤ F.1 ∧ F.1 ≤ 57343
    · rw [if_pos a2] at h; cases h
    · rw [if_neg a2] at h ⊢
      by_cases a3 : 55296 ≤ F.1 ∧ F.1 < 56320
      · rw [if_pos a3] at h ⊢
        by_cases a4 : L.2 = 0
        · rw [if_pos a4]
          have h4 := hL a4
          have h5 := hM a4
          exact ⟨by show k + 10 ≤ l.length; omega, runeB_lt _ (by show (65536 + 1024 * (F.1 - 55296) + (L.1 - 56320)).toNat ≤ 1114111; omega)⟩
        · rw [if_neg a4] at h; exact absurd h a4
      · rw [if_neg a3]; exact ⟨h2, runeB_lt _ (by show F.1.toNat ≤ 1114111; omega)⟩
  · rw [if_neg a1] at h; exact absurd h a1
theorem escE_end (l : List Nat) (k : Nat) (hk : k ≤ l.length) (h : (escE l k).2.2 = 0) : (escE l k).2.1 ≤ l.length ∧ ∀ x ∈ (escE l k).1, x < 256 := by
  unfold escE at h ⊢
  by_cases a1 : k < l.length
  · rw [if_pos a1] at h ⊢
    by_cases a2 : l.getD k 0 = 117
    · rw [if_pos a2] at h ⊢
      exact pointE_end l (k + 1) a1 h
    · rw [if_neg a2] at h ⊢
      by_cases a3 : chrE (l.getD k 0) < 256
      · rw [if_pos a3]; exact ⟨a1, fun x hx => by rw [List.mem_singleton.1 hx]; exact a3⟩
      · rw [if_neg a3] at h; cases h
  · rw [if_neg a1] at h; cases h
theorem stpE_end (l : List Nat) (k : Nat) (hl : ∀ x ∈ l, x < 256) (hk : k ≤ l.length) (h : (stpE l k).2.2.2 = 0) : (stpE l k).2.2.1 ≤ l.length ∧ ∀ x ∈ (stpE l k).2.1, x < 256 := by
  unfold stpE at h ⊢
  by_cases a1 : k < l.length
  · rw [if_pos a1] at h ⊢
    by_cases a2 : l.getD k 0 = 34
    · rw [if_pos a2]; exact ⟨a1, fun x hx => by simp at hx⟩
    · rw [if_neg a2] at h ⊢
      by_cases a3 : l.getD k 0 = 92
      · rw [if_pos a3] at h ⊢
        exact escE_end l (k + 1) a1 h
      · rw [if_neg a3] at h ⊢
        by_cases a4 : l.getD k 0 < 32
        · rw [if_pos a4] at h; cases h
        · rw [if_neg a4]
          refine ⟨a1, fun x hx => ?_⟩
          have e : x = l.getD k 0 := by simpa using hx
          rw [e, List.getD_eq_getElem?_getD, List.getElem?_eq_getElem a1]
          exact hl _ (List.getElem_mem a1)
  · rw [if_neg a1] at h; cases h
theorem pointE_pos (l : List Nat) (k : Nat) (h : (pointE l k).2.2 = 0) : k < (pointE l k).2.1 ∧ (runeB (pointE l k).1.toNat).length ≤ 4 := by
  have hb : ∀ n, (runeB n).length ≤ 4 := fun n => by unfold runeB; repeat' split
                                                     all_goals simp
  refine ⟨?_, hb _⟩
  unfold pointE at h ⊢
  by_cases a1 : (fourE l 4 k 0).2 = 0
  · rw [if_pos a1] at h ⊢
    by_cases a2 : 56320 ≤ (fourE l 4 k 0).1 ∧ (fourE l 4 k 0).1 ≤ 57343
    · rw [if_pos a2] at h; cases h
    · rw [if_neg a2] at h ⊢
      by_cases a3 : 55296 ≤ (fourE l 4 k 0).1 ∧ (fourE l 4 k 0).1 < 56320
      · rw [if_pos a3] at h ⊢
        by_cases a4 : (lowE l (k + 4)).2 = 0
        · rw [if_pos a4]; show k < k + 10; omega
        · rw [if_neg a4] at h; exact absurd h a4
      · rw [if_neg a3]; show k < k + 4; omega
  · rw [if_neg a1] at h; exact absurd h a1
theorem escE_pos (l : List Nat) (k : Nat) (h : (escE l k).2.2 = 0) : k < (escE l k).2.1 ∧ (escE l k).1.length ≤ 4 := by
  unfold escE at h ⊢
  by_cases a1 : k < l.length
  · rw [if_pos a1] at h ⊢
    by_cases a2 : l.getD k 0 = 117
    · rw [if_pos a2] at h ⊢
      have := pointE_pos l (k + 1) h
      exact ⟨by have := this.1; show k < (pointE l (k + 1)).2.1; omega, this.2⟩
    · rw [if_neg a2] at h ⊢
      by_cases a3 : chrE (l.getD k 0) < 256
      · rw [if_pos a3]; exact ⟨by show k < k + 1; omega, by simp⟩
      · rw [if_neg a3] at h; cases h
  · rw [if_neg a1] at h; cases h
theorem stpE_pos (l : List Nat) (k : Nat) (h : (stpE l k).2.2.2 = 0) : k < (stpE l k).2.2.1 ∧ (stpE l k).2.1.length ≤ 4 := by
  unfold stpE at h ⊢
  by_cases a1 : k < l.length
  · rw [if_pos a1] at h ⊢
    by_cases a2 : l.getD k 0 = 34
    · rw [if_pos a2]; exact ⟨by show k < k + 1; omega, by simp⟩
    · rw [if_neg a2] at h ⊢
      by_cases a3 : l.getD k 0 = 92
      · rw [if_pos a3] at h ⊢
        have := escE_pos l (k + 1) h
        exact ⟨by have := this.1; show k < (escE l (k + 1)).2.1; omega, this.2⟩
      · rw [if_neg a3] at h ⊢
        by_cases a4 : l.getD k 0 < 32
        · rw [if_pos a4] at h; cases h
        · rw [if_neg a4]; exact ⟨by show k < k + 1; omega, by simp⟩
  · rw [if_neg a1] at h; cases h

/-- What is read from a place on, with what was read before: the text, the place behind it, the error. -/
def unqE (l : List Nat) : Nat → Nat → List Nat → List Nat × Nat × Int
  | 0, _, _ => ([], 0, 0)
  | f + 1, k, m =>
    if (stpE l k).2.2.2 = 0 then
      (if (stpE l k).1 = true then
        (if val (m ++ (stpE l k).2.1) ((m ++ (stpE l k).2.1).length + 1) 0 = true then (m ++ (stpE l k).2.1, (stpE l k).2.2.1, 0) else ([], 0, 3))
       else unqE l f (stpE l k).2.2.1 (m ++ (stpE l k).2.1))
    else ([], 0, (stpE l k).2.2.2)
end Go.Proofs.Ytdaipnlgloafdaa
