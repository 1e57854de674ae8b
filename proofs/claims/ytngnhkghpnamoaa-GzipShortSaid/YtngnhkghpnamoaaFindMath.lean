/- FindMath -/

/- Layer 5: matches: plain mathematics. -/
namespace Go.Proofs.Ytngnhkghpnamoaa

def mrun (l : List Nat) (at' d : Nat) : Nat → Nat → Nat
  | 0, n => n
  | f + 1, n => if at' + n < l.length ∧ l.getD (at' + n) 0 = l.getD (at' + n - d) 0 then mrun l at' d f (n + 1) else n
/-- How long the bytes d back go on alike, at most 258. -/
def mlen (l : List Nat) (at' d : Nat) : Nat := mrun l at' d 258 0
theorem mrun_yes {l : List Nat} {a d f n : Nat} (h : a + n < l.length) (h1 : l.getD (a + n) 0 = l.getD (a + n - d) 0) : mrun l a d (f + 1) n = mrun l a d f (n + 1) := by
  conv => lhs; unfold mrun
  rw [if_pos ⟨h, h1⟩]
theorem mrun_no {l : List Nat} {a d f n : Nat} (h : ¬ (a + n < l.length ∧ l.getD (a + n) 0 = l.getD (a + n - d) 0)) : mrun l a d (f + 1) n = n := by
  conv => lhs; unfold mrun
  rw [if_neg h]
theorem mrun_le {l : List Nat} {a d : Nat} : ∀ (f n : Nat), n ≤ mrun l a d f n ∧ mrun l a d f n ≤ n + f
  | 0, n => ⟨Nat.le_refl _, Nat.le_refl _⟩
  | f + 1, n => by
    by_cases h : a + n < l.length ∧ l.getD (a + n) 0 = l.getD (a + n - d) 0
    · rw [mrun_yes h.1 h.2]
      have := mrun_le (l := l) (a := a) (d := d) f (n + 1)
      omega
    · rw [mrun_no h]; omega
theorem mlen_le (l : List Nat) (a d : Nat) : mlen l a d ≤ 258 := by have := (mrun_le (l := l) (a := a) (d := d) 258 0).2; unfold mlen; omega
theorem mrun_in {l : List Nat} {a d : Nat} : ∀ (f n : Nat), a + n ≤ l.length → a + mrun l a d f n ≤ l.length
  | 0, n, h => h
  | f + 1, n, h => by
    by_cases h1 : a + n < l.length ∧ l.getD (a + n) 0 = l.getD (a + n - d) 0
    · rw [mrun_yes h1.1 h1.2]; exact mrun_in f (n + 1) h1.1
    · rw [mrun_no h1]; exact h
theorem mlen_in {l : List Nat} {a d : Nat} (h : a ≤ l.length) : a + mlen l a d ≤ l.length := mrun_in 258 0 h
/-- The best of the first K distances: its length, itself. -/
def bestTo (l : List Nat) (a : Nat) : Nat → Nat × Nat
  | 0 => (0, 0)
  | K + 1 => if (bestTo l a K).1 < mlen l a (K + 1) then (mlen l a (K + 1), K + 1) else bestTo l a K
theorem bestTo_yes {l : List Nat} {a K : Nat} (h : (bestTo l a K).1 < mlen l a (K + 1)) : bestTo l a (K + 1) = (mlen l a (K + 1), K + 1) := by
  show (if _ then _ else _) = _; rw [if_pos h]
theorem bestTo_no {l : List Nat} {a K : Nat} (h : ¬ (bestTo l a K).1 < mlen l a (K + 1)) : bestTo l a (K + 1) = bestTo l a K := by
  conv => lhs; unfold bestTo
  rw [if_neg h]
theorem bestTo_le (l : List Nat) (a : Nat) : ∀ K, (bestTo l a K).1 ≤ 258 ∧ (bestTo l a K).2 ≤ K
  | 0 => ⟨Nat.zero_le _, Nat.le_refl _⟩
  | K + 1 => by
    have := bestTo_le l a K
    by_cases h : (bestTo l a K).1 < mlen l a (K + 1)
    · rw [bestTo_yes h]; exact ⟨mlen_le _ _ _, Nat.le_refl _⟩
    · rw [bestTo_no h]; exact ⟨this.1, by omega⟩
theorem bestTo_full {l : List Nat} {a K : Nat} (h : (bestTo l a K).1 = 258) : ∀ m, bestTo l a (K + m) = bestTo l a K
  | 0 => rfl
  | m + 1 => by
    have ih := bestTo_full h m
    have hl := mlen_le l a (K + m + 1)
    show bestTo l a ((K + m) + 1) = _
    rw [bestTo_no (by rw [ih, h]; omega), ih]
/-- Nothing among the first K is longer; what is as long is no nearer. -/
theorem bestTo_max (l : List Nat) (a : Nat) : ∀ K d, 1 ≤ d → d ≤ K → mlen l a d ≤ (bestTo l a K).1 ∧ (mlen l a d = (bestTo l a K).1 → 0 < mlen l a d → (bestTo l a K).2 ≤ d)
  | 0, d, h1, h2 => by omega
  | K + 1, d, h1, h2 => by
    have hle := bestTo_le l a K
    by_cases h : (bestTo l a K).1 < mlen l a (K + 1)
    · rw [bestTo_yes h]
      by_cases hd : d = K + 1
      · subst hd; exact ⟨Nat.le_refl _, fun _ _ => Nat.le_refl _⟩
      · have := bestTo_max l a K d h1 (by omega)
        exact ⟨by omega, fun e _ => by have := this.1; simp only at e; omega⟩
    · rw [bestTo_no h]
      by_cases hd : d = K + 1
      · subst hd; exact ⟨by omega, fun _ _ => by omega⟩
      · exact bestTo_max l a K d h1 (by omega)
theorem bestTo_is (l : List Nat) (a : Nat) : ∀ K, (bestTo l a K = (0, 0)) ∨ (1 ≤ (bestTo l a K).2 ∧ (bestTo l a K).2 ≤ K ∧ (bestTo l a K).1 = mlen l a (bestTo l a K).2 ∧ 0 < (bestTo l a K).1)
  | 0 => .inl rfl
  | K + 1 => by
    by_cases h : (bestTo l a K).1 < mlen l a (K + 1)
    · rw [bestTo_yes h]; exact .inr ⟨by simp, by simp, rfl, by simp only; omega⟩
    · rw [bestTo_no h]
      rcases bestTo_is l a K with h1 | ⟨h1, h2, h3⟩
      · exact .inl h1
      · exact .inr ⟨h1, by omega, h3⟩
def findE (l : List Nat) (a : Nat) : Nat × Nat := if a ≤ l.length then (if (bestTo l a (min 256 a)).1 < 3 then (0, 0) else bestTo l a (min 256 a)) else (0, 0)
theorem findE_cases (l : List Nat) (a : Nat) : findE l a = (0, 0) ∨ (3 ≤ (findE l a).1 ∧ (findE l a).1 ≤ 258 ∧ 1 ≤ (findE l a).2 ∧ (findE l a).2 ≤ 256 ∧ (findE l a).2 ≤ a ∧ (findE l a).1 = mlen l a (findE l a).2 ∧ a ≤ l.length) := by
  unfold findE
  by_cases h : a ≤ l.length
  · rw [if_pos h]
    by_cases h1 : (bestTo l a (min 256 a)).1 < 3
    · rw [if_pos h1]; exact .inl rfl
    · rw [if_neg h1]
      rcases bestTo_is l a (min 256 a) with h2 | ⟨h2, h3, h4, h5⟩
      · rw [h2] at h1; exact absurd (by decide) h1
      · exact .inr ⟨by omega, (bestTo_le l a _).1, h2, by omega, by omega, h4, h⟩
  · rw [if_neg h]; exact .inl rfl
/-- The same from the far distances on: those above K. -/
def downTo (l : List Nat) (a : Nat) : Nat → Nat × Nat → Nat × Nat
  | 0, b => b
  | K + 1, b => downTo l a K (if K + 1 ≤ a ∧ 3 ≤ mlen l a (K + 1) ∧ b.1 ≤ mlen l a (K + 1) then (mlen l a (K + 1), K + 1) else b)
theorem downTo_yes {l : List Nat} {a K : Nat} {b : Nat × Nat} (h : K + 1 ≤ a ∧ 3 ≤ mlen l a (K + 1) ∧ b.1 ≤ mlen l a (K + 1)) : downTo l a (K + 1) b = downTo l a K (mlen l a (K + 1), K + 1) := by
  conv => lhs; unfold downTo
  rw [if_pos h]
theorem downTo_no {l : List Nat} {a K : Nat} {b : Nat × Nat} (h : ¬ (K + 1 ≤ a ∧ 3 ≤ mlen l a (K + 1) ∧ b.1 ≤ mlen l a (K + 1))) : downTo l a (K + 1) b = downTo l a K b := by
  conv => lhs; unfold downTo
  rw [if_neg h]
/-- Behind all: the best of those up to K, if it is long enough and as long as b. -/
theorem downTo_best (l : List Nat) (a : Nat) : ∀ K b, (b.1 = 0 → b = (0, 0)) → downTo l a K b = if 3 ≤ (bestTo l a (min K a)).1 ∧ b.1 ≤ (bestTo l a (min K a)).1 then bestTo l a (min K a) else b
  | 0, b, hb => by
    rw [Nat.zero_min, if_neg (by show ¬ (3 ≤ 0 ∧ _); omega)]; rfl
  | K + 1, b, hb => by
    by_cases hka : K + 1 ≤ a
    · have e1 : min (K + 1) a = K + 1 := by omega
      have e2 : min K a = K := by omega
      rw [e1]
      by_cases h : 3 ≤ mlen l a (K + 1) ∧ b.1 ≤ mlen l a (K + 1)
      · rw [downTo_yes ⟨hka, h⟩, downTo_best l a K _ (fun h0 => by simp only at h0; omega), e2]
        by_cases h2 : (bestTo l a K).1 < mlen l a (K + 1)
        · rw [bestTo_yes h2, if_neg (by simp only; omega), if_pos h]
        · rw [bestTo_no h2, if_pos (by simp only; omega), if_pos (by omega)]
      · rw [downTo_no (fun q => h q.2), downTo_best l a K b hb, e2]
        by_cases h2 : (bestTo l a K).1 < mlen l a (K + 1)
        · rw [bestTo_yes h2, if_neg h, if_neg (by omega)]
        · rw [bestTo_no h2]
    · rw [downTo_no (fun q => hka q.1), downTo_best l a K b hb, show min (K + 1) a = min K a by omega]
theorem downTo_find {l : List Nat} {a : Nat} (h : a ≤ l.length) : downTo l a 256 (0, 0) = findE l a := by
  rw [downTo_best l a 256 (0, 0) (fun _ => rfl)]
  unfold findE
  rw [if_pos h]
  by_cases h1 : (bestTo l a (min 256 a)).1 < 3
  · rw [if_neg (by omega), if_pos h1]
  · rw [if_pos ⟨by omega, Nat.zero_le _⟩, if_neg h1]
end Go.Proofs.Ytngnhkghpnamoaa
