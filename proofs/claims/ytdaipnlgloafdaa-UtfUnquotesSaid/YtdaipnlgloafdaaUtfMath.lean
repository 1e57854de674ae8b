/- Plain mathematics of UTF-8: lists of bytes alone. -/
namespace Go.Proofs.Ytdaipnlgloafdaa.Utf

/-- The range of the byte after a first byte, and how long the sequence is. -/
def sec (c : Nat) : Nat × Nat × Nat := if c ≤ 127 then (0, 0, 1) else if c < 194 ∨ 244 < c then (0, 0, 0) else if c ≤ 223 then (128, 191, 2) else if c = 224 then (160, 191, 3) else if c = 237 then (128, 159, 3) else if c ≤ 239 then (128, 191, 3) else if c = 240 then (144, 191, 4) else if c = 244 then (128, 143, 4) else (128, 191, 4)
/-- Is the byte at a place from lo to hi? -/
def tl (l : List Nat) (i lo hi : Nat) : Bool := decide (i < l.length) && (decide (lo ≤ l.getD i 0) && decide (l.getD i 0 ≤ hi))
/-- How many bytes the code point at a place has; 0: there is none. -/
def one (l : List Nat) (i : Nat) : Nat :=
  if (sec (l.getD i 0)).2.2 < 2 then (sec (l.getD i 0)).2.2
  else if tl l (i + 1) (sec (l.getD i 0)).1 (sec (l.getD i 0)).2.1 = false then 0
  else if 3 ≤ (sec (l.getD i 0)).2.2 ∧ tl l (i + 2) 128 191 = false then 0
  else if 4 ≤ (sec (l.getD i 0)).2.2 ∧ tl l (i + 3) 128 191 = false then 0
  else (sec (l.getD i 0)).2.2
def val (l : List Nat) : Nat → Nat → Bool
  | 0, _ => true
  | f + 1, i => if i < l.length then (if one l i = 0 then false else val l f (i + one l i)) else true
theorem val_end {l : List Nat} {f i : Nat} (h : ¬ i < l.length) : val l (f + 1) i = true := by simp only [val]; rw [if_neg h]
theorem val_bad {l : List Nat} {f i : Nat} (h : i < l.length) (h1 : one l i = 0) : val l (f + 1) i = false := by simp only [val]; rw [if_pos h, if_pos h1]
theorem val_more {l : List Nat} {f i : Nat} (h : i < l.length) (h1 : one l i ≠ 0) : val l (f + 1) i = val l f (i + one l i) := by simp only [val]; rw [if_pos h, if_neg h1]
theorem sec_le (c : Nat) : (sec c).2.2 ≤ 4 := by unfold sec; repeat' split
                                                 all_goals simp
theorem tl_true {l : List Nat} {i lo hi : Nat} (h : tl l i lo hi = true) : i < l.length ∧ lo ≤ l.getD i 0 ∧ l.getD i 0 ≤ hi := by simpa [tl] using h
theorem tl_false {l : List Nat} {i lo hi : Nat} (h : tl l i lo hi = false) : ¬ (i < l.length ∧ lo ≤ l.getD i 0 ∧ l.getD i 0 ≤ hi) := by
  intro ⟨a, b, c⟩
  have : tl l i lo hi = true := by unfold tl; simp only [decide_eq_true a, decide_eq_true b, decide_eq_true c]; rfl
  rw [h] at this; cases this
theorem one_le {l : List Nat} {i : Nat} (h : i < l.length) : i + one l i ≤ l.length := by
  have hs := sec_le (l.getD i 0)
  unfold one
  split
  · omega
  · split
    · omega
    · next h1 =>
      have t1 := tl_true (by simpa using h1 : tl l (i + 1) _ _ = true)
      split
      · omega
      · next h2 =>
        split
        · omega
        · next h3 =>
          by_cases e3 : 3 ≤ (sec (l.getD i 0)).2.2
          · have t2 : tl l (i + 2) 128 191 = true := by
              cases e : tl l (i + 2) 128 191
              · exact absurd ⟨e3, e⟩ h2
              · rfl
            have t2' := tl_true t2
            by_cases e4 : 4 ≤ (sec (l.getD i 0)).2.2
            · have t3 : tl l (i + 3) 128 191 = true := by
                cases e : tl l (i + 3) 128 191
                · exact absurd ⟨e4, e⟩ h3
                · rfl
              have t3' := tl_true t3
              omega
            · omega
          · omega
theorem getD_drop (l : List Nat) (i j : Nat) : (l.drop i).getD j 0 = l.getD (i + j) 0 := by simp [List.getD, List.getElem?_drop]
theorem tl_drop (l : List Nat) (i j lo hi : Nat) : tl (l.drop i) j lo hi = tl l (i + j) lo hi := by
  unfold tl; rw [getD_drop]
  have : decide (j < (l.drop i).length) = decide (i + j < l.length) := by rw [decide_eq_decide, List.length_drop]; omega
  rw [this]
theorem one_drop (l : List Nat) (i : Nat) : one (l.drop i) 0 = one l i := by
  unfold one; simp only [getD_drop, tl_drop, Nat.add_zero, Nat.zero_add]
/-- A text's bytes. -/
def bs (s : ByteArray) : List Nat := s.data.toList.map UInt8.toNat
theorem bs_length (s : ByteArray) : (bs s).length = s.size := by unfold bs; rw [List.length_map]; rfl
theorem bs_lt (s : ByteArray) : ∀ x ∈ bs s, x < 256 := by
  intro x hx
  simp only [bs, List.mem_map] at hx
  obtain ⟨c, _, rfl⟩ := hx
  exact c.toNat_lt
theorem bs_get (s : ByteArray) (k : Nat) (h : k < s.size) : (s[k]'h).toNat = (bs s).getD k 0 := by
  have e : s.data.toList[k]? = some (s.data[k]'h) := by rw [Array.getElem?_toList]; exact Array.getElem?_eq_getElem h
  unfold bs
  rw [List.getD_eq_getElem?_getD, List.getElem?_map, e]
  rfl
theorem get_lt (s : ByteArray) (k : Nat) : (bs s).getD k 0 < 256 := by
  by_cases h : k < (bs s).length
  · have := bs_lt s _ (List.getElem_mem h)
    rw [List.getD_eq_getElem?_getD, List.getElem?_eq_getElem h, Option.getD_some]; exact this
  · rw [List.getD_eq_getElem?_getD, List.getElem?_eq_none (by omega)]; simp
end Go.Proofs.Ytdaipnlgloafdaa.Utf
