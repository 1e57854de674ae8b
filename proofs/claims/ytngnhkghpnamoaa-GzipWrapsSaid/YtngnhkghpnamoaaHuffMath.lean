/- HuffMath -/

/- Canonical codes, plainly: which symbols have which length, the first code of each length, each symbol's code. -/
namespace Go.Proofs.Ytngnhkghpnamoaa
namespace Huff

/-- What Kraft answers. -/
def okL (zs : List Int) : Bool := decide (zs.length ≤ 288) && zs.all fun z => decide (0 ≤ z ∧ z ≤ 15)
def krT (n : Nat) : Nat := if 0 < n then 2 ^ (15 - n) else 0
def kr (l : List Nat) : Nat := (l.map krT).sum
def nats (zs : List Int) : List Nat := zs.map Int.toNat
def kraft (zs : List Int) : Nat × Bool := if okL zs then (kr (nats zs), true) else (0, false)

theorem krT_le (n : Nat) : krT n ≤ 16384 := by
  unfold krT
  split
  · exact Nat.le_trans (Nat.pow_le_pow_right (by omega) (show 15 - n ≤ 14 by omega)) (by decide)
  · omega
theorem kr_snoc (l : List Nat) (n : Nat) : kr (l ++ [n]) = kr l + krT n := by simp [kr]
theorem kr_take (l : List Nat) (k : Nat) (h : k < l.length) : kr (l.take (k + 1)) = kr (l.take k) + krT l[k] := by
  rw [List.take_succ_eq_append_getElem h, kr_snoc]
theorem kr_le (l : List Nat) : kr l ≤ 16384 * l.length := by
  induction l with
  | nil => simp [kr]
  | cons a l ih => simp [kr] at ih ⊢; have := krT_le a; omega

def sparseB (l : List Nat) : Bool := l.all fun n => decide (n ≤ 1)
/-- The error of New. -/
def errOf (zs : List Int) (short : Bool) : Nat :=
  if okL zs = false then 1 else if 32768 < kr (nats zs) then 3 else if kr (nats zs) < 32768 ∧ ¬ (short = true ∧ sparseB (nats zs) = true) then 3 else 0
def ones (l : List Nat) : Nat := (l.filter (· = 1)).length

theorem kr_zero {l : List Nat} (hb : ∀ x ∈ l, x ≤ 15) : kr l = 0 → ∀ x ∈ l, x = 0 := by
  induction l with
  | nil => simp
  | cons a l ih =>
    intro h x hx
    have h1 : krT a + kr l = 0 := by simpa [kr] using h
    have ha : a = 0 := by
      by_cases h0 : 0 < a
      · have : 0 < krT a := by unfold krT; rw [if_pos h0]; exact Nat.pow_pos (by omega)
        omega
      · omega
    rcases List.mem_cons.1 hx with rfl | hx
    · exact ha
    · exact ih (fun y hy => hb y (List.mem_cons_of_mem _ hy)) (by omega) x hx
theorem kr_sparse {l : List Nat} (h : sparseB l = true) : kr l = 16384 * ones l := by
  induction l with
  | nil => rfl
  | cons a l ih =>
    have h1 : a ≤ 1 ∧ sparseB l = true := by simpa [sparseB] using h
    have h2 : kr (a :: l) = krT a + kr l := by simp [kr]
    rw [h2, ih h1.2]
    have h3 : a = 0 ∨ a = 1 := by omega
    rcases h3 with rfl | rfl
    · have : ones (0 :: l) = ones l := by simp [ones]
      rw [this]; simp [krT]
    · have : ones (1 :: l) = ones l + 1 := by simp [ones]
      rw [this]; simp [krT]; omega
theorem ones_cons (a : Nat) (l : List Nat) : ones (a :: l) = (if a = 1 then 1 else 0) + ones l := by
  by_cases h : a = 1 <;> simp [ones, h]; omega
theorem kr_ge_ones (l : List Nat) : 16384 * ones l ≤ kr l := by
  induction l with
  | nil => simp [ones, kr]
  | cons a l ih =>
    have h2 : kr (a :: l) = krT a + kr l := by simp [kr]
    rw [h2, ones_cons]
    by_cases h : a = 1
    · subst h; simp [krT]; omega
    · simp [h]; omega
theorem sparse_of_one {l : List Nat} (hb : ∀ x ∈ l, x ≤ 15) : kr l = 16384 → ones l = 1 → sparseB l = true := by
  induction l with
  | nil => intro h; simp [kr] at h
  | cons a l ih =>
    intro h h1
    have h2 : kr (a :: l) = krT a + kr l := by simp [kr]
    rw [h2] at h
    rw [ones_cons] at h1
    have hb' : ∀ x ∈ l, x ≤ 15 := fun y hy => hb y (List.mem_cons_of_mem _ hy)
    by_cases ha : a = 1
    · subst ha
      have h3 : krT 1 = 16384 := rfl
      have h4 : kr l = 0 := by omega
      have h5 := kr_zero hb' h4
      simp [sparseB]
      intro x hx; have := h5 x hx; omega
    · simp [ha] at h1
      have h6 := kr_ge_ones l
      rw [h1] at h6
      have h7 : krT a = 0 := by omega
      have ha0 : a = 0 := by
        by_cases h0 : 0 < a
        · have : 0 < krT a := by unfold krT; rw [if_pos h0]; exact Nat.pow_pos (by omega)
          omega
        · omega
      have h8 := ih hb' (by omega) h1
      simp [sparseB] at h8 ⊢
      exact ⟨by omega, h8⟩
/-- As the reference says it. -/
theorem err_ref {zs : List Int} {short : Bool} (hok : okL zs = true) :
    errOf zs short = if kr (nats zs) = 32768 then 0 else if 32768 < kr (nats zs) ∨ short = false then 3 else if kr (nats zs) = 0 ∨ kr (nats zs) = 16384 ∧ ones (nats zs) = 1 then 0 else 3 := by
  have hb : ∀ x ∈ nats zs, x ≤ 15 := by
    intro x hx
    obtain ⟨z, hz, rfl⟩ := List.mem_map.1 hx
    have h2 : zs.all (fun z => decide (0 ≤ z ∧ z ≤ 15)) = true := by unfold okL at hok; rw [Bool.and_eq_true] at hok; exact hok.2
    have := of_decide_eq_true (List.all_eq_true.1 h2 z hz)
    omega
  have hsp : kr (nats zs) < 32768 → (sparseB (nats zs) = true ↔ (kr (nats zs) = 0 ∨ kr (nats zs) = 16384 ∧ ones (nats zs) = 1)) := by
    intro hlt
    constructor
    · intro h
      have := kr_sparse h
      by_cases h0 : ones (nats zs) = 0
      · left; omega
      · right; constructor <;> omega
    · rintro (h | ⟨h, h1⟩)
      · have := kr_zero hb h
        simp [sparseB]
        intro x hx; have := this x hx; omega
      · exact sparse_of_one hb h h1
  unfold errOf
  rw [if_neg (by simp [hok])]
  generalize kr (nats zs) = K at *
  by_cases h1 : K = 32768
  · rw [if_neg (by omega), if_neg (by omega), if_pos h1]
  · rw [if_neg h1]
    by_cases h2 : 32768 < K
    · rw [if_pos h2, if_pos (.inl h2)]
    · rw [if_neg h2]
      have h3 := hsp (by omega)
      cases short
      · rw [if_pos ⟨by omega, by simp⟩, if_pos (.inr rfl)]
      · rw [if_neg (show ¬ (32768 < K ∨ true = false) by simp; omega)]
        by_cases h4 : sparseB (nats zs) = true
        · rw [if_neg (by simp [h4]), if_pos (h3.1 h4)]
        · rw [if_pos ⟨by omega, by simp [h4]⟩, if_neg (fun h => h4 (h3.2 h))]

/-! The codes -/
/-- The symbols of length k among the first n. -/
def symsTo (l : List Nat) (k : Nat) : Nat → List Nat
  | 0 => []
  | n + 1 => symsTo l k n ++ if l.getD n 99 = k then [n] else []
def syms (l : List Nat) (k : Nat) : List Nat := symsTo l k l.length
/-- The code after the last one of length k. -/
def nxt (l : List Nat) : Nat → Nat
  | 0 => 0
  | k + 1 => 2 * nxt l k + (syms l (k + 1)).length
def fst (l : List Nat) (k : Nat) : Nat := 2 * nxt l (k - 1)
def rank (l : List Nat) (i : Nat) : Nat := (symsTo l (l.getD i 99) i).length
/-- The word of symbol i. -/
def wordOf (l : List Nat) (i : Nat) : Nat × Nat := if l.getD i 99 = 0 then (0, 0) else (fst l (l.getD i 99) + rank l i, l.getD i 99)
/-- The words when j symbols of length k are numbered, and all of the lengths below. -/
def wordTo (l : List Nat) (k j i : Nat) : Nat × Nat := if l.getD i 99 < k ∨ l.getD i 99 = k ∧ rank l i < j then wordOf l i else (0, 0)

theorem symsTo_len (l : List Nat) (k : Nat) : ∀ n, (symsTo l k n).length ≤ n
  | 0 => Nat.le_refl _
  | n + 1 => by
    have := symsTo_len l k n
    unfold symsTo
    split <;> simp <;> omega
theorem syms_len (l : List Nat) (k : Nat) : (syms l k).length ≤ l.length := symsTo_len l k _
theorem nxt_le (l : List Nat) : ∀ k, nxt l k ≤ l.length * (2 ^ k - 1)
  | 0 => by simp [nxt]
  | k + 1 => by
    have h1 := nxt_le l k
    have h2 := syms_len l (k + 1)
    have h3 : 0 < 2 ^ k := Nat.pow_pos (by omega)
    unfold nxt
    have h4 : 2 ^ (k + 1) - 1 = 2 * (2 ^ k - 1) + 1 := by rw [Nat.pow_succ]; omega
    rw [h4, Nat.mul_add, Nat.mul_one, ← Nat.mul_assoc, Nat.mul_comm l.length 2, Nat.mul_assoc]
    omega
theorem nxt_lt (l : List Nat) (hl : l.length ≤ 288) (k : Nat) (hk : k ≤ 15) : nxt l k < 10000000 := by
  have h1 := nxt_le l k
  have h2 : 2 ^ k ≤ 2 ^ 15 := Nat.pow_le_pow_right (by omega) hk
  have h3 : l.length * (2 ^ k - 1) ≤ 288 * 32767 := Nat.mul_le_mul hl (by omega)
  omega
/-- The place of a symbol among those of its length. -/
theorem symsTo_get (l : List Nat) (k : Nat) : ∀ n j i, (symsTo l k n)[j]? = some i ↔ i < n ∧ l.getD i 99 = k ∧ (symsTo l k i).length = j
  | 0, j, i => by simp [symsTo]
  | n + 1, j, i => by
    have ih := symsTo_get l k n j i
    rw [show symsTo l k (n + 1) = symsTo l k n ++ if l.getD n 99 = k then [n] else [] from rfl]
    by_cases hk : l.getD n 99 = k
    · rw [if_pos hk]
      by_cases hj : j < (symsTo l k n).length
      · rw [List.getElem?_append_left hj, ih]
        constructor
        · rintro ⟨h1, h2, h3⟩; exact ⟨by omega, h2, h3⟩
        · rintro ⟨h1, h2, h3⟩
          refine ⟨?_, h2, h3⟩
          rcases Nat.lt_or_eq_of_le (Nat.le_of_lt_succ h1) with h4 | h4
          · exact h4
          · subst h4; omega
      · rw [List.getElem?_append_right (by omega)]
        constructor
        · intro h
          by_cases h0 : j - (symsTo l k n).length = 0
          · rw [h0] at h
            simp at h
            subst h
            exact ⟨by omega, hk, by omega⟩
          · obtain ⟨m, hm⟩ : ∃ m, j - (symsTo l k n).length = m + 1 := ⟨j - (symsTo l k n).length - 1, by omega⟩
            rw [hm] at h
            simp at h
        · rintro ⟨h1, h2, h3⟩
          rcases Nat.lt_or_eq_of_le (Nat.le_of_lt_succ h1) with h4 | h4
          · exfalso
            have := (symsTo_get l k n ((symsTo l k i).length) i).2 ⟨h4, h2, rfl⟩
            have h5 := (List.getElem?_eq_some_iff.1 this).1
            omega
          · subst h4
            rw [h3, Nat.sub_self]; rfl
    · rw [if_neg hk, List.append_nil, ih]
      constructor
      · rintro ⟨h1, h2, h3⟩; exact ⟨by omega, h2, h3⟩
      · rintro ⟨h1, h2, h3⟩
        refine ⟨?_, h2, h3⟩
        rcases Nat.lt_or_eq_of_le (Nat.le_of_lt_succ h1) with h4 | h4
        · exact h4
        · subst h4; exact absurd h2 hk
theorem syms_get {l : List Nat} {k j i : Nat} : (syms l k)[j]? = some i ↔ i < l.length ∧ l.getD i 99 = k ∧ rank l i = j := by
  unfold syms rank
  rw [symsTo_get]
  constructor
  · rintro ⟨h1, h2, h3⟩; exact ⟨h1, h2, by rw [h2]; exact h3⟩
  · rintro ⟨h1, h2, h3⟩; exact ⟨h1, h2, by rw [← h2]; exact h3⟩
theorem rank_lt {l : List Nat} {i : Nat} (h : i < l.length) : rank l i < (syms l (l.getD i 99)).length :=
  (List.getElem?_eq_some_iff.1 (syms_get.2 ⟨h, rfl, rfl⟩)).1
/-- One symbol more is numbered. -/
theorem wordTo_succ {l : List Nat} {k j i : Nat} (h : (syms l k)[j]? = some i) (hk : 0 < k) (m : Nat) (hm : m < l.length) :
    wordTo l k (j + 1) m = if m = i then (fst l k + j, k) else wordTo l k j m := by
  obtain ⟨h1, h2, h3⟩ := syms_get.1 h
  by_cases hmi : m = i
  · subst hmi
    rw [if_pos rfl]
    unfold wordTo
    rw [if_pos (.inr ⟨h2, by omega⟩)]
    unfold wordOf
    rw [h2, if_neg (by omega), h3]
  · rw [if_neg hmi]
    have hne : ¬ (l.getD m 99 = k ∧ rank l m = j) := fun ⟨h4, h5⟩ => by
      have := syms_get.2 ⟨hm, h4, h5⟩
      rw [h] at this
      injection this with this
      exact hmi this.symm
    unfold wordTo
    have : (l.getD m 99 < k ∨ l.getD m 99 = k ∧ rank l m < j + 1) ↔ (l.getD m 99 < k ∨ l.getD m 99 = k ∧ rank l m < j) := by
      constructor
      · rintro (h4 | ⟨h4, h5⟩)
        · exact .inl h4
        · refine .inr ⟨h4, ?_⟩
          have : rank l m ≠ j := fun h6 => hne ⟨h4, h6⟩
          omega
      · rintro (h4 | ⟨h4, h5⟩)
        · exact .inl h4
        · exact .inr ⟨h4, by omega⟩
    by_cases hc : l.getD m 99 < k ∨ l.getD m 99 = k ∧ rank l m < j
    · rw [if_pos (this.2 hc), if_pos hc]
    · rw [if_neg (fun h => hc (this.1 h)), if_neg hc]
/-- All of one length are numbered. -/
theorem wordTo_all {l : List Nat} {k m : Nat} (hm : m < l.length) : wordTo l k (syms l k).length m = wordTo l (k + 1) 0 m := by
  unfold wordTo
  have : (l.getD m 99 < k ∨ l.getD m 99 = k ∧ rank l m < (syms l k).length) ↔ (l.getD m 99 < k + 1 ∨ l.getD m 99 = k + 1 ∧ rank l m < 0) := by
    constructor
    · rintro (h | ⟨h, _⟩)
      · exact .inl (by omega)
      · exact .inl (by omega)
    · rintro (h | ⟨_, h⟩)
      · rcases Nat.lt_or_eq_of_le (Nat.le_of_lt_succ h) with h | h
        · exact .inl h
        · exact .inr ⟨h, by have := rank_lt hm; rw [h] at this; exact this⟩
      · omega
  by_cases hc : l.getD m 99 < k + 1 ∨ l.getD m 99 = k + 1 ∧ rank l m < 0
  · rw [if_pos (this.2 hc), if_pos hc]
  · rw [if_neg (fun h => hc (this.1 h)), if_neg hc]
theorem wordTo_start (l : List Nat) (m : Nat) : wordTo l 1 0 m = (0, 0) := by
  unfold wordTo
  split
  · next h =>
    unfold wordOf
    rw [if_pos (by omega)]
  · rfl
theorem wordTo_end {l : List Nat} (hb : ∀ x ∈ l, x ≤ 15) {m : Nat} (hm : m < l.length) : wordTo l 16 0 m = wordOf l m := by
  unfold wordTo
  have : l.getD m 99 ≤ 15 := by
    have : l.getD m 99 = l[m] := by simp [hm]
    rw [this]; exact hb _ (List.getElem_mem hm)
  rw [if_pos (.inl (by omega))]
/-! A code that is whole has room for each word. -/
/-- What the lengths up to k take, of the first n symbols. -/
def part (l : List Nat) (n : Nat) : Nat → Nat
  | 0 => 0
  | k + 1 => part l n k + (symsTo l (k + 1) n).length * 2 ^ (14 - k)
theorem part_zero (l : List Nat) : ∀ k, part l 0 k = 0
  | 0 => rfl
  | k + 1 => by show part l 0 k + ([] : List Nat).length * _ = 0; rw [part_zero l k]; simp
theorem part_succ (l : List Nat) (n : Nat) : ∀ k, k ≤ 15 → part l (n + 1) k = part l n k + if 1 ≤ l.getD n 99 ∧ l.getD n 99 ≤ k then 2 ^ (15 - l.getD n 99) else 0
  | 0, _ => by
    rw [if_neg (by omega)]; rfl
  | k + 1, hk => by
    have ih := part_succ l n k (by omega)
    show part l (n + 1) k + (symsTo l (k + 1) n ++ if l.getD n 99 = k + 1 then [n] else []).length * 2 ^ (14 - k) = part l n k + (symsTo l (k + 1) n).length * 2 ^ (14 - k) + _
    rw [ih]
    generalize l.getD n 99 = m at *
    by_cases h : m = k + 1
    · subst h
      rw [if_pos rfl, if_neg (by omega), if_pos ⟨by omega, by omega⟩, List.length_append, Nat.add_mul, show 15 - (k + 1) = 14 - k by omega]
      simp
      omega
    · rw [if_neg h, List.append_nil]
      by_cases h2 : 1 ≤ m ∧ m ≤ k
      · rw [if_pos h2, if_pos ⟨h2.1, by omega⟩]; omega
      · rw [if_neg h2, if_neg (by omega)]; omega
theorem part_le (l : List Nat) (k : Nat) (hk : k ≤ 15) : ∀ n, n ≤ l.length → part l n k ≤ kr (l.take n)
  | 0, _ => by rw [part_zero]; omega
  | n + 1, h => by
    have ih := part_le l k hk n (by omega)
    have hn : n < l.length := by omega
    rw [part_succ l n k hk, kr_take l n hn]
    have hd : l.getD n 99 = l[n] := by simp [hn]
    rw [hd]
    have : (if 1 ≤ l[n] ∧ l[n] ≤ k then 2 ^ (15 - l[n]) else 0) ≤ krT l[n] := by
      unfold krT
      by_cases h2 : 1 ≤ l[n] ∧ l[n] ≤ k
      · rw [if_pos h2, if_pos (by omega)]; omega
      · rw [if_neg h2]; omega
    omega
theorem nxt_part (l : List Nat) : ∀ k, k ≤ 15 → nxt l k * 2 ^ (15 - k) = part l l.length k
  | 0, _ => by simp [nxt, part]
  | k + 1, hk => by
    have ih := nxt_part l k (by omega)
    show (2 * nxt l k + (syms l (k + 1)).length) * 2 ^ (15 - (k + 1)) = part l l.length k + (symsTo l (k + 1) l.length).length * 2 ^ (14 - k)
    rw [← ih, Nat.add_mul, show 15 - (k + 1) = 14 - k by omega, show 15 - k = (14 - k) + 1 by omega, Nat.pow_succ]
    have : 2 * nxt l k * 2 ^ (14 - k) = nxt l k * (2 ^ (14 - k) * 2) := by rw [Nat.mul_comm 2, Nat.mul_assoc, Nat.mul_comm 2]
    rw [this]; rfl
theorem nxt_room {l : List Nat} (h : kr l ≤ 32768) (k : Nat) (hk : k ≤ 15) : nxt l k ≤ 2 ^ k := by
  have h1 := nxt_part l k hk
  have h2 := part_le l k hk l.length (Nat.le_refl _)
  rw [List.take_of_length_le (Nat.le_refl _)] at h2
  have h3 : nxt l k * 2 ^ (15 - k) ≤ 2 ^ k * 2 ^ (15 - k) := by
    rw [h1, ← Nat.pow_add, show k + (15 - k) = 15 by omega]; omega
  exact Nat.le_of_mul_le_mul_right h3 (Nat.pow_pos (by omega))
/-- Each word fits its length. -/
theorem word_lt {l : List Nat} (hb : ∀ x ∈ l, x ≤ 15) (h : kr l ≤ 32768) {i : Nat} (hi : i < l.length) : (wordOf l i).1 < 2 ^ (wordOf l i).2 := by
  unfold wordOf
  by_cases h0 : l.getD i 99 = 0
  · rw [if_pos h0]; decide
  · rw [if_neg h0]
    have hd : l.getD i 99 = l[i] := by simp [hi]
    have h15 := hb _ (List.getElem_mem hi)
    have hr := rank_lt hi
    obtain ⟨k, hk⟩ : ∃ k, l.getD i 99 = k + 1 := ⟨l.getD i 99 - 1, by omega⟩
    have hn := nxt_room h (k + 1) (by omega)
    rw [hk] at hr ⊢
    show 2 * nxt l (k + 1 - 1) + rank l i < 2 ^ (k + 1)
    have : nxt l (k + 1) = 2 * nxt l k + (syms l (k + 1)).length := rfl
    rw [show k + 1 - 1 = k by omega]
    omega
theorem word_size {l : List Nat} {i : Nat} (hi : i < l.length) : (wordOf l i).2 = l.getD i 99 := by
  unfold wordOf
  by_cases h0 : l.getD i 99 = 0
  · rw [if_pos h0, h0]
  · rw [if_neg h0]
theorem code_lt : True := trivial
end Huff
end Go.Proofs.Ytngnhkghpnamoaa
