/- DefMath ParMath -/
import Derived.Test.YtngnhkghpnamoaaGc04
/- Layers 4 and 5: the tables of lengths and distances: plain mathematics. -/
namespace Go.Proofs.Ytngnhkghpnamoaa

def lenX (j : Nat) : Nat := if j < 8 then 0 else if j < 28 then (j - 4) / 4 else 0
def lenB (j : Nat) : Nat := if j < 8 then 3 + j else if j < 28 then 3 + (4 + j % 4) * 2 ^ ((j - 4) / 4) else 258
def farX (s : Nat) : Nat := if s < 4 then 0 else (s - 2) / 2
def farB (s : Nat) : Nat := if s < 4 then 1 + s else 1 + (2 + s % 2) * 2 ^ ((s - 2) / 2)
/-- The last of the first K whose base is at most n. -/
def lastLe (b : Nat → Nat) (n : Nat) : Nat → Option Nat
  | 0 => none
  | K + 1 => if b K ≤ n then some K else lastLe b n K
theorem lastLe_yes {b : Nat → Nat} {n K : Nat} (h : b K ≤ n) : lastLe b n (K + 1) = some K := by show (if _ then _ else _) = _; rw [if_pos h]
theorem lastLe_no {b : Nat → Nat} {n K : Nat} (h : ¬ b K ≤ n) : lastLe b n (K + 1) = lastLe b n K := by
  conv => lhs; unfold lastLe
  rw [if_neg h]
theorem lastLe_lt {b : Nat → Nat} {n : Nat} : ∀ {K j : Nat}, lastLe b n K = some j → j < K ∧ b j ≤ n
  | 0, j, h => by cases h
  | K + 1, j, h => by
    by_cases hb : b K ≤ n
    · rw [lastLe_yes hb] at h
      injection h with h
      subst h
      exact ⟨by omega, hb⟩
    · rw [lastLe_no hb] at h
      have := lastLe_lt h
      exact ⟨by omega, this.2⟩
/-- The symbol, what exceeds its base, its extra bits. -/
def symR (b x : Nat → Nat) (first n : Nat) : Option Nat → Nat × Nat × Nat
  | some j => (first + j, n - b j, x j)
  | none => (0, 0, 0)
theorem lenB_lt (j : Nat) : lenB j ≤ 258 := by
  unfold lenB
  split
  · omega
  · split
    · next h1 h2 =>
      have h3 : (j - 4) / 4 ≤ 5 := by omega
      have h4 : 2 ^ ((j - 4) / 4) ≤ 2 ^ 5 := Nat.pow_le_pow_right (by omega) h3
      have h5 : (4 + j % 4) * 2 ^ ((j - 4) / 4) ≤ 7 * 2 ^ 5 := Nat.mul_le_mul (by omega) h4
      omega
    · omega
theorem farB_lt {s : Nat} (h : s < 30) : farB s ≤ 32768 := by
  unfold farB
  split
  · omega
  · have h3 : (s - 2) / 2 ≤ 13 := by omega
    have h4 : 2 ^ ((s - 2) / 2) ≤ 2 ^ 13 := Nat.pow_le_pow_right (by omega) h3
    have h5 : (2 + s % 2) * 2 ^ ((s - 2) / 2) ≤ 3 * 2 ^ 13 := Nat.mul_le_mul (by omega) h4
    omega
theorem lenB_step : ∀ j, j < 27 → lenB (j + 1) = lenB j + 2 ^ lenX j := by decide
theorem lenX_step : ∀ j, j < 28 → lenX j = (if 8 ≤ j ∧ (j - 8) % 4 = 0 then 1 else 0) + (if j = 0 then 0 else lenX (j - 1)) := by decide
theorem farB_step : ∀ j, j < 29 → farB (j + 1) = farB j + 2 ^ farX j := by decide
theorem farX_step : ∀ j, j < 30 → farX j = (if 4 ≤ j ∧ j % 2 = 0 then 1 else 0) + (if j = 0 then 0 else farX (j - 1)) := by decide
theorem lenX_le (j : Nat) : lenX j ≤ 5 := by unfold lenX; split <;> (try split) <;> omega
theorem farX_le {s : Nat} (h : s < 30) : farX s ≤ 13 := by unfold farX; split <;> omega
end Go.Proofs.Ytngnhkghpnamoaa

namespace Go.Proofs.Ytngnhkghpnamoaa

/-- A match, or a byte that stands for itself. -/
def okM (x : Nat × Nat) : Prop := (x.1 = 0 ∧ x.2 ≤ 255) ∨ (3 ≤ x.1 ∧ x.1 ≤ 258 ∧ 1 ≤ x.2 ∧ x.2 ≤ 256)
abbrev Mt := { x : Nat × Nat // okM x }
def Bytes255 (l : List Nat) : Prop := ∀ i, l.getD i 0 ≤ 255
theorem bytes255_of {l : List Nat} (h : ∀ x ∈ l, x ≤ 255) : Bytes255 l := by
  intro i
  by_cases hi : i < l.length
  · rw [List.getD_eq_getElem?_getD, List.getElem?_eq_getElem hi]; exact h _ (List.getElem_mem hi)
  · rw [List.getD_eq_getElem?_getD, List.getElem?_eq_none (by omega)]; exact Nat.zero_le _
def matchP (l : List Nat) (a : Nat) : Nat × Nat := if (findE l a).1 = 0 then (0, l.getD a 0) else findE l a
theorem matchP_ok {l : List Nat} (h : Bytes255 l) (a : Nat) : okM (matchP l a) := by
  unfold matchP
  by_cases h0 : (findE l a).1 = 0
  · rw [if_pos h0]; exact .inl ⟨rfl, h a⟩
  · rw [if_neg h0]
    rcases findE_cases l a with h1 | ⟨h1, h2, h3, h4, _⟩
    · rw [h1] at h0; exact absurd rfl h0
    · exact .inr ⟨h1, h2, h3, h4⟩
def matchAt {l : List Nat} (h : Bytes255 l) (a : Nat) : Mt := ⟨matchP l a, matchP_ok h a⟩
def stepM (x : Nat × Nat) : Nat := if x.1 = 0 then 1 else x.1
theorem stepM_pos (x : Nat × Nat) : 1 ≤ stepM x := by unfold stepM; split <;> omega
theorem stepM_in {l : List Nat} {a : Nat} (h : a < l.length) : a + stepM (matchP l a) ≤ l.length := by
  unfold matchP
  by_cases h0 : (findE l a).1 = 0
  · rw [if_pos h0]; show a + 1 ≤ _; omega
  · rw [if_neg h0]
    unfold stepM; rw [if_neg h0]
    rcases findE_cases l a with h1 | ⟨_, _, _, _, _, h1, _⟩
    · rw [h1] at h0; exact absurd rfl h0
    · rw [h1]; exact mlen_in (by omega)
def parseFrom {l : List Nat} (h : Bytes255 l) : Nat → Nat → List Mt
  | 0, _ => []
  | f + 1, a => if a < l.length then matchAt h a :: parseFrom h f (a + stepM (matchP l a)) else []
def parseE {l : List Nat} (h : Bytes255 l) : List Mt := parseFrom h l.length 0
theorem parseFrom_yes {l : List Nat} {h : Bytes255 l} {f a : Nat} (ha : a < l.length) : parseFrom h (f + 1) a = matchAt h a :: parseFrom h f (a + stepM (matchP l a)) := by
  show (if _ then _ else _) = _; rw [if_pos ha]
theorem parseFrom_no {l : List Nat} {h : Bytes255 l} {f a : Nat} (ha : ¬ a < l.length) : parseFrom h f a = [] := by
  cases f with
  | zero => rfl
  | succ f => show (if _ then _ else _) = _; rw [if_neg ha]
theorem parseFrom_length {l : List Nat} {h : Bytes255 l} : ∀ f a, (parseFrom h f a).length ≤ f
  | 0, _ => Nat.le_refl _
  | f + 1, a => by
    by_cases ha : a < l.length
    · rw [parseFrom_yes ha]; have := parseFrom_length (h := h) f (a + stepM (matchP l a)); simp; omega
    · rw [parseFrom_no ha]; simp
/-- The parting, under way: pre is done, the next begins at a. -/
def Prt {l : List Nat} (h : Bytes255 l) (pre : List Mt) (a : Nat) : Prop := ∃ f, l.length ≤ a + f ∧ a ≤ l.length ∧ pre.length ≤ a ∧ pre ++ parseFrom h f a = parseE h
theorem Prt.start {l : List Nat} (h : Bytes255 l) : Prt h [] 0 := ⟨l.length, by omega, Nat.zero_le _, Nat.le_refl _, rfl⟩
theorem Prt.next {l : List Nat} {h : Bytes255 l} {pre : List Mt} {a : Nat} (hp : Prt h pre a) (ha : a < l.length) : Prt h (pre ++ [matchAt h a]) (a + stepM (matchP l a)) := by
  obtain ⟨f, h1, h2, h3, h4⟩ := hp
  have hs := stepM_pos (matchP l a)
  have hi := stepM_in ha
  obtain _ | f := f
  · omega
  · rw [parseFrom_yes ha] at h4
    exact ⟨f, by omega, hi, by simp; omega, by rw [← h4]; simp⟩
theorem Prt.done {l : List Nat} {h : Bytes255 l} {pre : List Mt} {a : Nat} (hp : Prt h pre a) (ha : ¬ a < l.length) : pre = parseE h := by
  obtain ⟨f, h1, h2, h3, h4⟩ := hp
  rw [parseFrom_no ha, List.append_nil] at h4
  exact h4
theorem Prt.prefix {l : List Nat} {h : Bytes255 l} {pre : List Mt} {a : Nat} (hp : Prt h pre a) : ∃ r, parseE h = pre ++ r := by
  obtain ⟨f, h1, h2, h3, h4⟩ := hp
  exact ⟨_, h4.symm⟩
end Go.Proofs.Ytngnhkghpnamoaa
