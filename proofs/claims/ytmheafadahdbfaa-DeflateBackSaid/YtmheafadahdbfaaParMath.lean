/- Layer 5: what the bytes are parted into: plain mathematics. -/
import Derived.Test.YtmheafadahdbfaaFindMath
import Derived.Test.YtmheafadahdbfaaDefMath
namespace Go.Proofs.Ytmheafadahdbfaa

/-- A match, or a byte that stands for itself. -/
def okM (x : Nat × Nat) : Prop := (x.1 = 0 ∧ x.2 ≤ 255) ∨ (3 ≤ x.1 ∧ x.1 ≤ 258 ∧ 1 ≤ x.2 ∧ x.2 ≤ 256)
abbrev Mt := { x : Nat × Nat // okM x }
def Bytes255 (l : List Nat) : Prop := ∀ i, l.getD i 0 ≤ 255
theorem bytes255_of {l : List Nat} (h : ∀ x ∈ l, x ≤ 255) : Bytes255 l := by
  intro i
  by_cases hi : i < l.length
  · rw [List.getD_eq_getElem?_getD, List.getElem?_eq_getElem hi]; exact h _ (List.getElem_mem hi)
  · rw [List.getD_eq_getElem?_getD, List.getElem?_eq_none (by omega)]; exact Nat.zero_le _
def matchP (l : List Nat) (a : Nat) : Nat × Nat := if (findE l a).1 = 0 then (0, l.getD a 0) else findE l a
theorem matchP_ok {l : List Nat} (h : Bytes255 l) (a : Nat) : okM (matchP l a) := by
  unfold matchP
  by_cases h0 : (findE l a).1 = 0
  · rw [if_pos h0]; exact .inl ⟨rfl, h a⟩
  · rw [if_neg h0]
    rcases findE_cases l a with h1 | ⟨h1, h2, h3, h4, _⟩
    · rw [h1] at h0; exact absurd rfl h0
    · exact .inr ⟨h1, h2, h3, h4⟩
def matchAt {l : List Nat} (h : Bytes255 l) (a : Nat) : Mt := ⟨matchP l a, matchP_ok h a⟩
def stepM (x : Nat × Nat) : Nat := if x.1 = 0 then 1 else x.1
theorem stepM_pos (x : Nat × Nat) : 1 ≤ stepM x := by unfold stepM; split <;> omega
theorem stepM_in {l : List Nat} {a : Nat} (h : a < l.length) : a + stepM (matchP l a) ≤ l.length := by
  unfold matchP
  by_cases h0 : (findE l a).1 = 0
  · rw [if_pos h0]; show a + 1 ≤ _; omega
  · rw [if_neg h0]
    unfold stepM; rw [if_neg h0]
    rcases findE_cases l a with h1 | ⟨_, _, _, _, _, h1, _⟩
    · rw [h1] at h0; exact absurd rfl h0
    · rw [h1]; exact mlen_in (by omega)
def parseFrom {l : List Nat} (h : Bytes255 l) : Nat → Nat → List Mt
  | 0, _ => []
  | f + 1, a => if a < l.length then matchAt h a :: parseFrom h f (a + stepM (matchP l a)) else []
def parseE {l : List Nat} (h : Bytes255 l) : List Mt := parseFrom h l.length 0
theorem parseFrom_yes {l : List Nat} {h : Bytes255 l} {f a : Nat} (ha : a < l.length) : parseFrom h (f + 1) a = matchAt h a :: parseFrom h f (a + stepM (matchP l a)) := by
  show (if _ then _ else _) = _; rw [if_pos ha]
theorem parseFrom_no {l : List Nat} {h : Bytes255 l} {f a : Nat} (ha : ¬ a < l.length) : parseFrom h f a = [] := by
  cases f with
  | zero => rfl
  | succ f => show (if _ then _ else _) = _; rw [if_neg ha]
theorem parseFrom_length {l : List Nat} {h : Bytes255 l} : ∀ f a, (parseFrom h f a).length ≤ f
  | 0, _ => Nat.le_refl _
  | f + 1, a => by
    by_cases ha : a < l.length
    · rw [parseFrom_yes ha]; have := parseFrom_length (h := h) f (a + stepM (matchP l a)); simp; omega
    · rw [parseFrom_no ha]; simp
/-- The parting, under way: pre is done, the next begins at a. -/
def Prt {l : List Nat} (h : Bytes255 l) (pre : List Mt) (a : Nat) : Prop := ∃ f, l.length ≤ a + f ∧ a ≤ l.length ∧ pre.length ≤ a ∧ pre ++ parseFrom h f a = parseE h
theorem Prt.start {l : List Nat} (h : Bytes255 l) : Prt h [] 0 := ⟨l.length, by omega, Nat.zero_le _, Nat.le_refl _, rfl⟩
theorem Prt.next {l : List Nat} {h : Bytes255 l} {pre : List Mt} {a : Nat} (hp : Prt h pre a) (ha : a < l.length) : Prt h (pre ++ [matchAt h a]) (a + stepM (matchP l a)) := by
  obtain ⟨f, h1, h2, h3, h4⟩ := hp
  have hs := stepM_pos (matchP l a)
  have hi := stepM_in ha
  obtain _ | f := f
  · omega
  · rw [parseFrom_yes ha] at h4
    exact ⟨f, by omega, hi, by simp; omega, by rw [← h4]; simp⟩
theorem Prt.done {l : List Nat} {h : Bytes255 l} {pre : List Mt} {a : Nat} (hp : Prt h pre a) (ha : ¬ a < l.length) : pre = parseE h := by
  obtain ⟨f, h1, h2, h3, h4⟩ := hp
  rw [parseFrom_no ha, List.append_nil] at h4
  exact h4
theorem Prt.prefix {l : List Nat} {h : Bytes255 l} {pre : List Mt} {a : Nat} (hp : Prt h pre a) : ∃ r, parseE h = pre ++ r := by
  obtain ⟨f, h1, h2, h3, h4⟩ := hp
  exact ⟨_, h4.symm⟩
end Go.Proofs.Ytmheafadahdbfaa
