/- Layer 12: what Get reads, plainly. -/
import Derived.Test.YtaafcmgkmdbefaaDirPut2
namespace Go.Proofs.Ytaafcmgkmdbefaa
open Go.RowKit Var
set_option linter.unusedVariables false

section
variable (l : List Nat) (p0 n : Nat)
/-- The place ahead of the t-th number. -/
def pAt : Nat → Nat
  | 0 => p0
  | t + 1 => (vres l (pAt t : Nat)).2.1
def vAt (t : Nat) : Nat := (vres l (pAt l p0 t : Nat)).1
def eAt (t : Nat) : Nat := (vres l (pAt l p0 t : Nat)).2.2
/-- What is wrong with the t-th number. -/
def badE (t : Nat) : Nat := if eAt l p0 t ≠ 0 then eAt l p0 t else if t = 3 * n ∧ vAt l p0 t = 0 then 3 else 0
/-- The first thing that is wrong with so many numbers from the t-th on. -/
def fstE : Nat → Nat → Nat
  | 0, _ => 0
  | c + 1, t => if badE l p0 n t ≠ 0 then badE l p0 n t else fstE c (t + 1)
/-- A reader that stops at its first error: the number, the error, the place. -/
def nx (s : Nat × Nat) : Nat × (Nat × Nat) := if s.1 ≠ 0 then (0, s) else ((vres l (s.2 : Nat)).1, ((vres l (s.2 : Nat)).2.2, (vres l (s.2 : Nat)).2.1))
/-- The reader ahead of the t-th number, where E is wrong in all. -/
def invE (E t : Nat) (s : Nat × Nat) : Prop := (s.1 = 0 ∧ s.2 = pAt l p0 t ∧ fstE l p0 n (4 * n - t) t = E) ∨ (s.1 = E ∧ E ≠ 0)
variable {l p0 n}
theorem nx_inv {E t : Nat} {s : Nat × Nat} (h : invE l p0 n E t s) (ht : t < 4 * n) : ((nx l s).2.1 = 0 → (nx l s).1 = vAt l p0 t) ∧ (t ≠ 3 * n → invE l p0 n E (t + 1) (nx l s).2) ∧
    (t = 3 * n → invE l p0 n E (t + 1) (if (nx l s).2.1 = 0 ∧ (nx l s).1 = 0 then (3, (nx l s).2.2) else (nx l s).2)) := by
  obtain ⟨e, p⟩ := s
  rcases h with ⟨h1, h2, h3⟩ | ⟨h1, h2⟩
  · simp only at h1 h2
    subst h1 h2
    have hn : nx l (0, pAt l p0 t) = (vAt l p0 t, (eAt l p0 t, pAt l p0 (t + 1))) := by unfold nx; rw [if_neg (by simp)]; rfl
    rw [hn]
    obtain ⟨c, hc⟩ : ∃ c, 4 * n - t = c + 1 := ⟨4 * n - t - 1, by omega⟩
    have hc2 : 4 * n - (t + 1) = c := by omega
    rw [hc] at h3
    have h4 : (if badE l p0 n t ≠ 0 then badE l p0 n t else fstE l p0 n c (t + 1)) = E := h3
    by_cases he : eAt l p0 t = 0
    · refine ⟨fun _ => rfl, fun hne => .inl ⟨he, rfl, ?_⟩, fun heq => ?_⟩
      · have hb : badE l p0 n t = 0 := by unfold badE; rw [if_neg (by simp [he]), if_neg (fun h => hne h.1)]
        rw [if_neg (by simp [hb])] at h4
        rw [hc2]; exact h4
      · by_cases hv : vAt l p0 t = 0
        · have hb : badE l p0 n t = 3 := by unfold badE; rw [if_neg (by simp [he]), if_pos ⟨heq, hv⟩]
          rw [if_pos (by omega), hb] at h4
          rw [if_pos ⟨he, hv⟩]
          exact .inr ⟨h4, by omega⟩
        · have hb : badE l p0 n t = 0 := by unfold badE; rw [if_neg (by simp [he]), if_neg (fun h => hv h.2)]
          rw [if_neg (by simp [hb])] at h4
          rw [if_neg (fun h => hv h.2)]
          exact .inl ⟨he, rfl, by rw [hc2]; exact h4⟩
    · have hb : badE l p0 n t = eAt l p0 t := by unfold badE; rw [if_pos he]
      rw [hb, if_pos he] at h4
      have hE : invE l p0 n E (t + 1) (eAt l p0 t, pAt l p0 (t + 1)) := .inr ⟨h4, by omega⟩
      exact ⟨fun h => absurd h he, fun _ => hE, fun _ => by rw [if_neg (fun h => he h.1)]; exact hE⟩
  · simp only at h1
    subst h1
    have hn : nx l (e, p) = (0, (e, p)) := by unfold nx; rw [if_pos h2]
    rw [hn]
    exact ⟨fun h => absurd h h2, fun _ => .inr ⟨rfl, h2⟩, fun _ => by rw [if_neg (fun h => h2 h.1)]; exact .inr ⟨rfl, h2⟩⟩
theorem inv_start : invE l p0 n (fstE l p0 n (4 * n) 0) 0 (0, p0) := .inl ⟨rfl, rfl, by simp⟩
theorem inv_end {E : Nat} {s : Nat × Nat} (h : invE l p0 n E (4 * n) s) : s.1 = E ∧ (E = 0 → s.2 = pAt l p0 (4 * n)) := by
  rcases h with ⟨h1, h2, h3⟩ | ⟨h1, h2⟩
  · rw [Nat.sub_self] at h3
    have h4 : 0 = E := h3
    exact ⟨by omega, fun _ => h2⟩
  · exact ⟨h1, fun h => absurd h h2⟩
theorem inv_ok {E t : Nat} {s : Nat × Nat} (h : invE l p0 n E t s) (hE : E = 0) : s.1 = 0 := by
  rcases h with ⟨h1, _⟩ | ⟨h1, h2⟩
  · exact h1
  · exact absurd hE h2
end
section
variable (l : List Nat) (p0 n : Nat)
def idAt : Nat → Nat
  | 0 => vAt l p0 0
  | j + 1 => (idAt j + vAt l p0 (j + 1)) % 18446744073709551616
def offAt : Nat → Nat
  | 0 => vAt l p0 (3 * n) - 1
  | j + 1 => if vAt l p0 (3 * n + (j + 1)) = 0 then (offAt j + vAt l p0 (2 * n + j)) % 18446744073709551616 else vAt l p0 (3 * n + (j + 1)) - 1
def enAt (j : Nat) : En := ⟨idAt l p0 j, offAt l p0 n j, vAt l p0 (2 * n + j), vAt l p0 (n + j)⟩
def outE : List En := (List.range n).map (enAt l p0 n)
end
/-- What Get answers. -/
def getE (l : List Nat) : List En × Nat :=
  if (vres l 0).2.2 ≠ 0 then ([], (vres l 0).2.2) else if 65536 < (vres l 0).1 then ([], 9)
  else if fstE l (vres l 0).2.1 (vres l 0).1 (4 * (vres l 0).1) 0 ≠ 0 then ([], fstE l (vres l 0).2.1 (vres l 0).1 (4 * (vres l 0).1) 0)
  else if pAt l (vres l 0).2.1 (4 * (vres l 0).1) < l.length ∨ rightE (outE l (vres l 0).2.1 (vres l 0).1) = false then ([], 3)
  else (outE l (vres l 0).2.1 (vres l 0).1, 0)
theorem vres_lt (l : List Nat) (p : Int) (h : ∀ x ∈ l, x < 256) : (vres l p).1 < 18446744073709551616 := by
  unfold vres
  split
  · show 0 < _; omega
  · exact vd_bound _ 0 0 (by omega) (by simp)
theorem vres_place (l : List Nat) (p : Int) : (vres l p).2.1 ≤ l.length := by
  unfold vres
  split
  · show 0 ≤ _; omega
  · next h =>
    simp only
    split
    · next h2 =>
      have := (vd_size (l.drop p.toNat) 0 0 h2).2
      rw [List.length_drop] at this
      omega
    · omega
end Go.Proofs.Ytaafcmgkmdbefaa
