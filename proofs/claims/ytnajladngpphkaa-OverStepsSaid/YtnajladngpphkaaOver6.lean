/- Layer 28: two steps are one. -/
import Derived.Test.YtnajladngpphkaaOver5
namespace Go.Proofs.Ytnajladngpphkaa
open Go.RowKit
set_option linter.unusedVariables false
set_option maxRecDepth 100000

theorem sc1_twice (s m f t X E c : Int) (hX : X = f * m + t) : sc1 m t E (sc1 s f E c) = sc1 (s * m) X E c := by
  unfold sc1
  subst hX
  rw [Int.sub_mul, Int.add_mul, Int.mul_assoc, Int.mul_assoc f E m, Int.mul_comm E m, ← Int.mul_assoc f m E]
  omega
theorem sc1_between {m t E B v : Int} (hm : 1 ≤ m) (ht0 : 0 ≤ t) (ht : t < m) (hE : 1 ≤ E) (hB : 0 ≤ B) (h0 : -B ≤ sc1 m t E v) (h1 : sc1 m t E v ≤ E + B) : -B ≤ v ∧ v ≤ E + B := by
  unfold sc1 at h0 h1
  have a0 : 0 ≤ t * E := Int.mul_nonneg ht0 (by omega)
  have a1 : t * E ≤ (m - 1) * E := Int.mul_le_mul_of_nonneg_right (by omega) (by omega)
  have a2 : (m - 1) * E = m * E - E := by rw [Int.sub_mul, Int.one_mul]
  constructor
  · have : -B * m ≤ v * m := by
      have : B * 1 ≤ B * m := Int.mul_le_mul_of_nonneg_left hm hB
      rw [Int.neg_mul]; omega
    exact Int.le_of_mul_le_mul_right this (by omega)
  · have : v * m ≤ (E + B) * m := by
      have : B * 1 ≤ B * m := Int.mul_le_mul_of_nonneg_left hm hB
      rw [Int.add_mul, Int.mul_comm E m]; omega
    exact Int.le_of_mul_le_mul_right this (by omega)
theorem insB_iff {lo hi : Int} {p : P2} : insB lo hi p = true ↔ (lo ≤ p.1 ∧ p.1 ≤ hi ∧ lo ≤ p.2 ∧ p.2 ≤ hi) := by unfold insB; exact decide_eq_true_iff
theorem two_steps {u q X Y X1 Y1 X2 Y2 : Nat} {E B : Int} (hE : 1 ≤ E) (hB : 0 ≤ B) (hq : 0 < q) (hX1 : X1 = X / q) (hY1 : Y1 = Y / q) (hX2 : X2 = X % q) (hY2 : Y2 = Y % q) {p : Nat} (hp : p = u * q) :
    ∀ l : List P2, ((l.map (scP (u : Int) X1 Y1 E)).filter (insB (-B) (E + B)) |>.map (scP (q : Int) X2 Y2 E)).filter (insB (-B) (E + B)) = (l.map (scP (p : Int) X Y E)).filter (insB (-B) (E + B))
  | [] => rfl
  | c :: l => by
    have ih := two_steps hE hB hq hX1 hY1 hX2 hY2 hp l
    have eX : (X : Int) = (X1 : Int) * (q : Int) + (X2 : Int) := by
      rw [hX1, hX2, ← Int.natCast_mul, ← Int.natCast_add, Nat.mul_comm, Nat.div_add_mod]
    have eY : (Y : Int) = (Y1 : Int) * (q : Int) + (Y2 : Int) := by
      rw [hY1, hY2, ← Int.natCast_mul, ← Int.natCast_add, Nat.mul_comm, Nat.div_add_mod]
    have ep : (p : Int) = (u : Int) * (q : Int) := by rw [hp, Int.natCast_mul]
    have x2 : X2 < q := by rw [hX2]; exact Nat.mod_lt _ hq
    have y2 : Y2 < q := by rw [hY2]; exact Nat.mod_lt _ hq
    have e : scP (q : Int) X2 Y2 E (scP (u : Int) X1 Y1 E c) = scP (p : Int) X Y E c := by
      unfold scP
      rw [ep]
      exact Prod.ext (sc1_twice _ _ _ _ _ _ _ eX) (sc1_twice _ _ _ _ _ _ _ eY)
    rw [List.map_cons, List.map_cons, List.filter_cons, List.filter_cons (x := scP (p : Int) X Y E c)]
    by_cases h : insB (-B) (E + B) (scP (u : Int) X1 Y1 E c) = true
    · rw [if_pos h, List.map_cons, List.filter_cons, e, ih]
    · rw [if_neg h, ih, if_neg]
      intro h2
      rw [← e, insB_iff] at h2
      obtain ⟨k1, k2, k3, k4⟩ := h2
      apply h
      rw [insB_iff]
      have a := sc1_between (m := (q : Int)) (t := (X2 : Int)) (by omega) (by omega) (by omega) hE hB k1 k2
      have b := sc1_between (m := (q : Int)) (t := (Y2 : Int)) (by omega) (by omega) (by omega) hE hB k3 k4
      exact ⟨a.1, a.2, b.1, b.2⟩
theorem right_ok {l : List P2} (h : rightP 1 [l] = 0) : l ≠ [] ∧ ∀ p ∈ l, okPt p := by
  unfold rightP at h
  rw [if_neg (by decide), if_neg (by simp)] at h
  split at h
  · cases h
  · rename_i h1
    split at h
    · cases h
    · rename_i h2
      refine ⟨fun e => h1 (by subst e; rfl), fun p hp => ?_⟩
      simp only [List.any_cons, List.any_nil, Bool.or_false, Bool.not_eq_true, List.any_eq_false] at h2
      have h3 := h2 p hp
      simp only [outP, okC, Bool.or_eq_false_iff, Bool.not_eq_false', decide_eq_true_eq] at h3
      exact h3
theorem ok_right {l : List P2} (h0 : l ≠ []) (h : ∀ p ∈ l, okPt p) : rightP 1 [l] = 0 := by
  unfold rightP
  rw [if_neg (by decide), if_neg (by simp), if_neg, if_neg]
  · intro h2
    simp only [List.any_cons, List.any_nil, Bool.or_false, List.any_eq_true] at h2
    obtain ⟨p, hp, ho⟩ := h2
    have := h p hp
    simp only [outP, okC, Bool.or_eq_true, Bool.not_eq_true', decide_eq_false_iff_not] at ho
    rcases ho with e | e
    · exact e this.1
    · exact e this.2
  · intro h2
    have hl : 0 < l.length := by cases l with | nil => exact absurd rfl h0 | cons a b => exact Nat.succ_pos _
    simp only [List.any_cons, List.any_nil, Bool.or_false, shortP, decide_eq_true_eq] at h2
    have e : leastN 1 = 1 := rfl
    rw [e] at h2
    omega
theorem in_ok {E B : Int} (hE : okE E B = true) {M : List P2} : ∀ p ∈ M.filter (insB (-B) (E + B)), okPt p := by
  intro p hp
  unfold okE at hE
  obtain ⟨h1, h2, h3, h4⟩ := of_decide_eq_true hE
  have h5 := insB_iff.1 (List.mem_filter.1 hp).2
  exact ⟨⟨by omega, by omega⟩, ⟨by omega, by omega⟩⟩
end Go.Proofs.Ytnajladngpphkaa
