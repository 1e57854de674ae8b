/- Layer 16: the decimal of a whole number: plain mathematics. -/
import Derived.Test.YtdbcklabinmgfaaDoorTxtMath2
import Derived.Test.YtdbcklabinmgfaaDoorIntMath
namespace Go.Proofs.YtdbcklabinmgfaaDoor
set_option linter.unusedVariables false

theorem decN_ne (m : Nat) : decN m ≠ [] := (decN_digits (m + 1) m (by omega)).2.1
theorem decN_isd (m : Nat) : ∀ x ∈ decN m, isD x = true := (decN_digits (m + 1) m (by omega)).1
theorem decN_head : ∀ (f m : Nat), m < f → 0 < m → (decN m).getD 0 0 ≠ 48
  | 0, m, h, _ => by omega
  | f + 1, m, h, h0 => by
    rw [decN_eq]
    by_cases h10 : m < 10
    · rw [if_pos h10]
      show 48 + m ≠ 48
      omega
    · rw [if_neg h10, head_app _ (decN_ne _)]
      exact decN_head f (m / 10) (by omega) (by omega)
theorem valN_snoc (l : List Nat) : ∀ a d : Nat, valN a (l ++ [d]) = 10 * valN a l + (d - 48) := by
  induction l with
  | nil => intro a d; rw [List.nil_append, valN_cons]; unfold valN; rfl
  | cons x l ih => intro a d; rw [List.cons_append, valN_cons, valN_cons, ih]
theorem valN_decN : ∀ (f m : Nat), m < f → valN 0 (decN m) = m
  | 0, m, h => by omega
  | f + 1, m, h => by
    rw [decN_eq]
    by_cases h10 : m < 10
    · rw [if_pos h10, valN_cons]
      unfold valN
      omega
    · rw [if_neg h10, valN_snoc, valN_decN f (m / 10) (by omega)]
      omega
theorem decN_len : ∀ (k m : Nat), m < 10 ^ (k + 1) → (decN m).length ≤ k + 1
  | 0, m, h => by
    rw [decN_eq, if_pos (by simpa using h)]
    exact Nat.le_refl _
  | k + 1, m, h => by
    rw [decN_eq]
    by_cases h10 : m < 10
    · rw [if_pos h10]; simp
    · rw [if_neg h10, List.length_append]
      have := decN_len k (m / 10) (by rw [Nat.pow_succ] at h; omega)
      simp only [List.length_cons, List.length_nil]
      omega
theorem strip_split : ∀ l : List Nat, (∃ k, l = stripR l ++ List.replicate k 48) ∧ Ends (stripR l)
  | [] => ⟨⟨0, rfl⟩, fun t e => by
      have := congrArg List.length e
      rw [List.length_append] at this
      have h0 : (stripR []).length = 0 := rfl
      rw [h0] at this
      simp at this⟩
  | x :: l => by
    obtain ⟨⟨k, hk⟩, he⟩ := strip_split l
    rw [stripR_cons]
    by_cases hs : stripR l = []
    · rw [if_pos hs]
      rw [hs, List.nil_append] at hk
      by_cases hx : x = 48
      · rw [if_pos hx]
        refine ⟨⟨k + 1, by rw [hx, List.nil_append, List.replicate_succ, ← hk]⟩, fun t e => ?_⟩
        have := congrArg List.length e
        rw [List.length_append] at this
        simp at this
      · rw [if_neg hx]
        refine ⟨⟨k, by rw [List.singleton_append, ← hk]⟩, fun t e => ?_⟩
        cases t with
        | nil => injection e with e1 e2; exact hx e1
        | cons a t =>
          have := congrArg List.length e
          rw [List.length_append] at this
          simp at this
    · rw [if_neg hs]
      refine ⟨⟨k, by rw [List.cons_append, ← hk]⟩, fun t e => ?_⟩
      cases t with
      | nil => injection e with e1 e2; exact hs e2
      | cons a t => injection e with e1 e2; exact he t e2
/-- The decimal of n times a power of ten. -/
def ofZ (m : Nat) : Nat := (decN m).length - (stripR (decN m)).length
def ofC (n e : Int) : DV := if n = 0 ∨ inR (e + (ofZ n.natAbs : Nat)) = false then zeroD else (decide (n < 0), stripR (decN n.natAbs), e + (ofZ n.natAbs : Nat))
structure OfP (m : Nat) (D : List Nat) (z : Nat) : Prop where
  split : decN m = D ++ List.replicate z 48
  en : Ends D
  ne : D ≠ []
  hd : D.getD 0 0 ≠ 48
  dig : ∀ d ∈ D, 48 ≤ d ∧ d ≤ 57
theorem of_parts {m : Nat} (h : 0 < m) : OfP m (stripR (decN m)) (ofZ m) := by
  obtain ⟨⟨k, hk⟩, he⟩ := strip_split (decN m)
  have hh := decN_head (m + 1) m (by omega) h
  have hz : ofZ m = k := by
    unfold ofZ
    have := congrArg List.length hk
    rw [List.length_append, List.length_replicate] at this
    omega
  have hne : stripR (decN m) ≠ [] := fun e => by
    rw [e, List.nil_append] at hk
    rw [hk] at hh
    cases k with
    | zero => exact decN_ne m hk
    | succ k => exact hh rfl
  have hhd : (stripR (decN m)).getD 0 0 = (decN m).getD 0 0 := by
    conv => rhs; rw [hk]
    rw [head_app _ hne]
  exact ⟨by rw [hz]; exact hk, he, hne, by rw [hhd]; exact hh, fun d hd => isD_range (decN_isd m d (by rw [hk]; exact List.mem_append_left _ hd))⟩
theorem ofZ_le (m : Nat) (h : m < 18446744073709551616) : ofZ m ≤ 20 ∧ (stripR (decN m)).length ≤ 20 := by
  have h1 := decN_len 19 m (Nat.lt_of_lt_of_le h (by decide))
  have h2 := stripR_le (decN m)
  unfold ofZ
  omega
theorem ofC_right (n e : Int) (h : n.natAbs < 18446744073709551616) : rightD (ofC n e) = true := by
  unfold ofC
  by_cases h0 : n = 0 ∨ inR (e + (ofZ n.natAbs : Nat)) = false
  · rw [if_pos h0]; rfl
  · rw [if_neg h0]
    have hn : n ≠ 0 := fun e => h0 (.inl e)
    have hi : inR (e + (ofZ n.natAbs : Nat)) = true := by cases hc : inR (e + (ofZ n.natAbs : Nat)) with | true => rfl | false => exact absurd (.inr hc) h0
    have hp := of_parts (m := n.natAbs) (by omega)
    have hz := ofZ_le n.natAbs h
    unfold rightD
    simp only
    rw [if_neg hp.ne, hi]
    have h1 : decide ((stripR (decN n.natAbs)).length ≤ 100) = true := decide_eq_true (by omega)
    have h2 : decide ((stripR (decN n.natAbs)).getD 0 0 ≠ 48) = true := decide_eq_true hp.hd
    have h3 : decide ((stripR (decN n.natAbs)).getD ((stripR (decN n.natAbs)).length - 1) 0 ≠ 48) = true := by
      refine decide_eq_true fun e => ?_
      have hpos := List.length_pos_iff.2 hp.ne
      refine hp.en ((stripR (decN n.natAbs)).take ((stripR (decN n.natAbs)).length - 1)) ?_
      have ht := List.take_append_drop ((stripR (decN n.natAbs)).length - 1) (stripR (decN n.natAbs))
      have hd : (stripR (decN n.natAbs)).drop ((stripR (decN n.natAbs)).length - 1) = [48] := by
        rw [List.drop_eq_getElem_cons (by omega), List.drop_eq_nil_of_le (by omega), ← getD_lt' 0 (by omega), e]
      rw [hd] at ht
      exact ht.symm
    have h4 : (stripR (decN n.natAbs)).all isD = true := List.all_eq_true.2 fun d hd => decide_eq_true (hp.dig d hd)
    rw [h1, h2, h3, h4]
    rfl
theorem ofC_int (n : Int) (h : n.natAbs ≤ 4611686018427387904) : intC (ofC n 0).1 (ofC n 0).2.1 (ofC n 0).2.2 = (n, true) := by
  have hr := ofC_right n 0 (by omega)
  by_cases hn : n = 0
  · subst hn; rfl
  · have hz := ofZ_le n.natAbs (by omega)
    have hi : inR (0 + (ofZ n.natAbs : Nat)) = true := decide_eq_true (by omega)
    have e : ofC n 0 = ((decide (n < 0), stripR (decN n.natAbs), (0 : Int) + ((ofZ n.natAbs : Nat) : Int)) : DV) := by unfold ofC; rw [if_neg (by rw [hi]; simp [hn])]
    rw [e] at hr ⊢
    simp only
    have hp := of_parts (m := n.natAbs) (by omega)
    have hl := decN_len 18 n.natAbs (Nat.lt_of_le_of_lt h (by decide))
    have hl2 : (stripR (decN n.natAbs)).length + ofZ n.natAbs ≤ 19 := by
      have := congrArg List.length hp.split
      rw [List.length_append, List.length_replicate] at this
      omega
    have hall : allN (stripR (decN n.natAbs)) (0 + (ofZ n.natAbs : Nat)) = decN n.natAbs := by
      unfold allN
      rw [show (0 + ((ofZ n.natAbs : Nat) : Int)).toNat = ofZ n.natAbs by omega]
      exact hp.split.symm
    have hN : intN (stripR (decN n.natAbs)) (0 + (ofZ n.natAbs : Nat)) = n.natAbs := by unfold intN; rw [hall]; exact valN_decN _ _ (Nat.lt_succ_self _)
    unfold intC intQ
    rw [hr, decide_eq_true (by omega), decide_eq_true (by omega), hN, if_pos (show (true && (true && true)) = true from rfl), if_pos h]
    unfold sgI
    by_cases h0 : n < 0
    · rw [decide_eq_true h0, if_pos rfl]; congr 1; omega
    · rw [decide_eq_false h0, if_neg (by decide)]; congr 1; omega
/-- The reference's Of. -/
def ofS (n : Int) : List Nat := if n = 0 then [] else decN n.natAbs
theorem ofR_same (n e : Int) (h : n.natAbs < 18446744073709551616) : (if e < -2000 ∨ 2000 < e then zeroD else (finD (decide (n < 0)) (stripL (stripR (ofS n))) (e + (tzs (ofS n) : Nat)) 0).1) = ofC n e := by
  by_cases hn : n = 0
  · have e1 : ofC n e = zeroD := by unfold ofC; rw [if_pos (.inl hn)]
    have e2 : ofS n = [] := if_pos hn
    have e3 : finD (decide (n < 0)) (stripL (stripR [])) (e + (tzs [] : Nat)) 0 = (zeroD, 0, 0) := by unfold finD; exact if_pos rfl
    rw [e1, e2, e3]
    by_cases h2 : e < -2000 ∨ 2000 < e
    · rw [if_pos h2]
    · rw [if_neg h2]
  · have e2 : ofS n = decN n.natAbs := if_neg hn
    rw [e2]
    unfold ofC
    have hp := of_parts (m := n.natAbs) (by omega)
    have hz := ofZ_le n.natAbs h
    have ht : tzs (decN n.natAbs) = ofZ n.natAbs := rfl
    have hid := stripL_id hp.ne hp.hd []
    rw [List.append_nil] at hid
    rw [hid, ht]
    by_cases h2 : e < -2000 ∨ 2000 < e
    · have hi : inR (e + (ofZ n.natAbs : Nat)) = false := decide_eq_false (by omega)
      rw [if_pos h2, if_pos (.inr hi)]
    · rw [if_neg h2]
      unfold finD
      rw [if_neg hp.ne, if_neg (by omega)]
      cases hi : inR (e + (ofZ n.natAbs : Nat)) with
      | true => rw [if_pos rfl, if_neg (by simp [hn])]
      | false => rw [if_neg (by decide), if_pos (.inr rfl)]
end Go.Proofs.YtdbcklabinmgfaaDoor
