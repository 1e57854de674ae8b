/- Layer 16: a number's text, parsed: plain mathematics. -/
import Derived.Test.YtdbcklabinmgfaaDoorOrdMath
namespace Go.Proofs.YtdbcklabinmgfaaDoor
set_option linter.unusedVariables false

theorem getD_app (A Z : List Nat) : (A ++ Z).getD A.length 0 = Z.getD 0 0 := by
  rw [List.getD_eq_getElem?_getD, List.getD_eq_getElem?_getD, List.getElem?_append_right (Nat.le_refl _), Nat.sub_self]
theorem getD_app1 (A Z : List Nat) (i : Nat) : (A ++ Z).getD (A.length + i) 0 = Z.getD i 0 := by
  rw [List.getD_eq_getElem?_getD, List.getD_eq_getElem?_getD, List.getElem?_append_right (by omega), Nat.add_sub_cancel_left]
theorem while_app (Dg Z : List Nat) (hD : ∀ x ∈ Dg, isD x = true) (hZ : isD (Z.getD 0 0) = false) : (Dg ++ Z).takeWhile isD = Dg := by
  induction Dg with
  | nil =>
    cases Z with
    | nil => rfl
    | cons z Z => rw [List.nil_append, List.takeWhile_cons]; simp only [List.getD_cons_zero] at hZ; rw [hZ]; rfl
  | cons x Dg ih =>
    rw [List.cons_append, List.takeWhile_cons, hD x (List.mem_cons_self ..), if_pos rfl, ih (fun y hy => hD y (List.mem_cons_of_mem _ hy))]
theorem dEnd_app (A Dg Z : List Nat) (hD : ∀ x ∈ Dg, isD x = true) (hZ : isD (Z.getD 0 0) = false) : dEnd (A ++ (Dg ++ Z)) A.length = A.length + Dg.length := by
  unfold dEnd
  rw [List.drop_left, while_app Dg Z hD hZ]
theorem seg_app (A B C : List Nat) : seg (A ++ (B ++ C)) A.length (A.length + B.length) = B := by
  unfold seg
  rw [List.drop_left, Nat.add_sub_cancel_left, List.take_left]
theorem head_app {A : List Nat} (Z : List Nat) (h : A ≠ []) : (A ++ Z).getD 0 0 = A.getD 0 0 := by
  cases A with
  | nil => exact absurd rfl h
  | cons a A => rfl
theorem head_mem {A : List Nat} (h : A ≠ []) : A.getD 0 0 ∈ A := by
  cases A with
  | nil => exact absurd rfl h
  | cons a A => exact List.mem_cons_self ..
/-- The parts of a number's text. -/
structure Shp (ng : Bool) (S W F Fd E Xd : List Nat) (nx : Bool) (R : List Nat) : Prop where
  s : (S = [] ∧ ng = false) ∨ (S = [45] ∧ ng = true)
  w0 : W ≠ []
  wd : ∀ x ∈ W, isD x = true
  w : W = [48] ∨ W.getD 0 0 ≠ 48
  f : (F = [] ∧ Fd = []) ∨ (F = 46 :: Fd ∧ Fd ≠ [])
  fd : ∀ x ∈ Fd, isD x = true
  e : (E = [] ∧ Xd = []) ∨ (E = 101 :: Xd ∧ Xd ≠ [] ∧ nx = false) ∨ (E = 101 :: 45 :: Xd ∧ Xd ≠ [] ∧ nx = true)
  xd : ∀ x ∈ Xd, isD x = true
  r : R.getD 0 0 = 32
theorem isD_range {c : Nat} (h : isD c = true) : 48 ≤ c ∧ c ≤ 57 := by unfold isD at h; exact of_decide_eq_true h
theorem notD_of {c : Nat} (h : c = 32 ∨ c = 46 ∨ c = 101 ∨ c = 45) : isD c = false := by rcases h with rfl | rfl | rfl | rfl <;> rfl
section
variable {ng nx : Bool} {S W F Fd E Xd R : List Nat}
theorem Shp.headE (h : Shp ng S W F Fd E Xd nx R) : (E ++ R).getD 0 0 = 32 ∨ (E ++ R).getD 0 0 = 101 := by
  rcases h.e with ⟨e, _⟩ | ⟨e, _, _⟩ | ⟨e, _, _⟩
  · rw [e, List.nil_append]; exact .inl h.r
  · rw [e]; exact .inr rfl
  · rw [e]; exact .inr rfl
theorem Shp.headF (h : Shp ng S W F Fd E Xd nx R) : (F ++ (E ++ R)).getD 0 0 = 32 ∨ (F ++ (E ++ R)).getD 0 0 = 101 ∨ (F ++ (E ++ R)).getD 0 0 = 46 := by
  rcases h.f with ⟨e, _⟩ | ⟨e, _⟩
  · rw [e, List.nil_append]
    rcases h.headE with h | h
    · exact .inl h
    · exact .inr (.inl h)
  · rw [e]; exact .inr (.inr rfl)
theorem Shp.p0 (h : Shp ng S W F Fd E Xd nx R) : place0 (S ++ (W ++ (F ++ (E ++ R)))) = S.length ∧ decide ((S ++ (W ++ (F ++ (E ++ R)))).getD 0 0 = 45) = ng := by
  unfold place0
  have hw := isD_range (h.wd _ (head_mem h.w0))
  rcases h.s with ⟨e, e2⟩ | ⟨e, e2⟩
  · rw [e, e2, List.nil_append, head_app _ h.w0]
    exact ⟨if_neg (by omega), decide_eq_false (by omega)⟩
  · rw [e, e2]
    exact ⟨rfl, rfl⟩
theorem Shp.d0 (h : Shp ng S W F Fd E Xd nx R) : dEnd (S ++ (W ++ (F ++ (E ++ R)))) S.length = S.length + W.length :=
  dEnd_app S W _ h.wd (notD_of (by rcases h.headF with e | e | e <;> rw [e] <;> simp))
theorem Shp.p1 (h : Shp ng S W F Fd E Xd nx R) : place1 (S ++ (W ++ (F ++ (E ++ R)))) = S.length + W.length := by
  unfold place1
  rw [h.p0.1, getD_app, head_app _ h.w0, h.d0]
  rcases h.w with e | e
  · rw [e]; rfl
  · rw [if_neg e]
theorem Shp.p2 (h : Shp ng S W F Fd E Xd nx R) : place2 (S ++ (W ++ (F ++ (E ++ R)))) = S.length + W.length + F.length := by
  unfold place2
  rw [h.p1]
  have e1 : S ++ (W ++ (F ++ (E ++ R))) = (S ++ W) ++ (F ++ (E ++ R)) := by rw [List.append_assoc]
  have hl : S.length + W.length = (S ++ W).length := by rw [List.length_append]
  rw [e1, hl, getD_app]
  rcases h.f with ⟨e, _⟩ | ⟨e, e2⟩
  · rw [e, List.nil_append]
    have := h.headE
    rw [if_neg (by rintro ⟨h1, _⟩; omega)]; rfl
  · have e3 : (S ++ W) ++ (F ++ (E ++ R)) = ((S ++ W) ++ [46]) ++ (Fd ++ (E ++ R)) := by rw [e]; simp
    have hl2 : (S ++ W).length + 1 = ((S ++ W) ++ [46]).length := by simp; omega
    have hd := dEnd_app ((S ++ W) ++ [46]) Fd (E ++ R) h.fd (notD_of (by rcases h.headE with e | e <;> rw [e] <;> simp))
    have hp := List.length_pos_iff.2 e2
    rw [e3, hl2, hd, if_pos ⟨by rw [e]; rfl, by omega⟩, ← hl2, e, List.length_cons]
    omega
theorem Shp.whole (h : Shp ng S W F Fd E Xd nx R) : wholeD (S ++ (W ++ (F ++ (E ++ R)))) = W := by
  unfold wholeD
  rw [h.p0.1, h.p1]
  exact seg_app S W _
theorem Shp.part (h : Shp ng S W F Fd E Xd nx R) : partD (S ++ (W ++ (F ++ (E ++ R)))) = Fd := by
  unfold partD
  rw [h.p1, h.p2]
  rcases h.f with ⟨e, e2⟩ | ⟨e, e2⟩
  · rw [e, e2]
    unfold seg
    rw [show S.length + W.length + ([] : List Nat).length - (S.length + W.length + 1) = 0 by simp, List.take_zero]
  · have e3 : S ++ (W ++ (F ++ (E ++ R))) = ((S ++ W) ++ [46]) ++ (Fd ++ (E ++ R)) := by rw [e]; simp
    have hl2 : S.length + W.length + 1 = ((S ++ W) ++ [46]).length := by simp; omega
    have hl3 : S.length + W.length + F.length = ((S ++ W) ++ [46]).length + Fd.length := by rw [e]; simp; omega
    rw [e3, hl2, hl3]
    exact seg_app _ _ _
theorem Shp.pow (h : Shp ng S W F Fd E Xd nx R) : placeN (S ++ (W ++ (F ++ (E ++ R)))) = S.length + W.length + F.length + E.length ∧ powD (S ++ (W ++ (F ++ (E ++ R)))) = Xd ∧ (Xd ≠ [] → negE (S ++ (W ++ (F ++ (E ++ R)))) = nx) := by
  have e1 : S ++ (W ++ (F ++ (E ++ R))) = (S ++ W ++ F) ++ (E ++ R) := by simp
  have hl : S.length + W.length + F.length = (S ++ W ++ F).length := by simp; omega
  have hp2 := h.p2
  rw [hl] at hp2
  rw [hl]
  generalize hA : S ++ W ++ F = A at hp2 e1
  generalize hL : S ++ (W ++ (F ++ (E ++ R))) = L at hp2 e1
  unfold placeN powD hasE negE placeK
  rw [hp2]
  rcases h.e with ⟨e, e2⟩ | ⟨e, e2, e3⟩ | ⟨e, e2, e3⟩
  · have hc : L.getD A.length 0 = 32 := by rw [e1, getD_app, e, List.nil_append]; exact h.r
    have hE : isE (L.getD A.length 0) = false := by rw [hc]; rfl
    rw [hE, Bool.false_and, if_neg (by decide), if_neg (by decide), e, e2]
    exact ⟨rfl, rfl, fun h => absurd rfl h⟩
  · have hc : L.getD A.length 0 = 101 := by rw [e1, getD_app, e]; rfl
    have hE : isE (L.getD A.length 0) = true := by rw [hc]; rfl
    have hx := isD_range (h.xd _ (head_mem e2))
    have hc1 : L.getD (A.length + 1) 0 = Xd.getD 0 0 := by rw [e1, getD_app1, e]; show (Xd ++ R).getD 0 0 = _; exact head_app _ e2
    have e4 : L = (A ++ [101]) ++ (Xd ++ R) := by rw [e1, e]; simp
    have hd := dEnd_app (A ++ [101]) Xd R h.xd (notD_of (.inl h.r))
    have hs := seg_app (A ++ [101]) Xd R
    rw [← e4] at hd hs
    have hl3 : (A ++ [101]).length = A.length + 1 := by simp
    rw [hl3] at hd hs
    have hp := List.length_pos_iff.2 e2
    have hk : (if Xd.getD 0 0 = 43 ∨ Xd.getD 0 0 = 45 then A.length + 2 else A.length + 1) = A.length + 1 := if_neg (by omega)
    rw [hE, Bool.true_and, hc1, hk, hd, decide_eq_true (by omega), if_pos rfl, if_pos rfl, hs, e, e3]
    refine ⟨by simp; omega, rfl, fun _ => decide_eq_false (by omega)⟩
  · have hc : L.getD A.length 0 = 101 := by rw [e1, getD_app, e]; rfl
    have hE : isE (L.getD A.length 0) = true := by rw [hc]; rfl
    have hc1 : L.getD (A.length + 1) 0 = 45 := by rw [e1, getD_app1, e]; rfl
    have e4 : L = (A ++ [101, 45]) ++ (Xd ++ R) := by rw [e1, e]; simp
    have hd := dEnd_app (A ++ [101, 45]) Xd R h.xd (notD_of (.inl h.r))
    have hs := seg_app (A ++ [101, 45]) Xd R
    rw [← e4] at hd hs
    have hl3 : (A ++ [101, 45]).length = A.length + 2 := by simp
    rw [hl3] at hd hs
    have hp := List.length_pos_iff.2 e2
    have hk : (if (45 : Nat) = 43 ∨ (45 : Nat) = 45 then A.length + 2 else A.length + 1) = A.length + 2 := if_pos (.inr rfl)
    rw [hE, Bool.true_and, hc1, hk, hd, decide_eq_true (by omega), if_pos rfl, if_pos rfl, hs, e, e3]
    refine ⟨by simp; omega, rfl, fun _ => rfl⟩
theorem Shp.parse (h : Shp ng S W F Fd E Xd nx R) : parseC (S ++ (W ++ (F ++ (E ++ R)))) =
    finD ng (stripR (stripL (W ++ Fd))) (sgn nx (capC 0 Xd) - Fd.length + ((stripL (W ++ Fd)).length - (stripR (stripL (W ++ Fd))).length : Nat)) (S.length + W.length + F.length + E.length) := by
  have hw := List.length_pos_iff.2 h.w0
  unfold parseC allD
  rw [h.p0.1, h.d0, if_neg (by omega), h.p0.2, h.whole, h.part, h.pow.1, h.pow.2.1]
  by_cases hX : Xd = []
  · rw [hX]
    have : ∀ b, sgn b (capC 0 []) = 0 := fun b => by unfold sgn capC; rw [capM_nil]; cases b <;> rfl
    rw [this, this]
  · rw [h.pow.2.2 hX]
end
theorem stripL_id {D : List Nat} (h0 : D ≠ []) (h : D.getD 0 0 ≠ 48) (Z : List Nat) : stripL (D ++ Z) = D ++ Z := by
  cases D with
  | nil => exact absurd rfl h0
  | cons a D => rw [List.cons_append, stripL_cons, if_neg (show ¬ a = 48 from h)]
theorem stripL_zeros (n : Nat) (Z : List Nat) : stripL (List.replicate n 48 ++ Z) = stripL Z := by
  induction n with
  | zero => rfl
  | succ n ih => rw [List.replicate_succ, List.cons_append, stripL_cons, if_pos rfl, ih]
theorem stripR_zeros {D : List Nat} (h : Ends D) (n : Nat) : stripR (D ++ List.replicate n 48) = D := by
  unfold stripR
  rw [List.reverse_append, List.reverse_replicate]
  have : ∀ (n : Nat) (l : List Nat), (List.replicate n 48 ++ l).dropWhile (· == 48) = l.dropWhile (· == 48) := by
    intro n
    induction n with
    | zero => intro l; rfl
    | succ n ih => intro l; rw [List.replicate_succ, List.cons_append, List.dropWhile_cons, if_pos (by decide), ih]
  rw [this]
  cases hr : D.reverse with
  | nil => rw [List.dropWhile_nil, List.reverse_nil]; exact (List.reverse_eq_nil_iff.1 hr).symm
  | cons a l =>
    have hD : D = l.reverse ++ [a] := by rw [← List.reverse_reverse D, hr, List.reverse_cons]
    have ha : a ≠ 48 := fun e => h l.reverse (by rw [hD, e])
    rw [List.dropWhile_cons, if_neg (by simpa using ha), List.reverse_cons, ← hD]
theorem stripR_id {D : List Nat} (h : Ends D) : stripR D = D := by have := stripR_zeros h 0; simpa using this
end Go.Proofs.YtdbcklabinmgfaaDoor
