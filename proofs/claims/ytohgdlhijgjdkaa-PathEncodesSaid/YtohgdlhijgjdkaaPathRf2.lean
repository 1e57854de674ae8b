/- Layer 9: the reference's Decode. -/
import Derived.Test.YtohgdlhijgjdkaaPathRf1
namespace Go.Proofs.Ytohgdlhijgjdkaa
open Go.RowKit
set_option linter.unusedVariables false
set_option maxRecDepth 100000

/-- One path, as the reference reads it. -/
def stepM (kind : Nat) (l : List Nat) (p : P2) : Except Nat (List P2 × List Nat × P2) :=
  if kind = 1 then (match cmdM 1 1 536870912 l with
    | .error e => .error e
    | .ok (n, r) => ptsM n r p []) else groupM kind l p
def loopM (kind : Nat) : Nat → List Nat → P2 → List (List P2) → Except Nat (List (List P2))
  | 0, _, _, acc => .ok acc
  | f + 1, l, p, acc => match stepM kind l p with
    | .error e => .error e
    | .ok (a, r, q) => if r = [] then .ok (acc ++ [a]) else if kind = 1 then .error 3 else loopM kind f r q (acc ++ [a])
theorem loopM_dec (kind : Nat) : ∀ (f : Nat) (l : List Nat) (p : P2) (acc : List (List P2)), kind ≠ 1 → loopM kind f l p acc = groupsM kind f l p acc
  | 0, _, _, _, _ => rfl
  | f + 1, l, p, acc, hk => by
    simp only [loopM, groupsM, stepM, if_neg hk]
    cases groupM kind l p with
    | error e => rfl
    | ok v => simp only [loopM_dec kind f _ _ _ hk]
theorem loopM_is (kind : Nat) (l : List Nat) : loopM kind (l.length + 1) l (0, 0) [] = decM kind l := by
  by_cases hk : kind = 1
  · subst hk
    simp only [loopM, stepM, decM, pointsM, if_true]
    cases cmdM 1 1 536870912 l with
    | error e => rfl
    | ok v =>
      obtain ⟨n, r⟩ := v
      simp only
      cases ptsM n r (0, 0) [] with
      | error e => rfl
      | ok v =>
        obtain ⟨a, r2, q⟩ := v
        simp only [List.nil_append]
        by_cases hr : r2 = []
        · rw [if_pos hr, if_pos hr]
        · rw [if_neg hr, if_neg hr]
  · rw [loopM_dec kind _ _ _ _ hk]
    unfold decM
    rw [if_neg hk]
theorem cmd_at {l : List Nat} {i : Nat} (h : i < l.length) (op a b : Nat) : cmdM op a b (l.drop i) = if l[i] % 8 ≠ op ∨ l[i] / 8 < a ∨ b < l[i] / 8 then .error 3 else .ok (l[i] / 8, l.drop (i + 1)) := by
  rw [List.drop_eq_getElem_cons h]; rfl
theorem cmd_end {l : List Nat} {i : Nat} (h : l.length ≤ i) (op a b : Nat) : cmdM op a b (l.drop i) = .error 2 := by
  rw [List.drop_eq_nil_of_le h]; rfl
/-- What is left is the list behind some place. -/
theorem ptsM_drop {l r : List Nat} {i n : Nat} {p q : P2} {acc a : List P2} (hi : i ≤ l.length) (h : ptsM n (l.drop i) p acc = .ok (a, r, q)) : r = l.drop (l.length - r.length) ∧ l.length - r.length = i + 2 * n ∧ i + 2 * n ≤ l.length := by
  have key : ∀ (n : Nat) (i : Nat) (p : P2) (acc : List P2), i ≤ l.length → ptsM n (l.drop i) p acc = .ok (a, r, q) → r = l.drop (i + 2 * n) := by
    intro n
    induction n with
    | zero =>
      intro i p acc _ h
      simp only [ptsM] at h
      injection h with h; injection h with h1 h2; injection h2 with h2 h3
      rw [← h2]; rfl
    | succ n ih =>
      intro i p acc hi h
      have hlt : i < l.length := by
        rcases Nat.lt_or_ge i l.length with h1 | h1
        · exact h1
        · rw [ptsM_err _ _ _ _ (crd_end h1 p.1)] at h; cases h
      have e1 := crd_at hlt p.1
      by_cases hk : okC (p.1 + zag l[i]) = true
      · rw [if_pos hk] at e1
        have hlt2 : i + 1 < l.length := by
          rcases Nat.lt_or_ge (i + 1) l.length with h1 | h1
          · exact h1
          · rw [ptsM_err2 _ _ _ _ _ e1 (crd_end h1 p.2)] at h; cases h
        have e2 := crd_at hlt2 p.2
        by_cases hk2 : okC (p.2 + zag l[i + 1]) = true
        · rw [if_pos hk2] at e2
          rw [ptsM_ok _ _ _ _ _ _ e1 e2] at h
          have := ih (i + 1 + 1) _ _ (by omega) h
          rw [this]
          congr 1
          omega
        · rw [if_neg hk2] at e2
          rw [ptsM_err2 _ _ _ _ _ e1 e2] at h; cases h
      · rw [if_neg hk] at e1
        rw [ptsM_err _ _ _ _ e1] at h; cases h
  have h1 := key n i p acc hi h
  have h2 := (ptsM_len _ _ _ _ _ _ _ h).1
  rw [List.length_drop] at h2
  have e : l.length - r.length = i + 2 * n := by omega
  exact ⟨by rw [e]; exact h1, e, by omega⟩
theorem app_pts {w : World} {B : Nat} (base : Nat) (v : Value) (l m : List P2) (A : Option Addr) (c : Nat) (h : OwnP w base v l) (hd : PAt w B A m) (hl : l.length + m.length ≤ 1000000) (hB : base ≤ w.heap.size) :
    ∃ v' w', (Builtin.append_ #[43, 43] 43 #[v, .slice A m.length c]).run Try.prog w = .ok v' w' ∧ GoneP w base v (l ++ m) v' w' := by
  obtain ⟨i0, hi0, hz0, hz1, hz2⟩ := info_parts ptinfo
  have hown : w.ownsRow base 42 2 v l.length (pts l) := h
  obtain ⟨v3, w3, hrun, h2, h3, h5⟩ := run_append_vals (P := Try.prog) (w := w) base 43 43 42 i0 _ 2 16 Try.underlying43 hi0 hz0 hz1 hz2 rfl (by decide) v _ _ hown B A m.length c _ hd (pts_one _) (by unfold maxLen; omega) (by omega) hB
  exact ⟨v3, w3, hrun, GoneP.grown h2 (by simp) (by rw [pts_append]) h3 (h5.imp id (fun h => ⟨_, h, Nat.le_refl _⟩))⟩
theorem app_run {w w' : World} {ops : Array Oper} {rest : List Oper} {o : Oper} {a : Act} {Q : Exit → Act → World → Prop} (hw : Region.wanted o (yielded ops a.tmps) = true) (s x : Operand) (t : TypeId)
    (ho : o.op = .call { callee := .builtin .append, args := #[s, x], argTypes := #[t, t] }) (v u v' : Value) (hs : a.eval s = v) (hx : a.eval x = u)
    (hrun : (Builtin.append_ #[t, t] o.type #[v, u]).run Try.prog w = .ok v' w') (h : wpList Try.prog ops Q rest (a.put o.dst v') w') : wpList Try.prog ops Q (o :: rest) a w := by
  refine wpList_step fun K hK => ?_
  simp only [hw, if_true]
  unfold Oper.wp execOp
  simp only [ho, resolve, invoke, builtin, Sem.run_bind, Sem.run_pure, Result.andThen_ok, List.map_toArray, List.map_cons, List.map_nil, hs, hx, hrun]
  exact hK _ _ h
end Go.Proofs.Ytohgdlhijgjdkaa
