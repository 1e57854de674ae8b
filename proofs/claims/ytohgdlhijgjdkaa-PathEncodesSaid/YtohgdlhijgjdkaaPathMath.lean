/- Layer 9: what numbers are as paths (plain mathematics). -/
import Derived.Test.YtohgdlhijgjdkaaZig9
import Derived.Test.YtohgdlhijgjdkaaPP
namespace Go.Proofs.Ytohgdlhijgjdkaa
open Go.RowKit
set_option linter.unusedVariables false

def okC (n : Int) : Bool := decide (-1048576 ≤ n ∧ n ≤ 1048576)
def crd (x : Int) : List Nat → Except Nat (Int × List Nat)
  | [] => .error 2
  | a :: r => if okC (x + zag a) = true then .ok (x + zag a, r) else .error 8
def ptsM : Nat → List Nat → P2 → List P2 → Except Nat (List P2 × List Nat × P2)
  | 0, l, p, acc => .ok (acc, l, p)
  | n + 1, l, p, acc => match crd p.1 l with
    | .error e => .error e
    | .ok (x, r) => match crd p.2 r with
      | .error e => .error e
      | .ok (y, r2) => ptsM n r2 (x, y) (acc ++ [(x, y)])
def cmdM (op least most : Nat) : List Nat → Except Nat (Nat × List Nat)
  | [] => .error 2
  | a :: r => if a % 8 ≠ op ∨ a / 8 < least ∨ most < a / 8 then .error 3 else .ok (a / 8, r)
def groupM (kind : Nat) (l : List Nat) (p : P2) : Except Nat (List P2 × List Nat × P2) :=
  match cmdM 1 1 1 l with
  | .error e => .error e
  | .ok (n0, r) => match ptsM n0 r p [] with
    | .error e => .error e
    | .ok (a, r2, p2) => match cmdM 2 (kind - 1) 536870912 r2 with
      | .error e => .error e
      | .ok (n, r3) => match ptsM n r3 p2 a with
        | .error e => .error e
        | .ok (b, r4, p3) => if kind = 3 then (match cmdM 7 1 1 r4 with
          | .error e => .error e
          | .ok (_, r5) => .ok (b, r5, p3)) else .ok (b, r4, p3)
def groupsM (kind : Nat) : Nat → List Nat → P2 → List (List P2) → Except Nat (List (List P2))
  | 0, _, _, acc => .ok acc
  | f + 1, l, p, acc => match groupM kind l p with
    | .error e => .error e
    | .ok (a, r, q) => if r = [] then .ok (acc ++ [a]) else groupsM kind f r q (acc ++ [a])
def pointsM (l : List Nat) : Except Nat (List P2) :=
  match cmdM 1 1 536870912 l with
  | .error e => .error e
  | .ok (n, r) => match ptsM n r (0, 0) [] with
    | .error e => .error e
    | .ok (a, r2, _) => if r2 = [] then .ok a else .error 3
def decM (kind : Nat) (l : List Nat) : Except Nat (List (List P2)) :=
  if kind = 1 then (match pointsM l with
    | .error e => .error e
    | .ok a => .ok [a]) else groupsM kind (l.length + 1) l (0, 0) []
/-- What is handed back: the paths, the error. -/
def outM : Except Nat (List (List P2)) → List (List P2) × Nat
  | .error e => ([], e)
  | .ok a => (a, 0)

theorem crd_len {x y : Int} {l r : List Nat} (h : crd x l = .ok (y, r)) : r.length + 1 = l.length := by
  cases l with
  | nil => simp [crd] at h
  | cons a l =>
    simp only [crd] at h
    split at h
    · injection h with h; injection h with h1 h2; subst h2; rfl
    · cases h
theorem crd_err {x : Int} {l : List Nat} {e : Nat} (h : crd x l = .error e) : e = 2 ∨ e = 8 := by
  cases l with
  | nil => simp [crd] at h; exact .inl h.symm
  | cons a l =>
    simp only [crd] at h
    split at h
    · cases h
    · injection h with h; exact .inr h.symm
theorem crd_in {x y : Int} {l r : List Nat} (h : crd x l = .ok (y, r)) : -1048576 ≤ y ∧ y ≤ 1048576 := by
  cases l with
  | nil => simp [crd] at h
  | cons a l =>
    simp only [crd] at h
    split at h
    · next h1 => injection h with h; injection h with h2 h3; subst h2; exact of_decide_eq_true h1
    · cases h
def inP (p : P2) : Prop := (-1048576 ≤ p.1 ∧ p.1 ≤ 1048576) ∧ (-1048576 ≤ p.2 ∧ p.2 ≤ 1048576)
theorem ptsM_err (l : List Nat) (p : P2) (acc : List P2) (n : Nat) {e : Nat} (h : crd p.1 l = .error e) : ptsM (n + 1) l p acc = .error e := by simp [ptsM, h]
theorem ptsM_err2 (l r : List Nat) (p : P2) (acc : List P2) (n : Nat) {e : Nat} {x : Int} (h : crd p.1 l = .ok (x, r)) (h2 : crd p.2 r = .error e) : ptsM (n + 1) l p acc = .error e := by simp [ptsM, h, h2]
theorem ptsM_ok (l r r2 : List Nat) (p : P2) (acc : List P2) (n : Nat) {x y : Int} (h : crd p.1 l = .ok (x, r)) (h2 : crd p.2 r = .ok (y, r2)) : ptsM (n + 1) l p acc = ptsM n r2 (x, y) (acc ++ [(x, y)]) := by simp [ptsM, h, h2]
theorem ptsM_len : ∀ (n : Nat) (l : List Nat) (p : P2) (acc a : List P2) (r : List Nat) (q : P2), ptsM n l p acc = .ok (a, r, q) → r.length + 2 * n = l.length ∧ a.length = acc.length + n
  | 0, l, p, acc, a, r, q, h => by
    simp only [ptsM] at h
    injection h with h; injection h with h1 h2; injection h2 with h2 h3
    subst h1 h2
    exact ⟨by omega, by omega⟩
  | n + 1, l, p, acc, a, r, q, h => by
    cases h1 : crd p.1 l with
    | error e => rw [ptsM_err l p acc n h1] at h; cases h
    | ok v =>
      obtain ⟨x, r1⟩ := v
      cases h2 : crd p.2 r1 with
      | error e => rw [ptsM_err2 l r1 p acc n h1 h2] at h; cases h
      | ok v =>
        obtain ⟨y, r2⟩ := v
        rw [ptsM_ok l r1 r2 p acc n h1 h2] at h
        have := ptsM_len n _ _ _ _ _ _ h
        have := crd_len h1
        have := crd_len h2
        rw [List.length_append] at *
        simp at *
        omega
theorem ptsM_in : ∀ (n : Nat) (l : List Nat) (p : P2) (acc a : List P2) (r : List Nat) (q : P2), inP p → (∀ x ∈ acc, inP x) → ptsM n l p acc = .ok (a, r, q) → inP q ∧ ∀ x ∈ a, inP x
  | 0, l, p, acc, a, r, q, hp, ha, h => by
    simp only [ptsM] at h
    injection h with h; injection h with h1 h2; injection h2 with h2 h3
    subst h1 h3
    exact ⟨hp, ha⟩
  | n + 1, l, p, acc, a, r, q, hp, ha, h => by
    cases h1 : crd p.1 l with
    | error e => rw [ptsM_err l p acc n h1] at h; cases h
    | ok v =>
      obtain ⟨x, r1⟩ := v
      cases h2 : crd p.2 r1 with
      | error e => rw [ptsM_err2 l r1 p acc n h1 h2] at h; cases h
      | ok v =>
        obtain ⟨y, r2⟩ := v
        rw [ptsM_ok l r1 r2 p acc n h1 h2] at h
        have hq : inP (x, y) := ⟨crd_in h1, crd_in h2⟩
        refine ptsM_in n _ _ _ _ _ _ hq (fun z hz => ?_) h
        rcases List.mem_append.1 hz with hz | hz
        · exact ha z hz
        · rw [List.mem_singleton.1 hz]; exact hq
/-- Where the reader stands is the last point. -/
theorem ptsM_last : ∀ (n : Nat) (l : List Nat) (p : P2) (acc a : List P2) (r : List Nat) (q : P2), ptsM n l p acc = .ok (a, r, q) → (n = 0 ∧ q = p) ∨ (∃ b, a = b ++ [q])
  | 0, l, p, acc, a, r, q, h => by
    simp only [ptsM] at h
    injection h with h; injection h with h1 h2; injection h2 with h2 h3
    exact .inl ⟨rfl, h3.symm⟩
  | n + 1, l, p, acc, a, r, q, h => by
    cases h1 : crd p.1 l with
    | error e => rw [ptsM_err l p acc n h1] at h; cases h
    | ok v =>
      obtain ⟨x, r1⟩ := v
      cases h2 : crd p.2 r1 with
      | error e => rw [ptsM_err2 l r1 p acc n h1 h2] at h; cases h
      | ok v =>
        obtain ⟨y, r2⟩ := v
        rw [ptsM_ok l r1 r2 p acc n h1 h2] at h
        rcases ptsM_last n _ _ _ _ _ _ h with ⟨h3, h4⟩ | h3
        · subst h3
          simp only [ptsM] at h
          injection h with h; injection h with h5 h6
          exact .inr ⟨acc, by rw [← h5, h4]⟩
        · exact .inr h3
theorem ptsM_acc : ∀ (n : Nat) (l : List Nat) (p : P2) (acc : List P2), ptsM n l p acc = (match ptsM n l p [] with | .error e => .error e | .ok (a, r, q) => .ok (acc ++ a, r, q))
  | 0, l, p, acc => by simp [ptsM]
  | n + 1, l, p, acc => by
    cases h1 : crd p.1 l with
    | error e => rw [ptsM_err l p acc n h1, ptsM_err l p [] n h1]
    | ok v =>
      obtain ⟨x, r1⟩ := v
      cases h2 : crd p.2 r1 with
      | error e => rw [ptsM_err2 l r1 p acc n h1 h2, ptsM_err2 l r1 p [] n h1 h2]
      | ok v =>
        obtain ⟨y, r2⟩ := v
        rw [ptsM_ok l r1 r2 p acc n h1 h2, ptsM_ok l r1 r2 p [] n h1 h2, ptsM_acc n _ _ (acc ++ _), ptsM_acc n _ _ ([] ++ _)]
        cases ptsM n r2 (x, y) [] with
        | error e => rfl
        | ok v => simp
theorem cmdM_len {op a b n : Nat} {l r : List Nat} (h : cmdM op a b l = .ok (n, r)) : r.length + 1 = l.length ∧ a ≤ n ∧ n ≤ b := by
  cases l with
  | nil => simp [cmdM] at h
  | cons x l =>
    simp only [cmdM] at h
    split at h
    · cases h
    · next h1 => injection h with h; injection h with h2 h3; subst h2 h3; exact ⟨rfl, by omega, by omega⟩
theorem groupM_len {kind : Nat} {l r : List Nat} {p q : P2} {a : List P2} (h : groupM kind l p = .ok (a, r, q)) : r.length < l.length := by
  unfold groupM at h
  cases h1 : cmdM 1 1 1 l with
  | error e => rw [h1] at h; cases h
  | ok v =>
    obtain ⟨n0, r1⟩ := v
    rw [h1] at h
    simp only at h
    have k1 := cmdM_len h1
    cases h2 : ptsM n0 r1 p [] with
    | error e => rw [h2] at h; cases h
    | ok v =>
      obtain ⟨a2, r2, p2⟩ := v
      rw [h2] at h
      simp only at h
      have k2 := ptsM_len _ _ _ _ _ _ _ h2
      cases h3 : cmdM 2 (kind - 1) 536870912 r2 with
      | error e => rw [h3] at h; cases h
      | ok v =>
        obtain ⟨n, r3⟩ := v
        rw [h3] at h
        simp only at h
        have k3 := cmdM_len h3
        cases h4 : ptsM n r3 p2 a2 with
        | error e => rw [h4] at h; cases h
        | ok v =>
          obtain ⟨b, r4, p3⟩ := v
          rw [h4] at h
          simp only at h
          have k4 := ptsM_len _ _ _ _ _ _ _ h4
          split at h
          · cases h5 : cmdM 7 1 1 r4 with
            | error e => rw [h5] at h; cases h
            | ok v =>
              obtain ⟨_, r5⟩ := v
              rw [h5] at h
              have k5 := cmdM_len h5
              injection h with h; injection h with h6 h7; injection h7 with h7 h8
              subst h7; omega
          · injection h with h; injection h with h6 h7; injection h7 with h7 h8
            subst h7; omega
end Go.Proofs.Ytohgdlhijgjdkaa
