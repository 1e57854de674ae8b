/- Layer 9: what was encoded is decoded to the same (plain mathematics). -/
import Derived.Test.YtohgdlhijgjdkaaPathBack
namespace Go.Proofs.Ytohgdlhijgjdkaa
open Go.RowKit
set_option linter.unusedVariables false

theorem crd_enc {x y : Int} (r : List Nat) (hx : -1048576 ≤ x ∧ x ≤ 1048576) (hy : -1048576 ≤ y ∧ y ≤ 1048576) : crd x (zig (y - x) :: r) = .ok (y, r) := by
  have h1 : zag (zig (y - x)) = y - x := zag_zig (by omega)
  have h2 : x + (y - x) = y := by omega
  have h3 : okC y = true := decide_eq_true hy
  simp [crd, h1, h2, h3]
theorem cmd_enc {op a b n : Nat} (r : List Nat) (hop : op < 8) (ha : a ≤ n) (hb : n ≤ b) : cmdM op a b ((8 * n + op) :: r) = .ok (n, r) := by
  have h1 : (8 * n + op) % 8 = op := by omega
  have h2 : (8 * n + op) / 8 = n := by omega
  simp only [cmdM, h1, h2]
  rw [if_neg (by omega)]
theorem pts_enc : ∀ (l : List P2) (r : List Nat) (p : P2) (acc : List P2), inP p → (∀ x ∈ l, inP x) → ptsM l.length (runE p l ++ r) p acc = .ok (acc ++ l, r, endP p l)
  | [], r, p, acc, _, _ => by simp [ptsM, runE, endP]
  | q :: l, r, p, acc, hp, h => by
    have hq := h q (List.mem_cons_self ..)
    have e1 : crd p.1 (runE p (q :: l) ++ r) = .ok (q.1, zig (q.2 - p.2) :: (runE q l ++ r)) := crd_enc _ hp.1 hq.1
    have e2 : crd p.2 (zig (q.2 - p.2) :: (runE q l ++ r)) = .ok (q.2, runE q l ++ r) := crd_enc _ hp.2 hq.2
    rw [List.length_cons, ptsM_ok _ _ _ _ _ _ e1 e2, pts_enc l r (q.1, q.2) _ hq (fun x hx => h x (List.mem_cons_of_mem _ hx))]
    simp [endP]
theorem group_enc {kind : Nat} (hk : kind = 2 ∨ kind = 3) (l : List P2) (r : List Nat) (p : P2) (hp : inP p) (hl : kind ≤ l.length) (hl2 : l.length ≤ 1000000) (h : ∀ x ∈ l, inP x) : groupM kind (encN kind p l ++ r) p = .ok (l, r, endP p l) := by
  cases l with
  | nil => simp at hl; omega
  | cons q l =>
    have hq := h q (List.mem_cons_self ..)
    have hin := fun x (hx : x ∈ l) => h x (List.mem_cons_of_mem _ hx)
    have e0 : encN kind p (q :: l) ++ r = (8 * 1 + 1) :: (runE p [q] ++ ((8 * l.length + 2) :: (runE q l ++ ((if kind = 3 then [15] else []) ++ r)))) := by
      unfold encN
      rw [if_neg (by omega)]
      simp [endP]
    have e1 := cmd_enc (op := 1) (a := 1) (b := 1) (n := 1) (runE p [q] ++ ((8 * l.length + 2) :: (runE q l ++ ((if kind = 3 then [15] else []) ++ r)))) (by omega) (by omega) (by omega)
    have e2 := pts_enc [q] ((8 * l.length + 2) :: (runE q l ++ ((if kind = 3 then [15] else []) ++ r))) p [] hp (fun x hx => by rw [List.mem_singleton.1 hx]; exact hq)
    have e3 := cmd_enc (op := 2) (a := kind - 1) (b := 536870912) (n := l.length) (runE q l ++ ((if kind = 3 then [15] else []) ++ r)) (by omega) (by simp at hl; omega) (by simp at hl2; omega)
    have e4 := pts_enc l ((if kind = 3 then [15] else []) ++ r) q [q] hq hin
    rw [e0]
    unfold groupM
    rw [e1]
    simp only
    rw [show ([q] : List P2).length = 1 from rfl] at e2
    rw [e2]
    simp only [List.nil_append]
    rw [show endP p [q] = q from rfl, e3]
    simp only
    rw [e4]
    simp only
    by_cases hk3 : kind = 3
    · rw [if_pos hk3, if_pos hk3]
      have e5 := cmd_enc (op := 7) (a := 1) (b := 1) (n := 1) r (by omega) (by omega) (by omega)
      rw [show ([15] ++ r : List Nat) = (8 * 1 + 7) :: r from rfl, e5]
      rfl
    · rw [if_neg hk3, if_neg hk3]
      rfl
theorem encN_ne (kind : Nat) (p : P2) (l : List P2) : encN kind p l ≠ [] := by
  unfold encN
  split <;> simp
theorem groups_enc {kind : Nat} (hk : kind = 2 ∨ kind = 3) : ∀ (ll : List (List P2)) (p : P2) (acc : List (List P2)) (f : Nat), ll ≠ [] → inP p → (∀ l ∈ ll, kind ≤ l.length ∧ l.length ≤ 1000000 ∧ ∀ x ∈ l, inP x) → (encP kind p ll).length < f → groupsM kind f (encP kind p ll) p acc = .ok (acc ++ ll)
  | [], _, _, _, h, _, _, _ => absurd rfl h
  | l :: ll, p, acc, f, _, hp, h, hf => by
    obtain ⟨f, rfl⟩ : ∃ j, f = j + 1 := ⟨f - 1, by omega⟩
    obtain ⟨h1, h2, h3⟩ := h l (List.mem_cons_self ..)
    have e := group_enc hk l (encP kind (endP p l) ll) p hp h1 h2 h3
    have e0 : encP kind p (l :: ll) = encN kind p l ++ encP kind (endP p l) ll := rfl
    rw [e0, groupsM_ok e]
    by_cases hll : ll = []
    · subst hll
      rw [if_pos (show encP kind (endP p l) [] = [] from rfl)]
    · have hne : encP kind (endP p l) ll ≠ [] := by
        cases ll with
        | nil => exact absurd rfl hll
        | cons m r => intro e9; exact encN_ne kind (endP p l) m (List.append_eq_nil_iff.1 e9).1
      rw [if_neg hne, groups_enc hk ll (endP p l) (acc ++ [l]) f hll (endP_in hp h3) (fun x hx => h x (List.mem_cons_of_mem _ hx)) (by
        have := List.length_pos_iff.2 (encN_ne kind p l)
        rw [e0, List.length_append] at hf
        omega)]
      simp
theorem right_facts {K : Int} {ll : List (List P2)} (h : rightP K ll = 0) : (1 ≤ K ∧ K ≤ 3) ∧ ll ≠ [] ∧ (K = 1 → ll.length = 1) ∧ ∀ l ∈ ll, K ≤ (l.length : Int) ∧ ∀ x ∈ l, inP x := by
  unfold rightP at h
  split at h
  · cases h
  · next h1 =>
    split at h
    · cases h
    · next h2 =>
      split at h
      · cases h
      · next h3 =>
        split at h
        · cases h
        · next h4 =>
          refine ⟨by omega, fun e => h2 (.inl (by rw [e]; rfl)), fun e => by omega, fun l hl => ⟨?_, fun x hx => ?_⟩⟩
          · have h5 := List.any_eq_false.1 (Bool.not_eq_true _ ▸ h3) l hl
            unfold shortP leastN at h5
            simp at h5
            split at h5
            · omega
            · split at h5 <;> omega
          · have h5 := List.any_eq_false.1 (Bool.not_eq_true _ ▸ h4) l hl
            simp only [Bool.not_eq_true] at h5
            have h6 := List.any_eq_false.1 h5 x hx
            unfold outP okC at h6
            simp at h6
            exact ⟨⟨by omega, by omega⟩, ⟨by omega, by omega⟩⟩
theorem dec_enc {K : Int} {ll : List (List P2)} (h : rightP K ll = 0) (hl : ∀ l ∈ ll, l.length ≤ 1000000) : decM K.toNat (encP K.toNat (0, 0) ll) = .ok ll := by
  obtain ⟨h1, h2, h3, h4⟩ := right_facts h
  have h0 : inP (0, 0) := ⟨by simp, by simp⟩
  by_cases hk : K = 1
  · subst hk
    obtain ⟨l, rfl⟩ := List.length_eq_one_iff.1 (h3 rfl)
    obtain ⟨h5, h6⟩ := h4 l (List.mem_singleton.2 rfl)
    have h7 := hl l (List.mem_singleton.2 rfl)
    have e0 : encP (1 : Int).toNat (0, 0) [l] = (8 * l.length + 1) :: (runE (0, 0) l ++ []) := by
      simp [encP, encN]
    have e1 := cmd_enc (op := 1) (a := 1) (b := 536870912) (n := l.length) (runE (0, 0) l ++ []) (by omega) (by omega) (by omega)
    have e2 := pts_enc l [] (0, 0) [] h0 h6
    rw [e0]
    unfold decM
    rw [if_pos (show (1 : Int).toNat = 1 from rfl)]
    unfold pointsM
    rw [e1]
    simp only
    rw [e2]
    simp
  · have hk2 : K.toNat = 2 ∨ K.toNat = 3 := by omega
    unfold decM
    rw [if_neg (by omega)]
    have := groups_enc hk2 ll (0, 0) [] ((encP K.toNat (0, 0) ll).length + 1) h2 h0 (fun l hl2 => ⟨by have := (h4 l hl2).1; omega, hl l hl2, (h4 l hl2).2⟩) (by omega)
    simpa using this
end Go.Proofs.Ytohgdlhijgjdkaa
