/- Layer 9: what was decoded is encoded to the same (plain mathematics). -/
import Derived.Test.YtohgdlhijgjdkaaPathEn6
import Derived.Test.YtohgdlhijgjdkaaPathRf3
namespace Go.Proofs.Ytohgdlhijgjdkaa
open Go.RowKit
set_option linter.unusedVariables false

theorem zig_zag (v : Nat) : zig (zag v) = v := by unfold zig zag; split <;> split <;> omega
theorem crd_back {x y : Int} {l r : List Nat} (h : crd x l = .ok (y, r)) : l = zig (y - x) :: r := by
  cases l with
  | nil => simp [crd] at h
  | cons a l =>
    simp only [crd] at h
    split at h
    · injection h with h; injection h with h1 h2
      rw [← h1, ← h2, show x + zag a - x = zag a by omega, zig_zag]
    · cases h
theorem cmd_back {op a b n : Nat} {l r : List Nat} (h : cmdM op a b l = .ok (n, r)) (hop : op < 8) : l = (8 * n + op) :: r ∧ a ≤ n ∧ n ≤ b := by
  cases l with
  | nil => simp [cmdM] at h
  | cons x l =>
    simp only [cmdM] at h
    split at h
    · cases h
    · next h1 =>
      injection h with h; injection h with h2 h3
      subst h2 h3
      refine ⟨?_, by omega, by omega⟩
      congr 1
      omega
theorem pts_back : ∀ (n : Nat) (l : List Nat) (p : P2) (acc a : List P2) (r : List Nat) (q : P2), ptsM n l p acc = .ok (a, r, q) → inP p → ∃ b, a = acc ++ b ∧ l = runE p b ++ r ∧ q = endP p b ∧ b.length = n ∧ ∀ x ∈ b, inP x
  | 0, l, p, acc, a, r, q, h, _ => by
    simp only [ptsM] at h
    injection h with h; injection h with h1 h2; injection h2 with h2 h3
    exact ⟨[], by simp [h1], by simp [runE, h2], by simp [endP, h3], rfl, by simp⟩
  | n + 1, l, p, acc, a, r, q, h, hp => by
    cases h1 : crd p.1 l with
    | error e => rw [ptsM_err l p acc n h1] at h; cases h
    | ok v =>
      obtain ⟨x, r1⟩ := v
      cases h2 : crd p.2 r1 with
      | error e => rw [ptsM_err2 l r1 p acc n h1 h2] at h; cases h
      | ok v =>
        obtain ⟨y, r2⟩ := v
        rw [ptsM_ok l r1 r2 p acc n h1 h2] at h
        have hxy : inP (x, y) := ⟨crd_in h1, crd_in h2⟩
        obtain ⟨b, e1, e2, e3, e4, e5⟩ := pts_back n _ _ _ _ _ _ h hxy
        refine ⟨(x, y) :: b, by rw [e1]; simp, ?_, by rw [e3]; rfl, by simp [e4], ?_⟩
        · rw [crd_back h1, crd_back h2, e2]; rfl
        · intro z hz
          rcases List.mem_cons.1 hz with rfl | hz
          · exact hxy
          · exact e5 z hz
theorem group_back {kind : Nat} (hk : kind = 2 ∨ kind = 3) {l r : List Nat} {p q : P2} {a : List P2} (h : groupM kind l p = .ok (a, r, q)) (hp : inP p) : l = encN kind p a ++ r ∧ q = endP p a ∧ kind ≤ a.length ∧ a.length ≤ l.length ∧ (∀ x ∈ a, inP x) := by
  unfold groupM at h
  cases h1 : cmdM 1 1 1 l with
  | error e => rw [h1] at h; cases h
  | ok v =>
    obtain ⟨n0, r1⟩ := v
    rw [h1] at h
    simp only at h
    obtain ⟨k1, k2, k3⟩ := cmd_back h1 (by omega)
    have hn0 : n0 = 1 := by omega
    subst hn0
    cases h2 : ptsM 1 r1 p [] with
    | error e => rw [h2] at h; cases h
    | ok v =>
      obtain ⟨a2, r2, p2⟩ := v
      rw [h2] at h
      simp only at h
      obtain ⟨b1, e1, e2, e3, e4, e5⟩ := pts_back _ _ _ _ _ _ _ h2 hp
      have hp2 : inP p2 := (ptsM_in _ _ _ _ _ _ _ hp (by simp) h2).1
      cases h3 : cmdM 2 (kind - 1) 536870912 r2 with
      | error e => rw [h3] at h; cases h
      | ok v =>
        obtain ⟨n, r3⟩ := v
        rw [h3] at h
        simp only at h
        obtain ⟨k4, k5, k6⟩ := cmd_back h3 (by omega)
        cases h4 : ptsM n r3 p2 a2 with
        | error e => rw [h4] at h; cases h
        | ok v =>
          obtain ⟨c, r4, p3⟩ := v
          rw [h4] at h
          simp only at h
          obtain ⟨b2, f1, f2, f3, f4, f5⟩ := pts_back _ _ _ _ _ _ _ h4 hp2
          have hc : c = b1 ++ b2 := by rw [f1, e1]; simp
          obtain ⟨t, ht⟩ : ∃ t, b1 = [t] := List.length_eq_one_iff.1 e4
          have hend : p3 = endP p c := by rw [f3, hc, ht, e3, ht]; rfl
          have hcl : c.length = n + 1 := by rw [hc, ht]; simp [f4]
          have hin : ∀ x ∈ c, inP x := by
            intro x hx
            rw [hc] at hx
            rcases List.mem_append.1 hx with hx | hx
            · exact e5 x hx
            · exact f5 x hx
          have hlen2 : (runE p2 b2).length = 2 * n := by
            have key : ∀ (r : List P2) (q : P2), (runE q r).length = 2 * r.length := by
              intro r
              induction r with
              | nil => intro q; rfl
              | cons p r ih => intro q; simp [runE, ih]; omega
            rw [key, f4]
          have hl0 : l = 9 :: (runE p [t] ++ ((8 * n + 2) :: (runE t b2 ++ r4))) := by
            rw [k1, e2, k4, f2, ht, e3, ht]; rfl
          have hlen : c.length ≤ l.length := by
            rw [hl0, hcl]
            have h9 : (runE t b2).length = 2 * n := by
              rw [← hlen2, e3, ht]; rfl
            simp [h9]; omega
          have henc : encN kind p c = (9 :: runE p [t]) ++ (((8 * n + 2) :: runE t b2) ++ (if kind = 3 then [15] else [])) := by
            unfold encN
            rw [if_neg (by omega), hc, ht]
            simp [f4, endP]
          split at h
          · next hk3 =>
            cases h5 : cmdM 7 1 1 r4 with
            | error e => rw [h5] at h; cases h
            | ok v =>
              obtain ⟨n5, r5⟩ := v
              rw [h5] at h
              obtain ⟨k7, k8, k9⟩ := cmd_back h5 (by omega)
              injection h with h; injection h with h6 h7; injection h7 with h7 h8
              subst h6 h7 h8
              refine ⟨?_, hend, by omega, hlen, hin⟩
              rw [henc, if_pos hk3, hl0, k7, show n5 = 1 by omega]
              simp
          · next hk3 =>
            injection h with h; injection h with h6 h7; injection h7 with h7 h8
            subst h6 h7 h8
            refine ⟨?_, hend, by omega, hlen, hin⟩
            rw [henc, if_neg hk3, hl0]
            simp
theorem groups_back {kind : Nat} (hk : kind = 2 ∨ kind = 3) : ∀ (f : Nat) (l : List Nat) (p : P2) (acc ll : List (List P2)), l.length < f → groupsM kind f l p acc = .ok ll → inP p → ∃ bs, ll = acc ++ bs ∧ l = encP kind p bs ∧ bs ≠ [] ∧ bs.length ≤ l.length ∧ ∀ b ∈ bs, kind ≤ b.length ∧ b.length ≤ l.length ∧ ∀ x ∈ b, inP x
  | 0, l, p, acc, ll, hf, _, _ => absurd hf (Nat.not_lt_zero _)
  | f + 1, l, p, acc, ll, hf, h, hp => by
    cases h1 : groupM kind l p with
    | error e => rw [groupsM_err h1] at h; cases h
    | ok v =>
      obtain ⟨a, r, q⟩ := v
      rw [groupsM_ok h1] at h
      have hl := groupM_len h1
      obtain ⟨e1, e2, e3, e4, e5⟩ := group_back hk h1 hp
      split at h
      · next hr =>
        injection h with h
        refine ⟨[a], h.symm, by rw [e1, hr]; simp [encP], by simp, by simp; omega, fun b hb => ?_⟩
        rw [List.mem_singleton.1 hb]
        exact ⟨e3, e4, e5⟩
      · next hr =>
        have hq : inP q := by rw [e2]; exact endP_in hp e5
        obtain ⟨bs, f1, f2, f3, f4, f5⟩ := groups_back hk f r q _ ll (by omega) h hq
        refine ⟨a :: bs, by rw [f1]; simp, ?_, by simp, by simp; omega, fun b hb => ?_⟩
        · rw [e1, f2, e2]; rfl
        · rcases List.mem_cons.1 hb with rfl | hb
          · exact ⟨e3, e4, e5⟩
          · obtain ⟨g1, g2, g3⟩ := f5 b hb
            exact ⟨g1, by omega, g3⟩
/-- What was decoded may be encoded, to the same numbers. -/
theorem dec_back {kind : Nat} (hk : 1 ≤ kind ∧ kind ≤ 3) {l : List Nat} {ll : List (List P2)} (h : decM kind l = .ok ll) : encP kind (0, 0) ll = l ∧ ll.length ≤ l.length ∧ (∀ b ∈ ll, 1 ≤ b.length ∧ b.length ≤ l.length ∧ ∀ x ∈ b, inP x) ∧ rightP (kind : Int) ll = 0 := by
  have h0 : inP (0, 0) := ⟨by simp, by simp⟩
  have hright : (∀ b ∈ ll, kind ≤ b.length ∧ ∀ x ∈ b, inP x) → ll ≠ [] → (kind = 1 → ll.length = 1) → rightP (kind : Int) ll = 0 := by
    intro hb hne h1
    unfold rightP
    have hl : ll.length ≠ 0 := fun e => hne (List.eq_nil_of_length_eq_zero e)
    rw [if_neg (by omega), if_neg (by omega)]
    have hs : ll.any (shortP (kind : Int)) = false := by
      rw [List.any_eq_false]
      intro b hb2
      have := (hb b hb2).1
      unfold shortP leastN
      simp
      split
      · omega
      · split <;> omega
    rw [if_neg (by rw [hs]; simp)]
    have ho : ll.any (fun l => l.any outP) = false := by
      rw [List.any_eq_false]
      intro b hb2
      simp only [Bool.not_eq_true]
      rw [List.any_eq_false]
      intro x hx
      have := (hb b hb2).2 x hx
      unfold outP okC
      simp
      exact ⟨⟨this.1.1, this.1.2⟩, ⟨this.2.1, this.2.2⟩⟩
    rw [if_neg (by rw [ho]; simp)]
  by_cases hk1 : kind = 1
  · subst hk1
    unfold decM at h
    rw [if_pos rfl] at h
    unfold pointsM at h
    cases h1 : cmdM 1 1 536870912 l with
    | error e => rw [h1] at h; cases h
    | ok v =>
      obtain ⟨n, r⟩ := v
      rw [h1] at h
      simp only at h
      obtain ⟨k1, k2, k3⟩ := cmd_back h1 (by omega)
      cases h2 : ptsM n r (0, 0) [] with
      | error e => rw [h2] at h; cases h
      | ok v =>
        obtain ⟨a, r2, q⟩ := v
        rw [h2] at h
        simp only at h
        have hlp := ptsM_len _ _ _ _ _ _ _ h2
        obtain ⟨b, e1, e2, e3, e4, e5⟩ := pts_back _ _ _ _ _ _ _ h2 h0
        have hab : a = b := by simpa using e1
        by_cases hr : r2 = []
        · rw [if_pos hr] at h
          injection h with h
          subst h
          have hall : ∀ c ∈ [a], 1 ≤ c.length ∧ c.length ≤ l.length ∧ ∀ x ∈ c, inP x := by
            intro c hc
            rw [List.mem_singleton.1 hc, hab]
            refine ⟨by omega, ?_, e5⟩
            rw [k1, List.length_cons]; omega
          refine ⟨?_, by rw [k1]; simp, hall, hright (fun c hc => ⟨(hall c hc).1, (hall c hc).2.2⟩) (by simp) (fun _ => rfl)⟩
          rw [k1, e2, hr, hab]
          simp [encP, encN, e4]
        · rw [if_neg hr] at h; cases h
  · have hk23 : kind = 2 ∨ kind = 3 := by omega
    unfold decM at h
    rw [if_neg hk1] at h
    obtain ⟨bs, e1, e2, e3, e4, e5⟩ := groups_back hk23 _ l (0, 0) [] ll (by omega) h h0
    have hb : ll = bs := by simpa using e1
    subst hb
    exact ⟨e2.symm, e4, fun b hb => ⟨by have := (e5 b hb).1; omega, (e5 b hb).2.1, (e5 b hb).2.2⟩, hright (fun b hb => ⟨(e5 b hb).1, (e5 b hb).2.2⟩) e3 (fun h => absurd h hk1)⟩
end Go.Proofs.Ytohgdlhijgjdkaa
