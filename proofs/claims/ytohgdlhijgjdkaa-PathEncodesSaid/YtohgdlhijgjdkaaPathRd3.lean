/- Layer 9: the reader's methods: points, groups. -/
import Derived.Test.YtohgdlhijgjdkaaPathRd2
namespace Go.Proofs.Ytohgdlhijgjdkaa
open Go.RowKit
set_option linter.unusedVariables false
set_option maxRecDepth 100000

theorem RdN.avoid {S : Nat → Prop} {w w' : World} {own : Option Nat} {u : Value} {l : List P2} (h : RdN w own u l) (ho : Only S w w') (hS : ∀ b, u.ownBlock = some b → b < w.heap.size → ¬ S b) : RdN w' own u l := by
  obtain ⟨a, c, h1, h2, h3, h4⟩ := h
  refine ⟨a, c, h1, h2, h3, ?_⟩
  rcases h4 with e | ⟨b, off, e, hb, hk, hc⟩
  · exact .inl e
  · exact .inr ⟨b, off, e, Nat.lt_of_lt_of_le hb ho.size, hk, fun i hi => (ho.cell (p := ⟨b, off + i, none⟩) hb (hS b (by rw [h1, e]; rfl) hb)).trans (hc i hi)⟩
/-- An own row of rows of points, all of them at lo or later. -/
def Paths (w : World) (lo : Nat) (v : Value) (ll : List (List P2)) : Prop := ∃ xs, w.ownsRow lo 43 1 v ll.length xs ∧ ∀ i (h : i < ll.length), ∃ u, xs[i]? = some u ∧ RdN w v.ownBlock u ll[i] ∧ ∀ b, u.ownBlock = some b → lo ≤ b
theorem Paths.pp {w : World} {lo : Nat} {v : Value} {ll : List (List P2)} (h : Paths w lo v ll) : OwnPP w lo v ll := by
  obtain ⟨xs, h1, h2⟩ := h
  exact ⟨xs, h1, fun i hi => by obtain ⟨u, k1, k2, _⟩ := h2 i hi; exact ⟨u, k1, k2⟩⟩
theorem Paths.lt {w : World} {lo : Nat} {v : Value} {ll : List (List P2)} (h : Paths w lo v ll) : ∀ b, v.ownBlock = some b → lo ≤ b ∧ b < w.heap.size := by
  obtain ⟨xs, h1, _⟩ := h
  exact fun b hb => World.ownsRow.lt h1 b hb
theorem Paths.nil_ (w : World) (lo : Nat) : Paths w lo (.slice none 0 0) [] := ⟨[], ⟨rfl, .inl ⟨rfl, rfl⟩⟩, fun i h => by simp at h⟩
theorem Paths.only {S : Nat → Prop} {w w' : World} {lo : Nat} {v : Value} {ll : List (List P2)} (h : Paths w lo v ll) (ho : Only S w w') (hS : ∀ b, S b → b < lo) : Paths w' lo v ll := by
  obtain ⟨xs, h1, h2⟩ := h
  refine ⟨xs, own_only h1 ho (fun b hb e => ?_), fun i hi => ?_⟩
  · have := (World.ownsRow.lt h1 b hb).1
    have := hS b e
    omega
  · obtain ⟨u, k1, k2, k3⟩ := h2 i hi
    exact ⟨u, k1, k2.avoid ho (fun b hb _ e => by have := k3 b hb; have := hS b e; omega), k3⟩
theorem Paths.grow {w w' : World} {lo : Nat} {v v' u : Value} {ll : List (List P2)} {l : List P2} {xs : List Value} (hx : ∀ i (h : i < ll.length), ∃ u, xs[i]? = some u ∧ RdN w v.ownBlock u ll[i] ∧ ∀ b, u.ownBlock = some b → lo ≤ b) (hl : xs.length = ll.length) (hu : RdN w v.ownBlock u l) (hul : ∀ b, u.ownBlock = some b → lo ≤ b)
    (h2 : w'.ownsRow lo 43 1 v' (ll.length + 1) (xs ++ [u])) (h3 : w.grownBy w' v.ownBlock) (h5 : v'.ownBlock = v.ownBlock ∨ ∃ g, v'.ownBlock = some g ∧ w.heap.size ≤ g) : Paths w' lo v' (ll ++ [l]) := by
  have ho : Only (fun k => v.ownBlock = some k) w w' := Only.of_grown h3 (fun b e => e)
  have hn : ∀ b, b < w.heap.size → v.ownBlock ≠ some b → v'.ownBlock ≠ some b := fun b hb hk => by
    rcases h5 with e | ⟨k, e, hk'⟩
    · rw [e]; exact hk
    · rw [e]; intro e'; injection e' with e'; omega
  refine ⟨xs ++ [u], by simpa using h2, fun i hi => ?_⟩
  by_cases hlt : i < ll.length
  · obtain ⟨u', k1, k2, k3⟩ := hx i hlt
    refine ⟨u', by rw [List.getElem?_append_left (by omega)]; exact k1, ?_, k3⟩
    have e : (ll ++ [l])[i] = ll[i] := by simp [List.getElem_append, hlt]
    rw [e]
    exact k2.only ho (fun _ h => h) hn
  · have hi2 : i = ll.length := by simp at hi; omega
    subst hi2
    refine ⟨u, by rw [List.getElem?_append_right (by omega), hl]; simp, ?_, hul⟩
    have e : (ll ++ [l])[ll.length] = l := by simp
    rw [e]
    exact hu.only ho (fun _ h => h) hn
def lenAt (w : World) (g : Nat) : Nat := match w.cell? ⟨g, 0, none⟩ with | some (.slice _ n _) => n | _ => 0
theorem RS.len {w : World} {base g : Nat} {l : List Nat} {p : P2} (h : RS w base g l p) : lenAt w g = l.length := by
  obtain ⟨a, c, h1, _⟩ := h
  have e : w.cell? ⟨g, 0, none⟩ = some (.slice a l.length c) := h1.cell 0
  unfold lenAt
  rw [e]
theorem RS.row {w : World} {base g : Nat} {l : List Nat} {p : P2} (h : RS w base g l p) : ∃ a c, w.cell? ⟨g, 0, none⟩ = some (.slice a l.length c) := by
  obtain ⟨a, c, h1, _⟩ := h
  exact ⟨a, c, h1.cell 0⟩
theorem cmd_cons {op a b n : Nat} {l r : List Nat} (h : cmdM op a b l = .ok (n, r)) : ∃ x, l = x :: r := by
  cases l with
  | nil => simp [cmdM] at h
  | cons x l =>
    simp only [cmdM] at h
    split at h
    · cases h
    · injection h with h; injection h with h2 h3; subst h3; exact ⟨x, rfl⟩
/-- What comes behind is a part of what was there. -/
theorem ptsM_sub : ∀ (n : Nat) (l : List Nat) (p : P2) (acc a : List P2) (r : List Nat) (q : P2), ptsM n l p acc = .ok (a, r, q) → ∀ x ∈ r, x ∈ l
  | 0, l, p, acc, a, r, q, h => by
    simp only [ptsM] at h
    injection h with h; injection h with h1 h2; injection h2 with h2 h3
    subst h2
    exact fun x hx => hx
  | n + 1, l, p, acc, a, r, q, h => by
    cases h1 : crd p.1 l with
    | error e => rw [ptsM_err l p acc n h1] at h; cases h
    | ok v =>
      obtain ⟨x, r1⟩ := v
      cases h2 : crd p.2 r1 with
      | error e => rw [ptsM_err2 l r1 p acc n h1 h2] at h; cases h
      | ok v =>
        obtain ⟨y, r2⟩ := v
        rw [ptsM_ok l r1 r2 p acc n h1 h2] at h
        obtain ⟨a1, rfl⟩ := crd_cons h1
        obtain ⟨a2, rfl⟩ := crd_cons h2
        intro z hz
        exact List.mem_cons_of_mem _ (List.mem_cons_of_mem _ (ptsM_sub n _ _ _ _ _ _ h z hz))
def PtsOk (base g : Nat) (w : World) (a : List P2) (e : Ending) (w' : World) : Prop := ∃ v', e = .returned v' ∧ OwnP w' base v' a ∧ Below base w w' ∧ ∀ b, v'.ownBlock = some b → w.heap.size ≤ b
set_option maxHeartbeats 8000000 in
theorem points_any (base g : Nat) (l : List Nat) (w : World) (hR : RS w base g l (0, 0)) (hg : base ≤ g) (hB : base ≤ w.heap.size) (hlen : l.length ≤ 1000000) (hl : ∀ x ∈ l, x < 4294967296) :
    Calls Try.prog 19 #[.pointer (some ⟨g, 0, none⟩)] w (MPost base w (pointsM l) (PtsOk base g w)) := by
  have HC := Lib.hid (command_any base g 1 1 536870912 l (0, 0) w hR hg hB (by omega) (by omega) (by omega) hl)
  obtain ⟨R, hRe⟩ : ∃ R, pointsM l = R := ⟨_, rfl⟩
  rw [hRe]
  unfold pointsM at hRe
  have hltg := hR.lt
  clear hR
  cases h1 : cmdM 1 1 536870912 l with
  | error e1 =>
    rw [h1] at hRe HC
    subst hRe
    clear hl hlen
    go_enter Try.func19, Try.ntmps19
    go_wp2_with fail
    refine HC.out.mono ?_
    rintro e W ⟨rfl, hb⟩
    exact ⟨rfl, rfl, hb⟩
  | ok q1 =>
    obtain ⟨n, r⟩ := q1
    rw [h1] at hRe HC
    simp only at hRe
    have hn := (cmdM_len h1).2
    have hrl := (cmdM_len h1).1
    obtain ⟨x, rfl⟩ := cmd_cons h1
    have HA := Lib.hid fun W (h : RS W base g r (0, 0)) (hb : base ≤ W.heap.size) => add_any base g (.slice none 0 0) [] n r (0, 0) W h (OwnP.nil_ _ _) (by simp [Value.ownBlock]) hg hb ⟨by simp, by simp⟩ (by omega) (by simp; omega) (fun z hz => hl z (List.mem_cons_of_mem _ hz))
    clear hl hlen h1
    go_enter Try.func19, Try.ntmps19
    go_wp2_with fail
    refine HC.out.mono ?_
    rintro e W ⟨rfl, hR, hO⟩
    have hBW : base ≤ W.heap.size := Nat.le_trans hB hO.size
    have HA := Lib.hid (HA.out W hR hBW)
    have HBW := Lib.hid (only_g hO hg hB)
    have HsW := Lib.hid hO.size
    clear hR hO HC
    cases h2 : ptsM n r (0, 0) [] with
    | error e1 =>
      rw [h2] at hRe HA
      subst hRe
      go_wp2_with fail
      refine HA.out.mono ?_
      rintro e W2 ⟨rfl, hb⟩
      exact ⟨rfl, rfl, HBW.out.trans hb⟩
    | ok q2 =>
      obtain ⟨a, r2, q⟩ := q2
      rw [h2] at hRe HA
      simp only at hRe
      go_wp2_with fail
      refine HA.out.mono ?_
      rintro e W2 ⟨v', rfl, hOw, hR2, hO2, hAt, hVg⟩
      have hb2 : Below base W W2 := hO2.below (fun b hlt hS => by
        rcases hS with hS | hS
        · omega
        · simp [Value.ownBlock] at hS) hBW
      have HB2 := Lib.hid (HBW.out.trans hb2)
      obtain ⟨ra, rc, c0⟩ := hR2.row
      have HOw := Lib.hid hOw
      have HAt := Lib.hid (show ∀ b, v'.ownBlock = some b → w.heap.size ≤ b from fun b hb => by
        have hs := HsW.out
        rcases hAt with e | ⟨k, e, hk⟩
        · rw [hb] at e; simp [Value.ownBlock] at e
        · rw [hb] at e; injection e with e; omega)
      clear hOw hR2 hO2 hAt hVg hb2 HA h2
      cases r2 with
      | nil =>
        rw [if_pos rfl] at hRe
        subst hRe
        simp only [List.length_nil] at c0
        go_wp2_with fail
        go_ret
        exact ⟨_, rfl, HOw.out, HB2.out, HAt.out⟩
      | cons y r3 =>
        rw [if_neg (by simp)] at hRe
        subst hRe
        simp only [List.length_cons] at c0
        obtain ⟨m, hm⟩ : ∃ m, m = r3.length + 1 := ⟨_, rfl⟩
        rw [← hm] at c0
        have hm0 : 0 < m := by omega
        have dm : decide ((0 : Int) < (m : Int)) = true := decide_eq_true (by omega)
        clear hm
        go_wp2_with fail
        exact ⟨rfl, rfl, HB2.out⟩
end Go.Proofs.Ytohgdlhijgjdkaa
