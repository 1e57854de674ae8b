/- Layer 27: groups of indices in memory: an own row of own rows of ints, each in a block of its own. -/
import Derived.Test.YtlmnmilefggmpaaI64
import Derived.Test.YtlmnmilefggmpaaPts
import Derived.Laws.OwnMore
namespace Go.Proofs.Ytlmnmilefggmpaa
open Go.RowKit
set_option linter.unusedVariables false
set_option maxRecDepth 100000

theorem gginfo : (Try.prog.info? 36).map (fun i => (i.zero, i.size, i.bytes)) = some (some (.slice none 0 0), 1, 24) := by kernel_rfl
/-- v is an own row of the slices us, each an own row of ints, all in blocks of their own. -/
structure OwnG (w : World) (base : Nat) (v : Value) (us : List Value) (ll : List (List Nat)) : Prop where
  row : w.ownsRow base 36 1 v ll.length us
  el : ∀ (i : Nat) (u : Value), us[i]? = some u → Own64 w base u (ll.getD i []) ∧ ∀ b, u.ownBlock = some b → v.ownBlock ≠ some b
  apart : ∀ (i j : Nat) (u u' : Value), i ≠ j → us[i]? = some u → us[j]? = some u' → ∀ b, u.ownBlock = some b → u'.ownBlock ≠ some b
theorem OwnG.len {w : World} {base : Nat} {v : Value} {us : List Value} {ll : List (List Nat)} (h : OwnG w base v us ll) : us.length = ll.length := by have := h.row.1; omega
theorem OwnG.nil_ (w : World) (base : Nat) : OwnG w base (.slice none 0 0) [] [] := ⟨⟨rfl, .inl ⟨rfl, rfl⟩⟩, fun i u h => by simp at h, fun i j u u' _ h => by simp at h⟩
theorem OwnG.below {w w' : World} {base : Nat} {v : Value} {us : List Value} {ll : List (List Nat)} (h : OwnG w base v us ll) (hb : Below w.heap.size w w') : OwnG w' base v us ll :=
  ⟨own_only h.row (Only.of_below hb (fun _ => False)) (fun _ _ h => h), fun i u hi => ⟨(h.el i u hi).1.below hb, (h.el i u hi).2⟩, h.apart⟩
theorem OwnG.lt {w : World} {base : Nat} {v : Value} {us : List Value} {ll : List (List Nat)} (h : OwnG w base v us ll) : ∀ k, v.ownBlock = some k → base ≤ k ∧ k < w.heap.size := fun k hk => World.ownsRow.lt h.row k hk
/-- A new group. -/
theorem OwnG.app {w w1 w' : World} {base g i : Nat} {v v' u : Value} {us : List Value} {ll : List (List Nat)} (h : OwnG w base v us ll) (hw : Below w.heap.size w w1) (hu : Own64 w1 base u [i]) (hg : u.ownBlock = some g) (hg1 : w.heap.size ≤ g)
    (h2 : w'.ownsRow base 36 1 v' (ll.length + 1) (us ++ [u])) (h3 : w1.grownBy w' v.ownBlock) (h5 : v'.ownBlock = v.ownBlock ∨ ∃ k, v'.ownBlock = some k ∧ w1.heap.size ≤ k) : OwnG w' base v' (us ++ [u]) (ll ++ [[i]]) := by
  have ho : Only (fun b => v.ownBlock = some b) w1 w' := Only.of_grown h3 (fun b e => e)
  have hlen := h.len
  have hgl := (hu.lt g hg).2
  have hs := hw.size
  refine ⟨by simpa using h2, fun j x hj => ?_, fun a b x y hab hx hy c hc => ?_⟩
  · rcases Nat.lt_or_ge j us.length with hj1 | hj1
    · rw [List.getElem?_append_left hj1] at hj
      obtain ⟨k1, k2⟩ := h.el j x hj
      have e : (ll ++ [[i]]).getD j [] = ll.getD j [] := by simp [List.getD, List.getElem?_append_left (show j < ll.length by omega)]
      rw [e]
      refine ⟨(k1.below hw).only ho (fun b hb e => k2 b hb e), fun b hb => ?_⟩
      rcases h5 with h5 | ⟨k, h5, hk⟩
      · rw [h5]; exact k2 b hb
      · rw [h5]; intro e; injection e with e
        have := (k1.lt b hb).2; omega
    · rw [List.getElem?_append_right hj1] at hj
      have hj2 : j = us.length := by
        rcases Nat.lt_or_ge us.length j with h1 | h1
        · rw [List.getElem?_eq_none (by simp; omega)] at hj; cases hj
        · omega
      subst hj2
      simp at hj
      subst hj
      have e : (ll ++ [[i]]).getD us.length [] = [i] := by rw [hlen]; simp [List.getD]
      rw [e]
      have hne : ∀ b, u.ownBlock = some b → v.ownBlock ≠ some b := fun b hb e => by
        rw [hg] at hb; injection hb with hb; subst hb
        have := (h.lt g e).2; omega
      refine ⟨hu.only ho (fun b hb e => hne b hb e), fun b hb => ?_⟩
      rcases h5 with h5 | ⟨k, h5, hk⟩
      · rw [h5]; exact hne b hb
      · rw [h5]; intro e; injection e with e
        rw [hg] at hb; injection hb with hb; omega
  · have hold : ∀ (a : Nat) (x : Value), a < us.length → us[a]? = some x → ∀ c, x.ownBlock = some c → c ≠ g := fun a x _ hx c hc e => by
      have := ((h.el a x hx).1.lt c hc).2; omega
    have key : ∀ (a : Nat) (x : Value), (us ++ [u])[a]? = some x → (a < us.length ∧ us[a]? = some x) ∨ (a = us.length ∧ x = u) := fun a x hx => by
      rcases Nat.lt_or_ge a us.length with h1 | h1
      · rw [List.getElem?_append_left h1] at hx; exact .inl ⟨h1, hx⟩
      · rw [List.getElem?_append_right h1] at hx
        rcases Nat.lt_or_ge us.length a with h2 | h2
        · rw [List.getElem?_eq_none (by simp; omega)] at hx; cases hx
        · have : a = us.length := by omega
          subst this; simp at hx; exact .inr ⟨rfl, hx.symm⟩
    rcases key a x hx with ⟨a1, a2⟩ | ⟨a1, rfl⟩ <;> rcases key b y hy with ⟨b1, b2⟩ | ⟨b1, rfl⟩
    · exact h.apart a b x y hab a2 b2 c hc
    · rw [hg]; intro e; injection e with e; exact hold a x a1 a2 c hc e.symm
    · rw [hg] at hc; injection hc with hc; subst hc
      intro e; exact hold b y b1 b2 _ e rfl
    · omega
/-- A group grows, and is stored back. -/
theorem OwnG.grow {w w1 : World} {base g k n cap : Nat} {u u' : Value} {us : List Value} {ll : List (List Nat)} {m : List Nat} (h : OwnG w base (.slice (some ⟨g, 0, none⟩) n cap) us ll) (hk : us[k]? = some u) (hG : Gone64 w base u m u' w1) :
    OwnG (w1.setCell ⟨g, k, none⟩ u') base (.slice (some ⟨g, 0, none⟩) n cap) (us.set k u') (ll.set k m) := by
  have hlen := h.len
  have hkl : k < us.length := (List.getElem?_eq_some_iff.1 hk).1
  obtain ⟨e1, e2⟩ := h.el k u hk
  have hrow : w1.ownsRow base 36 1 (.slice (some ⟨g, 0, none⟩) n cap) ll.length us := own_only h.row hG.only (fun b hb e => e2 b e hb)
  have hn : n = ll.length := by
    rcases h.row.2 with ⟨e, _⟩ | ⟨_, _, _, e, _⟩
    · cases e
    · injection e
  subst hn
  have hoS : Only (fun b => b = g) w1 (w1.setCell ⟨g, k, none⟩ u') := Only.setCell (S := fun b => b = g) (Only.refl _ _) (p := ⟨g, k, none⟩) (fun _ => rfl) _
  have hu' : ∀ b, u'.ownBlock = some b → b ≠ g := fun b hb e => by
    subst e
    rcases hG.at_ with h1 | ⟨j, h1, h2⟩
    · rw [h1] at hb; exact e2 _ hb rfl
    · rw [h1] at hb; injection hb with hb
      have := (h.lt b rfl).2; omega
  refine ⟨?_, fun j x hj => ?_, fun a b x y hab hx hy c hc => ?_⟩
  · have := (hrow.stored k u').1
    simpa using this
  · by_cases hjk : j = k
    · subst hjk
      rw [List.getElem?_set_self hkl] at hj
      injection hj with hj; subst hj
      have e : (ll.set j m).getD j [] = m := by simp [List.getD, show j < ll.length by omega]
      rw [e]
      exact ⟨hG.own.only hoS (fun b hb e => hu' b hb e), fun b hb e => by injection e with e; exact hu' b hb e.symm⟩
    · rw [List.getElem?_set_ne (fun e => hjk e.symm)] at hj
      obtain ⟨k1, k2⟩ := h.el j x hj
      have e : (ll.set k m).getD j [] = ll.getD j [] := by simp [List.getD, List.getElem?_set_ne (fun e => hjk e.symm)]
      rw [e]
      exact ⟨(k1.only hG.only (fun b hb e => h.apart j k x u hjk hj hk b hb e)).only hoS (fun b hb e => k2 b hb (by rw [e]; rfl)), k2⟩
  · have key : ∀ (a : Nat) (x : Value), (us.set k u')[a]? = some x → (a ≠ k ∧ us[a]? = some x) ∨ (a = k ∧ x = u') := fun a x hx => by
      by_cases hak : a = k
      · subst hak; rw [List.getElem?_set_self hkl] at hx; injection hx with hx; exact .inr ⟨rfl, hx.symm⟩
      · rw [List.getElem?_set_ne (fun e => hak e.symm)] at hx; exact .inl ⟨hak, hx⟩
    have hold : ∀ (a : Nat) (x : Value), a ≠ k → us[a]? = some x → ∀ c, x.ownBlock = some c → u'.ownBlock ≠ some c := fun a x ha hx c hc => by
      rcases hG.at_ with h1 | ⟨j, h1, h2⟩
      · rw [h1]; exact h.apart a k x u ha hx hk c hc
      · rw [h1]; intro e; injection e with e
        have := ((h.el a x hx).1.lt c hc).2; omega
    rcases key a x hx with ⟨a1, a2⟩ | ⟨a1, rfl⟩ <;> rcases key b y hy with ⟨b1, b2⟩ | ⟨b1, rfl⟩
    · exact h.apart a b x y hab a2 b2 c hc
    · exact hold a x a1 a2 c hc
    · exact fun e => hold b y b1 b2 c e hc
    · omega
/-- v is a slice of slices of ints that reads as ll. -/
def RdG (w : World) (B : Nat) (v : Value) (ll : List (List Nat)) : Prop := ∃ a c us, v = .slice a ll.length c ∧ ll.length ≤ c ∧ c ≤ maxLen ∧ Vals w B 1 a ll.length us ∧ ∀ i (h : i < ll.length), ∃ a1 c1, us[i]? = some (.slice a1 ll[i].length c1) ∧ ll[i].length ≤ c1 ∧ c1 ≤ maxLen ∧ Nums .i64 w B a1 ll[i]
theorem OwnG.rd {w : World} {base : Nat} {v : Value} {us : List Value} {ll : List (List Nat)} (h : OwnG w base v us ll) : RdG w w.heap.size v ll := by
  obtain ⟨a, c, e, h3, h4, h5⟩ := Vals.of_own h.row
  refine ⟨a, c, us, e, h3, h4, h5, fun i hi => ?_⟩
  have hl : i < us.length := by have := h.len; omega
  obtain ⟨k1, _⟩ := h.el i _ (List.getElem?_eq_getElem hl)
  obtain ⟨a1, c1, e1, q1, q2, _, q3⟩ := k1.nums
  have e2 : ll.getD i [] = ll[i] := by simp [List.getD, hi]
  rw [e2] at e1 q1 q3
  exact ⟨a1, c1, by rw [List.getElem?_eq_getElem hl, e1], q1, q2, q3⟩
theorem RdG.below {w w' : World} {B : Nat} {v : Value} {ll : List (List Nat)} (h : RdG w B v ll) (hb : Below B w w') : RdG w' B v ll := by
  obtain ⟨a, c, us, e, h3, h4, h5, h6⟩ := h
  refine ⟨a, c, us, e, h3, h4, h5.below hb, fun i hi => ?_⟩
  obtain ⟨a1, c1, k1, k2, k3, k4⟩ := h6 i hi
  exact ⟨a1, c1, k1, k2, k3, k4.below hb⟩
theorem RdG.more {w : World} {B B' : Nat} {v : Value} {ll : List (List Nat)} (h : RdG w B v ll) (hB : B ≤ B') : RdG w B' v ll := by
  obtain ⟨a, c, us, e, h3, h4, h5, h6⟩ := h
  refine ⟨a, c, us, e, h3, h4, h5.more hB, fun i hi => ?_⟩
  obtain ⟨a1, c1, k1, k2, k3, k4⟩ := h6 i hi
  exact ⟨a1, c1, k1, k2, k3, k4.more hB⟩
end Go.Proofs.Ytlmnmilefggmpaa
