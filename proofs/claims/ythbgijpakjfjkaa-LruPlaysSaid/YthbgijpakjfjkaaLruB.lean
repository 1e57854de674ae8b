/- Layer 34: what is got is what was put last; the bounds. -/
import Derived.Test.YthbgijpakjfjkaaLruActs
import Derived.Test.YthbgijpakjfjkaaStr
namespace Go.Proofs.Ythbgijpakjfjkaa
open Go.RowKit
set_option linter.unusedVariables false
set_option maxRecDepth 100000

/-- s was put last with t. -/
def Said (L : List (ByteArray × ByteArray)) (s t : ByteArray) : Prop := ∃ j, ∃ (hj : j < L.length), kb (L[j]'hj).1 = kb s ∧ (L[j]'hj).2 = t ∧ ∀ i (hi : i < L.length), j < i → kb (L[i]'hi).1 ≠ kb s
def Inv (es : List En) (L : List (ByteArray × ByteArray)) : Prop := ∀ s x, fnd es s = some x → Said L s (strOf x.bs)
theorem Said.last (L : List (ByteArray × ByteArray)) (s k t : ByteArray) (h : kb k = kb s) : Said (L ++ [(k, t)]) s t := by
  refine ⟨L.length, by simp, by simpa using h, by simp, fun i hi hj => ?_⟩
  simp at hi
  omega
theorem Said.more {L : List (ByteArray × ByteArray)} {s t : ByteArray} (h : Said L s t) (k u : ByteArray) (hk : kb k ≠ kb s) : Said (L ++ [(k, u)]) s t := by
  obtain ⟨j, hj, h1, h2, h3⟩ := h
  refine ⟨j, by simp; omega, by rw [List.getElem_append_left hj]; exact h1, by rw [List.getElem_append_left hj]; exact h2, fun i hi hji => ?_⟩
  by_cases e : i < L.length
  · rw [List.getElem_append_left e]
    exact h3 i e hji
  · have : i = L.length := by simp at hi; omega
    subst this
    simpa using hk
theorem fnd_pre {es es' : List En} (h : es' <+: es) {s : ByteArray} {x : En} (hx : fnd es' s = some x) : fnd es s = some x := by
  obtain ⟨r, rfl⟩ := h
  unfold fnd at hx ⊢
  rw [List.find?_append, hx]
  rfl
theorem evict_pre (ent sz : Nat) : ∀ (f : Nat) (es : List En), evict ent sz f es <+: es
  | 0, es => List.prefix_refl _
  | f + 1, es => by
    unfold evict
    split
    · exact (evict_pre ent sz f _).trans (List.dropLast_prefix _)
    · exact List.prefix_refl _
theorem evict_ok (ent sz : Nat) : ∀ (f : Nat) (es : List En), es.length ≤ f → (evict ent sz f es).length ≤ ent ∧ tot (evict ent sz f es) ≤ sz
  | 0, es, h => by
    have : es = [] := List.eq_nil_of_length_eq_zero (by omega)
    subst this
    exact ⟨Nat.zero_le _, Nat.zero_le _⟩
  | f + 1, es, h => by
    unfold evict
    split
    · exact evict_ok ent sz f _ (by rw [List.length_dropLast]; omega)
    · omega
theorem tot_pre {es es' : List En} (h : es' <+: es) : tot es' ≤ tot es := by
  obtain ⟨r, rfl⟩ := h
  unfold tot
  rw [List.map_append, List.sum_append]
  omega
theorem fnd_wo {es : List En} {k s : ByteArray} {y : En} (hk : kb k ≠ kb s) (h : fnd (wo es k) s = some y) : fnd es s = some y := by
  induction es with
  | nil => exact h
  | cons e es ih =>
    unfold wo at h ih
    rw [List.filter_cons] at h
    rw [fnd_cons]
    by_cases e1 : kb e.key = kb s
    · rw [if_pos e1]
      have e2 : kb e.key ≠ kb k := fun e3 => hk (by rw [← e3, e1])
      rw [if_pos (by simpa using e2), fnd_cons, if_pos e1] at h
      exact h
    · rw [if_neg e1]
      split at h
      · rw [fnd_cons, if_neg e1] at h
        exact ih h
      · exact ih h
theorem Inv.put {es : List En} {L : List (ByteArray × ByteArray)} (h : Inv es L) {x : En} {k : ByteArray} {bs : List Nat} (hk : x.key = k) (hb : x.bs = bs) (ent sz f : Nat) : Inv (evict ent sz f (x :: wo es k)) (L ++ [(k, strOf bs)]) := by
  intro s y hy
  have h1 := fnd_pre (evict_pre ent sz f _) hy
  rw [fnd_cons, hk] at h1
  by_cases e : kb k = kb s
  · rw [if_pos e] at h1
    injection h1 with h1
    subst h1
    rw [hb]
    exact Said.last L s k _ e
  · rw [if_neg e] at h1
    exact (h s y (fnd_wo e h1)).more k _ e
theorem Inv.get {l1 l2 : List En} {x : En} {L : List (ByteArray × ByteArray)} (h : Inv (l1 ++ x :: l2) L) (hK : (keysOf (l1 ++ x :: l2)).Nodup) : Inv (x :: (l1 ++ l2)) L := by
  intro s y hy
  rw [fnd_move l1 l2 x s hK] at hy
  exact h s y hy
theorem tot_move (l1 l2 : List En) (x : En) : tot (x :: (l1 ++ l2)) = tot (l1 ++ x :: l2) := by rw [tot_mid]; unfold tot; simp; omega
theorem len_move (l1 l2 : List En) (x : En) : (x :: (l1 ++ l2)).length = (l1 ++ x :: l2).length := by simp; omega
/-- What is written of it in memory. -/
def flat (L : List (ByteArray × ByteArray)) : List Value := L.flatMap fun p => [Value.string p.1, Value.string p.2]
theorem flat_append (L : List (ByteArray × ByteArray)) (k t : ByteArray) : flat L ++ [Value.string k, Value.string t] = flat (L ++ [(k, t)]) := by simp [flat]
theorem flat_length (L : List (ByteArray × ByteArray)) : (flat L).length = 2 * L.length := by
  induction L with
  | nil => rfl
  | cons p L ih => unfold flat at ih ⊢; rw [List.flatMap_cons, List.length_append, ih]; simp; omega
theorem flat_at : ∀ (L : List (ByteArray × ByteArray)) (j : Nat) (hj : j < L.length), (flat L)[2 * j]? = some (.string (L[j]'hj).1) ∧ (flat L)[2 * j + 1]? = some (.string (L[j]'hj).2)
  | p :: L, 0, _ => ⟨rfl, rfl⟩
  | p :: L, j + 1, hj => by
    have := flat_at L j (by simpa using hj)
    have e : flat (p :: L) = Value.string p.1 :: Value.string p.2 :: flat L := rfl
    rw [e, show 2 * (j + 1) = 2 * j + 1 + 1 by omega]
    simpa using this
theorem Vals.flat_at {w : World} {B n : Nat} {a : Option Addr} {L : List (ByteArray × ByteArray)} (h : Vals w B 1 a n (flat L)) (hL : 0 < L.length) : ∃ b off, a = some ⟨b, off, none⟩ ∧ ∀ j (hj : j < L.length), w.cell? ⟨b, off + 2 * j, none⟩ = some (.string (L[j]'hj).1) ∧ w.cell? ⟨b, off + (2 * j + 1), none⟩ = some (.string (L[j]'hj).2) := by
  obtain ⟨b, off, e, _, hc⟩ := h.2 (by rw [flat_length]; omega)
  refine ⟨b, off, e, fun j hj => ⟨?_, ?_⟩⟩
  · rw [hc (2 * j) (by rw [flat_length]; omega)]
    exact (Go.Proofs.Ythbgijpakjfjkaa.flat_at L j hj).1
  · rw [hc (2 * j + 1) (by rw [flat_length]; omega)]
    exact (Go.Proofs.Ythbgijpakjfjkaa.flat_at L j hj).2
theorem key_eq {s t : ByteArray} (h : kb s = kb t) : s = t := by
  apply Go.WideShapes.bytes_inj
  exact h
/-- A block of strings turns: the cache stands. -/
theorem Lru.strs {w w' : World} {base g ent sz h m : Nat} {es : List En} (H : Lru w base g ent sz h m es) {S : Nat → Prop} (ho : Only S w w') (hS : ∀ b, S b → ∃ cs f, w.heap[b]? = some (.cells cs 9 f)) : Lru w' base g ent sz h m es := by
  obtain ⟨mark, mp, n, D, hs, r⟩ := H.ex
  have hnode : ∀ b ∈ (mark :: blks es), ¬ S b := fun b hb e => by
    obtain ⟨cs, f, h1⟩ := hS b e
    obtain ⟨⟨cs', h2, _⟩, _⟩ := hs.nds b hb
    exact absurd (cells_inj h1 h2) (by decide)
  have hg : ¬ S g := fun e => by
    obtain ⟨cs, f, h1⟩ := hS g e
    exact absurd (cells_inj h1 hs.cache) (by decide)
  have hm : ¬ S mp := fun e => by
    obtain ⟨cs, f, h1⟩ := hS mp e
    exact map_cells hs.map h1
  have hcell : ∀ b ∈ (mark :: blks es), ∀ i, w'.cell? ⟨b, i, none⟩ = w.cell? ⟨b, i, none⟩ := fun b hb i => World.cell?_of_block (w := w) (ho.block b (hs.nds b hb).1.lt (hnode b hb))
  refine ⟨mark, mp, n, D, ⟨hs.cache.only ho hg, ownsMap_only hs.map ho hm, ?_, fun b hb => ⟨(hs.nds b hb).1.block (ho.block b (hs.nds b hb).1.lt (hnode b hb)), (hs.nds b hb).2⟩, fun e he => ⟨⟨(hcell _ (hs.dat e he).2 0).trans (hs.dat e he).1.key, (hcell _ (hs.dat e he).2 1).trans (hs.dat e he).1.val, ?_, (hs.dat e he).1.lt⟩, (hs.dat e he).2⟩, hs.lo, hs.rin⟩, r⟩
  · have go : ∀ l : List Nat, (∀ b ∈ l, b ∈ mark :: blks es) → Ch w l → Ch w' l := by
      intro l
      induction l with
      | nil => intro _ _; trivial
      | cons p l ih =>
        cases l with
        | nil => intro _ _; trivial
        | cons q r =>
          intro hm hh
          exact ⟨⟨(hcell p (hm p (by simp)) 3).trans hh.1.1, (hcell q (hm q (by simp)) 2).trans hh.1.2⟩, ih (fun b hb => hm b (List.mem_cons_of_mem _ hb)) hh.2⟩
    exact go _ hs.rin hs.ch
  · refine (hs.dat e he).1.own.only ho (fun b hb e2 => ?_)
    obtain ⟨cs1, h1⟩ := own8_type (hs.dat e he).1.own hb
    obtain ⟨cs, f, h2⟩ := hS b e2
    exact absurd (cells_inj h1 h2) (by decide)
theorem Lru.below {w w' : World} {base g ent sz h m : Nat} {es : List En} (H : Lru w base g ent sz h m es) (hb : Below w.heap.size w w') : Lru w' base g ent sz h m es := by
  obtain ⟨mark, mp, n, D, hs, r⟩ := H.ex
  exact ⟨mark, mp, n, D, hs.below hb, r⟩
theorem own_str_type {w : World} {base n : Nat} {v : Value} {xs : List Value} (h : w.ownsRow base 9 1 v n xs) {b : Nat} (hb : v.ownBlock = some b) : ∃ cs f, w.heap[b]? = some (.cells cs 9 f) := by
  obtain ⟨_, (⟨rfl, _⟩ | ⟨k, cap, cur, rfl, _, hh, _⟩)⟩ := h
  · cases hb
  · injection hb with hb
    subst hb
    exact ⟨cur, _, hh⟩
theorem own_ls {w w' : World} {b0 base n : Nat} {v : Value} {xs : List Value} (h : w.ownsRow b0 9 1 v n xs) (ho : Only (LS base w) w w') : w'.ownsRow b0 9 1 v n xs := by
  refine own_only h ho (fun b hb hl => ?_)
  obtain ⟨cs, f, h1⟩ := own_str_type h hb
  rcases hl.2 with ⟨es, cl, h2⟩ | ⟨cs', t, f', h2, ht⟩
  · rw [h1] at h2; injection h2 with h2; cases h2
  · have e := cells_inj h1 h2
    rcases ht with rfl | rfl
    · exact absurd e (by decide)
    · exact absurd e (by decide)
end Go.Proofs.Ythbgijpakjfjkaa
