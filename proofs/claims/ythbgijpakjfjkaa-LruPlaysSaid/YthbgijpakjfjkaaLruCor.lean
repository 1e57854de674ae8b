/- Layer 34: the cache's list and the reference's go hand in hand. -/
import Derived.Test.YthbgijpakjfjkaaLruRef3
namespace Go.Proofs.Ythbgijpakjfjkaa
open Go.RowKit
set_option linter.unusedVariables false

def Cor : List En → List REn → Prop
  | [], [] => True
  | e :: es, r :: rl => e.key = r.key ∧ e.bs = r.bs ∧ Cor es rl
  | _, _ => False
theorem Cor.length : ∀ {es : List En} {rl : List REn}, Cor es rl → es.length = rl.length
  | [], [], _ => rfl
  | e :: es, r :: rl, h => by simp [Cor.length h.2.2]
  | [], _ :: _, h => h.elim
  | _ :: _, [], h => h.elim
theorem Cor.tot : ∀ {es : List En} {rl : List REn}, Cor es rl → tot es = rtot rl
  | [], [], _ => rfl
  | e :: es, r :: rl, h => by
    have := Cor.tot h.2.2
    unfold Go.Proofs.Ythbgijpakjfjkaa.tot rtot at this ⊢
    simp only [List.map_cons, List.sum_cons]
    rw [this]
    unfold En.size
    rw [h.1, h.2.1]
  | [], _ :: _, h => h.elim
  | _ :: _, [], h => h.elim
theorem Cor.dropLast : ∀ {es : List En} {rl : List REn}, Cor es rl → Cor es.dropLast rl.dropLast
  | [], [], _ => trivial
  | [e], [r], _ => trivial
  | e :: e2 :: es, r :: r2 :: rl, h => ⟨h.1, h.2.1, Cor.dropLast (es := e2 :: es) (rl := r2 :: rl) h.2.2⟩
  | [_], _ :: _ :: _, h => h.2.2.elim
  | _ :: _ :: _, [_], h => h.2.2.elim
  | [], _ :: _, h => h.elim
  | _ :: _, [], h => h.elim
theorem Cor.evict (ent sz : Nat) : ∀ (f : Nat) {es : List En} {rl : List REn}, Cor es rl → Cor (evict ent sz f es) (evictR ent sz f rl)
  | 0, _, _, h => h
  | f + 1, es, rl, h => by
    unfold Go.Proofs.Ythbgijpakjfjkaa.evict evictR
    rw [← h.length, ← h.tot]
    split
    · exact Cor.evict ent sz f h.dropLast
    · exact h
theorem Cor.wo (s : ByteArray) : ∀ {es : List En} {rl : List REn}, Cor es rl → Cor (wo es s) (rwo rl s)
  | [], [], _ => trivial
  | e :: es, r :: rl, h => by
    have ih := Cor.wo s h.2.2
    unfold Go.Proofs.Ythbgijpakjfjkaa.wo rwo at ih ⊢
    rw [List.filter_cons, List.filter_cons, h.1]
    split
    · exact ⟨h.1, h.2.1, ih⟩
    · exact ih
  | [], _ :: _, h => h.elim
  | _ :: _, [], h => h.elim
theorem Cor.none (s : ByteArray) : ∀ {es : List En} {rl : List REn}, Cor es rl → fnd es s = none → ∀ r ∈ rl, kb r.key ≠ kb s
  | [], [], _, _, r, hr => by cases hr
  | e :: es, r :: rl, h, hf, q, hq => by
    rw [fnd_cons] at hf
    by_cases h2 : kb e.key = kb s
    · rw [if_pos h2] at hf; cases hf
    · rw [if_neg h2] at hf
      rcases List.mem_cons.1 hq with rfl | hq
      · rw [← h.1]; exact h2
      · exact Cor.none s h.2.2 hf q hq
  | [], _ :: _, h, _, _, _ => h.elim
  | _ :: _, [], h, _, _, _ => h.elim
theorem Cor.split : ∀ {l1 l2 : List En} {x : En} {rl : List REn}, Cor (l1 ++ x :: l2) rl → ∃ r1 r r2, rl = r1 ++ r :: r2 ∧ Cor l1 r1 ∧ x.key = r.key ∧ x.bs = r.bs ∧ Cor l2 r2
  | [], l2, x, r :: rl, h => ⟨[], r, rl, rfl, trivial, h.1, h.2.1, h.2.2⟩
  | e :: l1, l2, x, r :: rl, h => by
    obtain ⟨r1, q, r2, h1, h2, h3⟩ := Cor.split (l1 := l1) h.2.2
    exact ⟨r :: r1, q, r2, by rw [h1]; rfl, ⟨h.1, h.2.1, h2⟩, h3⟩
  | [], _, _, [], h => h.elim
  | _ :: _, _, _, [], h => h.elim
theorem Cor.keys : ∀ {es : List En} {rl : List REn}, Cor es rl → strs es = rl.map fun r => Value.string r.key
  | [], [], _ => rfl
  | e :: es, r :: rl, h => by
    have := Cor.keys h.2.2
    unfold strs at this ⊢
    rw [List.map_cons, List.map_cons, this, h.1]
  | [], _ :: _, h => h.elim
  | _ :: _, [], h => h.elim
theorem Cor.cons {es : List En} {rl : List REn} (h : Cor es rl) {e : En} {r : REn} (h1 : e.key = r.key) (h2 : e.bs = r.bs) : Cor (e :: es) (r :: rl) := ⟨h1, h2, h⟩
end Go.Proofs.Ythbgijpakjfjkaa
