/- BitsMath -/
import Derived.Test.YtngnhkghpnamoaaPar4
import Derived.Test.YtngnhkghpnamoaaBitBools
namespace Go.Proofs.Ytngnhkghpnamoaa
open Huff Bit
set_option linter.unusedVariables false

def wordL (i : Nat) : List Bool := turnL (fixW i).1 (fixW i).2 (fixW i).2
/-- What is put of a match, as bits. -/
def emitL (L : List Bool) (x : Nat × Nat) : List Bool := if x.1 = 0 then L ++ wordL x.2 else
  (((L ++ wordL (symE x.1).1) ++ lowL (symE x.1).2.1 (symE x.1).2.2) ++ turnL (farE x.2).1 5 5) ++ lowL (farE x.2).2.1 (farE x.2).2.2
def numL (L : List Bool) : Nat × Nat := (num L, L.length)
theorem numL_turn (L : List Bool) (V m : Nat) : numL (L ++ turnL V m m) = addT (numL L) V m := by
  unfold numL addT
  rw [num_append, num_turn, List.length_append, turnL_length]
theorem numL_low (L : List Bool) (V m : Nat) : numL (L ++ lowL V m) = addB (numL L) V m := by
  unfold numL addB
  rw [num_append, num_low, List.length_append, lowL_length]
theorem numL_word (L : List Bool) (i : Nat) : numL (L ++ wordL i) = addW1 (numL L) i := numL_turn L _ _
theorem numL_emit (L : List Bool) (x : Nat × Nat) : numL (emitL L x) = emit (numL L) x := by
  unfold emitL emit
  by_cases h : x.1 = 0
  · rw [if_pos h, if_pos h, numL_word]
  · rw [if_neg h, if_neg h, numL_low, numL_turn, numL_low, numL_word]
def bitsE (l : List Mt) : List Bool := l.foldl (fun L x => emitL L x.1) [true, true, false]
theorem bitsE_snoc (l : List Mt) (x : Mt) : bitsE (l ++ [x]) = emitL (bitsE l) x.1 := by simp [bitsE]
theorem numL_bits (l : List Mt) : numL (bitsE l) = accE l := by
  have : ∀ (l : List Mt) (L : List Bool), numL (l.foldl (fun L x => emitL L x.1) L) = l.foldl (fun a x => emit a x.1) (numL L) := by
    intro l
    induction l with
    | nil => intro L; rfl
    | cons x l ih => intro L; simp only [List.foldl_cons]; rw [ih, numL_emit]
  exact this l [true, true, false]
/-- The bytes of them all. -/
theorem bits_bytes {l : List Nat} (hb : Bytes255 l) : bytesOf (num (bitsE (parseE hb) ++ wordL 256)) (bitsE (parseE hb) ++ wordL 256).length = bytesOf (fixedE hb).1 (fixedE hb).2 := by
  have h := numL_word (bitsE (parseE hb)) 256
  rw [numL_bits] at h
  show bytesOf (numL (bitsE (parseE hb) ++ wordL 256)).1 (numL (bitsE (parseE hb) ++ wordL 256)).2 = _
  rw [h]; rfl
/-- Where all words are five bits long, they are the symbols themselves. -/
theorem five_syms (k : Nat) : ∀ n, n ≤ 32 → (symsTo (List.replicate 32 5) k n).length = if k = 5 then n else 0
  | 0, _ => by split <;> rfl
  | n + 1, hn => by
    have ih := five_syms k n (by omega)
    show (symsTo (List.replicate 32 5) k n ++ _).length = _
    have hg : (List.replicate 32 5).getD n 99 = 5 := by rw [List.getD_eq_getElem?_getD, List.getElem?_replicate, if_pos (by omega)]; rfl
    rw [List.length_append, ih, hg]
    by_cases h : k = 5
    · subst h; simp
    · rw [if_neg h, if_neg (fun q => h q.symm), if_neg h]; rfl
theorem five_word {t : Nat} (h : t < 32) : wordOf (List.replicate 32 5) t = (t, 5) := by
  have hg : (List.replicate 32 5).getD t 99 = 5 := by rw [List.getD_eq_getElem?_getD, List.getElem?_replicate, if_pos h]; rfl
  have hs : ∀ k, (syms (List.replicate 32 5) k).length = if k = 5 then 32 else 0 := fun k => by unfold syms; rw [List.length_replicate]; exact five_syms k 32 (Nat.le_refl _)
  have hn : ∀ k, k ≤ 4 → nxt (List.replicate 32 5) k = 0 := by
    intro k
    induction k with
    | zero => intro _; rfl
    | succ k ih => intro hk; show 2 * nxt _ k + (syms _ (k + 1)).length = 0; rw [ih (by omega), hs, if_neg (by omega)]
  have hr : rank (List.replicate 32 5) t = t := by unfold rank; rw [hg, five_syms 5 t (by omega), if_pos rfl]
  unfold wordOf
  rw [hr, hg, if_neg (by decide)]
  show (2 * nxt _ 4 + t, 5) = _
  rw [hn 4 (by omega)]; simp
end Go.Proofs.Ytngnhkghpnamoaa
