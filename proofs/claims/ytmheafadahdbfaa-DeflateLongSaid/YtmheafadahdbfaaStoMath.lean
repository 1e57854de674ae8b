/- Layer 5: bytes that are written whole: plain mathematics. -/
import Derived.Test.YtmheafadahdbfaaBitMath
namespace Go.Proofs.Ytmheafadahdbfaa
open Bit

/-- The bytes as one number, the first the least. -/
def numB : List Nat → Nat
  | [] => 0
  | b :: r => b + 256 * numB r
theorem numB_snoc : ∀ (l : List Nat) (b : Nat), numB (l ++ [b]) = numB l + b * 2 ^ (8 * l.length)
  | [], b => by simp [numB]
  | x :: l, b => by
    show x + 256 * numB (l ++ [b]) = x + 256 * numB l + b * 2 ^ (8 * (l.length + 1))
    rw [numB_snoc l b, Nat.mul_add, Nat.mul_add, Nat.pow_add, Nat.add_assoc]
    congr 2
    rw [show (2 : Nat) ^ (8 * 1) = 256 by rfl, ← Nat.mul_assoc, Nat.mul_comm 256 b, Nat.mul_assoc, Nat.mul_comm 256]
theorem numB_lt : ∀ (l : List Nat), (∀ x ∈ l, x < 256) → numB l < 2 ^ (8 * l.length)
  | [], _ => by simp [numB]
  | x :: l, h => by
    have h1 := numB_lt l (fun y hy => h y (List.mem_cons_of_mem _ hy))
    have h2 := h x (List.mem_cons_self ..)
    show x + 256 * numB l < 2 ^ (8 * (l.length + 1))
    rw [show 8 * (l.length + 1) = 8 * l.length + 8 by omega, Nat.pow_add, show (2 : Nat) ^ 8 = 256 by rfl]
    omega
theorem numB_get : ∀ (l : List Nat), (∀ x ∈ l, x < 256) → ∀ i, (h : i < l.length) → numB l / 256 ^ i % 256 = l[i]
  | [], _, i, h => by simp at h
  | x :: l, hx, 0, h => by
    have h2 := hx x (List.mem_cons_self ..)
    show (x + 256 * numB l) / 256 ^ 0 % 256 = x
    simp; omega
  | x :: l, hx, i + 1, h => by
    have h2 := hx x (List.mem_cons_self ..)
    have ih := numB_get l (fun y hy => hx y (List.mem_cons_of_mem _ hy)) i (by simpa using h)
    show (x + 256 * numB l) / 256 ^ (i + 1) % 256 = l[i]'(by simpa using h)
    rw [Nat.pow_succ, Nat.mul_comm (256 ^ i) 256, ← Nat.div_div_eq_div_mul, show (x + 256 * numB l) / 256 = numB l by omega]
    exact ih
theorem numB_bytes (l : List Nat) (h : ∀ x ∈ l, x < 256) : bytesOf (numB l) (8 * l.length) = l := by
  unfold bytesOf
  rw [show (8 * l.length + 7) / 8 = l.length by omega]
  apply List.ext_getElem
  · rw [bytesTo_length]
  · intro i h1 h2
    have := bytesTo_get (numB l) l.length i h2
    rw [List.getElem?_eq_getElem h1] at this
    injection this with this
    rw [this, numB_get l h i h2]
/-- A byte more; two bytes more; the three bits ahead of a block, and the padding. -/
theorem numB_byte (l : List Nat) (V : Nat) : numB l + V % 2 ^ 8 * 2 ^ (8 * l.length) = numB (l ++ [V % 256]) := by rw [numB_snoc]
theorem numB_word (l : List Nat) (V : Nat) : numB l + V % 2 ^ 16 * 2 ^ (8 * l.length) = numB (l ++ [V % 256, V / 256 % 256]) := by
  have : l ++ [V % 256, V / 256 % 256] = (l ++ [V % 256]) ++ [V / 256 % 256] := by simp
  rw [this, numB_snoc, numB_snoc, Nat.add_assoc]
  congr 1
  rw [List.length_append, show ([V % 256] : List Nat).length = 1 by rfl, show 8 * (l.length + 1) = 8 + 8 * l.length by omega, Nat.pow_add, ← Nat.mul_assoc, ← Nat.add_mul]
  congr 1
  rw [show (2 : Nat) ^ 16 = 65536 by rfl, show (2 : Nat) ^ 8 = 256 by rfl]
  omega
theorem numB_head (l : List Nat) (V : Nat) (h : V < 8) : numB l + V % 2 ^ 3 * 2 ^ (8 * l.length) = numB (l ++ [V]) := by rw [numB_snoc, show V % 2 ^ 3 = V from Nat.mod_eq_of_lt h]
/-- A block that is stored. -/
def blockB (last : Nat) (l : List Nat) : List Nat := [last, l.length % 256, l.length / 256, 255 - l.length % 256, 255 - l.length / 256] ++ l
theorem comp_word {L : Nat} (h : L ≤ 65535) : (4294967295 - L) % 256 = 255 - L % 256 ∧ (4294967295 - L) / 256 % 256 = 255 - L / 256 := by omega
/-- All blocks: f is enough. -/
def storedE : Nat → List Nat → List Nat
  | 0, l => blockB 1 l
  | f + 1, l => if 65535 < l.length then blockB 0 (l.take 65535) ++ storedE f (l.drop 65535) else blockB 1 l
end Go.Proofs.Ytmheafadahdbfaa
