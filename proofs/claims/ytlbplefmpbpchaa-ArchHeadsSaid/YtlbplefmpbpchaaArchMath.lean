/- Layer 13: numbers in bytes, the lowest first: plain mathematics. -/
import Derived.Test.YtlbplefmpbpchaaBs
namespace Go.Proofs.Ytlbplefmpbpchaa
set_option linter.unusedVariables false

def lowV : List Nat → Nat
  | [] => 0
  | b :: l => b + 256 * lowV l
theorem lowV_cons (b : Nat) (l : List Nat) : lowV (b :: l) = b + 256 * lowV l := by conv => lhs; unfold lowV
/-- From the top: the reference's step. -/
theorem lowV_top {l : List Nat} {i k : Nat} (h : i < l.length) : lowV ((l.drop i).take (k + 1)) = l.getD i 0 + 256 * lowV ((l.drop (i + 1)).take k) := by
  rw [drop_head h, List.take_succ_cons, lowV_cons]
theorem lowV_lt : ∀ l : List Nat, (∀ b ∈ l, b < 256) → lowV l < 256 ^ l.length
  | [], _ => by show 0 < 1; decide
  | b :: l, h => by
    have h1 := lowV_lt l (fun x hx => h x (List.mem_cons_of_mem _ hx))
    have h2 := h b (List.mem_cons_self ..)
    rw [lowV_cons, List.length_cons, Nat.pow_succ]
    omega
/-- From below: the program's step. -/
theorem lowV_snoc (l : List Nat) (b : Nat) : lowV (l ++ [b]) = lowV l + b * 256 ^ l.length := by
  induction l with
  | nil => rw [List.nil_append, lowV_cons, List.length_nil, Nat.pow_zero, Nat.mul_one]; unfold lowV; omega
  | cons x l ih =>
    rw [List.cons_append, lowV_cons, lowV_cons, ih, List.length_cons, Nat.pow_succ, Nat.mul_add]
    have : b * (256 ^ l.length * 256) = 256 * (b * 256 ^ l.length) := by rw [← Nat.mul_assoc, Nat.mul_comm]
    omega
theorem pow_256 (i : Nat) : 256 ^ i = 2 ^ (8 * i) := by rw [show (256 : Nat) = 2 ^ 8 from rfl, ← Nat.pow_mul]
theorem or_add {v b i : Nat} (h : v < 256 ^ i) : v ||| (b <<< (8 * i)) = v + b * 256 ^ i := by
  rw [pow_256] at h ⊢
  have h1 := Nat.shiftLeft_add_eq_or_of_lt h b
  rw [Nat.or_comm, ← h1, Nat.shiftLeft_eq]
  omega
/-- A number's n lowest bytes. -/
def lowD (v : Nat) : Nat → List Nat
  | 0 => []
  | n + 1 => v % 256 :: lowD (v / 256) n
theorem lowD_length : ∀ (n v : Nat), (lowD v n).length = n
  | 0, v => rfl
  | n + 1, v => by show (v % 256 :: lowD (v / 256) n).length = n + 1; rw [List.length_cons, lowD_length n]
theorem lowD_snoc : ∀ (n v : Nat), lowD v (n + 1) = lowD v n ++ [v / 256 ^ n % 256]
  | 0, v => by show [v % 256] = [] ++ [v / 256 ^ 0 % 256]; rw [Nat.pow_zero, Nat.div_one]; rfl
  | n + 1, v => by
    show v % 256 :: lowD (v / 256) (n + 1) = (v % 256 :: lowD (v / 256) n) ++ [v / 256 ^ (n + 1) % 256]
    rw [lowD_snoc n (v / 256), List.cons_append, Nat.div_div_eq_div_mul, Nat.pow_succ, Nat.mul_comm 256]
theorem shr_byte (v i : Nat) : v >>> (8 * i) = v / 256 ^ i := by rw [Nat.shiftRight_eq_div_pow, pow_256]
end Go.Proofs.Ytlbplefmpbpchaa
