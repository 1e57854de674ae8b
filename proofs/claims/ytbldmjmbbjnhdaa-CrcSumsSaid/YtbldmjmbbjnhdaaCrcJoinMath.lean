/- Plain mathematics of joining checksums. -/
import Derived.Test.YtbldmjmbbjnhdaaCrcMath
namespace Go.Proofs.Ytbldmjmbbjnhdaa.Crc

def jn (a : Nat) : Nat → Nat
  | 0 => a
  | k + 1 => let s := jn a k; (s / 256) ^^^ its 8 (s % 256)
def crcOf (l : List Nat) : Nat := 4294967295 - nxt 4294967295 l
theorem crcOf_lt (l : List Nat) : crcOf l < 4294967296 := by unfold crcOf; omega

theorem jn_lt {a : Nat} (h : a < 4294967296) : ∀ k, jn a k < 4294967296
  | 0 => h
  | k + 1 => by
    have := jn_lt h k
    exact xor32 (by omega) (its_lt (by omega) 8)

theorem div_xor (a b : Nat) (n : Nat) : (a ^^^ b) / 2 ^ n = (a / 2 ^ n) ^^^ (b / 2 ^ n) := Nat.xor_div_two_pow
theorem mod_xor (a b : Nat) (n : Nat) : (a ^^^ b) % 2 ^ n = (a % 2 ^ n) ^^^ (b % 2 ^ n) := Nat.xor_mod_two_pow

theorem xor_ac (a b c d : Nat) : (a ^^^ b) ^^^ (c ^^^ d) = (a ^^^ c) ^^^ (b ^^^ d) := by
  simp only [Nat.xor_assoc]; rw [← Nat.xor_assoc b c d, Nat.xor_comm b c, Nat.xor_assoc c b d]

theorem stp_xor (a b : Nat) : stp (a ^^^ b) = stp a ^^^ stp b := by
  have h1 : (a ^^^ b) / 2 = (a / 2) ^^^ (b / 2) := by simpa using div_xor a b 1
  have h2 : (a ^^^ b) % 2 = (a % 2) ^^^ (b % 2) := by simpa using mod_xor a b 1
  unfold stp
  rw [h1, h2]
  generalize a / 2 = x
  generalize b / 2 = y
  have ha : a % 2 = 0 ∨ a % 2 = 1 := by omega
  have hb : b % 2 = 0 ∨ b % 2 = 1 := by omega
  rcases ha with ha | ha <;> rcases hb with hb | hb <;> rw [ha, hb]
  · rfl
  · simp [Nat.xor_assoc]
  · simp only [Nat.xor_zero, if_true]
    rw [if_neg (by omega), Nat.xor_assoc, Nat.xor_comm y, ← Nat.xor_assoc]
  · rw [if_neg (by decide), if_pos rfl, if_pos rfl, xor_ac, Nat.xor_self, Nat.xor_zero]

theorem its_xor (a b : Nat) : ∀ k, its k (a ^^^ b) = its k a ^^^ its k b
  | 0 => rfl
  | k + 1 => by simp only [its]; rw [its_xor a b k, stp_xor]

theorem nx1_xor (s t c d : Nat) : nx1 (s ^^^ t) (c ^^^ d) = nx1 s c ^^^ nx1 t d := by
  have h1 : (s ^^^ t) / 256 = (s / 256) ^^^ (t / 256) := by simpa using div_xor s t 8
  have h2 : (s ^^^ t) % 256 = (s % 256) ^^^ (t % 256) := by simpa using mod_xor s t 8
  unfold nx1 ent
  rw [h1, h2, xor_ac (s % 256), its_xor, xor_ac]

theorem snoc_ind {α : Type} {P : List α → Prop} (h0 : P []) (h1 : ∀ l c, P l → P (l ++ [c])) (l : List α) : P l := by
  have h : ∀ m : List α, P m.reverse := by
    intro m
    induction m with
    | nil => exact h0
    | cons c m ih => rw [List.reverse_cons]; exact h1 _ _ ih
  have := h l.reverse
  rwa [List.reverse_reverse] at this

/-- A state that went on over bytes is the state that went on over zeros, joined to what nothing would have become over the bytes. -/
theorem nxt_split : ∀ (l : List Nat) (s t : Nat), nxt (s ^^^ t) l = jn s l.length ^^^ nxt t l := by
  intro l
  refine snoc_ind (P := fun l => ∀ (s t : Nat), nxt (s ^^^ t) l = jn s l.length ^^^ nxt t l) ?_ ?_ l
  · intro s t; rfl
  · intro l c ih s t
    rw [nxt_snoc, nxt_snoc, ih, List.length_append, List.length_singleton]
    have := nx1_xor (jn s l.length) (nxt t l) 0 c
    rw [Nat.zero_xor] at this
    rw [this]
    simp [jn, nx1, ent]

theorem flip_ (n : Nat) (h : n < 4294967296) : 4294967295 - n = 4294967295 ^^^ n := by
  have h1 : (BitVec.allOnes 32 ^^^ BitVec.ofNat 32 n).toNat = 4294967295 - n := by
    rw [BitVec.allOnes_xor, BitVec.toNat_not, BitVec.toNat_ofNat, Nat.mod_eq_of_lt h]
  rw [BitVec.toNat_xor, BitVec.toNat_allOnes, BitVec.toNat_ofNat, Nat.mod_eq_of_lt h] at h1
  exact h1.symm

theorem join_eq (a b : List Nat) (ha : ∀ x ∈ a, x < 256) (hb : ∀ x ∈ b, x < 256) : jn (crcOf a) b.length ^^^ crcOf b = crcOf (a ++ b) := by
  have h1 := nxt_lt a 4294967295 (by omega) ha
  have h2 := nxt_lt b 4294967295 (by omega) hb
  have h3 := nxt_lt (a ++ b) 4294967295 (by omega) (fun x hx => by rcases List.mem_append.1 hx with h | h; exact ha x h; exact hb x h)
  unfold crcOf
  rw [flip_ _ h1, flip_ _ h2, flip_ _ h3]
  have e : nxt 4294967295 (a ++ b) = nxt (nxt 4294967295 a) b := by simp [nxt, List.foldl_append]
  rw [e]
  generalize nxt 4294967295 a = s
  have := nxt_split b (4294967295 ^^^ s) 4294967295
  rw [Nat.xor_comm (4294967295 ^^^ s), ← Nat.xor_assoc, Nat.xor_self, Nat.zero_xor] at this
  rw [this, ← Nat.xor_assoc, ← Nat.xor_assoc, Nat.xor_comm (jn _ _) 4294967295]
end Go.Proofs.Ytbldmjmbbjnhdaa.Crc
