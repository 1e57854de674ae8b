/- Plain mathematics of the CRC: numbers and lists alone; nothing of the program is imported. -/
namespace Go.Proofs.Ytbldmjmbbjnhdaa.Crc

def stp (n : Nat) : Nat := if n % 2 = 1 then (n / 2) ^^^ 3988292384 else n / 2
def its : Nat → Nat → Nat
  | 0, n => n
  | k + 1, n => stp (its k n)
def ent (c : Nat) : Nat := its 8 c
def nx1 (s c : Nat) : Nat := (s / 256) ^^^ ent ((s % 256) ^^^ c)
def nxt (s : Nat) (b : List Nat) : Nat := b.foldl nx1 s

theorem xor_lt {a b : Nat} (n : Nat) (ha : a < 2 ^ n) (hb : b < 2 ^ n) : a ^^^ b < 2 ^ n := Nat.xor_lt_two_pow ha hb
theorem xor8 {a b : Nat} (ha : a < 256) (hb : b < 256) : a ^^^ b < 256 := Nat.xor_lt_two_pow (n := 8) ha hb
theorem xor32 {a b : Nat} (ha : a < 4294967296) (hb : b < 4294967296) : a ^^^ b < 4294967296 := Nat.xor_lt_two_pow (n := 32) ha hb
theorem stp_lt {n : Nat} (h : n < 4294967296) : stp n < 4294967296 := by
  unfold stp
  split
  · exact xor32 (by omega) (by omega)
  · omega
theorem its_lt {n : Nat} (h : n < 4294967296) : ∀ k, its k n < 4294967296
  | 0 => h
  | k + 1 => stp_lt (its_lt h k)
theorem ent_lt {n : Nat} (h : n < 256) : ent n < 4294967296 := its_lt (by omega) 8
theorem nx1_lt {s c : Nat} (h : s < 4294967296) (hc : c < 256) : nx1 s c < 4294967296 := by
  unfold nx1
  exact xor32 (by omega) (ent_lt (xor8 (by omega) hc))
theorem nxt_lt : ∀ (b : List Nat) (s : Nat), s < 4294967296 → (∀ x ∈ b, x < 256) → nxt s b < 4294967296
  | [], _, h, _ => h
  | c :: b, s, h, hb => nxt_lt b (nx1 s c) (nx1_lt h (hb c (by simp))) (fun x hx => hb x (by simp [hx]))
theorem nxt_snoc (s : Nat) (b : List Nat) (c : Nat) : nxt s (b ++ [c]) = nx1 (nxt s b) c := by
  simp [nxt]
theorem take_snoc {α : Type} (l : List α) (k : Nat) (d : α) (h : k < l.length) : l.take (k + 1) = l.take k ++ [l.getD k d] := by
  rw [List.take_succ_eq_append_getElem h]; simp [h]
end Go.Proofs.Ytbldmjmbbjnhdaa.Crc
