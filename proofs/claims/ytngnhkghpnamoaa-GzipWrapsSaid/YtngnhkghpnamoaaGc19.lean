/- HMore HuffScan -/
import Derived.Test.YtngnhkghpnamoaaHRead
import Derived.Test.YtngnhkghpnamoaaHuffMath
namespace Go.Proofs.Ytngnhkghpnamoaa
open Go.RowKit Bit
set_option linter.unusedVariables false
set_option maxRecDepth 100000

def bools (l : List Bool) : List Value := l.map Value.bool
theorem boolinfo : (Try.prog.info? 4).map (fun i => (i.zero, i.size, i.bytes)) = some (some (.bool false), 1, 1) := by kernel_rfl
/-- The first n bits of the bytes l, from bit p on. -/
def bitsFrom (l : List Nat) (p n : Nat) : List Bool := (List.range n).map fun k => bitOf l (p + k) == 1
theorem bitsFrom_succ (l : List Nat) (p n : Nat) : bitsFrom l p (n + 1) = bitsFrom l p n ++ [bitOf l (p + n) == 1] := by simp [bitsFrom, List.range_succ]
theorem bitsFrom_length (l : List Nat) (p n : Nat) : (bitsFrom l p n).length = n := by simp [bitsFrom]
theorem bitsFrom_get (l : List Nat) (p n k : Nat) (h : k < n) : (bitsFrom l p n)[k]? = some (bitOf l (p + k) == 1) := by simp [bitsFrom, h]
theorem at_any (g : Nat) (a : Option Addr) (c : Nat) (l : List Nat) (p : Nat) (w : World) (h : Rd w g a c l p) :
    Calls Try.prog 77 #[.pointer (some ⟨g, 0, none⟩)] w fun e w' => e = .returned (.int .i64 (p : Int)) ∧ w = w' := by
  have c1 : w.cell? ⟨g, 1, none⟩ = some (.int .i64 (p : Int)) := h.1.cell 1
  clear h
  go_enter Try.func77, Try.ntmps77
  go_wp2_with fail
  go_ret
  exact ⟨rfl, rfl⟩

theorem rbits_short (g : Nat) (a : Option Addr) (c : Nat) (l : List Nat) (p m : Nat) (w : World) (h : Rd w g a c l p) (hl : l.length ≤ 1000000) (hm : m ≤ 32) (hp : p ≤ 8 * l.length) (hs : 8 * l.length - p < m) :
    Calls Try.prog 86 #[.pointer (some ⟨g, 0, none⟩), .int .i64 (m : Int)] w fun e w' => e = .returned (.tuple #[.int .u32 0, .int .i64 2]) ∧ Below w.heap.size w w' := by
  have Hleft := Lib.hid (left_any g a c l p w h hl hp)
  clear h hp
  go_enter Try.func86, Try.ntmps86
  go_wp2_with fail
  refine Hleft.out.mono ?_
  rintro e W ⟨rfl, hb⟩
  have Hb := Lib.hid hb
  clear hb
  go_wp2_with fail
  go_ret2
  exact ⟨rfl, Hb.out⟩

end Go.Proofs.Ytngnhkghpnamoaa

namespace Go.Proofs.Ytngnhkghpnamoaa
namespace Huff

/-- The symbol of length k whose code is v. -/
def hit (l : List Nat) (k v : Nat) : Option Nat := if fst l k ≤ v then (syms l k)[v - fst l k]? else none
theorem hit_some {l : List Nat} {k v s : Nat} : hit l k v = some s ↔ s < l.length ∧ l.getD s 99 = k ∧ fst l k + rank l s = v := by
  unfold hit
  by_cases h : fst l k ≤ v
  · rw [if_pos h, syms_get]
    constructor
    · rintro ⟨h1, h2, h3⟩; exact ⟨h1, h2, by omega⟩
    · rintro ⟨h1, h2, h3⟩; exact ⟨h1, h2, by omega⟩
  · rw [if_neg h]
    constructor
    · intro h2; cases h2
    · rintro ⟨h1, h2, h3⟩; omega
theorem hit_word {l : List Nat} {k v s : Nat} (hk : 0 < k) : hit l k v = some s ↔ s < l.length ∧ wordOf l s = (v, k) := by
  rw [hit_some]
  constructor
  · rintro ⟨h1, h2, h3⟩
    refine ⟨h1, ?_⟩
    unfold wordOf
    rw [if_neg (by omega), h2, h3]
  · rintro ⟨h1, h2⟩
    unfold wordOf at h2
    by_cases h0 : l.getD s 99 = 0
    · rw [if_pos h0] at h2; injection h2 with h3 h4; omega
    · rw [if_neg h0] at h2
      injection h2 with h3 h4
      exact ⟨h1, h4, by rw [← h4]; exact h3⟩
/-- What is read from place p on, when k bits that make v were read, and f more may be. -/
def scan (l : List Nat) (bt : Nat → Nat) (N p : Nat) : Nat → Nat → Nat → Nat × Nat × Nat
  | 0, k, _ => (0, p + k, 3)
  | f + 1, k, v => if N ≤ p + k then (0, p + k, 2) else
    match hit l (k + 1) (2 * v + bt (p + k)) with
    | some s => (s, p + k + 1, 0)
    | none => scan l bt N p f (k + 1) (2 * v + bt (p + k))
theorem scan_at (l : List Nat) (bt : Nat → Nat) (N p : Nat) : ∀ f k v, p + k ≤ N → p + k ≤ (scan l bt N p f k v).2.1 ∧ (scan l bt N p f k v).2.1 ≤ N
  | 0, k, v, h => ⟨Nat.le_refl _, h⟩
  | f + 1, k, v, h => by
    unfold scan
    by_cases h1 : N ≤ p + k
    · rw [if_pos h1]; exact ⟨Nat.le_refl _, h⟩
    · rw [if_neg h1]
      cases hit l (k + 1) (2 * v + bt (p + k)) with
      | some s => exact ⟨by show p + k ≤ p + k + 1; omega, by show p + k + 1 ≤ N; omega⟩
      | none =>
        have := scan_at l bt N p f (k + 1) (2 * v + bt (p + k)) (by omega)
        exact ⟨Nat.le_trans (show p + k ≤ p + (k + 1) by omega) this.1, this.2⟩
theorem scan_short {l : List Nat} {bt : Nat → Nat} {N p f k v : Nat} (h : N ≤ p + k) : scan l bt N p (f + 1) k v = (0, p + k, 2) := by
  show (if N ≤ p + k then _ else _) = _
  rw [if_pos h]
theorem scan_hit {l : List Nat} {bt : Nat → Nat} {N p f k v s : Nat} (h : ¬ N ≤ p + k) (hh : hit l (k + 1) (2 * v + bt (p + k)) = some s) : scan l bt N p (f + 1) k v = (s, p + k + 1, 0) := by
  show (if N ≤ p + k then _ else _) = _
  rw [if_neg h, hh]
theorem scan_miss {l : List Nat} {bt : Nat → Nat} {N p f k v : Nat} (h : ¬ N ≤ p + k) (hh : hit l (k + 1) (2 * v + bt (p + k)) = none) : scan l bt N p (f + 1) k v = scan l bt N p f (k + 1) (2 * v + bt (p + k)) := by
  show (if N ≤ p + k then _ else _) = _
  rw [if_neg h, hh]

theorem nxt_double (l : List Nat) (k : Nat) : ∀ d, 2 ^ d * nxt l k ≤ nxt l (k + d)
  | 0 => by simp
  | d + 1 => by
    have ih := nxt_double l k d
    show 2 ^ (d + 1) * nxt l k ≤ 2 * nxt l (k + d) + (syms l (k + d + 1)).length
    rw [Nat.pow_succ, Nat.mul_comm (2 ^ d) 2, Nat.mul_assoc]
    omega
/-- No word begins with another. -/
theorem hit_prefix {l : List Nat} {s k m V : Nat} (hs : s < l.length) (hw : wordOf l s = (V, m)) (hk : 0 < k) (hkm : k < m) : hit l k (V / 2 ^ (m - k)) = none := by
  have h0 : ¬ l.getD s 99 = 0 := by
    intro h0
    unfold wordOf at hw
    rw [if_pos h0] at hw
    injection hw with _ h2; omega
  unfold wordOf at hw
  rw [if_neg h0] at hw
  injection hw with h1 h2
  rw [h2] at h1
  obtain ⟨j, hj⟩ : ∃ j, m = j + 1 := ⟨m - 1, by omega⟩
  have hf : fst l m = 2 * nxt l j := by unfold fst; rw [hj]; rfl
  have hd := nxt_double l k (j - k)
  rw [show k + (j - k) = j by omega] at hd
  have hpw : 2 ^ (m - k) = 2 * 2 ^ (j - k) := by rw [show m - k = (j - k) + 1 by omega, Nat.pow_succ, Nat.mul_comm]
  have hge : nxt l k ≤ V / 2 ^ (m - k) := by
    rw [Nat.le_div_iff_mul_le (Nat.pow_pos (by omega)), hpw, Nat.mul_comm, Nat.mul_assoc]
    omega
  obtain ⟨i, hi⟩ : ∃ i, k = i + 1 := ⟨k - 1, by omega⟩
  have hn : nxt l k = fst l k + (syms l k).length := by rw [hi]; rfl
  unfold hit
  rw [if_pos (by omega)]
  exact List.getElem?_eq_none (by omega)
/-- What was written is read: the first m bits are those of V. -/
theorem scan_word {l : List Nat} {bt : Nat → Nat} {N p s V m : Nat} (hs : s < l.length) (hw : wordOf l s = (V, m)) (h0 : 0 < m) (hm : m ≤ 15) (hV : V < 2 ^ m) (hN : p + m ≤ N) (hbt : ∀ j, j < m → bt (p + j) = V / 2 ^ (m - 1 - j) % 2) :
    ∀ f k, f + k = 15 → k < m → scan l bt N p f k (V / 2 ^ (m - k)) = (s, p + m, 0)
  | 0, k, h1, h2 => by omega
  | f + 1, k, h1, h2 => by
    have hstep : 2 * (V / 2 ^ (m - k)) + bt (p + k) = V / 2 ^ (m - (k + 1)) := by
      rw [hbt k h2]
      obtain ⟨d, hd⟩ : ∃ d, m - k = d + 1 := ⟨m - k - 1, by omega⟩
      rw [hd, show m - 1 - k = d by omega, show m - (k + 1) = d by omega, Nat.pow_succ, ← Nat.div_div_eq_div_mul]
      omega
    by_cases hkm : k + 1 < m
    · rw [scan_miss (by omega) (by rw [hstep]; exact hit_prefix hs hw (by omega) hkm), hstep]
      exact scan_word hs hw h0 hm hV hN hbt f (k + 1) (by omega) hkm
    · have hk : k + 1 = m := by omega
      have hh : hit l (k + 1) (2 * (V / 2 ^ (m - k)) + bt (p + k)) = some s := by
        rw [hstep, hk, Nat.sub_self, Nat.pow_zero, Nat.div_one, hit_word h0]
        exact ⟨hs, hw⟩
      rw [scan_hit (by omega) hh, Nat.add_assoc, hk]
end Huff
end Go.Proofs.Ytngnhkghpnamoaa
