/- Sto1 -/
import Derived.Test.YtngnhkghpnamoaaPar3
import Derived.Test.YtngnhkghpnamoaaBitMath
namespace Go.Proofs.Ytngnhkghpnamoaa
open Bit

/-- The bytes as one number, the first the least. -/
def numB : List Nat → Nat
  | [] => 0
  | b :: r => b + 256 * numB r
theorem numB_snoc : ∀ (l : List Nat) (b : Nat), numB (l ++ [b]) = numB l + b * 2 ^ (8 * l.length)
  | [], b => by simp [numB]
  | x :: l, b => by
    show x + 256 * numB (l ++ [b]) = x + 256 * numB l + b * 2 ^ (8 * (l.length + 1))
    rw [numB_snoc l b, Nat.mul_add, Nat.mul_add, Nat.pow_add, Nat.add_assoc]
    congr 2
    rw [show (2 : Nat) ^ (8 * 1) = 256 by rfl, ← Nat.mul_assoc, Nat.mul_comm 256 b, Nat.mul_assoc, Nat.mul_comm 256]
theorem numB_lt : ∀ (l : List Nat), (∀ x ∈ l, x < 256) → numB l < 2 ^ (8 * l.length)
  | [], _ => by simp [numB]
  | x :: l, h => by
    have h1 := numB_lt l (fun y hy => h y (List.mem_cons_of_mem _ hy))
    have h2 := h x (List.mem_cons_self ..)
    show x + 256 * numB l < 2 ^ (8 * (l.length + 1))
    rw [show 8 * (l.length + 1) = 8 * l.length + 8 by omega, Nat.pow_add, show (2 : Nat) ^ 8 = 256 by rfl]
    omega
theorem numB_get : ∀ (l : List Nat), (∀ x ∈ l, x < 256) → ∀ i, (h : i < l.length) → numB l / 256 ^ i % 256 = l[i]
  | [], _, i, h => by simp at h
  | x :: l, hx, 0, h => by
    have h2 := hx x (List.mem_cons_self ..)
    show (x + 256 * numB l) / 256 ^ 0 % 256 = x
    simp; omega
  | x :: l, hx, i + 1, h => by
    have h2 := hx x (List.mem_cons_self ..)
    have ih := numB_get l (fun y hy => hx y (List.mem_cons_of_mem _ hy)) i (by simpa using h)
    show (x + 256 * numB l) / 256 ^ (i + 1) % 256 = l[i]'(by simpa using h)
    rw [Nat.pow_succ, Nat.mul_comm (256 ^ i) 256, ← Nat.div_div_eq_div_mul, show (x + 256 * numB l) / 256 = numB l by omega]
    exact ih
theorem numB_bytes (l : List Nat) (h : ∀ x ∈ l, x < 256) : bytesOf (numB l) (8 * l.length) = l := by
  unfold bytesOf
  rw [show (8 * l.length + 7) / 8 = l.length by omega]
  apply List.ext_getElem
  · rw [bytesTo_length]
  · intro i h1 h2
    have := bytesTo_get (numB l) l.length i h2
    rw [List.getElem?_eq_getElem h1] at this
    injection this with this
    rw [this, numB_get l h i h2]
/-- A byte more; two bytes more; the three bits ahead of a block, and the padding. -/
theorem numB_byte (l : List Nat) (V : Nat) : numB l + V % 2 ^ 8 * 2 ^ (8 * l.length) = numB (l ++ [V % 256]) := by rw [numB_snoc]
theorem numB_word (l : List Nat) (V : Nat) : numB l + V % 2 ^ 16 * 2 ^ (8 * l.length) = numB (l ++ [V % 256, V / 256 % 256]) := by
  have : l ++ [V % 256, V / 256 % 256] = (l ++ [V % 256]) ++ [V / 256 % 256] := by simp
  rw [this, numB_snoc, numB_snoc, Nat.add_assoc]
  congr 1
  rw [List.length_append, show ([V % 256] : List Nat).length = 1 by rfl, show 8 * (l.length + 1) = 8 + 8 * l.length by omega, Nat.pow_add, ← Nat.mul_assoc, ← Nat.add_mul]
  congr 1
  rw [show (2 : Nat) ^ 16 = 65536 by rfl, show (2 : Nat) ^ 8 = 256 by rfl]
  omega
theorem numB_head (l : List Nat) (V : Nat) (h : V < 8) : numB l + V % 2 ^ 3 * 2 ^ (8 * l.length) = numB (l ++ [V]) := by rw [numB_snoc, show V % 2 ^ 3 = V from Nat.mod_eq_of_lt h]
/-- A block that is stored. -/
def blockB (last : Nat) (l : List Nat) : List Nat := [last, l.length % 256, l.length / 256, 255 - l.length % 256, 255 - l.length / 256] ++ l
theorem comp_word {L : Nat} (h : L ≤ 65535) : (4294967295 - L) % 256 = 255 - L % 256 ∧ (4294967295 - L) / 256 % 256 = 255 - L / 256 := by omega
/-- All blocks: f is enough. -/
def storedE : Nat → List Nat → List Nat
  | 0, l => blockB 1 l
  | f + 1, l => if 65535 < l.length then blockB 0 (l.take 65535) ++ storedE f (l.drop 65535) else blockB 1 l
end Go.Proofs.Ytngnhkghpnamoaa

namespace Go.Proofs.Ytngnhkghpnamoaa
open Go.RowKit Go.Shelf Huff Bit
set_option linter.unusedVariables false
set_option maxRecDepth 100000

theorem not32 {L : Nat} (h : L < 4294967296) : 4294967295 ^^^ L = 4294967295 - L := by
  apply Nat.eq_of_testBit_eq
  intro i
  rw [Nat.testBit_xor, show (4294967295 : Nat) = 2 ^ 32 - 1 by rfl, Nat.testBit_two_pow_sub_one]
  have h2 : 2 ^ 32 - 1 - L = 2 ^ 32 - (L + 1) := by omega
  rw [h2, Nat.testBit_two_pow_sub_succ h]
  by_cases hi : i < 32
  · simp [hi]
  · have : L.testBit i = false := Nat.testBit_lt_two_pow (Nat.lt_of_lt_of_le h (Nat.pow_le_pow_right (n := 2) (by omega) (show 32 ≤ i by omega)))
    simp [hi, this]
/-- The writer's bits; what it has of its own lies above n₀. -/
def SN (n₀ g N n : Nat) (W : World) : Prop := ∃ v, Wr W g v N n ∧ ∀ k, v.ownBlock = some k → n₀ ≤ k
theorem SN.lt {n₀ g N n : Nat} {W : World} (h : SN n₀ g N n W) : g < W.heap.size := by obtain ⟨v, h, _⟩ := h; exact h.1.lt
theorem sn_grew {n₀ g : Nat} {W W' : World} (hg : n₀ ≤ g) {v : Value} {N n : Nat} (hWr : Wr W g v N n) (hv : ∀ k, v.ownBlock = some k → n₀ ≤ k) {M m : Nat} (hG : Grew W g v M m W') : SN n₀ g M m W' ∧ PutK n₀ W W' := by
  obtain ⟨v', hw, ho, hat⟩ := hG
  have hgs : g < W.heap.size := hWr.1.lt
  refine ⟨⟨v', hw, fun k hk2 => ?_⟩, PutK.only hWr hg hv ho⟩
  rcases hat with e | ⟨k', e, hk'⟩
  · exact hv k (by rw [← e]; exact hk2)
  · rw [e] at hk2; injection hk2 with hk2; omega
theorem sn_bits {n₀ g N n : Nat} {W : World} (h : SN n₀ g N n W) (hg : n₀ ≤ g) (V m : Nat) (hV : V < 4294967296) (hm : m ≤ 32) (hn : n < 1000000000000) :
    Calls Try.prog 41 #[.pointer (some ⟨g, 0, none⟩), .int .u32 (V : Int), .int .i64 (m : Int)] W fun e W' => e = .returned (.int .i64 0) ∧ SN n₀ g (N + V % 2 ^ m * 2 ^ n) (n + m) W' ∧ PutK n₀ W W' := by
  obtain ⟨v, hWr, hv⟩ := h
  refine (wbits_ok g N n V m v W hWr hn hV hm).mono ?_
  rintro e W' ⟨rfl, hG⟩
  exact ⟨rfl, sn_grew hg hWr hv hG⟩
theorem sn_align {n₀ g N n : Nat} {W : World} (h : SN n₀ g N n W) (hg : n₀ ≤ g) (hn : n ≤ 10000000000) :
    Calls Try.prog 47 #[.pointer (some ⟨g, 0, none⟩)] W fun e W' => (∃ k : Nat, e = .returned (.int .i64 (k : Int))) ∧ SN n₀ g N (n + (8 - n % 8) % 8) W' ∧ PutK n₀ W W' := by
  obtain ⟨v, hWr, hv⟩ := h
  refine (walign_any g N n _ v W hWr hn rfl).mono ?_
  rintro e W' ⟨rfl, hW2, ho⟩
  exact ⟨⟨_, rfl⟩, ⟨v, hW2, hv⟩, PutK.only hWr hg hv ⟨ho.os, ho.tape, ho.output, ho.size, fun k h1 h2 => ho.block k h1 (fun e => h2 (.inl e))⟩⟩
def StoPost (n₀ g : Nat) (out : List Nat) (W : World) (e : Ending) (W' : World) : Prop := (∃ v, e = .returned v) ∧ SN n₀ g (numB out) (8 * out.length) W' ∧ PutK n₀ W W'
set_option maxHeartbeats 8000000 in
theorem putBlock_any (n₀ g : Nat) (hg : n₀ ≤ g) (last : Nat) (hlast : last < 8) (A : Option Addr) (c : Nat) (l out : List Nat) (hl : l.length ≤ 65535) (hb : ∀ x ∈ l, x < 256) (hout : out.length ≤ 10000000) (W : World)
    (hN : Nums .u8 W n₀ A l) (hS : SN n₀ g (numB out) (8 * out.length) W) :
    Calls Try.prog 38 #[.pointer (some ⟨g, 0, none⟩), .slice A l.length c, .int .u32 (last : Int)] W (StoPost n₀ g (out ++ blockB last l) W) := by
  obtain ⟨L, hL⟩ : ∃ L, L = l.length := ⟨_, rfl⟩
  have HL := Lib.hid hL
  have HN := Lib.hid hN
  rw [← hL] at hl ⊢
  have HBy : Hid (∀ i, i < L → l.getD i 0 < 256) := fun i hi => by
    have hi' : i < l.length := by rw [← hL]; exact hi
    rw [List.getD_eq_getElem?_getD, List.getElem?_eq_getElem hi']; exact hb _ (List.getElem_mem hi')
  have H1 : Hid (Calls Try.prog 41 #[.pointer (some ⟨g, 0, none⟩), .int .u32 (last : Int), .int .i64 3] W fun e W' => e = .returned (.int .i64 0) ∧ SN n₀ g (numB (out ++ [last])) (8 * out.length + 3) W' ∧ PutK n₀ W W') := by
    have := sn_bits hS hg last 3 (by omega) (by omega) (by omega)
    rw [numB_head out last hlast] at this
    exact this
  have H2 : Hid (∀ X, SN n₀ g (numB (out ++ [last])) (8 * out.length + 3) X → Calls Try.prog 47 #[.pointer (some ⟨g, 0, none⟩)] X fun e W' => (∃ k : Nat, e = .returned (.int .i64 (k : Int))) ∧ SN n₀ g (numB (out ++ [last])) (8 * (out ++ [last]).length) W' ∧ PutK n₀ X W') := fun X h => by
    have := sn_align h hg (by omega)
    rw [show 8 * out.length + 3 + (8 - (8 * out.length + 3) % 8) % 8 = 8 * (out ++ [last]).length by simp; omega] at this
    exact this
  have H3 : Hid (∀ X (o : List Nat) (V : Nat), o.length ≤ 20000000 → V < 4294967296 → SN n₀ g (numB o) (8 * o.length) X → Calls Try.prog 41 #[.pointer (some ⟨g, 0, none⟩), .int .u32 (V : Int), .int .i64 16] X fun e W' => e = .returned (.int .i64 0) ∧ SN n₀ g (numB (o ++ [V % 256, V / 256 % 256])) (8 * (o ++ [V % 256, V / 256 % 256]).length) W' ∧ PutK n₀ X W') := fun X o V h1 h2 h => by
    have := sn_bits h hg V 16 h2 (by omega) (by omega)
    rw [numB_word, show 8 * o.length + 16 = 8 * (o ++ [V % 256, V / 256 % 256]).length by simp; omega] at this
    exact this
  have H4 : Hid (∀ X (o : List Nat) (V : Nat), o.length ≤ 20000000 → V < 256 → SN n₀ g (numB o) (8 * o.length) X → Calls Try.prog 41 #[.pointer (some ⟨g, 0, none⟩), .int .u32 (V : Int), .int .i64 8] X fun e W' => e = .returned (.int .i64 0) ∧ SN n₀ g (numB (o ++ [V])) (8 * (o ++ [V]).length) W' ∧ PutK n₀ X W') := fun X o V h1 h2 h => by
    have := sn_bits h hg V 8 (by omega) (by omega) (by omega)
    rw [numB_byte, show V % 256 = V by omega, show 8 * o.length + 8 = 8 * (o ++ [V]).length by simp; omega] at this
    exact this
  obtain ⟨pre, hpre⟩ : ∃ pre, pre = out ++ [last, L % 256, L / 256, 255 - L % 256, 255 - L / 256] := ⟨_, rfl⟩
  have Hpre : Hid (((out ++ [last]) ++ [L % 256, L / 256 % 256]) ++ [(4294967295 - L) % 256, (4294967295 - L) / 256 % 256] = pre) := by
    obtain ⟨e1, e2⟩ := comp_word hl
    show _ = _
    rw [e1, e2, hpre, show L / 256 % 256 = L / 256 by omega]; simp
  have Hfin : Hid (pre ++ l = out ++ blockB last l) := by show _ = _; rw [hpre]; unfold blockB; rw [← hL]; simp
  have Hpl : Hid (pre.length ≤ 10000005) := by show _ ≤ _; rw [hpre]; simp; omega
  have Hout := Lib.hid hout
  obtain ⟨K, hK⟩ : ∃ K, K = 4294967295 - L := ⟨_, rfl⟩
  rw [← hK] at Hpre
  have w1 : IntKind.u32.wrap (L : Int) = (L : Int) := IntWalk.u32_in _ ⟨by omega, by omega⟩
  have w2 : bits BinOp.xor IntKind.u32 IntKind.u32.max (L : Int) = (K : Int) := by
    rw [show IntKind.u32.max = ((4294967295 : Nat) : Int) by decide, u32_xor_nat _ _ (by omega) (by omega), not32 (by omega), hK]
  have hKl : K < 4294967296 := by omega
  clear hN hS hL hpre hout hb hK
  go_enter Try.func38, Try.ntmps38
  go_wp2_with fail
  refine H1.out.mono ?_
  rintro e X1 ⟨rfl, hS1, hK1'⟩
  have HS1 := Lib.hid hS1
  have HK1 := Lib.hid hK1'
  clear hS1 hK1' H1
  go_wp2_with fail
  refine (H2.out _ HS1.out).mono ?_
  rintro e X2 ⟨⟨k2, rfl⟩, hS2, hK2⟩
  have HS2 := Lib.hid hS2
  have HK2 := Lib.hid (HK1.out.trans hK2)
  clear hS2 hK2 H2
  go_wp2_with fail
  refine (H3.out _ _ L (by have := Hout.out; simp; omega) (by omega) HS2.out).mono ?_
  rintro e X3 ⟨rfl, hS3, hK3⟩
  have HS3 := Lib.hid hS3
  have HK3 := Lib.hid (HK2.out.trans hK3)
  clear hS3 hK3
  go_wp2_with fail
  refine (H3.out _ _ K (by have := Hout.out; simp; omega) hKl HS3.out).mono ?_
  rintro e X4 ⟨rfl, hS4, hK4⟩
  rw [Hpre.out] at hS4
  have HS4 := Lib.hid hS4
  have HK4 := Lib.hid (HK3.out.trans hK4)
  clear hS4 hK4 H3 HS3 HK3 HS2 HK2 HS1 HK1 w2 hKl
  go_wp2_with fail
  go_loopw [26] (fun i X => ∃ k : Nat, i = .int .i64 (k : Int) ∧ k ≤ L ∧ Hid (SN n₀ g (numB (pre ++ l.take k)) (8 * (pre ++ l.take k).length) X) ∧ Hid (PutK n₀ W X)) (fun i _ => L - (intOf i).toNat)
  case atStart => exact ⟨0, rfl, Nat.zero_le _, by show SN _ _ _ _ _; simpa using HS4.out, HK4.out⟩
  case round =>
    obtain ⟨k, rfl, hk, HS, HK⟩ := hrel
    by_cases hlt : k < L
    · have d2 : decide ((k : Int) < (L : Int)) = true := decide_eq_true (by omega)
      have d2b : decide (k < L) = true := decide_eq_true hlt
      have i0 : (0 : Int) ≤ (k : Int) := by omega
      have i1 : (k : Int) < (L : Int) := by omega
      obtain ⟨b, off, rfl, hbn, x0⟩ := HN.out.byte (i := k) (by rw [← HL.out]; exact hlt)
      have x0 := (HK.out.below.cell (p := ⟨b, off + k, none⟩) hbn).trans x0
      obtain ⟨y, hy⟩ : ∃ y, y = l.getD k 0 := ⟨_, rfl⟩
      rw [← hy] at x0
      have hy256 : y < 256 := by rw [hy]; exact HBy.out k hlt
      have Hsn : Hid ((pre ++ l.take k) ++ [y] = pre ++ l.take (k + 1)) := by
        have hk' : k < l.length := by rw [← HL.out]; exact hlt
        show _ = _
        rw [hy, List.getD_eq_getElem?_getD, List.getElem?_eq_getElem hk', List.append_assoc, List.take_add_one, List.getElem?_eq_getElem hk']; rfl
      have H5 := Lib.hid (H4.out wr (pre ++ l.take k) y (by have := Hpl.out; simp; omega) hy256 HS.out)
      rw [Hsn.out] at H5
      have w3 : IntKind.u32.wrap (y : Int) = (y : Int) := IntWalk.u32_in _ ⟨by omega, by omega⟩
      clear hy
      go_wp2_with fail
      refine H5.out.mono ?_
      rintro e X5 ⟨rfl, hS5, hK5⟩
      have HS5 := Lib.hid hS5
      have HK5 := Lib.hid (HK.out.trans hK5)
      clear hS5 hK5
      go_wp2_with fail
      go_roundw
      case rel => exact ⟨k + 1, by go_num, hlt, HS5.out, HK5.out⟩
      case measure => simp [intOf]; omega
    · obtain rfl : k = L := by omega
      have d2 : decide ((k : Int) < (k : Int)) = false := decide_eq_false (by omega)
      have hS := HS.out
      rw [HL.out, List.take_length, Hfin.out] at hS
      have HSf := Lib.hid hS
      clear hS
      go_wp2_with fail
      refine bodyPost_ret (results_none rfl _ _ _) rfl ?_
      exact ⟨⟨_, rfl⟩, HSf.out, HK.out⟩
end Go.Proofs.Ytngnhkghpnamoaa
