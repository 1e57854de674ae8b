/- Par5 BitBools BitsMath -/
import Derived.Test.YtngnhkghpnamoaaPar4
import Derived.Test.YtngnhkghpnamoaaGc16
import Derived.Test.YtngnhkghpnamoaaGc02
import Derived.Lib.SlBytesConst
import Derived.Test.YtngnhkghpnamoaaGc19
import Derived.Test.YtngnhkghpnamoaaGc21
namespace Go.Proofs.Ytngnhkghpnamoaa
open Go.RowKit Go.Shelf Huff Bit
set_option linter.unusedVariables false
set_option maxRecDepth 100000

def DataPost (w : World) (out : List Nat) (e : Ending) (w' : World) : Prop := ∃ a c', e = .returned (.tuple #[.slice a out.length c', .int .i64 0]) ∧ Nums .u8 w' w'.heap.size a out ∧ Below w.heap.size w w'
def fixedB {l : List Nat} (hb : Bytes255 l) : List Nat := bytesOf (fixedE hb).1 (fixedE hb).2
theorem fixedE_n {l : List Nat} (hb : Bytes255 l) (hl : l.length ≤ 3000) : (fixedE hb).2 ≤ 96012 := by
  have h1 := accE_n (parseE hb)
  have h2 := parseFrom_length (h := hb) l.length 0
  have h3 := addW1_n (accE (parseE hb)) (i := 256) (by omega)
  unfold fixedE
  unfold parseE at *
  omega
set_option maxHeartbeats 4000000 in
theorem data_fixed (A : Option Addr) (c : Nat) (l : List Nat) (w : World) (hb : Bytes255 l) (hl : l.length ≤ 3000) (hN : Nums .u8 w w.heap.size A l) :
    Calls Try.prog 11 #[.slice A l.length c, .bool false] w (DataPost w (fixedB hb)) := by
  have hn := fixedE_n hb hl
  have HP := Lib.hid fun g (X : World) (hX : Below w.heap.size w X) (hW : Wr X g (.slice none 0 0) 0 0) (hg : w.heap.size ≤ g) => callsIn_wide.1 (putFixed_go g w.heap.size A c l X hb hl (hN.below hX) hW hg)
  obtain ⟨L, hL⟩ : ∃ L, l.length = L := ⟨_, rfl⟩
  rw [hL] at HP hl ⊢
  have d1 : decide (1048576 < (L : Int)) = false := decide_eq_false (by omega)
  have hB0 : Hid (bytesOf (fixedE hb).1 ((fixedE hb).2 + padE (fixedE hb).2) = fixedB hb) := bytes_align _ _ _ rfl
  have hp8 : padE (fixedE hb).2 < 8 := by unfold padE; omega
  have hn2 : (fixedE hb).2 + padE (fixedE hb).2 < 1000000000000 := by omega
  have Hn2 := Lib.hid hn2
  clear hN hL hn hp8 hn2
  go_enter Try.func11, Try.ntmps11
  go_wp2_with fail
  refine (newWriter_any _).mono ?_
  rintro e X ⟨rfl, hW, hB⟩
  have HPX := Lib.hid (HP.out _ X hB hW (Nat.le_refl _))
  have HB := Lib.hid hB
  clear hW hB HP
  go_wp2_with fail
  refine HPX.out.mono ?_
  rintro e X2 ⟨⟨v, rfl⟩, ⟨v2, hW2⟩, hB2⟩
  have HY := Lib.hid (wbytes_any _ _ _ _ X2 hW2 Hn2.out)
  rw [hB0.out] at HY
  have HB2 := Lib.hid (HB.out.trans hB2)
  clear hW2 hB2 HPX HB
  go_wp2_with fail
  refine HY.out.mono ?_
  rintro e X3 ⟨a, c3, rfl, hN3, hB3⟩
  have HN3 := Lib.hid hN3
  have HB3 := Lib.hid (HB2.out.trans (hB3.mono HB2.out.size))
  clear hN3 hB3 HY
  go_wp2_with fail
  go_ret2
  exact ⟨_, _, rfl, HN3.out, HB3.out⟩
theorem abc_255 : Bytes255 [97, 98, 99] := bytes255_of (by decide)
theorem abc_out : fixedB abc_255 = [75, 76, 74, 6, 0] := by decide +kernel
end Go.Proofs.Ytngnhkghpnamoaa

namespace Go.Proofs.Ytngnhkghpnamoaa
open Go.RowKit Bit
set_option linter.unusedVariables false

def num : List Bool → Nat
  | [] => 0
  | b :: l => b.toNat + 2 * num l
theorem num_append (l r : List Bool) : num (l ++ r) = num l + num r * 2 ^ l.length := by
  induction l with
  | nil => simp [num]
  | cons b l ih => simp only [List.cons_append, num, ih, List.length_cons, Nat.pow_succ]; rw [← Nat.mul_assoc]; generalize num r * 2 ^ l.length = p; omega
theorem num_lt (l : List Bool) : num l < 2 ^ l.length := by
  induction l with
  | nil => simp [num]
  | cons b l ih => simp only [num, List.length_cons, Nat.pow_succ]; have := Bool.toNat_lt b; omega
def bitAt (V i : Nat) : Bool := V / 2 ^ i % 2 == 1
theorem bitAt_nat (V i : Nat) : (bitAt V i).toNat = V / 2 ^ i % 2 := by
  unfold bitAt
  rcases Nat.mod_two_eq_zero_or_one (V / 2 ^ i) with h | h <;> simp [h]
def lowL (V m : Nat) : List Bool := (List.range m).map (bitAt V)
theorem lowL_succ (V m : Nat) : lowL V (m + 1) = lowL V m ++ [bitAt V m] := by simp [lowL, List.range_succ]
theorem lowL_length (V m : Nat) : (lowL V m).length = m := by simp [lowL]
theorem num_low (V m : Nat) : num (lowL V m) = V % 2 ^ m := by
  induction m with
  | zero => simp [lowL, num, Nat.mod_one]
  | succ m ih =>
    rw [lowL_succ, num_append, ih, lowL_length, Nat.pow_succ, Nat.mod_mul]
    simp only [num, bitAt_nat]
    rw [Nat.mul_comm]; simp
def turnL (V m k : Nat) : List Bool := (List.range k).map fun i => bitAt V (m - 1 - i)
theorem turnL_succ (V m k : Nat) : turnL V m (k + 1) = turnL V m k ++ [bitAt V (m - 1 - k)] := by simp [turnL, List.range_succ]
theorem turnL_length (V m k : Nat) : (turnL V m k).length = k := by simp [turnL]
theorem num_turn (V m k : Nat) : num (turnL V m k) = turned V m k := by
  induction k with
  | zero => rfl
  | succ k ih =>
    rw [turnL_succ, num_append, ih, turnL_length]
    simp only [num, bitAt_nat, turned]
    simp
theorem turn_low (V m : Nat) : (lowL V m).reverse = turnL V m m := by
  apply List.ext_getElem
  · simp [lowL_length, turnL_length]
  · intro i h1 h2
    simp [lowL, turnL]


set_option maxHeartbeats 2000000 in
theorem low_any (V m : Nat) (w : World) (hV : V < 4294967296) (hm : m ≤ 32) :
    Calls Try.prog 35 #[.int .u32 (V : Int), .int .i64 (m : Int)] w
      fun e w' => ∃ v, e = .returned v ∧ w'.ownsRow w.heap.size 4 1 v m (bools (lowL V m)) ∧ Below w.heap.size w w' := by
  obtain ⟨i0, hi0, hz0, hz1, hz2⟩ := info_parts boolinfo
  go_enter Try.func35, Try.ntmps35
  go_wp2_with fail
  go_loopw [0, 5, 6] (fun x v i W => ∃ k : Nat, k ≤ m ∧ x = .int .u32 ((V / 2 ^ k : Nat) : Int) ∧ i = .int .i64 (k : Int) ∧ W.ownsRow w.heap.size 4 1 v k (bools (lowL V k)) ∧ Below w.heap.size w W) (fun _ _ i _ => m - (intOf i).toNat)
  case atStart => exact ⟨0, by omega, by simp, rfl, ⟨rfl, .inl ⟨rfl, rfl⟩⟩, Below.refl _ _⟩
  case round =>
    obtain ⟨k, hk, rfl, rfl, hown, hb⟩ := hrel
    by_cases hlt : k < m
    · have Hl1 : Hid (k + 1 ≤ maxLen) := by unfold Hid maxLen; omega
      have Hl2 : Hid ((k + 1) * 1 ≤ 140737488355328) := by unfold Hid; omega
      have hbs := hb.size
      have hx : V / 2 ^ k / 2 = V / 2 ^ (k + 1) := by rw [Nat.div_div_eq_div_mul, ← Nat.pow_succ]
      have hbit : (((V / 2 ^ k : Nat) : Int) % 2 == 1) = bitAt V k := by
        unfold bitAt
        rcases Nat.mod_two_eq_zero_or_one (V / 2 ^ k) with h | h
        · have : ((V / 2 ^ k : Nat) : Int) % 2 = 0 := by omega
          rw [h, this]; rfl
        · have : ((V / 2 ^ k : Nat) : Int) % 2 = 1 := by omega
          rw [h, this]; rfl
      have hx2 : ((V / 2 ^ k : Nat) : Int) / 2 = ((V / 2 ^ (k + 1) : Nat) : Int) := by rw [← hx]; omega
      have hls : bools (lowL V k) ++ [Value.bool (bitAt V k)] = bools (lowL V (k + 1)) := by rw [lowL_succ]; simp [bools]
      have hylt : V / 2 ^ (k + 1) < 4294967296 := Nat.lt_of_le_of_lt (Nat.div_le_self _ _) hV
      obtain ⟨y, hy⟩ : ∃ y, y = V / 2 ^ (k + 1) := ⟨_, rfl⟩
      rw [← hy] at hx2 hylt
      generalize V / 2 ^ k = x at *
      generalize bitAt V k = bb at *
      have Hls := Lib.hid hls
      have Hy := Lib.hid hy
      clear hls hx hy
      go_wp2_with (at_builtin; refine app_one rfl (.tmp 12) (.tmp 16) 61 rfl w.heap.size 4 i0 _ 1 Try.underlying61 hi0 hz0 hz1 hz2 rfl _ _ _ rfl hown _ 1 rfl rfl Hl1.out Hl2.out hbs ?_)
      intro v1 w1 h2 h3 _
      rw [Hls.out] at h2
      have hb2 := below_of_grown hb hown h3 hbs
      clear h3 hown hb
      go_wp2
      go_roundw
      case rel => exact ⟨k + 1, hlt, by rw [← Hy.out], by go_num, h2, hb2⟩
      case measure => simp [intOf]; omega
    · obtain rfl : k = m := by omega
      go_wp2_with fail
      go_ret
      exact ⟨_, rfl, hown, hb⟩

end Go.Proofs.Ytngnhkghpnamoaa

namespace Go.Proofs.Ytngnhkghpnamoaa
open Huff Bit
set_option linter.unusedVariables false

def wordL (i : Nat) : List Bool := turnL (fixW i).1 (fixW i).2 (fixW i).2
/-- What is put of a match, as bits. -/
def emitL (L : List Bool) (x : Nat × Nat) : List Bool := if x.1 = 0 then L ++ wordL x.2 else
  (((L ++ wordL (symE x.1).1) ++ lowL (symE x.1).2.1 (symE x.1).2.2) ++ turnL (farE x.2).1 5 5) ++ lowL (farE x.2).2.1 (farE x.2).2.2
def numL (L : List Bool) : Nat × Nat := (num L, L.length)
theorem numL_turn (L : List Bool) (V m : Nat) : numL (L ++ turnL V m m) = addT (numL L) V m := by
  unfold numL addT
  rw [num_append, num_turn, List.length_append, turnL_length]
theorem numL_low (L : List Bool) (V m : Nat) : numL (L ++ lowL V m) = addB (numL L) V m := by
  unfold numL addB
  rw [num_append, num_low, List.length_append, lowL_length]
theorem numL_word (L : List Bool) (i : Nat) : numL (L ++ wordL i) = addW1 (numL L) i := numL_turn L _ _
theorem numL_emit (L : List Bool) (x : Nat × Nat) : numL (emitL L x) = emit (numL L) x := by
  unfold emitL emit
  by_cases h : x.1 = 0
  · rw [if_pos h, if_pos h, numL_word]
  · rw [if_neg h, if_neg h, numL_low, numL_turn, numL_low, numL_word]
def bitsE (l : List Mt) : List Bool := l.foldl (fun L x => emitL L x.1) [true, true, false]
theorem bitsE_snoc (l : List Mt) (x : Mt) : bitsE (l ++ [x]) = emitL (bitsE l) x.1 := by simp [bitsE]
theorem numL_bits (l : List Mt) : numL (bitsE l) = accE l := by
  have : ∀ (l : List Mt) (L : List Bool), numL (l.foldl (fun L x => emitL L x.1) L) = l.foldl (fun a x => emit a x.1) (numL L) := by
    intro l
    induction l with
    | nil => intro L; rfl
    | cons x l ih => intro L; simp only [List.foldl_cons]; rw [ih, numL_emit]
  exact this l [true, true, false]
/-- The bytes of them all. -/
theorem bits_bytes {l : List Nat} (hb : Bytes255 l) : bytesOf (num (bitsE (parseE hb) ++ wordL 256)) (bitsE (parseE hb) ++ wordL 256).length = bytesOf (fixedE hb).1 (fixedE hb).2 := by
  have h := numL_word (bitsE (parseE hb)) 256
  rw [numL_bits] at h
  show bytesOf (numL (bitsE (parseE hb) ++ wordL 256)).1 (numL (bitsE (parseE hb) ++ wordL 256)).2 = _
  rw [h]; rfl
/-- Where all words are five bits long, they are the symbols themselves. -/
theorem five_syms (k : Nat) : ∀ n, n ≤ 32 → (symsTo (List.replicate 32 5) k n).length = if k = 5 then n else 0
  | 0, _ => by split <;> rfl
  | n + 1, hn => by
    have ih := five_syms k n (by omega)
    show (symsTo (List.replicate 32 5) k n ++ _).length = _
    have hg : (List.replicate 32 5).getD n 99 = 5 := by rw [List.getD_eq_getElem?_getD, List.getElem?_replicate, if_pos (by omega)]; rfl
    rw [List.length_append, ih, hg]
    by_cases h : k = 5
    · subst h; simp
    · rw [if_neg h, if_neg (fun q => h q.symm), if_neg h]; rfl
theorem five_word {t : Nat} (h : t < 32) : wordOf (List.replicate 32 5) t = (t, 5) := by
  have hg : (List.replicate 32 5).getD t 99 = 5 := by rw [List.getD_eq_getElem?_getD, List.getElem?_replicate, if_pos h]; rfl
  have hs : ∀ k, (syms (List.replicate 32 5) k).length = if k = 5 then 32 else 0 := fun k => by unfold syms; rw [List.length_replicate]; exact five_syms k 32 (Nat.le_refl _)
  have hn : ∀ k, k ≤ 4 → nxt (List.replicate 32 5) k = 0 := by
    intro k
    induction k with
    | zero => intro _; rfl
    | succ k ih => intro hk; show 2 * nxt _ k + (syms _ (k + 1)).length = 0; rw [ih (by omega), hs, if_neg (by omega)]
  have hr : rank (List.replicate 32 5) t = t := by unfold rank; rw [hg, five_syms 5 t (by omega), if_pos rfl]
  unfold wordOf
  rw [hr, hg, if_neg (by decide)]
  show (2 * nxt _ 4 + t, 5) = _
  rw [hn 4 (by omega)]; simp
end Go.Proofs.Ytngnhkghpnamoaa
