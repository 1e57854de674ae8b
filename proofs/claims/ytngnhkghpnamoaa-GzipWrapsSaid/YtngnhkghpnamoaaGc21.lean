/- HuffWr HWBits -/
import Derived.Test.YtngnhkghpnamoaaHuffRd
import Derived.Test.YtngnhkghpnamoaaGc16
namespace Go.Proofs.Ytngnhkghpnamoaa
open Go.RowKit Huff Bit
set_option linter.unusedVariables false
set_option maxRecDepth 100000

theorem turned_lt (V m : Nat) : ∀ k, turned V m k < 2 ^ k
  | 0 => by simp [turned]
  | k + 1 => by
    have ih := turned_lt V m k
    show turned V m k + V / 2 ^ (m - 1 - k) % 2 * 2 ^ k < 2 ^ (k + 1)
    have : V / 2 ^ (m - 1 - k) % 2 < 2 := Nat.mod_lt _ (by omega)
    have h2 : V / 2 ^ (m - 1 - k) % 2 * 2 ^ k ≤ 1 * 2 ^ k := Nat.mul_le_mul_right _ (by omega)
    rw [Nat.pow_succ]; omega
theorem turned_bit (V m : Nat) : ∀ k i, i < k → turned V m k / 2 ^ i % 2 = V / 2 ^ (m - 1 - i) % 2
  | 0, i, h => by omega
  | k + 1, i, h => by
    show (turned V m k + V / 2 ^ (m - 1 - k) % 2 * 2 ^ k) / 2 ^ i % 2 = _
    rcases Nat.lt_or_eq_of_le (Nat.le_of_lt_succ h) with h1 | h1
    · obtain ⟨d, hd⟩ : ∃ d, k = i + (d + 1) := ⟨k - i - 1, by omega⟩
      have h3 : V / 2 ^ (m - 1 - k) % 2 * 2 ^ k = 2 ^ i * (2 * (V / 2 ^ (m - 1 - k) % 2 * 2 ^ d)) := by
        generalize V / 2 ^ (m - 1 - k) % 2 = x
        rw [hd, Nat.pow_add, Nat.pow_succ, Nat.mul_comm (2 ^ d) 2]
        rw [← Nat.mul_assoc, ← Nat.mul_assoc, ← Nat.mul_assoc, Nat.mul_comm x (2 ^ i), Nat.mul_assoc (2 ^ i) x 2, Nat.mul_comm x 2, ← Nat.mul_assoc, Nat.mul_assoc (2 ^ i * 2)]
      rw [h3, Nat.add_mul_div_left _ _ (Nat.pow_pos (by omega)), Nat.add_mul_mod_self_left]
      exact turned_bit V m k i h1
    · subst h1
      have hlt := turned_lt V m i
      rw [Nat.add_mul_div_right _ _ (Nat.pow_pos (by omega)), Nat.div_eq_of_lt hlt, Nat.zero_add]
      omega

/-- One word behind others. -/
def addW (l : List Nat) (a : Nat × Nat) (s : Nat) : Nat × Nat := (a.1 + turned (wordOf l s).1 (wordOf l s).2 (wordOf l s).2 * 2 ^ a.2, a.2 + (wordOf l s).2)
def accW (l : List Nat) (xs : List Nat) : Nat × Nat := xs.foldl (addW l) (0, 0)
theorem accW_snoc (l xs : List Nat) (s : Nat) : accW l (xs ++ [s]) = addW l (accW l xs) s := by simp [accW]
theorem foldW (l : List Nat) : ∀ (ys : List Nat) (a : Nat × Nat), ∃ M d, ys.foldl (addW l) a = (a.1 + 2 ^ a.2 * M, a.2 + d)
  | [], a => ⟨0, 0, by simp⟩
  | s :: ys, a => by
    obtain ⟨M, d, h⟩ := foldW l ys (addW l a s)
    refine ⟨turned (wordOf l s).1 (wordOf l s).2 (wordOf l s).2 + 2 ^ (wordOf l s).2 * M, (wordOf l s).2 + d, ?_⟩
    rw [List.foldl_cons, h]
    unfold addW
    simp only
    rw [Nat.pow_add, Nat.mul_add, Nat.add_assoc, Nat.add_assoc, Nat.mul_comm (turned _ _ _), Nat.mul_assoc]
theorem accW_lt (l : List Nat) (xs : List Nat) : (accW l xs).1 < 2 ^ (accW l xs).2 := by
  suffices h : ∀ (ys : List Nat) (a : Nat × Nat), a.1 < 2 ^ a.2 → (ys.foldl (addW l) a).1 < 2 ^ (ys.foldl (addW l) a).2 by exact h xs (0, 0) (by decide)
  intro ys
  induction ys with
  | nil => intro a h; exact h
  | cons s ys ih =>
    intro a h
    rw [List.foldl_cons]
    refine ih _ ?_
    have ht := turned_lt (wordOf l s).1 (wordOf l s).2 (wordOf l s).2
    show a.1 + turned (wordOf l s).1 (wordOf l s).2 (wordOf l s).2 * 2 ^ a.2 < 2 ^ (a.2 + (wordOf l s).2)
    generalize turned (wordOf l s).1 (wordOf l s).2 (wordOf l s).2 = t at *
    rw [Nat.pow_add, Nat.mul_comm (2 ^ a.2)]
    have h2 : (t + 1) * 2 ^ a.2 ≤ 2 ^ (wordOf l s).2 * 2 ^ a.2 := Nat.mul_le_mul_right _ ht
    rw [Nat.add_mul] at h2
    omega
/-- The bits of a word among all. -/
theorem accW_bits (l xs ys : List Nat) (s i : Nat) (hi : i < (wordOf l s).2) :
    (accW l (xs ++ s :: ys)).1 / 2 ^ ((accW l xs).2 + i) % 2 = (wordOf l s).1 / 2 ^ ((wordOf l s).2 - 1 - i) % 2 ∧ (accW l xs).2 + (wordOf l s).2 ≤ (accW l (xs ++ s :: ys)).2 := by
  have hlt := accW_lt l xs
  have e : accW l (xs ++ s :: ys) = ys.foldl (addW l) (addW l (accW l xs) s) := by simp [accW]
  rw [e]
  obtain ⟨M, d, h⟩ := foldW l ys (addW l (accW l xs) s)
  rw [h]
  unfold addW
  simp only
  generalize accW l xs = a at *
  generalize hV : (wordOf l s).1 = V at *
  generalize hm : (wordOf l s).2 = m at *
  refine ⟨?_, by omega⟩
  have ht := turned_bit V m m i hi
  have h1 : a.1 + turned V m m * 2 ^ a.2 + 2 ^ (a.2 + m) * M = a.1 + (turned V m m + 2 ^ m * M) * 2 ^ a.2 := by
    rw [Nat.pow_add, Nat.add_mul, Nat.add_assoc, Nat.mul_assoc (2 ^ a.2), Nat.mul_comm (2 ^ a.2) (2 ^ m * M)]
  rw [h1, Nat.pow_add, ← Nat.div_div_eq_div_mul, Nat.add_mul_div_right _ _ (Nat.pow_pos (by omega)), Nat.div_eq_of_lt hlt, Nat.zero_add]
  obtain ⟨e, he⟩ : ∃ e, m = i + (e + 1) := ⟨m - i - 1, by omega⟩
  have h2 : 2 ^ m * M = 2 ^ i * (2 * (2 ^ e * M)) := by rw [he, Nat.pow_add, Nat.pow_succ, Nat.mul_comm (2 ^ e) 2, Nat.mul_assoc, Nat.mul_assoc]
  rw [h2, Nat.add_mul_div_left _ _ (Nat.pow_pos (by omega)), Nat.add_mul_mod_self_left]
  exact ht

theorem KeptC.drawn {B g k : Nat} {w : World} {l : List Nat} (h : KeptC B w g l) : KeptC B (w.drewN k) g l := h.more (below_drawn (Below.refl _ _) k)
theorem Wr.drawn {w : World} {g N n : Nat} {v : Value} (h : Wr w g v N n) (k : Nat) : Wr (w.drewN k) g v N n := h
def WrYes (w : World) (gw : Nat) (vw : Value) (N n : Nat) (e : Ending) (w' : World) : Prop := e = .returned (.int .i64 0) ∧ Grew w gw vw N n w'
theorem Grew.undrawn {w W : World} {g k M m : Nat} {v : Value} (h : Grew (w.drewN k) g v M m W) : Grew w g v M m W := by
  obtain ⟨v', h1, h2, h3⟩ := h
  exact ⟨v', h1, ⟨h2.os, h2.tape, h2.output, h2.size, h2.block⟩, h3⟩
set_option maxHeartbeats 4000000 in
theorem write_yes (B g gw i V m N n : Nat) (vw : Value) (l : List Nat) (w : World) (hK : KeptC B w g l) (hWr : Wr w gw vw N n) (hn : n < 100000) (hi : i < l.length) (hw : wordOf l i = (V, m)) (hm : 0 < m) (hm2 : m ≤ 15) (hV : V < 100000) :
    Calls Try.prog 43 #[.pointer (some ⟨g, 0, none⟩), .pointer (some ⟨gw, 0, none⟩), .int .i64 (i : Int)] w (WrYes w gw vw (N + turned V m m * 2 ^ n) (n + m)) := by
  have hof : ofA l (i : Int) = (V, m) := by unfold ofA; rw [if_pos (by omega), Int.toNat_natCast, hw]
  have Hof := Lib.hid (of_any g (g + 1) l (i : Int) w hK.at _ hof)
  simp only at Hof
  have Htu := Lib.hid fun k => wturned_ok gw N n V m vw (w.drewN k) (hWr.drawn k) (by omega) (by omega) (by omega)
  have d1 : ((m : Int) == 0) = false := beq_eq_false_iff_ne.mpr (by omega)
  clear hK hWr hof hw hi hm
  go_enter Try.func43, Try.ntmps43
  go_wp2_with fail
  refine Hof.out.mono ?_
  rintro e X ⟨rfl, k, rfl⟩
  go_wp2_with fail
  refine (Htu.out k).mono ?_
  rintro e X ⟨rfl, hG⟩
  have HG := Lib.hid hG.undrawn
  clear hG
  go_wp2_with fail
  go_ret
  exact ⟨rfl, HG.out⟩
def WrNo (w : World) (e : Ending) (w' : World) : Prop := e = .returned (.int .i64 8) ∧ ∃ k, w' = w.drewN k
set_option maxHeartbeats 4000000 in
theorem write_no (B g : Nat) (p : Value) (z : Int) (l : List Nat) (w : World) (hK : KeptC B w g l) (hof : ofA l z = (0, 0)) :
    Calls Try.prog 43 #[.pointer (some ⟨g, 0, none⟩), p, .int .i64 z] w (WrNo w) := by
  have Hof := Lib.hid (of_any g (g + 1) l z w hK.at _ hof)
  simp only at Hof
  clear hK hof
  go_enter Try.func43, Try.ntmps43
  go_wp2_with fail
  refine Hof.out.mono ?_
  rintro e X ⟨rfl, k, rfl⟩
  go_wp2_with fail
  go_ret
  exact ⟨rfl, k, rfl⟩
end Go.Proofs.Ytngnhkghpnamoaa

namespace Go.Proofs.Ytngnhkghpnamoaa
open Go.RowKit Bit
set_option linter.unusedVariables false
set_option maxRecDepth 100000

theorem low_step (N n V k : Nat) : N + V % 2 ^ k * 2 ^ n + V / 2 ^ k % 2 * 2 ^ (n + k) = N + V % 2 ^ (k + 1) * 2 ^ n := by
  rw [Nat.pow_succ, Nat.mod_mul, Nat.add_mul, Nat.pow_add, Nat.add_assoc]
  congr 2
  rw [Nat.mul_comm (2 ^ k) (V / 2 ^ k % 2), Nat.mul_assoc, Nat.mul_comm (2 ^ n)]

set_option maxHeartbeats 2000000 in
theorem wbits_ok (g N n V m : Nat) (v : Value) (w : World) (h : Wr w g v N n) (hn : n < 1000000000000) (hV : V < 4294967296) (hm : m ≤ 32) :
    Calls Try.prog 41 #[.pointer (some ⟨g, 0, none⟩), .int .u32 (V : Int), .int .i64 (m : Int)] w
      fun e w' => e = .returned (.int .i64 0) ∧ Grew w g v (N + V % 2 ^ m * 2 ^ n) (n + m) w' := by
  go_enter Try.func41, Try.ntmps41
  go_wp2_with (go_at_call 64; refine (check_ok g m _ hm).mono ?_; rintro e w' ⟨rfl, rfl⟩)
  go_loopw [16] (fun i W => ∃ k : Nat, k ≤ m ∧ i = .int .i64 (k : Int) ∧ Grew w g v (N + V % 2 ^ k * 2 ^ n) (n + k) W) (fun i _ => m - (intOf i).toNat)
  case atStart => exact ⟨0, by omega, rfl, by simpa [Nat.mod_one] using Grew.start h⟩
  case round =>
    obtain ⟨k, hk, rfl, v', hw, ho, hat⟩ := hrel
    by_cases hlt : k < m
    · have hVk : V / 2 ^ k < 4294967296 := Nat.lt_of_le_of_lt (Nat.div_le_self _ _) hV
      have hp := put_any g (N + V % 2 ^ k * 2 ^ n) (n + k) (V / 2 ^ k) v' _ hw (by omega) hVk
      rw [low_step] at hp
      rw [Int.natCast_ediv, Int.natCast_pow] at hp
      go_wp2_with (go_at_call 65; refine hp.mono ?_; rintro e w' ⟨rfl, v'', hw', ho', hat'⟩)
      go_roundw
      case rel => exact ⟨k + 1, hlt, by go_num, Grew.next ho hat hw' ho' hat'⟩
      case measure => simp [intOf]; omega
    · obtain rfl : k = m := by omega
      go_wp2_with fail
      go_ret
      exact ⟨rfl, v', hw, ho, hat⟩

theorem rest_any (p : Nat) (w : World) (hp : p ≤ 10000000000) : Calls Try.prog 72 #[.int .i64 (p : Int)] w fun e w' => e = .returned (.int .i64 (((8 - p % 8) % 8 : Nat) : Int)) ∧ w = w' := by
  have h : Hid (((8 : Int) - (p : Int) % 8) % 8 = (((8 - p % 8) % 8 : Nat) : Int)) := by show _ = _; omega
  go_enter Try.func72, Try.ntmps72
  go_wp2_with fail
  go_ret
  exact ⟨ret_int h.out, rfl⟩


theorem bytes_align (N n k : Nat) (hk : k = (8 - n % 8) % 8) : bytesOf N (n + k) = bytesOf N n := by
  unfold bytesOf
  rw [show (n + k + 7) / 8 = (n + 7) / 8 by omega]
set_option maxHeartbeats 1000000 in
theorem walign_any (g N n k : Nat) (v : Value) (w : World) (h : Wr w g v N n) (hn : n ≤ 10000000000) (hk : k = (8 - n % 8) % 8) :
    Calls Try.prog 47 #[.pointer (some ⟨g, 0, none⟩)] w fun e w' => e = .returned (.int .i64 (k : Int)) ∧ Wr w' g v N (n + k) ∧ Only (fun k => k = g) w w' := by
  have c1 : w.cell? ⟨g, 1, none⟩ = some (.int .i64 (n : Int)) := h.1.cell 1
  have f1 := h.1.frozen 1
  have hr := rest_any n w hn
  rw [← hk] at hr
  have Hr := Lib.hid hr
  have hk8 : k < 8 := by omega
  have Hfin : Hid (Wr (w.setCell ⟨g, 1, none⟩ (.int .i64 ((n : Int) + (k : Int)))) g v N (n + k)) := by
    obtain ⟨hW, hown, hN, hne⟩ := h
    refine ⟨?_, ?_, Nat.lt_of_lt_of_le hN (Nat.pow_le_pow_right (by omega) (by omega)), hne⟩
    · have := hW.set 1 (.int .i64 ((n : Int) + (k : Int)))
      simpa using this
    · rw [bytes_align N n k hk]
      exact own_set hown (p := ⟨g, 1, none⟩) hne _
  clear h hr hk
  go_enter Try.func47, Try.ntmps47
  go_wp2_with fail
  refine Hr.out.mono ?_
  rintro e W ⟨rfl, rfl⟩
  go_wp2_with fail
  go_ret
  exact ⟨rfl, Hfin.out, (Only.refl (fun k => k = g) w).setCell (fun _ => rfl) _⟩
end Go.Proofs.Ytngnhkghpnamoaa
