/- HuffWr -/
import Derived.Test.YtngnhkghpnamoaaHuffRd
namespace Go.Proofs.Ytngnhkghpnamoaa
open Go.RowKit Huff Bit
set_option linter.unusedVariables false
set_option maxRecDepth 100000

theorem turned_lt (V m : Nat) : ∀ k, turned V m k < 2 ^ k
  | 0 => by simp [turned]
  | k + 1 => by
    have ih := turned_lt V m k
    show turned V m k + V / 2 ^ (m - 1 - k) % 2 * 2 ^ k < 2 ^ (k + 1)
    have : V / 2 ^ (m - 1 - k) % 2 < 2 := Nat.mod_lt _ (by omega)
    have h2 : V / 2 ^ (m - 1 - k) % 2 * 2 ^ k ≤ 1 * 2 ^ k := Nat.mul_le_mul_right _ (by omega)
    rw [Nat.pow_succ]; omega
theorem turned_bit (V m : Nat) : ∀ k i, i < k → turned V m k / 2 ^ i % 2 = V / 2 ^ (m - 1 - i) % 2
  | 0, i, h => by omega
  | k + 1, i, h => by
    show (turned V m k + V / 2 ^ (m - 1 - k) % 2 * 2 ^ k) / 2 ^ i % 2 = _
    rcases Nat.lt_or_eq_of_le (Nat.le_of_lt_succ h) with h1 | h1
    · obtain ⟨d, hd⟩ : ∃ d, k = i + (d + 1) := ⟨k - i - 1, by omega⟩
      have h3 : V / 2 ^ (m - 1 - k) % 2 * 2 ^ k = 2 ^ i * (2 * (V / 2 ^ (m - 1 - k) % 2 * 2 ^ d)) := by
        generalize V / 2 ^ (m - 1 - k) % 2 = x
        rw [hd, Nat.pow_add, Nat.pow_succ, Nat.mul_comm (2 ^ d) 2]
        rw [← Nat.mul_assoc, ← Nat.mul_assoc, ← Nat.mul_assoc, Nat.mul_comm x (2 ^ i), Nat.mul_assoc (2 ^ i) x 2, Nat.mul_comm x 2, ← Nat.mul_assoc, Nat.mul_assoc (2 ^ i * 2)]
      rw [h3, Nat.add_mul_div_left _ _ (Nat.pow_pos (by omega)), Nat.add_mul_mod_self_left]
      exact turned_bit V m k i h1
    · subst h1
      have hlt := turned_lt V m i
      rw [Nat.add_mul_div_right _ _ (Nat.pow_pos (by omega)), Nat.div_eq_of_lt hlt, Nat.zero_add]
      omega

/-- One word behind others. -/
def addW (l : List Nat) (a : Nat × Nat) (s : Nat) : Nat × Nat := (a.1 + turned (wordOf l s).1 (wordOf l s).2 (wordOf l s).2 * 2 ^ a.2, a.2 + (wordOf l s).2)
def accW (l : List Nat) (xs : List Nat) : Nat × Nat := xs.foldl (addW l) (0, 0)
theorem accW_snoc (l xs : List Nat) (s : Nat) : accW l (xs ++ [s]) = addW l (accW l xs) s := by simp [accW]
theorem foldW (l : List Nat) : ∀ (ys : List Nat) (a : Nat × Nat), ∃ M d, ys.foldl (addW l) a = (a.1 + 2 ^ a.2 * M, a.2 + d)
  | [], a => ⟨0, 0, by simp⟩
  | s :: ys, a => by
    obtain ⟨M, d, h⟩ := foldW l ys (addW l a s)
    refine ⟨turned (wordOf l s).1 (wordOf l s).2 (wordOf l s).2 + 2 ^ (wordOf l s).2 * M, (wordOf l s).2 + d, ?_⟩
    rw [List.foldl_cons, h]
    unfold addW
    simp only
    rw [Nat.pow_add, Nat.mul_add, Nat.add_assoc, Nat.add_assoc, Nat.mul_comm (turned _ _ _), Nat.mul_assoc]
theorem accW_lt (l : List Nat) (xs : List Nat) : (accW l xs).1 < 2 ^ (accW l xs).2 := by
  suffices h : ∀ (ys : List Nat) (a : Nat × Nat), a.1 < 2 ^ a.2 → (ys.foldl (addW l) a).1 < 2 ^ (ys.foldl (addW l) a).2 by exact h xs (0, 0) (by decide)
  intro ys
  induction ys with
  | nil => intro a h; exact h
  | cons s ys ih =>
    intro a h
    rw [List.foldl_cons]
    refine ih _ ?_
    have ht := turned_lt (wordOf l s).1 (wordOf l s).2 (wordOf l s).2
    show a.1 + turned (wordOf l s).1 (wordOf l s).2 (wordOf l s).2 * 2 ^ a.2 < 2 ^ (a.2 + (wordOf l s).2)
    generalize turned (wordOf l s).1 (wordOf l s).2 (wordOf l s).2 = t at *
    rw [Nat.pow_add, Nat.mul_comm (2 ^ a.2)]
    have h2 : (t + 1) * 2 ^ a.2 ≤ 2 ^ (wordOf l s).2 * 2 ^ a.2 := Nat.mul_le_mul_right _ ht
    rw [Nat.add_mul] at h2
    omega
/-- The bits of a word among all. -/
theorem accW_bits (l xs ys : List Nat) (s i : Nat) (hi : i < (wordOf l s).2) :
    (accW l (xs ++ s :: ys)).1 / 2 ^ ((accW l xs).2 + i) % 2 = (wordOf l s).1 / 2 ^ ((wordOf l s).2 - 1 - i) % 2 ∧ (accW l xs).2 + (wordOf l s).2 ≤ (accW l (xs ++ s :: ys)).2 := by
  have hlt := accW_lt l xs
  have e : accW l (xs ++ s :: ys) = ys.foldl (addW l) (addW l (accW l xs) s) := by simp [accW]
  rw [e]
  obtain ⟨M, d, h⟩ := foldW l ys (addW l (accW l xs) s)
  rw [h]
  unfold addW
  simp only
  generalize accW l xs = a at *
  generalize hV : (wordOf l s).1 = V at *
  generalize hm : (wordOf l s).2 = m at *
  refine ⟨?_, by omega⟩
  have ht := turned_bit V m m i hi
  have h1 : a.1 + turned V m m * 2 ^ a.2 + 2 ^ (a.2 + m) * M = a.1 + (turned V m m + 2 ^ m * M) * 2 ^ a.2 := by
    rw [Nat.pow_add, Nat.add_mul, Nat.add_assoc, Nat.mul_assoc (2 ^ a.2), Nat.mul_comm (2 ^ a.2) (2 ^ m * M)]
  rw [h1, Nat.pow_add, ← Nat.div_div_eq_div_mul, Nat.add_mul_div_right _ _ (Nat.pow_pos (by omega)), Nat.div_eq_of_lt hlt, Nat.zero_add]
  obtain ⟨e, he⟩ : ∃ e, m = i + (e + 1) := ⟨m - i - 1, by omega⟩
  have h2 : 2 ^ m * M = 2 ^ i * (2 * (2 ^ e * M)) := by rw [he, Nat.pow_add, Nat.pow_succ, Nat.mul_comm (2 ^ e) 2, Nat.mul_assoc, Nat.mul_assoc]
  rw [h2, Nat.add_mul_div_left _ _ (Nat.pow_pos (by omega)), Nat.add_mul_mod_self_left]
  exact ht

theorem KeptC.drawn {B g k : Nat} {w : World} {l : List Nat} (h : KeptC B w g l) : KeptC B (w.drewN k) g l := h.more (below_drawn (Below.refl _ _) k)
theorem Wr.drawn {w : World} {g N n : Nat} {v : Value} (h : Wr w g v N n) (k : Nat) : Wr (w.drewN k) g v N n := h
def WrYes (w : World) (gw : Nat) (vw : Value) (N n : Nat) (e : Ending) (w' : World) : Prop := e = .returned (.int .i64 0) ∧ Grew w gw vw N n w'
theorem Grew.undrawn {w W : World} {g k M m : Nat} {v : Value} (h : Grew (w.drewN k) g v M m W) : Grew w g v M m W := by
  obtain ⟨v', h1, h2, h3⟩ := h
  exact ⟨v', h1, ⟨h2.os, h2.tape, h2.output, h2.size, h2.block⟩, h3⟩
set_option maxHeartbeats 4000000 in
theorem write_yes (B g gw i V m N n : Nat) (vw : Value) (l : List Nat) (w : World) (hK : KeptC B w g l) (hWr : Wr w gw vw N n) (hn : n < 100000) (hi : i < l.length) (hw : wordOf l i = (V, m)) (hm : 0 < m) (hm2 : m ≤ 15) (hV : V < 100000) :
    Calls Try.prog 43 #[.pointer (some ⟨g, 0, none⟩), .pointer (some ⟨gw, 0, none⟩), .int .i64 (i : Int)] w (WrYes w gw vw (N + turned V m m * 2 ^ n) (n + m)) := by
  have hof : ofA l (i : Int) = (V, m) := by unfold ofA; rw [if_pos (by omega), Int.toNat_natCast, hw]
  have Hof := Lib.hid (of_any g (g + 1) l (i : Int) w hK.at _ hof)
  simp only at Hof
  have Htu := Lib.hid fun k => wturned_ok gw N n V m vw (w.drewN k) (hWr.drawn k) (by omega) (by omega) (by omega)
  have d1 : ((m : Int) == 0) = false := beq_eq_false_iff_ne.mpr (by omega)
  clear hK hWr hof hw hi hm
  go_enter Try.func43, Try.ntmps43
  go_wp2_with fail
  refine Hof.out.mono ?_
  rintro e X ⟨rfl, k, rfl⟩
  go_wp2_with fail
  refine (Htu.out k).mono ?_
  rintro e X ⟨rfl, hG⟩
  have HG := Lib.hid hG.undrawn
  clear hG
  go_wp2_with fail
  go_ret
  exact ⟨rfl, HG.out⟩
def WrNo (w : World) (e : Ending) (w' : World) : Prop := e = .returned (.int .i64 8) ∧ ∃ k, w' = w.drewN k
set_option maxHeartbeats 4000000 in
theorem write_no (B g : Nat) (p : Value) (z : Int) (l : List Nat) (w : World) (hK : KeptC B w g l) (hof : ofA l z = (0, 0)) :
    Calls Try.prog 43 #[.pointer (some ⟨g, 0, none⟩), p, .int .i64 z] w (WrNo w) := by
  have Hof := Lib.hid (of_any g (g + 1) l z w hK.at _ hof)
  simp only at Hof
  clear hK hof
  go_enter Try.func43, Try.ntmps43
  go_wp2_with fail
  refine Hof.out.mono ?_
  rintro e X ⟨rfl, k, rfl⟩
  go_wp2_with fail
  go_ret
  exact ⟨rfl, k, rfl⟩
end Go.Proofs.Ytngnhkghpnamoaa
