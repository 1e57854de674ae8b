/- Layer 33: qualities: plain mathematics. -/
import Derived.Test.YtkmdimepbghpcaaDoorBs
import Derived.Lib.IndexMore
namespace Go.Proofs.YtkmdimepbghpcaaDoor
open Go.RowKit
set_option linter.unusedVariables false

/-- A text cut at the first byte c. -/
def cutL : List Nat → Nat → List Nat × List Nat × Bool
  | [], c => ([], [], false)
  | b :: l, c => if b = c then ([], l, true) else (b :: (cutL l c).1, (cutL l c).2.1, (cutL l c).2.2)
theorem cutL_no {b c : Nat} {l : List Nat} (h : ¬ b = c) : cutL (b :: l) c = (b :: (cutL l c).1, (cutL l c).2.1, (cutL l c).2.2) := by
  conv => lhs; unfold cutL
  rw [if_neg h]
theorem index_one (l : List UInt8) (c : UInt8) : Lib.index (c :: l) [c] = 0 := by unfold Lib.index; simp [List.isPrefixOf]
theorem index_skip (b c : UInt8) (l : List UInt8) (h : b ≠ c) : Lib.index (b :: l) [c] = if Lib.index l [c] == -1 then -1 else Lib.index l [c] + 1 := by
  conv => lhs; unfold Lib.index
  have : ([c] : List UInt8).isPrefixOf (b :: l) = false := by simp [List.isPrefixOf]; exact fun e => h e.symm
  rw [this]; rfl
theorem cut_cutL (l : List UInt8) (c : UInt8) : ((Lib.cut l [c]).1.map UInt8.toNat, (Lib.cut l [c]).2.1.map UInt8.toNat, (Lib.cut l [c]).2.2) = cutL (l.map UInt8.toNat) c.toNat := by
  induction l with
  | nil => simp [Lib.cut, Lib.index, cutL]
  | cons b l ih =>
    show _ = cutL (b.toNat :: l.map UInt8.toNat) c.toNat
    unfold cutL
    by_cases h : b = c
    · subst h
      rw [if_pos rfl]
      unfold Lib.cut
      rw [index_one]
      simp
    · rw [if_neg (fun e => h (UInt8.toNat_inj.1 e)), ← ih]
      unfold Lib.cut
      rw [index_skip b c l h]
      rcases Lib.index_spec l [c] with ⟨h1, _⟩ | ⟨i, h1, _⟩
      · rw [h1]; simp
      · rw [h1]
        have e1 : ((i : Int) == -1) = false := beq_eq_false_iff_ne.mpr (by omega)
        rw [e1]
        have e2 : (0 : Int) ≤ (i : Int) + 1 := by omega
        have e3 : (0 : Int) ≤ (i : Int) := by omega
        have e4 : ((i : Int) + 1).toNat = i + 1 := by omega
        simp only [Bool.false_eq_true, if_false, if_pos e2, if_pos e3, e4, Int.toNat_natCast, List.take_succ_cons, List.map_cons, List.length_cons, List.length_nil]
        rw [show i + 1 + (0 + 1) = (i + (0 + 1)) + 1 by omega, List.drop_succ_cons]
/-- Digits, one by one. -/
def dig : List Nat → Nat → Int × Bool
  | [], n => if 1000 < n then (0, false) else ((n : Int), true)
  | c :: l, n => if c < 48 ∨ 57 < c then (0, false) else dig l (10 * n + (c - 48))
def firstQ (b a : List Nat) : Bool := decide ((b = [48] ∨ b = [49]) ∧ a.length ≤ 3)
/-- The program's quality. -/
def codeQ (l : List Nat) : Int × Bool := if firstQ (cutL l 46).1 (cutL l 46).2.1 then dig ((cutL l 46).1 ++ (cutL l 46).2.1 ++ List.replicate (3 - (cutL l 46).2.1.length) 48) 0 else (0, false)
def unit (i : Nat) : Nat := if i = 2 then 100 else if i = 3 then 10 else if i = 4 then 1 else 0
/-- May a byte stand at that place (behind the first)? -/
def badQ (l : List Nat) (i : Nat) : Bool := (decide (i = 1) && decide (l.getD i 0 ≠ 46)) || (decide (1 < i) && (decide (l.getD i 0 < 48) || decide (57 < l.getD i 0)))
/-- The reference's loop. -/
def goQ (l : List Nat) : Nat → Nat → Int → Int × Bool
  | 0, i, n => if 1000 < n then (0, false) else (n, true)
  | f + 1, i, n => if i < l.length then (if badQ l i then (0, false) else goQ l f (i + 1) (n + (unit i : Int) * ((l.getD i 0 : Int) - 48))) else if 1000 < n then (0, false) else (n, true)
def okQ (l : List Nat) : Bool := decide (1 ≤ l.length ∧ l.length ≤ 5 ∧ (l.getD 0 0 = 48 ∨ l.getD 0 0 = 49))
def refQ (l : List Nat) : Int × Bool := if okQ l then goQ l 5 1 (1000 * ((l.getD 0 0 : Int) - 48)) else (0, false)
theorem dig_digit (c : Nat) (l : List Nat) (n : Nat) (h : 48 ≤ c ∧ c ≤ 57) : dig (c :: l) n = dig l (10 * n + (c - 48)) := by
  conv => lhs; unfold dig
  rw [if_neg (by omega)]
theorem dig_bad (c : Nat) (l : List Nat) (n : Nat) (h : c < 48 ∨ 57 < c) : dig (c :: l) n = (0, false) := by
  conv => lhs; unfold dig
  rw [if_pos h]
theorem goQ_end {l : List Nat} {f i N : Nat} {n : Int} (h : ¬ i < l.length) (hn : n = (N : Int)) : goQ l f i n = dig [] N := by
  have h1 : (if (1000 : Int) < n then ((0 : Int), false) else (n, true)) = dig [] N := by
    show _ = if 1000 < N then ((0 : Int), false) else ((N : Int), true)
    by_cases h2 : 1000 < N
    · rw [if_pos h2, if_pos (by omega)]
    · rw [if_neg h2, if_neg (by omega), hn]
  cases f with
  | zero => exact h1
  | succ f => unfold goQ; rw [if_neg h]; exact h1
theorem goQ_bad {l : List Nat} {f i : Nat} {n : Int} (h : i < l.length) (hb : badQ l i = true) : goQ l (f + 1) i n = (0, false) := by
  unfold goQ; rw [if_pos h, if_pos hb]
theorem goQ_go {l : List Nat} {f i : Nat} {n : Int} (h : i < l.length) (hb : badQ l i = false) : goQ l (f + 1) i n = goQ l f (i + 1) (n + (unit i : Int) * ((l.getD i 0 : Int) - 48)) := by
  conv => lhs; unfold goQ
  rw [if_pos h, hb]; rfl
theorem bad_dig {l : List Nat} {i c : Nat} (hi : 1 < i) (hc : l.getD i 0 = c) : badQ l i = decide (c < 48 ∨ 57 < c) := by
  unfold badQ
  rw [hc, decide_eq_false (show ¬ i = 1 by omega), decide_eq_true hi, Bool.false_and, Bool.false_or, Bool.true_and, Bool.decide_or]
theorem bad_dot {l : List Nat} {c : Nat} (hc : l.getD 1 0 = c) : badQ l 1 = decide (c ≠ 46) := by
  unfold badQ
  rw [hc, decide_eq_true rfl, Bool.true_and, decide_eq_false (show ¬ (1 : Nat) < 1 by omega), Bool.false_and, Bool.or_false]
/-- Behind the point. -/
theorem tailQ (a : Nat) (ha : a = 48 ∨ a = 49) (r : List Nat) (hr : r.length ≤ 3) : dig ([a] ++ r ++ List.replicate (3 - r.length) 48) 0 = goQ (a :: 46 :: r) 5 1 (1000 * ((a : Int) - 48)) := by
  rw [goQ_go (by simp) (by rw [bad_dot (c := 46) rfl]; rfl)]
  have h0 : dig ([a] ++ r ++ List.replicate (3 - r.length) 48) 0 = dig (r ++ List.replicate (3 - r.length) 48) (a - 48) := by
    rw [List.append_assoc, List.singleton_append, dig_digit a _ 0 (by omega), Nat.mul_zero, Nat.zero_add]
  rw [h0]
  match r, hr with
  | [], _ =>
    rw [goQ_end (N := 1000 * (a - 48)) (by simp) (by simp [unit]; omega)]
    show dig [48, 48, 48] (a - 48) = _
    rw [dig_digit 48 _ _ (by omega), dig_digit 48 _ _ (by omega), dig_digit 48 _ _ (by omega)]
    congr 1; omega
  | [x], _ =>
    by_cases hx : x < 48 ∨ 57 < x
    · rw [goQ_bad (by simp) (by rw [bad_dig (c := x) (by omega) rfl]; exact decide_eq_true hx)]
      exact dig_bad x _ _ hx
    · rw [goQ_go (by simp) (by rw [bad_dig (c := x) (by omega) rfl]; exact decide_eq_false hx), goQ_end (N := 1000 * (a - 48) + 100 * (x - 48)) (by simp) (by simp [unit]; omega)]
      show dig [x, 48, 48] (a - 48) = _
      rw [dig_digit x _ _ (by omega), dig_digit 48 _ _ (by omega), dig_digit 48 _ _ (by omega)]
      congr 1; omega
  | [x, y], _ =>
    by_cases hx : x < 48 ∨ 57 < x
    · rw [goQ_bad (by simp) (by rw [bad_dig (c := x) (by omega) rfl]; exact decide_eq_true hx)]
      exact dig_bad x _ _ hx
    · rw [goQ_go (by simp) (by rw [bad_dig (c := x) (by omega) rfl]; exact decide_eq_false hx)]
      show dig [x, y, 48] (a - 48) = _
      rw [dig_digit x _ _ (by omega)]
      by_cases hy : y < 48 ∨ 57 < y
      · rw [goQ_bad (by simp) (by rw [bad_dig (c := y) (by omega) rfl]; exact decide_eq_true hy)]
        exact dig_bad y _ _ hy
      · rw [goQ_go (by simp) (by rw [bad_dig (c := y) (by omega) rfl]; exact decide_eq_false hy), goQ_end (N := 1000 * (a - 48) + 100 * (x - 48) + 10 * (y - 48)) (by simp) (by simp [unit]; omega)]
        rw [dig_digit y _ _ (by omega), dig_digit 48 _ _ (by omega)]
        congr 1; omega
  | [x, y, z], _ =>
    by_cases hx : x < 48 ∨ 57 < x
    · rw [goQ_bad (by simp) (by rw [bad_dig (c := x) (by omega) rfl]; exact decide_eq_true hx)]
      exact dig_bad x _ _ hx
    · rw [goQ_go (by simp) (by rw [bad_dig (c := x) (by omega) rfl]; exact decide_eq_false hx)]
      show dig [x, y, z] (a - 48) = _
      rw [dig_digit x _ _ (by omega)]
      by_cases hy : y < 48 ∨ 57 < y
      · rw [goQ_bad (by simp) (by rw [bad_dig (c := y) (by omega) rfl]; exact decide_eq_true hy)]
        exact dig_bad y _ _ hy
      · rw [goQ_go (by simp) (by rw [bad_dig (c := y) (by omega) rfl]; exact decide_eq_false hy), dig_digit y _ _ (by omega)]
        by_cases hz : z < 48 ∨ 57 < z
        · rw [goQ_bad (by simp) (by rw [bad_dig (c := z) (by omega) rfl]; exact decide_eq_true hz)]
          exact dig_bad z _ _ hz
        · rw [goQ_go (by simp) (by rw [bad_dig (c := z) (by omega) rfl]; exact decide_eq_false hz), goQ_end (N := 1000 * (a - 48) + 100 * (x - 48) + 10 * (y - 48) + (z - 48)) (by simp) (by simp [unit]; omega)]
          rw [dig_digit z _ _ (by omega)]
          congr 1; omega
theorem okQ_long {l : List Nat} (h : 5 < l.length) : okQ l = false := decide_eq_false (by omega)
theorem codeQ_refQ (l : List Nat) : codeQ l = refQ l := by
  rcases l with _ | ⟨a, l⟩
  · decide
  · by_cases ha : a = 48 ∨ a = 49
    · have h46 : ¬ a = 46 := by omega
      have hc := cutL_no h46 (l := l)
      rcases l with _ | ⟨p, r⟩
      · have hok : okQ [a] = true := decide_eq_true ⟨by simp, by simp, ha⟩
        unfold codeQ refQ
        rw [hc, hok]
        rcases ha with rfl | rfl <;> decide
      · by_cases hp : p = 46
        · subst hp
          have hc2 : cutL (46 :: r) 46 = ([], r, true) := by unfold cutL; rw [if_pos rfl]
          rw [hc2] at hc
          unfold codeQ refQ
          rw [hc]
          by_cases hr : r.length ≤ 3
          · have h1 : firstQ [a] r = true := decide_eq_true ⟨by rcases ha with rfl | rfl <;> simp, hr⟩
            have hok : okQ (a :: 46 :: r) = true := decide_eq_true ⟨by simp, by simp; omega, ha⟩
            rw [hok]
            simp only [h1, if_true]
            exact tailQ a ha r hr
          · have h1 : firstQ [a] r = false := decide_eq_false (fun h => hr h.2)
            rw [okQ_long (l := a :: 46 :: r) (by simp; omega)]
            simp only [h1]
            rfl
        · have hc2 : (cutL (p :: r) 46).1 = p :: (cutL r 46).1 := by rw [cutL_no hp]
          unfold codeQ refQ
          rw [hc]
          have h1 : ∀ q, firstQ (a :: (cutL (p :: r) 46).1) q = false := fun q => by rw [hc2]; exact decide_eq_false (fun h => by rcases h.1 with h | h <;> simp at h)
          simp only [h1]
          cases hok : okQ (a :: p :: r) with
          | false => rfl
          | true =>
            simp only [if_true]
            rw [goQ_bad (by simp) (by rw [bad_dot (c := p) rfl]; exact decide_eq_true hp)]
            rfl
    · have hok : okQ (a :: l) = false := decide_eq_false (fun h => ha h.2.2)
      unfold codeQ refQ
      rw [hok]
      have h1 : ∀ q, firstQ (cutL (a :: l) 46).1 q = false := fun q => decide_eq_false (fun h => by
        unfold cutL at h
        by_cases h46 : a = 46
        · rw [if_pos h46] at h; rcases h.1 with h | h <;> simp at h
        · rw [if_neg h46] at h
          rcases h.1 with h | h
          · simp at h; exact ha (.inl h.1)
          · simp at h; exact ha (.inr h.1))
      simp only [h1]
      rfl
end Go.Proofs.YtkmdimepbghpcaaDoor
