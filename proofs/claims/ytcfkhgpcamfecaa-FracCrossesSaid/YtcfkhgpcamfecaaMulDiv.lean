/- wide.MulDiv, for all numbers. -/
import Derived.Test.YtcfkhgpcamfecaaDiv64
import Derived.Test.YtcfkhgpcamfecaaWideLive
import Derived.Deep.DeepCutAuto
namespace Go.Proofs.Ytcfkhgpcamfecaa
open Go.RowKit Big
set_option linter.unusedVariables false
set_option maxRecDepth 100000

/-- What is divided, where the divisor's amount divides. -/
def mdP (a b c : Int) : Int := if c < 0 then -(a * b) else a * b
def mdNo : Value := .tuple #[.int .i64 0, .int .u64 0, .int .i64 8]
def mdOk (q t : Int) : Value := .tuple #[.int .i64 q, .int .u64 t, .int .i64 0]
def mdIn (q : Int) : Prop := -9223372036854775808 ≤ q ∧ q < 9223372036854775808
/-- What MulDiv answers. -/
def MdPost (w : World) (P D : Int) (e : Ending) (w' : World) : Prop :=
  ((mdIn (P / D) ∧ e = .returned (mdOk (P / D) (P % D))) ∨ (¬ mdIn (P / D) ∧ e = .returned mdNo)) ∧ Below w.heap.size w w'
theorem div_unique {P D q t : Int} (hD : 0 < D) (h : P = q * D + t) (h0 : 0 ≤ t) (h1 : t < D) : P / D = q ∧ P % D = t :=
  (Int.ediv_emod_unique hD).2 ⟨by rw [h, Int.mul_comm]; omega, h0, h1⟩
theorem md_ok {w w' : World} {P D q t : Int} (hD : 0 < D) (h : P = q * D + t) (h0 : 0 ≤ t) (h1 : t < D) (hq : mdIn q) (hb : Below w.heap.size w w') {x y : Int} (hx : x = q) (hy : y = t) : MdPost w P D (.returned (.tuple #[.int .i64 x, .int .u64 y, .int .i64 0])) w' := by
  obtain ⟨e1, e2⟩ := div_unique hD h h0 h1
  unfold MdPost
  rw [e1, e2, hx, hy]
  exact ⟨.inl ⟨hq, rfl⟩, hb⟩
theorem md_no {w w' : World} {P D q t : Int} (hD : 0 < D) (h : P = q * D + t) (h0 : 0 ≤ t) (h1 : t < D) (hq : ¬ mdIn q) (hb : Below w.heap.size w w') : MdPost w P D (.returned (.tuple #[.int .i64 0, .int .u64 0, .int .i64 8])) w' := by
  obtain ⟨e1, e2⟩ := div_unique hD h h0 h1
  unfold MdPost
  rw [e1, e2]
  exact ⟨.inr ⟨hq, rfl⟩, hb⟩
theorem mdP_abs (a b c : Int) : (mdP a b c).natAbs = a.natAbs * b.natAbs := by
  unfold mdP
  split
  · rw [Int.natAbs_neg, Int.natAbs_mul]
  · rw [Int.natAbs_mul]
/-- Is it below 0? -/
theorem mdP_neg (a b c : Int) (h : a.natAbs * b.natAbs ≠ 0) : ((decide (a < 0) != decide (b < 0)) != decide (c < 0)) = decide (mdP a b c < 0) := by
  have ha : a ≠ 0 := by rintro rfl; simp at h
  have hb : b ≠ 0 := by rintro rfl; simp at h
  unfold mdP
  rcases Int.lt_or_gt_of_ne ha with ha | ha <;> rcases Int.lt_or_gt_of_ne hb with hb | hb
  · have h1 := Int.mul_pos_of_neg_of_neg ha hb
    rw [decide_eq_true ha, decide_eq_true hb]
    by_cases hc : c < 0
    · rw [if_pos hc, decide_eq_true hc, decide_eq_true (by omega : -(a * b) < 0)]; rfl
    · rw [if_neg hc, decide_eq_false hc, decide_eq_false (by omega : ¬ a * b < 0)]; rfl
  · have h1 := Int.mul_neg_of_neg_of_pos ha hb
    rw [decide_eq_true ha, decide_eq_false (by omega : ¬ b < 0)]
    by_cases hc : c < 0
    · rw [if_pos hc, decide_eq_true hc, decide_eq_false (by omega : ¬ -(a * b) < 0)]; rfl
    · rw [if_neg hc, decide_eq_false hc, decide_eq_true (by omega : a * b < 0)]; rfl
  · have h1 := Int.mul_neg_of_pos_of_neg ha hb
    rw [decide_eq_false (by omega : ¬ a < 0), decide_eq_true hb]
    by_cases hc : c < 0
    · rw [if_pos hc, decide_eq_true hc, decide_eq_false (by omega : ¬ -(a * b) < 0)]; rfl
    · rw [if_neg hc, decide_eq_false hc, decide_eq_true (by omega : a * b < 0)]; rfl
  · have h1 := Int.mul_pos ha hb
    rw [decide_eq_false (by omega : ¬ a < 0), decide_eq_false (by omega : ¬ b < 0)]
    by_cases hc : c < 0
    · rw [if_pos hc, decide_eq_true hc, decide_eq_true (by omega : -(a * b) < 0)]; rfl
    · rw [if_neg hc, decide_eq_false hc, decide_eq_false (by omega : ¬ a * b < 0)]; rfl

theorem half_neg (m : Nat) (h : m ≤ 9223372036854775808) : wrap64 (IntKind.u64.wrap (-(m : Int))) = -(m : Int) := by
  rw [wrap_mod]
  unfold wrap64
  omega

theorem big_div (N D K : Nat) (hD : 0 < D) (h : ¬ N / K < D) : K ≤ N / D := (Nat.le_div_iff_mul_le hD).2 (Nat.le_trans (Nat.mul_le_mul_left K (Nat.le_of_not_lt h)) (Nat.mul_div_le N K))
theorem small_div (N D K : Nat) (hK : 0 < K) (h : N / K < D) : N / D < K := Nat.div_lt_of_lt_mul ((Nat.div_lt_iff_lt_mul hK).1 h)

set_option maxHeartbeats 8000000 in
theorem muldiv_any (a b c : Int) (w : World) (ha : -9223372036854775808 ≤ a ∧ a < 9223372036854775808) (hb : -9223372036854775808 ≤ b ∧ b < 9223372036854775808)
    (hc : -9223372036854775808 ≤ c ∧ c < 9223372036854775808) (hc0 : c ≠ 0) :
    Calls Try.prog 22 #[.int .i64 a, .int .i64 b, .int .i64 c] w (MdPost w (mdP a b c) c.natAbs) := by
  have ha1 := Lib.hid fun W => amount_any a W ha
  have hb1 := Lib.hid fun W => amount_any b W hb
  have hc1 := Lib.hid fun W => amount_any c W hc
  have hcz : (c == 0) = false := by simpa using hc0
  have hlt := prod_lt _ _ (natAbs_lt ha) (natAbs_lt hb)
  have ht1 := Lib.hid fun W => times_any a.natAbs b.natAbs W (natAbs_lt ha) (natAbs_lt hb)
  have hz := fun W => zero_any (a.natAbs * b.natAbs / 18446744073709551616) (a.natAbs * b.natAbs % 18446744073709551616) W (Nat.div_lt_of_lt_mul hlt) (Nat.mod_lt _ (by omega))
  rw [prod_zero _ hlt] at hz
  have hD : 0 < c.natAbs := by omega
  have hDl := natAbs_lt hc
  have habs := mdP_abs a b c
  have hneg := mdP_neg a b c
  have hdv : Hid (∀ W, a.natAbs * b.natAbs / 18446744073709551616 < c.natAbs → Calls Try.prog 49 #[.int .u64 ((a.natAbs * b.natAbs / 18446744073709551616 : Nat) : Int), .int .u64 ((a.natAbs * b.natAbs % 18446744073709551616 : Nat) : Int), .int .u64 (c.natAbs : Int)] W
      fun e w' => e = .returned (.tuple #[.int .u64 ((a.natAbs * b.natAbs / c.natAbs : Nat) : Int), .int .u64 ((a.natAbs * b.natAbs % c.natAbs : Nat) : Int)]) ∧ Below W.heap.size W w') := fun W h => by
    have := div64_any (a.natAbs * b.natAbs / 18446744073709551616) (a.natAbs * b.natAbs % 18446744073709551616) c.natAbs W h (Nat.mod_lt _ (by omega)) hDl
    rwa [show a.natAbs * b.natAbs / 18446744073709551616 * 18446744073709551616 + a.natAbs * b.natAbs % 18446744073709551616 = a.natAbs * b.natAbs by rw [Nat.mul_comm]; exact Nat.div_add_mod _ _] at this
  have hhi : a.natAbs * b.natAbs / 18446744073709551616 < c.natAbs → a.natAbs * b.natAbs / c.natAbs < 18446744073709551616 := small_div _ _ _ (by omega)
  have hbig : ¬ (a.natAbs * b.natAbs / 18446744073709551616 < c.natAbs) → 18446744073709551616 ≤ a.natAbs * b.natAbs / c.natAbs := big_div _ _ _ hD
  have hdm := Nat.div_add_mod (a.natAbs * b.natAbs) c.natAbs
  have hrl := Nat.mod_lt (a.natAbs * b.natAbs) hD
  unfold prod at ht1
  generalize mdP a b c = P at *
  generalize hN : a.natAbs * b.natAbs = N at *
  generalize hX : ((decide (a < 0) != decide (b < 0)) != decide (c < 0)) = X at *
  generalize hDD : c.natAbs = D at *
  generalize N / 18446744073709551616 = p1 at *
  generalize N % 18446744073709551616 = p2 at *
  generalize N / D = n at *
  generalize N % D = r at *
  have hNi : (N : Int) = (n : Int) * (D : Int) + (r : Int) := by rw [← hdm]; simp [Int.mul_comm]
  have K0 : Hid (0 ≤ P → P = (n : Int) * (D : Int) + (r : Int)) := fun h => by omega
  have K1 : Hid (P < 0 → r = 0 → P = (-(n : Int)) * (D : Int) + 0) := fun h h2 => by rw [Int.neg_mul]; omega
  have K2 : Hid (P < 0 → 0 < r → P = (-(n : Int) - 1) * (D : Int) + ((D : Int) - (r : Int))) := fun h h2 => by rw [Int.sub_mul, Int.neg_mul, Int.one_mul]; omega
  have hNz : Hid (N = 0 → n = 0 ∧ r = 0) := fun h => by
    rw [h] at hdm
    have h2 := Nat.add_eq_zero_iff.1 hdm
    exact ⟨by rcases Nat.mul_eq_zero.1 h2.1 with h3 | h3 <;> omega, h2.2⟩
  have HX := Lib.hid hX
  have Hz := Lib.hid hz
  have Hneg := Lib.hid hneg
  have Habs := Lib.hid habs
  have Hhi := Lib.hid hhi
  have Hbig := Lib.hid hbig
  have hrD : (r : Int) < (D : Int) := by omega
  have hDi : Hid ((0 : Int) < (D : Int)) := by show (0 : Int) < _; omega
  clear hX hz hneg habs hhi hbig hNi hdm hN hDD hlt ha hb hc hc0
  go_enter Try.func22, Try.ntmps22
  go_wp2_with fail
  refine (ha1.out _).mono ?_
  rintro e W0 ⟨rfl, rfl⟩
  go_wp2_with fail
  refine (hb1.out _).mono ?_
  rintro e W0 ⟨rfl, rfl⟩
  go_wp2_with fail
  refine (ht1.out _).mono ?_
  rintro e W1 ⟨rfl, hb1⟩
  have hT := Whole.new W1 70 #[.int .u64 (p1 : Int), .int .u64 (p2 : Int)]
  have hbT := below_then hb1 ((Below.refl _ _).alloc (Nat.le_refl _) (.cells #[.int .u64 (p1 : Int), .int .u64 (p2 : Int)] 70)) hb1.size
  obtain ⟨W2, hW2⟩ : ∃ W2, W2 = W1.alloc (.cells #[.int .u64 (p1 : Int), .int .u64 (p2 : Int)] 70) := ⟨_, rfl⟩
  obtain ⟨G, hG⟩ : ∃ G, G = W1.heap.size := ⟨_, rfl⟩
  go_wp2_with fail
  rw [← hW2] at hT hbT ⊢
  rw [← hG] at hT ⊢
  clear hW2 hb1 hG
  have hGb : w.heap.size ≤ W2.heap.size := hbT.size
  obtain ⟨c0, c1⟩ := pair_of hT
  by_cases hp : p1 < D
  · have hpd : ¬ D ≤ p1 := by omega
    have Hdv := Lib.hid fun W => hdv.out W hp
    have hn64 := Hhi.out hp
    clear hp Hbig Hhi hdv
    go_region_held3 (fun W => W.cell? ⟨G, 0, none⟩ = some (.int .u64 (p1 : Int)) ∧ W.cell? ⟨G, 1, none⟩ = some (.int .u64 (p2 : Int)))
      (first | exact pair_of hT.drew | exact pair_of hT)
      (first | (go_at_call 45; refine (hc1.out _).mono ?_; rintro e w' ⟨rfl, rfl⟩))
    go_wp2_with fail
    go_region_held3 (fun W => W.cell? ⟨G, 0, none⟩ = some (.int .u64 (p1 : Int)) ∧ W.cell? ⟨G, 1, none⟩ = some (.int .u64 (p2 : Int)))
      (first | exact pair_of hT.drew.drew | exact pair_of hT3)
      (first
        | (go_at_call 45; refine (hc1.out _).mono ?_; rintro e w' ⟨rfl, rfl⟩)
        | (go_at_call 49; refine (Hdv.out _).mono ?_; rintro e W3 ⟨rfl, hb3⟩; (have hT3 := hT.drew.drew.below hb3 hT.lt); (have hbW3 := Lib.hid (below_then hbT.drew.drew hb3 hGb))))
    obtain ⟨e0, e1⟩ := pair_of hT3
    go_wp2_with fail
    refine (Hz.out _).mono ?_
    rintro e W4 ⟨rfl, hb4⟩
    have hb5 := Lib.hid (below_then hbW3.out hb4 hbW3.out.size)
    clear hb4 Hdv Hz
    by_cases hN0 : N = 0
    · obtain ⟨rfl, rfl⟩ := hNz.out hN0
      rw [decide_eq_true hN0]
      have hP : P = 0 := by have := Habs.out; omega
      have hfin := Lib.hid (md_ok (w := w) (w' := W4) (P := P) (q := 0) (t := 0) hDi.out (by rw [hP]; simp) (by omega) hDi.out (by unfold mdIn; omega) hb5.out rfl rfl)
      clear hN0 hP K0 K1 K2 hNz
      go_wp2_with fail
      go_ret3
      exact hfin.out
    · rw [decide_eq_false hN0]
      have hXP := Hneg.out hN0
      by_cases hP : P < 0
      · have hX1 : ((decide (a < 0) != decide (b < 0)) != decide (c < 0)) = true := by rw [HX.out, hXP, decide_eq_true hP]
        go_upto_region 8 with (fail)
        rw [show (!(!decide (a < 0) == decide (b < 0)) == decide (c < 0)) = true from hX1]
        clear hX1
        by_cases hr0 : r = 0
        · subst hr0
          have hPe := Lib.hid (K1.out hP rfl)
          by_cases hh : n ≤ 9223372036854775808
          · have hhd : decide ((n : Int) ≤ 9223372036854775808) = true := by simp; omega
            have hfin := Lib.hid (md_ok (w := w) (w' := W4) hDi.out hPe.out (by omega) hDi.out (by unfold mdIn; omega) hb5.out (half_neg n hh) rfl)
            clear hn64 hDl hN0 hP K0 K1 K2 hNz hXP hh hPe
            go_wp2_with fail
            go_ret3
            exact hfin.out
          · have hhd : decide ((n : Int) ≤ 9223372036854775808) = false := by simp; omega
            have hfin := Lib.hid (md_no (w := w) (w' := W4) hDi.out hPe.out (by omega) hDi.out (by unfold mdIn; omega) hb5.out)
            clear hn64 hDl hN0 hP K0 K1 K2 hNz hXP hh hPe
            go_wp2_with fail
            go_ret3
            exact hfin.out
        · have hrp : 0 < r := by omega
          have hPe := Lib.hid (K2.out hP hrp)
          obtain ⟨m, hm⟩ : ∃ m, m = (n + 1) % 18446744073709551616 := ⟨_, rfl⟩
          have hw : IntKind.u64.wrap ((n : Int) + 1) = (m : Int) := by rw [show ((n : Int) + 1) = ((n + 1 : Nat) : Int) by simp, wrap_nat, hm]
          by_cases hm0 : m = 0
          · subst hm0
            have hfin := Lib.hid (md_no (w := w) (w' := W4) hDi.out hPe.out (by omega) (by omega) (by unfold mdIn; omega) hb5.out)
            clear hn64 hDl hN0 hP K0 K1 K2 hNz hXP hPe hm hr0
            go_wp2_with (first | (go_at_call 45; refine (hc1.out _).mono ?_; rintro e w' ⟨rfl, rfl⟩))
            go_ret3
            exact hfin.out
          · have hmz : ((m : Int) == 0) = false := by simp; omega
            have hmn : m = n + 1 := by omega
            by_cases hh : m ≤ 9223372036854775808
            · have hhd : decide ((m : Int) ≤ 9223372036854775808) = true := by simp; omega
              have hfin := Lib.hid (md_ok (w := w) (w' := W4) hDi.out hPe.out (by omega) (by omega) (by unfold mdIn; omega) hb5.out (x := wrap64 (IntKind.u64.wrap (-(m : Int)))) (y := IntKind.u64.wrap ((D : Int) - (r : Int))) (by rw [half_neg m hh]; omega) (IntWalk.u64_in _ ⟨by omega, by omega⟩))
              clear hn64 hDl hN0 hP K0 K1 K2 hNz hXP hh hPe hm hr0 hm0 hmn
              go_wp2_with (first | (go_at_call 45; refine (hc1.out _).mono ?_; rintro e w' ⟨rfl, rfl⟩))
              go_ret3
              exact hfin.out
            · have hhd : decide ((m : Int) ≤ 9223372036854775808) = false := by simp; omega
              have hfin := Lib.hid (md_no (w := w) (w' := W4) hDi.out hPe.out (by omega) (by omega) (by unfold mdIn; omega) hb5.out)
              clear hn64 hDl hN0 hP K0 K1 K2 hNz hXP hh hPe hm hr0 hm0 hmn
              go_wp2_with (first | (go_at_call 45; refine (hc1.out _).mono ?_; rintro e w' ⟨rfl, rfl⟩))
              go_ret3
              exact hfin.out
      · have hX1 : ((decide (a < 0) != decide (b < 0)) != decide (c < 0)) = false := by rw [HX.out, hXP, decide_eq_false hP]
        go_upto_region 8 with (fail)
        rw [show (!(!decide (a < 0) == decide (b < 0)) == decide (c < 0)) = false from hX1]
        clear hX1
        have hPe := Lib.hid (K0.out (by omega))
        by_cases hh : n < 9223372036854775808
        · have hhd : decide ((n : Int) < 9223372036854775808) = true := by simp; omega
          have hcv : wrap64 (n : Int) = (n : Int) := IntWalk.wrap64_in _ ⟨by omega, by omega⟩
          have hfin := Lib.hid (md_ok (w := w) (w' := W4) hDi.out hPe.out (by omega) hrD (by unfold mdIn; omega) hb5.out (x := wrap64 (n : Int)) hcv rfl)
          clear hn64 hDl hN0 hP K0 K1 K2 hNz hXP hh hPe
          go_wp2_with fail
          go_ret3
          exact hfin.out
        · have hhd : decide ((n : Int) < 9223372036854775808) = false := by simp; omega
          have hfin := Lib.hid (md_no (w := w) (w' := W4) hDi.out hPe.out (by omega) hrD (by unfold mdIn; omega) hb5.out)
          clear hn64 hDl hN0 hP K0 K1 K2 hNz hXP hh hPe
          go_wp2_with fail
          go_ret3
          exact hfin.out
  · have hpd : D ≤ p1 := by omega
    have hn := Hbig.out hp
    have hno : MdPost w P D (.returned (.tuple #[.int .i64 0, .int .u64 0, .int .i64 8])) W2.drew := by
      by_cases hP : 0 ≤ P
      · exact md_no hDi.out (K0.out hP) (by omega) hrD (by unfold mdIn; omega) hbT.drew
      · by_cases hr0 : r = 0
        · exact md_no hDi.out (K1.out (by omega) hr0) (by omega) hDi.out (by unfold mdIn; omega) hbT.drew
        · exact md_no hDi.out (K2.out (by omega) (by omega)) (by omega) (by omega) (by unfold mdIn; omega) hbT.drew
    have Hno := Lib.hid hno
    clear hp Hbig Hhi hdv hn hno
    go_region_held3 (fun W => W.cell? ⟨G, 0, none⟩ = some (.int .u64 (p1 : Int)) ∧ W.cell? ⟨G, 1, none⟩ = some (.int .u64 (p2 : Int)))
      (first | exact pair_of hT.drew | exact pair_of hT)
      (first | (go_at_call 45; refine (hc1.out _).mono ?_; rintro e w' ⟨rfl, rfl⟩))
    go_wp2_with fail
    go_ret3
    exact Hno.out
end Go.Proofs.Ytcfkhgpcamfecaa
