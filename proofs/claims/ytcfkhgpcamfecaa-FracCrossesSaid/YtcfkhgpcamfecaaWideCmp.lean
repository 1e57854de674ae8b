/- Walks over package wide: sign, compare, Cmp, Sign. -/
import Derived.Test.YtcfkhgpcamfecaaWide
import Derived.Outline
namespace Go.Proofs.Ytcfkhgpcamfecaa
open Go.RowKit Big
set_option linter.unusedVariables false
set_option maxRecDepth 100000

theorem nan_u64 (x : Int) (w : World) : Calls Try.prog 67 #[.int .u64 x] w fun e w' => e = .returned (.bool false) ∧ w = w' := by
  go_enter Try.func67, Try.ntmps67
  go_wp2_with fail
  go_ret
  exact ⟨rfl, rfl⟩
theorem nan_int (x : Int) (w : World) : Calls Try.prog 65 #[.int .i64 x] w fun e w' => e = .returned (.bool false) ∧ w = w' := by
  go_enter Try.func65, Try.ntmps65
  go_wp2_with fail
  go_ret
  exact ⟨rfl, rfl⟩
def cmpI (x y : Int) : Int := if x < y then -1 else if y < x then 1 else 0
theorem cmpI_nat (x y : Nat) : cmpI (x : Int) (y : Int) = cmpN x y := by unfold cmpI cmpN; simp only [Int.ofNat_lt]
theorem compare_u64 (x y : Int) (w : World) : Calls Try.prog 54 #[.int .u64 x, .int .u64 y] w fun e w' => e = .returned (.int .i64 (cmpI x y)) ∧ w = w' := by
  by_cases h1 : x < y
  · have hR : cmpI x y = -1 := by simp [cmpI, h1]
    rw [hR]
    clear hR
    go_enter Try.func54, Try.ntmps54
    go_wp2_with (go_at_call 67; refine (nan_u64 _ _).mono ?_; rintro e w' ⟨rfl, rfl⟩)
    go_ret
    exact ⟨rfl, rfl⟩
  · by_cases h2 : y < x
    · have hR : cmpI x y = 1 := by simp [cmpI, h1, h2]
      rw [hR]
      clear hR
      go_enter Try.func54, Try.ntmps54
      go_wp2_with (go_at_call 67; refine (nan_u64 _ _).mono ?_; rintro e w' ⟨rfl, rfl⟩)
      go_ret
      exact ⟨rfl, rfl⟩
    · have hR : cmpI x y = 0 := by simp [cmpI, h1, h2]
      rw [hR]
      clear hR
      go_enter Try.func54, Try.ntmps54
      go_wp2_with (go_at_call 67; refine (nan_u64 _ _).mono ?_; rintro e w' ⟨rfl, rfl⟩)
      go_ret
      exact ⟨rfl, rfl⟩
theorem compare_int (x y : Int) (w : World) : Calls Try.prog 47 #[.int .i64 x, .int .i64 y] w fun e w' => e = .returned (.int .i64 (cmpI x y)) ∧ w = w' := by
  by_cases h1 : x < y
  · have hR : cmpI x y = -1 := by simp [cmpI, h1]
    rw [hR]
    clear hR
    go_enter Try.func47, Try.ntmps47
    go_wp2_with (go_at_call 65; refine (nan_int _ _).mono ?_; rintro e w' ⟨rfl, rfl⟩)
    go_ret
    exact ⟨rfl, rfl⟩
  · by_cases h2 : y < x
    · have hR : cmpI x y = 1 := by simp [cmpI, h1, h2]
      rw [hR]
      clear hR
      go_enter Try.func47, Try.ntmps47
      go_wp2_with (go_at_call 65; refine (nan_int _ _).mono ?_; rintro e w' ⟨rfl, rfl⟩)
      go_ret
      exact ⟨rfl, rfl⟩
    · have hR : cmpI x y = 0 := by simp [cmpI, h1, h2]
      rw [hR]
      clear hR
      go_enter Try.func47, Try.ntmps47
      go_wp2_with (go_at_call 65; refine (nan_int _ _).mono ?_; rintro e w' ⟨rfl, rfl⟩)
      go_ret
      exact ⟨rfl, rfl⟩

def orI (x y : Int) : Int := if x = 0 then y else x
set_option maxHeartbeats 1000000 in
theorem or_any (g : Nat) (x y : Int) (c : Nat) (w : World) (h0 : w.cell? ⟨g, 0, none⟩ = some (.int .i64 x)) (h1 : w.cell? ⟨g, 1, none⟩ = some (.int .i64 y)) :
    Calls Try.prog 53 #[.slice (some ⟨g, 0, none⟩) 2 c] w fun e w' => e = .returned (.int .i64 (orI x y)) ∧ w = w' := by
  have Hx : Hid (x ≠ 0 → orI x y = x) := fun h => by simp [orI, h]
  have Hy : Hid (x = 0 → orI x y = y) := fun h => by simp [orI, h]
  generalize orI x y = R at *
  go_enter Try.func53, Try.ntmps53
  go_wp2_with fail
  go_loop [8] (fun i => ∃ k : Nat, k ≤ 2 ∧ i = .int .i64 (k : Int) ∧ Hid (1 ≤ k → x = 0) ∧ Hid (2 ≤ k → y = 0)) (fun i => 2 - (intOf i).toNat)
  case atStart => exact ⟨0, by omega, rfl, fun h => by omega, fun h => by omega⟩
  case round =>
    obtain ⟨k, hk, rfl, hx, hy⟩ := hrel
    have h3 : k = 0 ∨ k = 1 ∨ k = 2 := by omega
    rcases h3 with rfl | rfl | rfl
    · by_cases hz : x = 0
      · subst hz
        clear Hx Hy hx hy
        go_wp2_with fail
        go_round
        case rel => exact ⟨1, by omega, rfl, fun _ => by trivial, fun h => by omega⟩
        case measure => simp [intOf]
      · have hR := Lib.hid (Hx.out hz)
        have hz' : (x == 0) = false := by simpa using hz
        clear Hx Hy hx hy hz
        go_wp2_with fail
        go_ret
        exact ⟨ret_int hR.out.symm, rfl⟩
    · have hx0 := hx.out (by omega)
      have hR := Hy.out hx0
      by_cases hz : y = 0
      · subst hz
        have HX := Lib.hid hx0
        clear Hx Hy hx hy hx0 hR
        go_wp2_with fail
        go_round
        case rel => exact ⟨2, by omega, rfl, fun _ => HX.out, fun _ => by trivial⟩
        case measure => simp [intOf]
      · have HR := Lib.hid hR
        have hz' : (y == 0) = false := by simpa using hz
        clear Hx Hy hx hy hz hx0 hR
        go_wp2_with fail
        go_ret
        exact ⟨ret_int HR.out.symm, rfl⟩
    · have hx0 := hx.out (by omega)
      have hR := Hy.out hx0
      rw [hy.out (by omega)] at hR
      have HR := Lib.hid hR
      clear Hx Hy hx hy hx0 hR
      go_wp2_with fail
      go_ret
      exact ⟨ret_int HR.out.symm, rfl⟩

theorem cmp_words (p q : Nat) : orI (cmpN (p / 18446744073709551616) (q / 18446744073709551616)) (cmpN (p % 18446744073709551616) (q % 18446744073709551616)) = cmpN p q := by
  have h1 := Nat.div_add_mod p 18446744073709551616
  have h2 := Nat.div_add_mod q 18446744073709551616
  have h3 := Nat.mod_lt p (show 0 < 18446744073709551616 by omega)
  have h4 := Nat.mod_lt q (show 0 < 18446744073709551616 by omega)
  generalize p / 18446744073709551616 = a at *
  generalize q / 18446744073709551616 = b at *
  generalize p % 18446744073709551616 = c at *
  generalize q % 18446744073709551616 = d at *
  subst h1 h2
  unfold orI cmpN
  split <;> split <;> (try split) <;> (try split) <;> (try split) <;> (try split) <;> first | rfl | omega

theorem pairs_of {W : World} {g : Nat} {t t' : TypeId} {u v u' v' : Value} (hA : Whole W g t #[u, v]) (hB : Whole W (g + 1) t' #[u', v']) :
    W.cell? ⟨g, 0, none⟩ = some u ∧ W.cell? ⟨g, 1, none⟩ = some v ∧ W.cell? ⟨g + 1, 0, none⟩ = some u' ∧ W.cell? ⟨g + 1, 1, none⟩ = some v' := ⟨hA.cell 0, hA.cell 1, hB.cell 0, hB.cell 1⟩
theorem two_pairs (w : World) (t : TypeId) (a b c d : Value) :
    Whole ((w.alloc (.cells #[a, b] t)).alloc (.cells #[c, d] t)) w.heap.size t #[a, b] ∧ Whole ((w.alloc (.cells #[a, b] t)).alloc (.cells #[c, d] t)) (w.heap.size + 1) t #[c, d] ∧
    Below w.heap.size w ((w.alloc (.cells #[a, b] t)).alloc (.cells #[c, d] t)) ∧ ((w.alloc (.cells #[a, b] t)).alloc (.cells #[c, d] t)).heap.size = w.heap.size + 2 := by
  refine ⟨(Whole.new w _ _).alloc _, ?_, ((Below.refl _ _).alloc (Nat.le_refl _) _).alloc (by simp) _, by simp⟩
  have := Whole.new (w.alloc (.cells #[a, b] t)) t #[c, d]
  simpa using this

set_option maxHeartbeats 2000000 in
theorem wcompare_any (p q : Nat) (w : World) :
    Calls Try.prog 48 #[prod p, prod q] w fun e w' => e = .returned (.int .i64 (cmpN p q)) ∧ Below w.heap.size w w' := by
  have hR := cmp_words p q
  rw [← cmpI_nat, ← cmpI_nat] at hR
  have HR := Lib.hid hR
  unfold prod
  clear hR
  generalize cmpN p q = R at *
  generalize p / 18446744073709551616 = a at *
  generalize q / 18446744073709551616 = b at *
  generalize p % 18446744073709551616 = c at *
  generalize q % 18446744073709551616 = d at *
  obtain ⟨hA, hB, hb, hs⟩ := two_pairs w 70 (.int .u64 (a : Int)) (.int .u64 (c : Int)) (.int .u64 (b : Int)) (.int .u64 (d : Int))
  obtain ⟨w2, hw2⟩ : ∃ w2, w2 = ((w.alloc (.cells #[.int .u64 (a : Int), .int .u64 (c : Int)] 70)).alloc (.cells #[.int .u64 (b : Int), .int .u64 (d : Int)] 70)) := ⟨_, rfl⟩
  have Hw2 := Lib.hid hw2
  clear hw2
  go_enter Try.func48, Try.ntmps48
  go_wp2_with fail
  rw [← Hw2.out] at hA hB hb hs ⊢
  have Hs := Lib.hid hs
  clear Hw2 hs
  go_region_held3 (fun W => W.cell? ⟨w.heap.size, 0, none⟩ = some (.int .u64 (a : Int)) ∧ W.cell? ⟨w.heap.size, 1, none⟩ = some (.int .u64 (c : Int)) ∧ W.cell? ⟨w.heap.size + 1, 0, none⟩ = some (.int .u64 (b : Int)) ∧ W.cell? ⟨w.heap.size + 1, 1, none⟩ = some (.int .u64 (d : Int)))
    (first | exact pairs_of hA.drew hB.drew | exact pairs_of (hA.drew.alloc _) (hB.drew.alloc _) | assumption)
    (first
      | (go_at_call 54; refine (compare_u64 _ _ _).mono ?_; rintro e w' ⟨rfl, rfl⟩)
      | (go_at_call 53; refine (or_any _ _ _ _ _ ((Whole.new w2.drew _ _).cell 0) ((Whole.new w2.drew _ _).cell 1)).mono ?_; rintro e w' ⟨rfl, rfl⟩))
  go_wp2_with fail
  go_ret
  exact ⟨ret_int HR.out, (hb.drew).alloc (by simp; have := Hs.out; omega) _⟩

theorem natAbs_lt {z : Int} (h : -9223372036854775808 ≤ z ∧ z < 9223372036854775808) : z.natAbs < 18446744073709551616 := by omega
theorem prod_zero (p : Nat) (hp : p < 18446744073709551616 * 18446744073709551616) : (((p / 18446744073709551616 : Nat) : Int) == 0 && ((p % 18446744073709551616 : Nat) : Int) == 0) = decide (p = 0) := by
  by_cases h : p = 0
  · subst h; rfl
  · simp only [h, decide_false, Bool.and_eq_false_iff, beq_eq_false_iff_ne]
    omega
theorem sign_mul (a b : Int) : signI (a * b) = if a.natAbs * b.natAbs = 0 then 0 else if decide (a < 0) != decide (b < 0) then -1 else 1 := by
  unfold signI
  rcases Int.lt_trichotomy a 0 with ha | ha | ha
  · rcases Int.lt_trichotomy b 0 with hb | hb | hb
    · have := Int.mul_pos_of_neg_of_neg ha hb
      have h2 : a.natAbs * b.natAbs ≠ 0 := Nat.mul_ne_zero (by omega) (by omega)
      rw [if_neg (by omega), if_neg (by omega), if_neg h2, decide_eq_true ha, decide_eq_true hb]; rfl
    · subst hb; simp
    · have := Int.mul_neg_of_neg_of_pos ha hb
      have h2 : a.natAbs * b.natAbs ≠ 0 := Nat.mul_ne_zero (by omega) (by omega)
      rw [if_neg (by omega), if_pos (by omega), if_neg h2, decide_eq_true ha, decide_eq_false (by omega)]; rfl
  · subst ha; simp
  · rcases Int.lt_trichotomy b 0 with hb | hb | hb
    · have := Int.mul_neg_of_pos_of_neg ha hb
      have h2 : a.natAbs * b.natAbs ≠ 0 := Nat.mul_ne_zero (by omega) (by omega)
      rw [if_neg (by omega), if_pos (by omega), if_neg h2, decide_eq_false (by omega), decide_eq_true hb]; rfl
    · subst hb; simp
    · have := Int.mul_pos ha hb
      have h2 : a.natAbs * b.natAbs ≠ 0 := Nat.mul_ne_zero (by omega) (by omega)
      rw [if_neg (by omega), if_neg (by omega), if_neg h2, decide_eq_false (by omega), decide_eq_false (by omega)]; rfl

set_option maxHeartbeats 2000000 in
theorem wsign_any (a b : Int) (w : World) (ha : -9223372036854775808 ≤ a ∧ a < 9223372036854775808) (hb : -9223372036854775808 ≤ b ∧ b < 9223372036854775808) :
    Calls Try.prog 46 #[prod (a.natAbs * b.natAbs), .int .i64 a, .int .i64 b] w fun e w' => e = .returned (.int .i64 (signI (a * b))) ∧ Below w.heap.size w w' := by
  have hlt := prod_lt _ _ (natAbs_lt ha) (natAbs_lt hb)
  have hz := prod_zero _ hlt
  have hs := sign_mul a b
  have hzero := fun W => zero_any (a.natAbs * b.natAbs / 18446744073709551616) (a.natAbs * b.natAbs % 18446744073709551616) W (Nat.div_lt_of_lt_mul hlt) (Nat.mod_lt _ (by omega))
  rw [hz] at hzero
  generalize a.natAbs * b.natAbs = p at *
  obtain ⟨S, hS⟩ : ∃ S, S = signI (a * b) := ⟨_, rfl⟩
  rw [← hS] at hs ⊢
  unfold prod
  obtain ⟨x, hx⟩ : ∃ x : Nat, x = p / 18446744073709551616 := ⟨_, rfl⟩
  obtain ⟨y, hy⟩ : ∃ y : Nat, y = p % 18446744073709551616 := ⟨_, rfl⟩
  rw [← hx, ← hy] at hzero ⊢
  have hT := Whole.new w 70 #[.int .u64 (x : Int), .int .u64 (y : Int)]
  have hbT : Below w.heap.size w (w.alloc (.cells #[.int .u64 (x : Int), .int .u64 (y : Int)] 70)) := (Below.refl _ _).alloc (Nat.le_refl _) _
  obtain ⟨c0, c1⟩ := pair_of hT
  have HbT := Lib.hid hbT
  have Hzero := Lib.hid hzero
  clear hT hz hx hy hS hlt hbT hzero
  by_cases h0 : p = 0
  · rw [if_pos h0] at hs
    rw [decide_eq_true h0] at Hzero
    subst hs
    clear h0
    go_enter Try.func46, Try.ntmps46
    go_wp2_with fail
    refine (Hzero.out _).mono ?_
    rintro e W ⟨rfl, hb2⟩
    go_wp2_with fail
    go_ret
    exact ⟨rfl, below_then HbT.out hb2 HbT.out.size⟩
  · rw [if_neg h0] at hs
    rw [decide_eq_false h0] at Hzero
    clear h0
    have hcase : ∃ da db : Bool, decide (a < 0) = da ∧ decide (b < 0) = db := ⟨_, _, rfl, rfl⟩
    obtain ⟨da, db, h1, h2⟩ := hcase
    rw [h1, h2] at hs
    cases da <;> cases db
    all_goals
      rw [show S = _ from hs]
      clear hs
      go_enter Try.func46, Try.ntmps46
      go_wp2_with fail
      refine (Hzero.out _).mono ?_
      rintro e W ⟨rfl, hb2⟩
      go_wp2_with fail
      go_ret
      exact ⟨rfl, below_then HbT.out hb2 HbT.out.size⟩

theorem cmp_signs (x y : Int) : signI (x - y) = if signI x ≠ signI y then cmpI (signI x) (signI y) else signI x * cmpN x.natAbs y.natAbs := by
  unfold signI cmpI cmpN
  split <;> split <;> (try split) <;> (try split) <;> (try split) <;> (try split) <;> (try split) <;> omega
theorem natAbs_prod (a b : Int) : (a * b).natAbs = a.natAbs * b.natAbs := Int.natAbs_mul a b

set_option maxHeartbeats 4000000 in
theorem wcmp_any (a b c d : Int) (w : World) (ha : -9223372036854775808 ≤ a ∧ a < 9223372036854775808) (hb : -9223372036854775808 ≤ b ∧ b < 9223372036854775808)
    (hc : -9223372036854775808 ≤ c ∧ c < 9223372036854775808) (hd : -9223372036854775808 ≤ d ∧ d < 9223372036854775808) :
    Calls Try.prog 18 #[.int .i64 a, .int .i64 b, .int .i64 c, .int .i64 d] w fun e w' => e = .returned (.int .i64 (signI (a * b - c * d))) ∧ Below w.heap.size w w' := by
  have ha1 := Lib.hid fun W => amount_any a W ha
  have hb1 := Lib.hid fun W => amount_any b W hb
  have hc1 := Lib.hid fun W => amount_any c W hc
  have hd1 := Lib.hid fun W => amount_any d W hd
  have ht1 := Lib.hid fun W => times_any a.natAbs b.natAbs W (natAbs_lt ha) (natAbs_lt hb)
  have ht2 := Lib.hid fun W => times_any c.natAbs d.natAbs W (natAbs_lt hc) (natAbs_lt hd)
  have hs1 := Lib.hid fun W => wsign_any a b W ha hb
  have hs2 := Lib.hid fun W => wsign_any c d W hc hd
  have hcp := Lib.hid fun W => wcompare_any (a.natAbs * b.natAbs) (c.natAbs * d.natAbs) W
  have hR := cmp_signs (a * b) (c * d)
  rw [natAbs_prod, natAbs_prod] at hR
  unfold prod at ht1 ht2 hs1 hs2 hcp
  have hs3 : Hid (∀ z : Int, -1 ≤ signI z ∧ signI z ≤ 1) := fun z => by unfold signI; split <;> (try split) <;> omega
  have hs4 : Hid (-1 ≤ cmpN (a.natAbs * b.natAbs) (c.natAbs * d.natAbs) ∧ cmpN (a.natAbs * b.natAbs) (c.natAbs * d.natAbs) ≤ 1) := by show _ ∧ _; unfold cmpN; split <;> (try split) <;> omega
  have s1 := hs3.out (a * b)
  have s2 := hs3.out (c * d)
  have s3 := hs4.out
  generalize signI (a * b - c * d) = R at *
  generalize signI (a * b) = S at *
  generalize signI (c * d) = T at *
  generalize cmpN (a.natAbs * b.natAbs) (c.natAbs * d.natAbs) = K at *
  generalize a.natAbs * b.natAbs / 18446744073709551616 = p1 at *
  generalize a.natAbs * b.natAbs % 18446744073709551616 = p2 at *
  generalize c.natAbs * d.natAbs / 18446744073709551616 = q1 at *
  generalize c.natAbs * d.natAbs % 18446744073709551616 = q2 at *
  have HR := Lib.hid hR
  clear hR ha hb hc hd hs3 hs4
  go_enter Try.func18, Try.ntmps18
  go_wp2_with fail
  refine (ha1.out _).mono ?_
  rintro e W0 ⟨rfl, rfl⟩
  go_wp2_with fail
  refine (hb1.out _).mono ?_
  rintro e W0 ⟨rfl, rfl⟩
  go_wp2_with fail
  refine (ht1.out _).mono ?_
  rintro e W1 ⟨rfl, hbw1⟩
  go_wp2_with fail
  refine (hc1.out _).mono ?_
  rintro e W0 ⟨rfl, rfl⟩
  go_wp2_with fail
  refine (hd1.out _).mono ?_
  rintro e W0 ⟨rfl, rfl⟩
  go_wp2_with fail
  refine (ht2.out _).mono ?_
  rintro e W2 ⟨rfl, hbw2⟩
  have hbW := below_then hbw1 hbw2 hbw1.size
  obtain ⟨hA, hB, hb, hsz⟩ := two_pairs W2 70 (.int .u64 (p1 : Int)) (.int .u64 (p2 : Int)) (.int .u64 (q1 : Int)) (.int .u64 (q2 : Int))
  obtain ⟨W3, hW3⟩ : ∃ W3, W3 = ((W2.alloc (.cells #[.int .u64 (p1 : Int), .int .u64 (p2 : Int)] 70)).alloc (.cells #[.int .u64 (q1 : Int), .int .u64 (q2 : Int)] 70)) := ⟨_, rfl⟩
  have hbW3 := below_then hbW hb hbW.size
  have HW := Lib.hid hW3
  clear hW3 hbw1 hbw2
  go_wp2_with fail
  rw [← HW.out] at hA hB hsz hbW3 ⊢
  obtain ⟨G, hG⟩ : ∃ G, G = W2.heap.size := ⟨_, rfl⟩
  rw [← hG] at hA hB hsz ⊢
  have hwG : w.heap.size ≤ G := by rw [hG]; exact hbW.size
  have hBL := hbW3.size
  clear HW hG hb hbW
  go_region_held3 (fun W => W.cell? ⟨G, 0, none⟩ = some (.int .u64 (p1 : Int)) ∧ W.cell? ⟨G, 1, none⟩ = some (.int .u64 (p2 : Int)) ∧ W.cell? ⟨G + 1, 0, none⟩ = some (.int .u64 (q1 : Int)) ∧ W.cell? ⟨G + 1, 1, none⟩ = some (.int .u64 (q2 : Int)))
    (first | exact pairs_of hA.drew hB.drew | exact pairs_of hA4 hB4 | exact pairs_of hA5 hB5)
    (first
      | (go_at_call 46; (with_reducible refine (hs1.out _).mono ?_); rintro e W4 ⟨rfl, hb4⟩; (have hA4 := hA.drew.below hb4 hA.lt); (have hB4 := hB.drew.below hb4 hB.lt); (have hbW4 := Lib.hid (below_then hbW3.drew hb4 hBL)))
      | (go_at_call 46; (with_reducible refine (hs2.out _).mono ?_); rintro e W5 ⟨rfl, hb5⟩; (have hA5 := hA4.below hb5 hA4.lt); (have hB5 := hB4.below hb5 hB4.lt); (have hbW5 := Lib.hid (below_then hbW4.out hb5 hbW4.out.size))))
  have c0 := hA5.cell 0
  have c1 := hA5.cell 1
  have d0 := hB5.cell 0
  have d1 := hB5.cell 1
  simp only [List.getElem?_toArray, List.getElem?_cons_zero, List.getElem?_cons_succ] at c0 c1 d0 d1
  by_cases hST : S = T
  · rw [if_neg (by simpa using hST)] at HR
    subst hST
    have hm : IntKind.i64.wrap (S * K) = S * K := by
      have hk : K = -1 ∨ K = 0 ∨ K = 1 := by omega
      rcases hk with rfl | rfl | rfl <;> exact IntWalk.i64_in _ ⟨by omega, by omega⟩
    have hm2 : wrap64 (S * K) = S * K := by
      have hk : K = -1 ∨ K = 0 ∨ K = 1 := by omega
      rcases hk with rfl | rfl | rfl <;> exact IntWalk.wrap64_in _ ⟨by omega, by omega⟩
    go_wp2_with fail
    refine (hcp.out _).mono ?_
    rintro e W6 ⟨rfl, hb6⟩
    go_wp2_with fail
    go_ret
    exact ⟨ret_int HR.out.symm, below_then hbW5.out hb6 hbW5.out.size⟩
  · rw [if_pos hST] at HR
    have hne : (S == T) = false := by simpa using hST
    clear hST
    go_wp2_with fail
    refine (compare_int S T _).mono ?_
    rintro e W6 ⟨rfl, rfl⟩
    go_wp2_with fail
    go_ret
    exact ⟨ret_int HR.out.symm, hbW5.out⟩

theorem wsgn_any (a b c d : Int) (w : World) (ha : -9223372036854775808 ≤ a ∧ a < 9223372036854775808) (hb : -9223372036854775808 ≤ b ∧ b < 9223372036854775808)
    (hc : -9223372036854775808 ≤ c ∧ c < 9223372036854775808) (hd : -9223372036854775808 ≤ d ∧ d < 9223372036854775808) :
    Calls Try.prog 19 #[.int .i64 a, .int .i64 b, .int .i64 c, .int .i64 d] w fun e w' => e = .returned (.int .i64 (signI (a * b - c * d))) ∧ Below w.heap.size w w' := by
  have hcp := Lib.hid fun W => wcmp_any a b c d W ha hb hc hd
  generalize signI (a * b - c * d) = R at *
  clear ha hb hc hd
  go_enter Try.func19, Try.ntmps19
  go_wp2_with fail
  refine (hcp.out _).mono ?_
  rintro e W6 ⟨rfl, hb6⟩
  go_wp2_with fail
  go_ret
  exact ⟨rfl, hb6⟩
end Go.Proofs.Ytcfkhgpcamfecaa
