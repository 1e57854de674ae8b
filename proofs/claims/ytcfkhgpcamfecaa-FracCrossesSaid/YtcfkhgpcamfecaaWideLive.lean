/- The law's live; the statements WideMuls, WideCmps. -/
import Derived.Test.YtcfkhgpcamfecaaWideCmp
import Derived.Outline
namespace Go.Proofs.Ytcfkhgpcamfecaa
open Go.RowKit Big
set_option linter.unusedVariables false
set_option maxRecDepth 100000

theorem ret_ints3 {k k' k'' : IntKind} {a b c d e f : Int} (h : a = d) (h' : b = e) (h'' : c = f) : Ending.returned (.tuple #[.int k a, .int k' b, .int k'' c]) = .returned (.tuple #[.int k d, .int k' e, .int k'' f]) := by rw [h, h', h'']

set_option maxHeartbeats 4000000 in
theorem muldiv_live (w : World) : Calls Try.prog 22 #[.int .i64 (-7), .int .i64 1, .int .i64 2] w fun e w' => e = .returned (.tuple #[.int .i64 (-4), .int .u64 1, .int .i64 0]) ∧ Below w.heap.size w w' := by
  have h7 := Lib.hid fun W => amount_any (-7) W (by omega)
  have h1 := Lib.hid fun W => amount_any 1 W (by omega)
  have h2 := Lib.hid fun W => amount_any 2 W (by omega)
  have ht : Hid (∀ W, Calls Try.prog 42 #[.int .u64 7, .int .u64 1] W fun e w' => e = .returned (.agg #[.int .u64 0, .int .u64 7]) ∧ Below W.heap.size W w') := fun W => times_any 7 1 W (by omega) (by omega)
  have hd : Hid (∀ W, Calls Try.prog 49 #[.int .u64 0, .int .u64 7, .int .u64 2] W fun e w' => e = .returned (.tuple #[.int .u64 3, .int .u64 1]) ∧ Below W.heap.size W w') := fun W => div64_low 7 2 W (by omega) (by omega) (by omega)
  have hz : Hid (∀ W, Calls Try.prog 50 #[.agg #[.int .u64 0, .int .u64 7]] W fun e w' => e = .returned (.bool false) ∧ Below W.heap.size W w') := fun W => zero_any 0 7 W (by omega) (by omega)
  rw [show ((-7 : Int).natAbs : Int) = 7 from rfl] at h7
  rw [show ((1 : Int).natAbs : Int) = 1 from rfl] at h1
  rw [show ((2 : Int).natAbs : Int) = 2 from rfl] at h2
  go_enter Try.func22, Try.ntmps22
  go_wp2_with fail
  refine (h7.out _).mono ?_
  rintro e W0 ⟨rfl, rfl⟩
  go_wp2_with fail
  refine (h1.out _).mono ?_
  rintro e W0 ⟨rfl, rfl⟩
  go_wp2_with fail
  refine (ht.out _).mono ?_
  rintro e W1 ⟨rfl, hb1⟩
  have hT := Whole.new W1 70 #[.int .u64 0, .int .u64 7]
  have hbT := below_then hb1 ((Below.refl _ _).alloc (Nat.le_refl _) (.cells #[.int .u64 0, .int .u64 7] 70)) hb1.size
  obtain ⟨W2, hW2⟩ : ∃ W2, W2 = W1.alloc (.cells #[.int .u64 0, .int .u64 7] 70) := ⟨_, rfl⟩
  obtain ⟨G, hG⟩ : ∃ G, G = W1.heap.size := ⟨_, rfl⟩
  go_wp2_with fail
  rw [← hW2] at hT hbT ⊢
  rw [← hG] at hT ⊢
  clear hW2 hb1 hG
  have hGb : w.heap.size ≤ W2.heap.size := hbT.size
  obtain ⟨c0, c1⟩ := pair_of hT
  go_region_held3 (fun W => W.cell? ⟨G, 0, none⟩ = some (.int .u64 0) ∧ W.cell? ⟨G, 1, none⟩ = some (.int .u64 7))
    (first | exact pair_of hT.drew | exact pair_of hT)
    (first | (go_at_call 45; refine (h2.out _).mono ?_; rintro e w' ⟨rfl, rfl⟩))
  go_wp2_with fail
  go_region_held3 (fun W => W.cell? ⟨G, 0, none⟩ = some (.int .u64 0) ∧ W.cell? ⟨G, 1, none⟩ = some (.int .u64 7))
    (first | exact pair_of hT.drew.drew | exact pair_of hT3)
    (first
      | (go_at_call 45; refine (h2.out _).mono ?_; rintro e w' ⟨rfl, rfl⟩)
      | (go_at_call 49; refine (hd.out _).mono ?_; rintro e W3 ⟨rfl, hb3⟩; (have hT3 := hT.drew.drew.below hb3 hT.lt); (have hbW3 := Lib.hid (below_then hbT.drew.drew hb3 hGb))))
  obtain ⟨e0, e1⟩ := pair_of hT3
  go_wp2_with fail
  refine (hz.out _).mono ?_
  rintro e W4 ⟨rfl, hb4⟩
  have hb5 := Lib.hid (below_then hbW3.out hb4 hbW3.out.size)
  clear hb4
  go_wp2_with (first | (go_at_call 45; refine (h2.out _).mono ?_; rintro e w' ⟨rfl, rfl⟩))
  go_ret3
  exact ⟨ret_ints3 (by decide +kernel) rfl rfl, hb5.out⟩

set_option maxHeartbeats 4000000 in
theorem live_any (w : World) : Calls Try.prog 16 #[] w fun e w' => e = .returned (.bool true) ∧ Below w.heap.size w w' := by
  go_enter Try.func16, Try.ntmps16
  go_wp2_with fail
  refine (muldiv_live _).mono ?_
  rintro e W1 ⟨rfl, hb1⟩
  go_wp2_with (first | (go_at_call 23; refine (code_any _ _).mono ?_; rintro e w' ⟨rfl, rfl⟩))
  go_ret
  exact ⟨rfl, hb1⟩

theorem signI_zero : signI 0 = 0 := rfl
theorem split_prod (p : Nat) : ((p / 18446744073709551616 : Nat) : Int) * (4294967296 * 4294967296) + ((p % 18446744073709551616 : Nat) : Int) = (p : Int) := by omega

set_option maxHeartbeats 4000000 in
theorem wideMuls_walk (a b : Nat) (w : World) (ha : a < 18446744073709551616) (hb : b < 18446744073709551616) :
    Calls Try.prog 3 #[.int .u64 (a : Int), .int .u64 (b : Int)] w fun e w' => e = .returned (.bool true) ∧ Below w.heap.size w w' := by
  have hm := Lib.hid fun W => wmul_any a b W ha hb
  have hg := Lib.hid fun W => gcd_any a b W ha hb
  have hrg := Lib.hid fun W => rgcd_any b a (b : Int) W ha hb rfl
  have hwa := Lib.hid fun W => word_any a W ha
  have hwb := Lib.hid fun W => word_any b W hb
  have hlt := prod_lt a b ha hb
  have htw := Lib.hid fun W => two_any (a * b / 18446744073709551616) (a * b % 18446744073709551616) W (Nat.div_lt_of_lt_mul hlt) (Nat.mod_lt _ (by omega))
  rw [split_prod] at htw
  have hgd1 := Nat.gcd_dvd_left a b
  have hgd2 := Nat.gcd_dvd_right a b
  have hr : Hid (((a * b : Nat) : Int) - (a : Int) * (b : Int) = 0) := by show _ = _; simp
  generalize a * b / 18446744073709551616 = hi at *
  generalize a * b % 18446744073709551616 = lo at *
  generalize hP : ((a * b : Nat) : Int) = P at *
  generalize hG : Nat.gcd a b = g at *
  have hga : Hid (((a : Int) % (g : Int) == 0) = true ∧ ((b : Int) % (g : Int) == 0) = true) := by
    have h1 : a % g = 0 := Nat.mod_eq_zero_of_dvd hgd1
    have h2 : b % g = 0 := Nat.mod_eq_zero_of_dvd hgd2
    constructor
    · have : (a : Int) % (g : Int) = ((a % g : Nat) : Int) := by simp
      rw [this, h1]; rfl
    · have : (b : Int) % (g : Int) = ((b % g : Nat) : Int) := by simp
      rw [this, h2]; rfl
  have hgl : g < 18446744073709551616 := by
    rcases Nat.eq_zero_or_pos b with h0 | h0
    · subst h0; simp at hG; omega
    · have := Nat.le_of_dvd h0 hgd2; omega
  clear hP hG hgd1 hgd2 hlt
  go_enter Try.func3, Try.ntmps3
  go_wp2_with fail
  refine (hm.out _).mono ?_
  rintro e W1 ⟨rfl, hb1⟩
  have HB1 := Lib.hid hb1
  clear hb1
  go_wp2_with fail
  refine (hg.out _).mono ?_
  rintro e W2 ⟨rfl, hb2⟩
  have HB2 := Lib.hid (below_then HB1.out hb2 HB1.out.size)
  clear hb2
  go_wp2_with fail
  refine (htw.out _).mono ?_
  rintro e W3 ⟨v3, rfl, hI3, hb3⟩
  have HI3 := Lib.hid hI3
  have HB3 := Lib.hid (below_then HB2.out hb3 HB2.out.size)
  clear hI3 hb3
  go_wp2_with fail
  refine (hwa.out _).mono ?_
  rintro e W4 ⟨v4, rfl, hI4, hb4⟩
  have HI3 := Lib.hid ((HI3.out.keep hb4).more hb4.size (Nat.le_refl _))
  have HI4 := Lib.hid hI4
  have HB4 := Lib.hid (below_then HB3.out hb4 HB3.out.size)
  clear hI4 hb4
  go_wp2_with fail
  refine (hwb.out _).mono ?_
  rintro e W5 ⟨v5, rfl, hI5, hb5⟩
  have HI3 := Lib.hid ((HI3.out.keep hb5).more hb5.size (Nat.le_refl _))
  have Hml := Lib.hid (mul_any v4 v5 _ _ 4 4 W5 ((HI4.out.keep hb5).more hb5.size (Nat.le_refl _)) hI5 (by omega) (by omega))
  have HB5 := Lib.hid (below_then HB4.out hb5 HB4.out.size)
  clear hI5 hb5
  go_wp2_with fail
  refine Hml.out.mono ?_
  rintro e W6 ⟨v6, rfl, hI6, hb6⟩
  have hc := cmp_any v3 v6 _ _ 13 8 13 W6 ((HI3.out.keep hb6).more hb6.size (Nat.le_refl _)) hI6 (by omega) (by omega) (by omega)
  rw [hr.out, signI_zero] at hc
  have Hc := Lib.hid hc
  have HB6 := Lib.hid (below_then HB5.out hb6 HB5.out.size)
  clear hI6 hb6 hc
  go_wp2_with fail
  refine Hc.out.mono ?_
  rintro e W7 ⟨rfl, hb7⟩
  have HB7 := Lib.hid (below_then HB6.out hb7 HB6.out.size)
  clear hb7
  by_cases hg0 : g = 0
  · subst hg0
    go_wp2_with (first | (go_at_call 15; refine (hrg.out _).mono ?_; rintro e w' ⟨rfl, rfl⟩))
    refine (live_any _).mono ?_
    rintro e W8 ⟨rfl, hb8⟩
    go_wp2_with fail
    go_ret
    exact ⟨rfl, below_then HB7.out hb8 HB7.out.size⟩
  · have hgz : ((g : Int) == 0) = false := by simp; omega
    obtain ⟨hd1, hd2⟩ := hga.out
    have hgp : 0 < g := by omega
    clear hg0
    go_wp2_with (first | (go_at_call 15; refine (hrg.out _).mono ?_; rintro e w' ⟨rfl, rfl⟩))
    refine (live_any _).mono ?_
    rintro e W8 ⟨rfl, hb8⟩
    go_wp2_with fail
    go_ret
    exact ⟨rfl, below_then HB7.out hb8 HB7.out.size⟩
end Go.Proofs.Ytcfkhgpcamfecaa
