/- Layer 23: the walk over the statement FracCmps. -/
import Derived.Test.YtcfkhgpcamfecaaFracCmp
import Derived.Test.YtcfkhgpcamfecaaNear
import Derived.Test.YtcfkhgpcamfecaaRatOf
namespace Go.Proofs.Ytcfkhgpcamfecaa
open Go.RowKit Big
set_option linter.unusedVariables false
set_option maxRecDepth 100000

/-- The law's boxes: the fraction, its value. -/
def CmpSt (w W : World) (g m : Nat) (q r dd : Int) (a b c d : Value) (N D : Int) : Prop :=
  Whole W g 46 #[.int .i64 q, .int .u64 r, .int .u64 dd] ∧ Whole W m 56 #[a, b, c, d] ∧ IsRat W W.heap.size (.agg #[a, b, c, d]) N D 10 ∧ Below w.heap.size w W
section
variable {w W W' : World} {g m : Nat} {q r dd : Int} {a b c d : Value} {N D : Int}
theorem CmpSt.keep (H : CmpSt w W g m q r dd a b c d N D) (hb : Below W.heap.size W W') : CmpSt w W' g m q r dd a b c d N D :=
  ⟨H.1.below hb H.1.lt, H.2.1.below hb H.2.1.lt, (H.2.2.1.keep hb).more hb.size (Nat.le_refl _), below_then H.2.2.2 hb H.2.2.2.size⟩
theorem CmpSt.cells (H : CmpSt w W g m q r dd a b c d N D) : W.cell? ⟨g, 0, none⟩ = some (.int .i64 q) ∧ W.cell? ⟨g, 1, none⟩ = some (.int .u64 r) ∧ W.cell? ⟨g, 2, none⟩ = some (.int .u64 dd) ∧
    W.cell? ⟨m, 0, none⟩ = some a ∧ W.cell? ⟨m, 1, none⟩ = some b ∧ W.cell? ⟨m, 2, none⟩ = some c ∧ W.cell? ⟨m, 3, none⟩ = some d :=
  ⟨H.1.cell 0, H.1.cell 1, H.1.cell 2, H.2.1.cell 0, H.2.1.cell 1, H.2.1.cell 2, H.2.1.cell 3⟩
theorem CmpSt.rat (H : CmpSt w W g m q r dd a b c d N D) : IsRat W W.heap.size (.agg #[a, b, c, d]) N D 10 := H.2.2.1
end

set_option maxHeartbeats 4000000 in
theorem fracCmps_no (q n : Int) (r d : Nat) (w : World) (hr : r < 18446744073709551616) (hd : d < 18446744073709551616) (hk : okF q r d = false) :
    Calls Try.prog 7 #[.agg #[.int .i64 q, .int .u64 (r : Int), .int .u64 (d : Int)], .int .i64 n] w fun e w' => e = .returned (.bool true) ∧ Below w.heap.size w w' := by
  have h1 := Lib.hid fun W => rright_any q r d W hr hd
  have h2 := Lib.hid fun W => fcmp_no q n r d W hr hd hk
  have h3 := Lib.hid fun W => round_any q r d W hr hd
  have h4 := Lib.hid fun W => flive_any W
  rw [hk] at h1 h3
  simp only [Bool.false_eq_true, if_false] at h3
  have hA := Whole.new w 46 #[.int .i64 q, .int .u64 (r : Int), .int .u64 (d : Int)]
  have hB : Below w.heap.size w (w.alloc (.cells #[.int .i64 q, .int .u64 (r : Int), .int .u64 (d : Int)] 46)) := (Below.refl _ _).alloc (Nat.le_refl _) _
  obtain ⟨W0, hW0⟩ : ∃ W0, W0 = w.alloc (.cells #[.int .i64 q, .int .u64 (r : Int), .int .u64 (d : Int)] 46) := ⟨_, rfl⟩
  rw [← hW0] at hA hB
  have HA := Lib.hid hA
  have HB := Lib.hid hB
  have HW0 := Lib.hid hW0
  clear hk hr hd hA hB hW0
  go_enter Try.func7, Try.ntmps7
  go_wp2_with fail
  rw [← HW0.out]
  refine (h1.out _).mono ?_
  rintro e W1 ⟨rfl, hb1⟩
  have HA1 := Lib.hid (HA.out.below hb1 HA.out.lt)
  have HB1 := Lib.hid (below_then HB.out hb1 HB.out.size)
  have c0 := HA1.out.cell 0
  have c1 := HA1.out.cell 1
  have c2 := HA1.out.cell 2
  simp only [List.getElem?_toArray, List.getElem?_cons_zero, List.getElem?_cons_succ] at c0 c1 c2
  clear hb1
  go_wp2_with fail
  refine (h2.out _).mono ?_
  rintro e W2 ⟨rfl, hb2⟩
  have HA2 := Lib.hid (HA1.out.below hb2 HA1.out.lt)
  have HB2 := Lib.hid (below_then HB1.out hb2 HB1.out.size)
  have c0 := HA2.out.cell 0
  have c1 := HA2.out.cell 1
  have c2 := HA2.out.cell 2
  simp only [List.getElem?_toArray, List.getElem?_cons_zero, List.getElem?_cons_succ] at c0 c1 c2
  clear hb2
  go_wp2_with fail
  refine (h3.out _).mono ?_
  rintro e W3 ⟨rfl, hb3⟩
  have HB3 := Lib.hid (below_then HB2.out hb3 HB2.out.size)
  clear hb3
  go_wp2_with fail
  refine (h4.out _).mono ?_
  rintro e W4 ⟨rfl, hb4⟩
  go_wp2_with fail
  go_ret
  exact ⟨rfl, below_then HB3.out hb4 HB3.out.size⟩

set_option maxHeartbeats 8000000 in
theorem fracCmps_yes (q n : Int) (r d : Nat) (w : World) (hq : -9223372036854775808 ≤ q ∧ q < 9223372036854775808) (hn : -9223372036854775808 ≤ n ∧ n < 9223372036854775808) (hr : r < 18446744073709551616) (hd : d < 18446744073709551616) (hk : okF q r d = true) :
    Calls Try.prog 7 #[.agg #[.int .i64 q, .int .u64 (r : Int), .int .u64 (d : Int)], .int .i64 n] w fun e w' => e = .returned (.bool true) ∧ Below w.heap.size w w' := by
  have hpar : okQ q = true ∧ r < d := by
    simp only [okF, Bool.and_eq_true, decide_eq_true_eq] at hk
    exact ⟨hk.1, hk.2.2.1⟩
  have hqb : -4503599627370496 ≤ q ∧ q ≤ 4503599627370496 := by simpa [okQ] using hpar.1
  have hrd := hpar.2
  have h1 := Lib.hid fun W => rright_any q r d W hr hd
  have h2 := Lib.hid fun W => fcmp_yes q n r d W hr hd hk
  have h3 := Lib.hid fun W => round_any q r d W hr hd
  have h4 := Lib.hid fun W => flive_any W
  have h5 := Lib.hid fun W => ratOf_any q r d W hq hr hd
  have h6 := Lib.hid fun W => whole_any n W hn
  have hS := cmp_sign q n r d hrd
  have hlo := near_low q r d hrd
  have hhi := near_high q r d hrd
  have hrb : -9223372036854775808 ≤ rnd q r d ∧ rnd q r d < 9223372036854775808 := by unfold rnd; split <;> omega
  rw [hk] at h1 h3
  simp only [if_true] at h3
  rw [← hS] at h2
  obtain ⟨N, hN⟩ : ∃ N, N = q * (d : Int) + (r : Int) := ⟨_, rfl⟩
  rw [← hN] at h5 h2 hlo hhi
  generalize rnd q r d = R at *
  obtain ⟨S, hSe⟩ : ∃ S, S = signI (N * 1 - n * (d : Int)) := ⟨_, rfl⟩
  rw [← hSe] at h2
  have HSe := Lib.hid hSe
  have Hlo := Lib.hid hlo
  have Hhi := Lib.hid hhi
  have Hrb := Lib.hid hrb
  have hA := Whole.new w 46 #[.int .i64 q, .int .u64 (r : Int), .int .u64 (d : Int)]
  have hB : Below w.heap.size w (w.alloc (.cells #[.int .i64 q, .int .u64 (r : Int), .int .u64 (d : Int)] 46)) := (Below.refl _ _).alloc (Nat.le_refl _) _
  obtain ⟨W0, hW0⟩ : ∃ W0, W0 = w.alloc (.cells #[.int .i64 q, .int .u64 (r : Int), .int .u64 (d : Int)] 46) := ⟨_, rfl⟩
  rw [← hW0] at hA hB
  have HA := Lib.hid hA
  have HB := Lib.hid hB
  have HW0 := Lib.hid hW0
  clear hk hr hd hA hB hW0 hpar hqb hrd hS hlo hhi hrb hN hSe hq hn
  go_enter Try.func7, Try.ntmps7
  go_wp2_with fail
  rw [← HW0.out]
  refine (h1.out _).mono ?_
  rintro e W1 ⟨rfl, hb1⟩
  have HA1 := Lib.hid (HA.out.below hb1 HA.out.lt)
  have HB1 := Lib.hid (below_then HB.out hb1 HB.out.size)
  have c0 := HA1.out.cell 0
  have c1 := HA1.out.cell 1
  have c2 := HA1.out.cell 2
  simp only [List.getElem?_toArray, List.getElem?_cons_zero, List.getElem?_cons_succ] at c0 c1 c2
  clear hb1
  go_wp2_with fail
  refine (h5.out _).mono ?_
  rintro e W2 ⟨v2, rfl, hv2, hb2⟩
  obtain ⟨n5, a5, m5, c5, n6, a6, m6, c6, rfl⟩ := hv2.parts
  have hst : CmpSt w (W2.alloc (.cells #[.bool n5, .slice a5 m5 c5, .bool n6, .slice a6 m6 c6] 56)) w.heap.size W2.heap.size q (r : Int) (d : Int) (.bool n5) (.slice a5 m5 c5) (.bool n6) (.slice a6 m6 c6) N (d : Int) := by
    have hb3 := below_then HB1.out hb2 HB1.out.size
    exact ⟨(HA1.out.below hb2 HA1.out.lt).alloc _, Whole.new _ _ _, hv2.alloc_ _, below_then hb3 ((Below.refl _ _).alloc (Nat.le_refl _) _) hb3.size⟩
  obtain ⟨X0, hX0⟩ : ∃ X0, X0 = W2.alloc (.cells #[.bool n5, .slice a5 m5 c5, .bool n6, .slice a6 m6 c6] 56) := ⟨_, rfl⟩
  obtain ⟨m, hm⟩ : ∃ m, m = W2.heap.size := ⟨_, rfl⟩
  obtain ⟨g, hg⟩ : ∃ g, g = w.heap.size := ⟨_, rfl⟩
  go_upto_region 4 with (fail)
  rw [← hX0, ← hm] at hst ⊢
  rw [show w.heap.size = g from hg.symm] at hst
  rw [← hg]
  have H0 := Lib.hid (hst.keep (Below.refl _ _).drew)
  have Hg := Lib.hid hg
  clear hst hX0 hm hg hb2 hv2 HA HB HW0 HA1 HB1 c0 c1 c2 h1 h5
  have Ho := Lib.hid fun X v (hv : IsRat X X.heap.size v n 1 5) (H : CmpSt w X g m q (r : Int) (d : Int) (.bool n5) (.slice a5 m5 c5) (.bool n6) (.slice a6 m6 c6) N (d : Int)) => order_any (.agg #[.bool n5, .slice a5 m5 c5, .bool n6, .slice a6 m6 c6]) v N (d : Int) n 1 10 5 X H.rat hv (by omega) (by omega)
  rw [← HSe.out] at Ho
  have Hn := Lib.hid fun X (H : CmpSt w X g m q (r : Int) (d : Int) (.bool n5) (.slice a5 m5 c5) (.bool n6) (.slice a6 m6 c6) N (d : Int)) => near_any R N (d : Int) (.agg #[.bool n5, .slice a5 m5 c5, .bool n6, .slice a6 m6 c6]) X Hrb.out H.rat Hlo.out Hhi.out
  clear HSe Hlo Hhi Hrb
  go_region_held3 (fun W => W.cell? ⟨g, 0, none⟩ = some (.int .i64 q) ∧ W.cell? ⟨g, 1, none⟩ = some (.int .u64 (r : Int)) ∧ W.cell? ⟨g, 2, none⟩ = some (.int .u64 (d : Int)) ∧
      W.cell? ⟨m, 0, none⟩ = some (.bool n5) ∧ W.cell? ⟨m, 1, none⟩ = some (.slice a5 m5 c5) ∧ W.cell? ⟨m, 2, none⟩ = some (.bool n6) ∧ W.cell? ⟨m, 3, none⟩ = some (.slice a6 m6 c6))
    (first | exact H0.out.cells | exact H1.out.cells | exact H2.out.cells | exact H3.out.cells | exact H4.out.cells | exact H5.out.cells | exact H6.out.cells)
    (first
      | (go_at_call 32; refine (h2.out _).mono ?_; rintro e X1 ⟨rfl, hx1⟩; (have H1 := Lib.hid (H0.out.keep hx1)); clear hx1)
      | (go_at_call 36; refine (h6.out _).mono ?_; rintro e X2 ⟨z2, rfl, hz2, hx2⟩; (have H2 := Lib.hid (H1.out.keep hx2)); (have HZ := Lib.hid hz2); clear hx2 hz2)
      | (go_at_call 35; (with_reducible refine (Ho.out _ _ HZ.out H2.out).mono ?_); rintro e X3 ⟨rfl, hx3⟩; (have H3 := Lib.hid (H2.out.keep hx3)); clear hx3)
      | (go_at_call 33; refine (h3.out _).mono ?_; rintro e X4 ⟨rfl, hx4⟩; (have H4 := Lib.hid (H3.out.keep hx4)); clear hx4)
      | (go_at_call 37; (with_reducible refine (Hn.out _ H4.out).mono ?_); rintro e X5 ⟨rfl, hx5⟩; (have H5 := Lib.hid (H4.out.keep hx5)); clear hx5)
      | (go_at_call 31; refine (h4.out _).mono ?_; rintro e X6 ⟨rfl, hx6⟩; (have H6 := Lib.hid (H5.out.keep hx6)); clear hx6))
  go_wp2_with fail
  go_ret
  exact ⟨rfl, H6.out.2.2.2⟩

theorem fracCmps_row (q : Int) (r d : Nat) (n : Int) (w : World) (hf : (-9223372036854775808 ≤ q ∧ q < 9223372036854775808) ∧ r < 18446744073709551616 ∧ d < 18446744073709551616) (hn : -9223372036854775808 ≤ n ∧ n < 9223372036854775808) :
    Calls Try.prog 7 #[.agg #[.int .i64 q, .int .u64 (r : Int), .int .u64 (d : Int)], .int .i64 n] w fun e w' => e = .returned (.bool true) ∧ Below w.heap.size w w' := by
  cases hk : okF q r d
  · exact fracCmps_no q n r d w hf.2.1 hf.2.2 hk
  · exact fracCmps_yes q n r d w hf.1 hn hf.2.1 hf.2.2 hk
end Go.Proofs.Ytcfkhgpcamfecaa
