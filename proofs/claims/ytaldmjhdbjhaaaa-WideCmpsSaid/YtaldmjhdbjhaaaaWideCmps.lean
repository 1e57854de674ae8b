/- The statement WideCmps: the law's walk. -/
import Derived.Test.YtaldmjhdbjhaaaaWideLive
namespace Go.Proofs.Ytaldmjhdbjhaaaa
open Go.RowKit Big
set_option linter.unusedVariables false
set_option maxRecDepth 100000

theorem signI_idem (z : Int) : (signI z == signI z) = true := by simp

set_option maxHeartbeats 8000000 in
theorem wideCmps_walk (a b c d : Int) (w : World) (ha : -9223372036854775808 ≤ a ∧ a < 9223372036854775808) (hb : -9223372036854775808 ≤ b ∧ b < 9223372036854775808)
    (hc : -9223372036854775808 ≤ c ∧ c < 9223372036854775808) (hd : -9223372036854775808 ≤ d ∧ d < 9223372036854775808) :
    Calls Try.prog 4 #[.int .i64 a, .int .i64 b, .int .i64 c, .int .i64 d] w fun e w' => e = .returned (.bool true) ∧ Below w.heap.size w w' := by
  have hia := Lib.hid fun W => int_any a W ha
  have hib := Lib.hid fun W => int_any b W hb
  have hic := Lib.hid fun W => int_any c W hc
  have hid := Lib.hid fun W => int_any d W hd
  have hwc := Lib.hid fun W => wcmp_any a b c d W ha hb hc hd
  have hws := Lib.hid fun W => wsgn_any a b c d W ha hb hc hd
  generalize hX : a * b = X at *
  generalize hY : c * d = Y at *
  have HX := Lib.hid hX
  have HY := Lib.hid hY
  clear hX hY ha hb hc hd
  go_enter Try.func4, Try.ntmps4
  go_wp2_with fail
  refine (hia.out _).mono ?_
  rintro e W1 ⟨v1, rfl, hI1, hb1⟩
  have HI1 := Lib.hid hI1
  have HB1 := Lib.hid hb1
  clear hI1 hb1
  go_wp2_with fail
  refine (hib.out _).mono ?_
  rintro e W2 ⟨v2, rfl, hI2, hb2⟩
  have hm := mul_any v1 v2 _ _ 5 5 W2 ((HI1.out.keep hb2).more hb2.size (Nat.le_refl _)) hI2 (by omega) (by omega)
  rw [HX.out] at hm
  have Hm := Lib.hid hm
  have HB2 := Lib.hid (below_then HB1.out hb2 HB1.out.size)
  clear hI2 hb2 hm
  go_wp2_with fail
  refine Hm.out.mono ?_
  rintro e W3 ⟨v3, rfl, ⟨n1, a1, c1, l1, rfl, hr1⟩, hb3⟩
  have HI3 := Lib.hid (show IsBig W3 W3.heap.size (.agg #[.bool n1, .slice a1 l1.length c1]) X 10 from ⟨n1, a1, c1, l1, rfl, hr1⟩)
  have HB3 := Lib.hid (below_then HB2.out hb3 HB2.out.size)
  clear hr1 hb3
  go_wp2_with fail
  refine (hic.out _).mono ?_
  rintro e W4 ⟨v4, rfl, hI4, hb4⟩
  have HI4 := Lib.hid hI4
  have HI3 := Lib.hid ((HI3.out.keep hb4).more hb4.size (Nat.le_refl _))
  have HB4 := Lib.hid (below_then HB3.out hb4 HB3.out.size)
  clear hI4 hb4
  go_wp2_with fail
  refine (hid.out _).mono ?_
  rintro e W5 ⟨v5, rfl, hI5, hb5⟩
  have hm := mul_any v4 v5 _ _ 5 5 W5 ((HI4.out.keep hb5).more hb5.size (Nat.le_refl _)) hI5 (by omega) (by omega)
  rw [HY.out] at hm
  have Hm5 := Lib.hid hm
  have HI3 := Lib.hid ((HI3.out.keep hb5).more hb5.size (Nat.le_refl _))
  have HB5 := Lib.hid (below_then HB4.out hb5 HB4.out.size)
  clear hI5 hb5 hm
  go_wp2_with fail
  refine Hm5.out.mono ?_
  rintro e W6 ⟨v6, rfl, ⟨n2, a2, c2, l2, rfl, hr2⟩, hb6⟩
  have hI6 : IsBig W6 W6.heap.size (.agg #[.bool n2, .slice a2 l2.length c2]) Y 10 := ⟨n2, a2, c2, l2, rfl, hr2⟩
  have hI3 := (HI3.out.keep hb6).more hb6.size (Nat.le_refl 10)
  have hB6 := below_then HB5.out hb6 HB5.out.size
  obtain ⟨hA, hB, hb7⟩ := two_new W6 n1 n2 (.slice a1 l1.length c1) (.slice a2 l2.length c2)
  obtain ⟨W7, hW7⟩ : ∃ W7, W7 = ((W6.alloc (.cells #[.bool n1, .slice a1 l1.length c1] 29)).alloc (.cells #[.bool n2, .slice a2 l2.length c2] 29)) := ⟨_, rfl⟩
  obtain ⟨G, hG⟩ : ∃ G, G = W6.heap.size := ⟨_, rfl⟩
  have hJ1 := (hI3.keep hb7).more hb7.size (Nat.le_refl 10)
  have hJ2 := (hI6.keep hb7).more hb7.size (Nat.le_refl 10)
  have hB7 := below_then hB6 hb7 hB6.size
  clear hr2 hb6 hI3 hI6 hB6 hb7
  go_wp2_with fail
  rw [← hW7] at hA hB hJ1 hJ2 hB7 ⊢
  rw [← hG] at hA hB ⊢
  have HJ1 := Lib.hid hJ1
  have HJ2 := Lib.hid hJ2
  have hsz := hB7.size
  have Hcmp : Hid (∀ W, Below W7.heap.size W7 W → Calls Try.prog 8 #[.agg #[.bool n1, .slice a1 l1.length c1], .agg #[.bool n2, .slice a2 l2.length c2]] W fun e w' => e = .returned (.int .i64 (signI (X - Y))) ∧ Below W.heap.size W w') := fun W h =>
    cmp_any _ _ X Y 10 10 10 W ((HJ1.out.keep h).more h.size (Nat.le_refl _)) ((HJ2.out.keep h).more h.size (Nat.le_refl _)) (by omega) (by omega) (by omega)
  have Hsub : Hid (∀ W, Below W7.heap.size W7 W → Calls Try.prog 18 #[.agg #[.bool n1, .slice a1 l1.length c1], .agg #[.bool n2, .slice a2 l2.length c2]] W (BigPost W (X - Y) 11)) := fun W h =>
    sub_any _ _ X Y 10 10 10 W ((HJ1.out.keep h).more h.size (Nat.le_refl _)) ((HJ2.out.keep h).more h.size (Nat.le_refl _)) (by omega) (by omega) (by omega)
  have hk := Lib.hid (Below.refl W7.heap.size W7).drew
  clear hJ1 hJ2 hW7 hG
  generalize hZ : X - Y = Z at *
  clear hZ
  generalize hS : signI Z = R at *
  have hRR : (R == R) = true := by simp
  have HS := Lib.hid hS
  clear hS
  go_region_held3 (fun W => W.cell? ⟨G, 0, none⟩ = some (.bool n1) ∧ W.cell? ⟨G, 1, none⟩ = some (.slice a1 l1.length c1) ∧ W.cell? ⟨G + 1, 0, none⟩ = some (.bool n2) ∧ W.cell? ⟨G + 1, 1, none⟩ = some (.slice a2 l2.length c2))
    (first | exact boxes_of hA.drew hB.drew | exact boxes_of hA1 hB1 | exact boxes_of hA2 hB2 | exact boxes_of hA3 hB3 | exact boxes_of hA4 hB4 | exact boxes_of hA5 hB5 | exact boxes_of hA6 hB6)
    (first
      | (go_at_call 15; refine (hwc.out _).mono ?_; rintro e X1 ⟨rfl, hx1⟩; (have hA1 := hA.drew.below hx1 hA.lt); (have hB1 := hB.drew.below hx1 hB.lt); (have k1 := Lib.hid (below_then hk.out hx1 (Nat.le_refl _))))
      | (go_at_call 8; refine (Hcmp.out _ k1.out).mono ?_; rintro e X2 ⟨rfl, hx2⟩; (have hA2 := hA1.below hx2 hA1.lt); (have hB2 := hB1.below hx2 hB1.lt); (have k2 := Lib.hid (below_then k1.out hx2 k1.out.size)))
      | (go_at_call 16; refine (hws.out _).mono ?_; rintro e X3 ⟨rfl, hx3⟩; (have hA3 := hA2.below hx3 hA2.lt); (have hB3 := hB2.below hx3 hB2.lt); (have k3 := Lib.hid (below_then k2.out hx3 k2.out.size)))
      | (go_at_call 18; refine (Hsub.out _ k3.out).mono ?_; rintro e X4 ⟨vs, rfl, hIs, hx4⟩; (have hA4 := hA3.below hx4 hA3.lt); (have hB4 := hB3.below hx4 hB3.lt); (have k4 := Lib.hid (below_then k3.out hx4 k3.out.size)); (have Hsg := sign_any _ _ _ _ hIs); rw [HS.out] at Hsg; (have HSG := Lib.hid Hsg); clear Hsg hIs)
      | (go_at_call 17; refine HSG.out.mono ?_; rintro e X5 ⟨rfl, hx5⟩; (have hA5 := hA4.below hx5 hA4.lt); (have hB5 := hB4.below hx5 hB4.lt); (have k5 := Lib.hid (below_then k4.out hx5 k4.out.size)))
      | (go_at_call 13; refine (live_any _).mono ?_; rintro e X6 ⟨rfl, hx6⟩; (have hA6 := hA5.below hx6 hA5.lt); (have hB6 := hB5.below hx6 hB5.lt); (have k6 := Lib.hid (below_then k5.out hx6 k5.out.size))))
  go_wp2_with fail
  go_ret
  exact ⟨rfl, below_then hB7 k6.out hsz⟩
end Go.Proofs.Ytaldmjhdbjhaaaa
