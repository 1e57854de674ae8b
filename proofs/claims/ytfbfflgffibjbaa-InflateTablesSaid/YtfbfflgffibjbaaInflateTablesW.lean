/- The statement InflateTables: the law's walk. -/
import Derived.Test.YtfbfflgffibjbaaInfT
namespace Go.Proofs.Ytfbfflgffibjbaa
open Go.RowKit Huff Bit
set_option linter.unusedVariables false
set_option maxRecDepth 100000

theorem refOrder_any (w : World) : Calls Try.prog 14 #[] w (OrdPost w) := by
  go_enter Try.func14, Try.ntmps14
  go_wp2_with fail
  go_ret
  exact ⟨w.heap.size, rfl, Whole.new w _ _, Nat.le_refl _, (Below.refl _ _).alloc (Nat.le_refl _) _⟩
set_option maxHeartbeats 8000000 in
theorem inflateTables_walk (z : Int) (w : World) (hz : -9223372036854775808 ≤ z ∧ z < 9223372036854775808) :
    Calls Try.prog 4 #[.int .i64 z] w fun e w' => e = .returned (.bool true) ∧ Below w.heap.size w w' := by
  have HL := Lib.hid live04_any
  have H1 := Lib.hid fun W => lengthZ_any z W
  have H2 := Lib.hid fun W => refLength_any z W
  have H3 := Lib.hid fun W => distanceZ_any z W
  have H4 := Lib.hid fun W => refDistance_any z W
  unfold PairPost at H1 H2 H3 H4
  obtain ⟨P, hP⟩ : ∃ P, lenZ z = P := ⟨_, rfl⟩
  obtain ⟨Q, hQ⟩ : ∃ Q, farZ z = Q := ⟨_, rfl⟩
  rw [hP] at H1 H2
  rw [hQ] at H3 H4
  have Ho1 := Lib.hid order_any
  have Ho2 := Lib.hid refOrder_any
  clear hP hQ hz
  go_enter Try.func4, Try.ntmps4
  go_wp2_with fail
  refine (H1.out _).mono ?_
  rintro e Y ⟨rfl, rfl⟩
  go_wp2_with fail
  refine (H2.out _).mono ?_
  rintro e Y ⟨rfl, rfl⟩
  go_wp2_with fail
  refine (H3.out _).mono ?_
  rintro e Y ⟨rfl, rfl⟩
  go_wp2_with fail
  refine (H4.out _).mono ?_
  rintro e Y ⟨rfl, rfl⟩
  go_wp2_with fail
  refine (Ho1.out _).mono ?_
  rintro e W1 ⟨g1, rfl, hw1, hg1, hb1⟩
  have HB1 := Lib.hid hb1
  have HW1 := Lib.hid hw1
  clear hw1 hg1 hb1
  go_wp2_with fail
  refine (Ho2.out _).mono ?_
  rintro e W2 ⟨g2, rfl, hw2, hg2, hb2⟩
  have HB2 := Lib.hid (keepBelow hb2 HB1.out)
  have HW2 := Lib.hid (HW1.out.below hb2 HW1.out.lt)
  have HV2 := Lib.hid hw2
  clear hw2 hg2 hb2
  go_wp2_with fail
  go_loopw [13] (fun y W => ∃ k : Nat, k ≤ 19 ∧ y = .int .i64 (k : Int) ∧ Hid (Whole W g1 3 (i64s Inf.order).toArray) ∧ Hid (Whole W g2 3 (i64s Inf.order).toArray) ∧ Hid (Below w.heap.size w W)) (fun y _ => 19 - (intOf y).toNat)
  case atStart => exact ⟨0, by omega, rfl, HW2, HV2, HB2⟩
  case round =>
    obtain ⟨k, hk, rfl, HA, HC, HB⟩ := hrel
    clear HB1 HW1 HB2 HW2 HV2
    by_cases hlt : k < 19
    · have hc : ∀ g, Whole wr g 3 (i64s Inf.order).toArray → wr.cell? ⟨g, k, none⟩ = some (.int .i64 ((Inf.order.getD k 0 : Nat) : Int)) := fun g h => by
        rw [h.cell, List.getElem?_toArray]
        have : k < Inf.order.length := by show k < 19; omega
        simp [i64s, this]
      have c1 := hc g1 HA.out
      have c2 := hc g2 HC.out
      generalize Inf.order.getD k 0 = V at *
      have k0 : (0 : Int) ≤ (k : Int) := by omega
      have k1 : (k : Int) < 19 := by omega
      clear hc
      go_wp2_with fail
      go_quiet (fail)
      go_wp2_with fail
      go_roundw
      case rel => exact ⟨k + 1, by omega, by go_num, HA.out, HC.out, below_drawn HB.out _⟩
      case measure => simp [intOf]; omega
    · obtain rfl : k = 19 := by omega
      go_wp2_with fail
      refine (HL.out _).mono ?_
      rintro e Y ⟨rfl, hb⟩
      have HB9 := Lib.hid (keepBelow hb HB.out)
      clear hb
      go_wp2_with fail
      go_ret
      exact ⟨rfl, HB9.out⟩
end Go.Proofs.Ytfbfflgffibjbaa
