/- Layer 16: DecParses: the law's walk. -/
import Derived.Test.YtdbcklabinmgfaaDoorDecLive
import Derived.Test.YtdbcklabinmgfaaDoorDec5
namespace Go.Proofs.YtdbcklabinmgfaaDoor
open Go.RowKit Go.Shelf Go.Lib
set_option linter.unusedVariables false
set_option maxRecDepth 100000

set_option maxHeartbeats 8000000 in
theorem decParses_walk (s : ByteArray) (w : World) (hlen : s.size ≤ maxLen) : Calls Tryd.prog 3 #[.string s] w fun e w' => e = .returned (.bool true) ∧ Below w.heap.size w w' := by
  have HL := Lib.hid live16_any
  have HC := Lib.hid code16_any
  by_cases hlong : 500 < s.size
  · have d1 : decide (500 < (s.size : Int)) = true := decide_eq_true (by omega)
    have d2 : decide (500 < s.size) = true := decide_eq_true hlong
    go_enter Tryd.func3, Tryd.ntmps3
    go_wp2_with fail
    refine (HL.out _).mono ?_
    rintro e X ⟨rfl, hb⟩
    have HB := Lib.hid hb
    clear hb
    go_wp2_with fail
    go_ret
    exact ⟨rfl, HB.out⟩
  · have d1 : decide (500 < (s.size : Int)) = false := decide_eq_false (by omega)
    have d2 : decide (500 < s.size) = false := decide_eq_false hlong
    have hsame := parse_same (bs s) (by rw [bs_length]; omega)
    have HP : Hid (∀ W, Calls Tryd.prog 9 #[.string s] W (ParP (parseR (bs s)) W)) := fun W => by rw [← hsame]; exact parse_any read_any s W (by omega)
    have HR : Hid (∀ W, Calls Tryd.prog 10 #[.string s] W (ParP (parseR (bs s)) W)) := fun W => rparse_any s W (by omega)
    obtain ⟨⟨⟨rn, rd, re⟩, rN, rc⟩, hr⟩ : ∃ r, r = parseR (bs s) := ⟨_, rfl⟩
    rw [← hr] at HP HR
    unfold ParP decV at HP HR
    simp only at HP HR
    obtain ⟨td, htd⟩ : ∃ t, t = strOf rd := ⟨_, rfl⟩
    rw [← htd] at HP HR
    clear hr htd hsame
    go_enter Tryd.func3, Tryd.ntmps3
    go_wp2_with fail
    refine (HP.out _).mono ?_
    rintro e X ⟨rfl, hb⟩
    have HB := Lib.hid hb
    obtain ⟨b1, hb1⟩ : ∃ z, z = X.heap.size := ⟨_, rfl⟩
    clear hb
    go_upto_region 4 with (fail)
    obtain ⟨X1, hX1⟩ : ∃ z, z = X.alloc (.cells #[.bool rn, .string td, .int .i64 re] 24) := ⟨_, rfl⟩
    have hW1 : Whole X1 b1 24 #[.bool rn, .string td, .int .i64 re] := by rw [hX1, hb1]; exact Whole.new X _ _
    have hB1 : Below w.heap.size w X1 := by rw [hX1]; exact HB.out.alloc HB.out.size _
    rw [← hX1, ← hb1]
    have HW1 := Lib.hid hW1
    have HB1 := Lib.hid hB1
    clear hW1 hB1 hX1 hb1 HB
    go_wp2_with fail
    refine (HR.out _).mono ?_
    rintro e Y ⟨rfl, hb⟩
    have HW2 := Lib.hid (HW1.out.below hb HW1.out.lt)
    have HB2 := Lib.hid (keepBelow hb HB1.out)
    clear hb HW1 HB1
    obtain ⟨b2, hb2⟩ : ∃ z, z = Y.heap.size := ⟨_, rfl⟩
    go_upto_region 5 with (fail)
    obtain ⟨Y1, hY1⟩ : ∃ z, z = Y.alloc (.cells #[.bool rn, .string td, .int .i64 re] 24) := ⟨_, rfl⟩
    have hW3 : Whole Y1 b2 24 #[.bool rn, .string td, .int .i64 re] := by rw [hY1, hb2]; exact Whole.new Y _ _
    have hW4 : Whole Y1 b1 24 #[.bool rn, .string td, .int .i64 re] := by rw [hY1]; exact HW2.out.alloc _
    have hB3 : Below w.heap.size w Y1 := by rw [hY1]; exact HB2.out.alloc HB2.out.size _
    rw [← hY1, ← hb2]
    have HB3 := Lib.hid hB3
    have u0 : Y1.cell? ⟨b1, 0, none⟩ = some (.bool rn) := hW4.cell 0
    have u1 : Y1.cell? ⟨b1, 1, none⟩ = some (.string td) := hW4.cell 1
    have u2 : Y1.cell? ⟨b1, 2, none⟩ = some (.int .i64 re) := hW4.cell 2
    have v0 : Y1.cell? ⟨b2, 0, none⟩ = some (.bool rn) := hW3.cell 0
    have v1 : Y1.cell? ⟨b2, 1, none⟩ = some (.string td) := hW3.cell 1
    have v2 : Y1.cell? ⟨b2, 2, none⟩ = some (.int .i64 re) := hW3.cell 2
    clear hW3 hW4 hB3 hY1 hb2 HW2 HB2 HP HR
    go_wp2_with fail
    refine (HC.out _ _).mono ?_
    rintro e Z ⟨rfl, rfl⟩
    go_wp2_with fail
    refine (HL.out _).mono ?_
    rintro e Z ⟨rfl, hb⟩
    have HB4 := Lib.hid (keepBelow hb HB3.out)
    clear hb u0 u1 u2 v0 v1 v2
    go_wp2_with fail
    go_ret
    exact ⟨rfl, HB4.out⟩
end Go.Proofs.YtdbcklabinmgfaaDoor
