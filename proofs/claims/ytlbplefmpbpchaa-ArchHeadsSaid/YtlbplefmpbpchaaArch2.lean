/- Layer 13: a header's parts, its corners. -/
import Derived.Test.YtlbplefmpbpchaaArch1
namespace Go.Proofs.Ytlbplefmpbpchaa
open Go.RowKit
set_option linter.unusedVariables false
set_option maxRecDepth 100000

def withinD (a n s : Nat) : Bool := decide ((a : Int) ≤ (s : Int) ∧ (n : Int) ≤ (s : Int) - (a : Int))
theorem within_any (a n s : Nat) (hs : s < 18446744073709551616) (w : World) : Calls Try.prog 21 #[.int .u64 (a : Int), .int .u64 (n : Int), .int .u64 (s : Int)] w fun e w' => e = .returned (.bool (withinD a n s)) ∧ w = w' := by
  obtain ⟨r, hr⟩ : ∃ r, r = withinD a n s := ⟨_, rfl⟩
  rw [← hr]
  unfold withinD at hr
  by_cases g0 : (a : Int) ≤ (s : Int)
  · have d0 : decide ((a : Int) ≤ (s : Int)) = true := decide_eq_true g0
    by_cases g1 : (n : Int) ≤ (s : Int) - (a : Int)
    · have d1 : decide ((n : Int) ≤ (s : Int) - (a : Int)) = true := decide_eq_true g1
      obtain rfl : r = true := by rw [hr]; exact decide_eq_true ⟨g0, g1⟩
      clear hr
      go_enter Try.func21, Try.ntmps21
      go_wp2_with fail
      go_ret
      exact ⟨rfl, rfl⟩
    · have d1 : decide ((n : Int) ≤ (s : Int) - (a : Int)) = false := decide_eq_false g1
      obtain rfl : r = false := by rw [hr]; exact decide_eq_false (fun h => g1 h.2)
      clear hr
      go_enter Try.func21, Try.ntmps21
      go_wp2_with fail
      go_ret
      exact ⟨rfl, rfl⟩
  · have d0 : decide ((a : Int) ≤ (s : Int)) = false := decide_eq_false g0
    obtain rfl : r = false := by rw [hr]; exact decide_eq_false (fun h => g0 h.1)
    clear hr
    go_enter Try.func21, Try.ntmps21
    go_wp2_with fail
    go_ret
    exact ⟨rfl, rfl⟩
theorem rwithin_any (a n s : Nat) (hs : s < 18446744073709551616) (w : World) : Calls Try.prog 23 #[.int .u64 (a : Int), .int .u64 (n : Int), .int .u64 (s : Int)] w fun e w' => e = .returned (.bool (withinD a n s)) ∧ w = w' := by
  obtain ⟨r, hr⟩ : ∃ r, r = withinD a n s := ⟨_, rfl⟩
  rw [← hr]
  unfold withinD at hr
  by_cases g0 : (a : Int) ≤ (s : Int)
  · have d0 : decide ((a : Int) ≤ (s : Int)) = true := decide_eq_true g0
    by_cases g1 : (n : Int) ≤ (s : Int) - (a : Int)
    · have d1 : decide ((n : Int) ≤ (s : Int) - (a : Int)) = true := decide_eq_true g1
      obtain rfl : r = true := by rw [hr]; exact decide_eq_true ⟨g0, g1⟩
      clear hr
      go_enter Try.func23, Try.ntmps23
      go_wp2_with fail
      go_ret
      exact ⟨rfl, rfl⟩
    · have d1 : decide ((n : Int) ≤ (s : Int) - (a : Int)) = false := decide_eq_false g1
      obtain rfl : r = false := by rw [hr]; exact decide_eq_false (fun h => g1 h.2)
      clear hr
      go_enter Try.func23, Try.ntmps23
      go_wp2_with fail
      go_ret
      exact ⟨rfl, rfl⟩
  · have d0 : decide ((a : Int) ≤ (s : Int)) = false := decide_eq_false g0
    obtain rfl : r = false := by rw [hr]; exact decide_eq_false (fun h => g0 h.1)
    clear hr
    go_enter Try.func23, Try.ntmps23
    go_wp2_with fail
    go_ret
    exact ⟨rfl, rfl⟩
theorem out_any (n m : Int) (hm : 0 ≤ m ∧ m ≤ 4000000000) (w : World) : Calls Try.prog 29 #[.int .i64 n, .int .i64 m] w fun e w' => e = .returned (.bool (decide (n < -m ∨ m < n))) ∧ w = w' := by
  have hw : wrap64 (-m) = -m := IntWalk.wrap64_in _ ⟨by omega, by omega⟩
  obtain ⟨r, hr⟩ : ∃ r, r = decide (n < -m ∨ m < n) := ⟨_, rfl⟩
  rw [← hr]
  by_cases g0 : n < -m
  · have d0 : decide (n < -m) = true := decide_eq_true g0
    obtain rfl : r = true := by rw [hr]; exact decide_eq_true (.inl g0)
    clear hr
    go_enter Try.func29, Try.ntmps29
    go_wp2_with fail
    go_ret
    exact ⟨rfl, rfl⟩
  · have d0 : decide (n < -m) = false := decide_eq_false g0
    by_cases g1 : m < n
    · have d1 : decide (m < n) = true := decide_eq_true g1
      obtain rfl : r = true := by rw [hr]; exact decide_eq_true (.inr g1)
      clear hr
      go_enter Try.func29, Try.ntmps29
      go_wp2_with fail
      go_ret
      exact ⟨rfl, rfl⟩
    · have d1 : decide (m < n) = false := decide_eq_false g1
      obtain rfl : r = false := by rw [hr]; exact decide_eq_false (fun h => by rcases h with h | h; exact g0 h; exact g1 h)
      clear hr
      go_enter Try.func29, Try.ntmps29
      go_wp2_with fail
      go_ret
      exact ⟨rfl, rfl⟩
theorem spot_any (x y : Int) (w : World) : Calls Try.prog 22 #[.agg #[.int .i64 x, .int .i64 y]] w fun e w' => e = .returned (.bool (earth x y)) ∧ Below w.heap.size w w' := by
  have HB := Lib.hid ((Below.refl w.heap.size w).alloc (Nat.le_refl _) (.cells #[.int .i64 x, .int .i64 y] 27))
  have H1 := Lib.hid fun W => out_any x 1800000000 (by omega) W
  have H2 := Lib.hid fun W => out_any y 900000000 (by omega) W
  obtain ⟨b1, hb1⟩ : ∃ b, b = decide (x < -1800000000 ∨ 1800000000 < x) := ⟨_, rfl⟩
  obtain ⟨b2, hb2⟩ : ∃ b, b = decide (y < -900000000 ∨ 900000000 < y) := ⟨_, rfl⟩
  rw [← hb1] at H1
  rw [← hb2] at H2
  have hr : Hid (earth x y = (!b1 && !b2)) := by
    show _ = _
    rw [hb1, hb2]
    unfold earth
    by_cases h1 : x < -1800000000 ∨ 1800000000 < x
    · rw [decide_eq_true h1]; exact decide_eq_false (by omega)
    · rw [decide_eq_false h1]
      by_cases h2 : y < -900000000 ∨ 900000000 < y
      · rw [decide_eq_true h2]; exact decide_eq_false (by omega)
      · rw [decide_eq_false h2]; exact decide_eq_true (by omega)
  clear hb1 hb2
  cases b1 with
  | true =>
    go_enter Try.func22, Try.ntmps22
    go_wp2_with fail
    refine (H1.out _).mono ?_
    rintro e X ⟨rfl, rfl⟩
    go_wp2_with fail
    go_ret
    exact ⟨by rw [hr.out]; rfl, HB.out⟩
  | false =>
    go_enter Try.func22, Try.ntmps22
    go_wp2_with fail
    refine (H1.out _).mono ?_
    rintro e X ⟨rfl, rfl⟩
    go_wp2_with fail
    refine (H2.out _).mono ?_
    rintro e X ⟨rfl, rfl⟩
    go_wp2_with fail
    go_ret
    exact ⟨by rw [hr.out]; rfl, HB.out⟩
structure One (w : World) (b : Nat) (va : Array Value) (W : World) : Prop where
  a : Whole W b 29 va
  k : Below w.heap.size w W
theorem One.step {w W Y : World} {b : Nat} {va : Array Value} (h : One w b va W) (hb : Below W.heap.size W Y) : One w b va Y := ⟨h.a.below hb h.a.lt, keepBelow hb h.k⟩
theorem One.drew {w W : World} {b : Nat} {va : Array Value} (h : One w b va W) : One w b va W.drew := ⟨h.a.drew, ⟨h.k.os, h.k.tape, h.k.output, h.k.size, h.k.block⟩⟩
def cornersD (h : Hd) : Bool := earth h.x0 h.y0 && earth h.x1 h.y1 && earth h.cx h.cy && decide (h.x0 ≤ h.x1) && decide (h.y0 ≤ h.y1)
set_option maxHeartbeats 8000000 in
theorem corners_any (h : Hd) (w : World) : Calls Try.prog 20 #[hdV h] w fun e w' => e = .returned (.bool (cornersD h)) ∧ Below w.heap.size w w' := by
  have HE1 := Lib.hid fun W => onEarth_any h.x0 h.y0 W
  have HE2 := Lib.hid fun W => onEarth_any h.x1 h.y1 W
  have HE3 := Lib.hid fun W => onEarth_any h.cx h.cy W
  obtain ⟨r, hr⟩ : ∃ r, r = cornersD h := ⟨_, rfl⟩
  rw [← hr]
  unfold cornersD at hr
  obtain ⟨b1, hb1⟩ : ∃ b, b = earth h.x0 h.y0 := ⟨_, rfl⟩
  obtain ⟨b2, hb2⟩ : ∃ b, b = earth h.x1 h.y1 := ⟨_, rfl⟩
  obtain ⟨b3, hb3⟩ : ∃ b, b = earth h.cx h.cy := ⟨_, rfl⟩
  rw [← hb1] at HE1 hr
  rw [← hb2] at HE2 hr
  rw [← hb3] at HE3 hr
  clear hb1 hb2 hb3
  obtain ⟨b, hb⟩ : ∃ z, z = w.heap.size := ⟨_, rfl⟩
  obtain ⟨X0, hX0⟩ : ∃ z, z = w.alloc (.cells h.cells 29) := ⟨_, rfl⟩
  have hO : One w b h.cells X0 := by rw [hX0, hb]; exact ⟨Whole.new w _ _, (Below.refl _ _).alloc (Nat.le_refl _) _⟩
  have HO0 := Lib.hid hO
  have HX0 := Lib.hid hX0
  have Hb := Lib.hid hb
  clear hX0 hb hO
  unfold hdV
  go_enter Try.func20, Try.ntmps20
  go_upto_region 1 with (fail)
  rw [← HX0.out, ← Hb.out]
  clear HX0 Hb
  have q17 : X0.cell? ⟨b, 17, none⟩ = some (.int .i64 h.x0) := HO0.out.a.cell 17
  have q18 : X0.cell? ⟨b, 18, none⟩ = some (.int .i64 h.y0) := HO0.out.a.cell 18
  have q19 : X0.cell? ⟨b, 19, none⟩ = some (.int .i64 h.x1) := HO0.out.a.cell 19
  have q20 : X0.cell? ⟨b, 20, none⟩ = some (.int .i64 h.y1) := HO0.out.a.cell 20
  have q21 : X0.cell? ⟨b, 21, none⟩ = some (.int .i64 h.cx) := HO0.out.a.cell 21
  have q22 : X0.cell? ⟨b, 22, none⟩ = some (.int .i64 h.cy) := HO0.out.a.cell 22
  go_wp2_with fail
  refine (HE1.out _).mono ?_
  rintro e Y1 ⟨rfl, hb⟩
  have HO1 := Lib.hid (HO0.out.step hb)
  clear hb q17 q18 q19 q20 q21 q22
  cases b1 with
  | false =>
    have hr2 : Hid (r = false) := by show _ = _; rw [hr]; exact by simp
    clear hr
    go_wp2_with fail
    go_ret
    exact ⟨by rw [hr2.out]; rfl, HO1.out.k⟩
  | true =>
    have q17 : Y1.cell? ⟨b, 17, none⟩ = some (.int .i64 h.x0) := HO1.out.a.cell 17
    have q18 : Y1.cell? ⟨b, 18, none⟩ = some (.int .i64 h.y0) := HO1.out.a.cell 18
    have q19 : Y1.cell? ⟨b, 19, none⟩ = some (.int .i64 h.x1) := HO1.out.a.cell 19
    have q20 : Y1.cell? ⟨b, 20, none⟩ = some (.int .i64 h.y1) := HO1.out.a.cell 20
    have q21 : Y1.cell? ⟨b, 21, none⟩ = some (.int .i64 h.cx) := HO1.out.a.cell 21
    have q22 : Y1.cell? ⟨b, 22, none⟩ = some (.int .i64 h.cy) := HO1.out.a.cell 22
    go_wp2_with fail
    refine (HE2.out _).mono ?_
    rintro e Y2 ⟨rfl, hb⟩
    have HO2 := Lib.hid (HO1.out.step hb)
    clear hb q17 q18 q19 q20 q21 q22
    cases b2 with
    | false =>
      have hr2 : Hid (r = false) := by show _ = _; rw [hr]; exact by simp
      clear hr
      go_wp2_with fail
      go_ret
      exact ⟨by rw [hr2.out]; rfl, HO2.out.k⟩
    | true =>
      have q17 : Y2.cell? ⟨b, 17, none⟩ = some (.int .i64 h.x0) := HO2.out.a.cell 17
      have q18 : Y2.cell? ⟨b, 18, none⟩ = some (.int .i64 h.y0) := HO2.out.a.cell 18
      have q19 : Y2.cell? ⟨b, 19, none⟩ = some (.int .i64 h.x1) := HO2.out.a.cell 19
      have q20 : Y2.cell? ⟨b, 20, none⟩ = some (.int .i64 h.y1) := HO2.out.a.cell 20
      have q21 : Y2.cell? ⟨b, 21, none⟩ = some (.int .i64 h.cx) := HO2.out.a.cell 21
      have q22 : Y2.cell? ⟨b, 22, none⟩ = some (.int .i64 h.cy) := HO2.out.a.cell 22
      go_wp2_with fail
      refine (HE3.out _).mono ?_
      rintro e Y3 ⟨rfl, hb⟩
      have HO3 := Lib.hid (HO2.out.step hb)
      clear hb q17 q18 q19 q20 q21 q22
      cases b3 with
      | false =>
        have hr2 : Hid (r = false) := by show _ = _; rw [hr]; exact by simp
        clear hr
        go_wp2_with fail
        go_ret
        exact ⟨by rw [hr2.out]; rfl, HO3.out.k⟩
      | true =>
        have q17 : Y3.cell? ⟨b, 17, none⟩ = some (.int .i64 h.x0) := HO3.out.a.cell 17
        have q18 : Y3.cell? ⟨b, 18, none⟩ = some (.int .i64 h.y0) := HO3.out.a.cell 18
        have q19 : Y3.cell? ⟨b, 19, none⟩ = some (.int .i64 h.x1) := HO3.out.a.cell 19
        have q20 : Y3.cell? ⟨b, 20, none⟩ = some (.int .i64 h.y1) := HO3.out.a.cell 20
        have q21 : Y3.cell? ⟨b, 21, none⟩ = some (.int .i64 h.cx) := HO3.out.a.cell 21
        have q22 : Y3.cell? ⟨b, 22, none⟩ = some (.int .i64 h.cy) := HO3.out.a.cell 22
        by_cases g1 : h.x0 ≤ h.x1
        · have d1 : decide (h.x0 ≤ h.x1) = true := decide_eq_true g1
          by_cases g2 : h.y0 ≤ h.y1
          · have d2 : decide (h.y0 ≤ h.y1) = true := decide_eq_true g2
            have hr2 : Hid (r = true) := by show _ = _; rw [hr]; exact by simp [g1, g2]
            clear hr
            go_wp2_with fail
            go_ret
            exact ⟨by rw [hr2.out]; rfl, HO3.out.k⟩
          · have d2 : decide (h.y0 ≤ h.y1) = false := decide_eq_false g2
            have hr2 : Hid (r = false) := by show _ = _; rw [hr]; exact by simp [g2]
            clear hr
            go_wp2_with fail
            go_ret
            exact ⟨by rw [hr2.out]; rfl, HO3.out.k⟩
        · have d1 : decide (h.x0 ≤ h.x1) = false := decide_eq_false g1
          have hr2 : Hid (r = false) := by show _ = _; rw [hr]; exact by simp [g1]
          clear hr
          go_wp2_with fail
          go_ret
          exact ⟨by rw [hr2.out]; rfl, HO3.out.k⟩
end Go.Proofs.Ytlbplefmpbpchaa
