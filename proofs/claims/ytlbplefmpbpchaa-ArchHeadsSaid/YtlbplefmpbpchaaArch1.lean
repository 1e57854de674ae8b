/- Layer 13: a header; its small tests. -/
import Derived.Test.YtlbplefmpbpchaaHeld
import Derived.Test.YtlbplefmpbpchaaBs
import Derived.Test.YtlbplefmpbpchaaU8
import Derived.WalkKit
import Derived.IntWalk
import Derived.Deep.DeepCutAuto
import Derived.Laws.StructEq
namespace Go.Proofs.Ytlbplefmpbpchaa
open Go.RowKit
set_option linter.unusedVariables false
set_option maxRecDepth 100000

/-- A header: 24 numbers. -/
structure Hd where
  (r0 r1 m0 m1 l0 l1 d0 d1 c0 c1 c2 : Nat)
  (cl : Bool)
  (inn out kind zmin zmax x0 y0 x1 y1 cx cy mid : Int)
def Hd.cells (h : Hd) : Array Value := #[.int .u64 (h.r0 : Int), .int .u64 (h.r1 : Int), .int .u64 (h.m0 : Int), .int .u64 (h.m1 : Int), .int .u64 (h.l0 : Int), .int .u64 (h.l1 : Int), .int .u64 (h.d0 : Int), .int .u64 (h.d1 : Int), .int .u64 (h.c0 : Int), .int .u64 (h.c1 : Int), .int .u64 (h.c2 : Int), .bool h.cl, .int .i64 h.inn, .int .i64 h.out, .int .i64 h.kind, .int .i64 h.zmin, .int .i64 h.zmax, .int .i64 h.x0, .int .i64 h.y0, .int .i64 h.x1, .int .i64 h.y1, .int .i64 h.cx, .int .i64 h.cy, .int .i64 h.mid]
def hdV (h : Hd) : Value := .agg h.cells
theorem packing_any (n : Int) (w : World) : Calls Try.prog 18 #[.int .i64 n] w fun e w' => e = .returned (.bool (decide (n = 1 ∨ n = 2))) ∧ w = w' := by
  by_cases h1 : n = 1
  · subst h1
    go_enter Try.func18, Try.ntmps18
    go_wp2_with fail
    go_ret
    exact ⟨rfl, rfl⟩
  · have d1 : (n == 1) = false := beq_eq_false_iff_ne.mpr h1
    by_cases h2 : n = 2
    · subst h2
      go_enter Try.func18, Try.ntmps18
      go_wp2_with fail
      go_ret
      exact ⟨rfl, rfl⟩
    · have d2 : (n == 2) = false := beq_eq_false_iff_ne.mpr h2
      have hr : Hid (decide (n = 1 ∨ n = 2) = false) := decide_eq_false (fun h => by rcases h with h | h; exact h1 h; exact h2 h)
      clear h1 h2
      go_enter Try.func18, Try.ntmps18
      go_wp2_with fail
      go_ret
      exact ⟨by rw [hr.out]; rfl, rfl⟩
def earth (x y : Int) : Bool := decide (-1800000000 ≤ x ∧ x ≤ 1800000000 ∧ -900000000 ≤ y ∧ y ≤ 900000000)
theorem onEarth_any (x y : Int) (w : World) : Calls Try.prog 28 #[.agg #[.int .i64 x, .int .i64 y]] w fun e w' => e = .returned (.bool (earth x y)) ∧ Below w.heap.size w w' := by
  have HB := Lib.hid ((Below.refl w.heap.size w).alloc (Nat.le_refl _) (.cells #[.int .i64 x, .int .i64 y] 27))
  obtain ⟨r, hr⟩ : ∃ r, r = earth x y := ⟨_, rfl⟩
  rw [← hr]
  unfold earth at hr
  by_cases g0 : -1800000000 ≤ x
  · have d0 : decide (-1800000000 ≤ x) = true := decide_eq_true g0
    by_cases g1 : x ≤ 1800000000
    · have d1 : decide (x ≤ 1800000000) = true := decide_eq_true g1
      by_cases g2 : -900000000 ≤ y
      · have d2 : decide (-900000000 ≤ y) = true := decide_eq_true g2
        by_cases g3 : y ≤ 900000000
        · have d3 : decide (y ≤ 900000000) = true := decide_eq_true g3
          obtain rfl : r = true := by rw [hr]; exact decide_eq_true ⟨g0, g1, g2, g3⟩
          clear hr
          go_enter Try.func28, Try.ntmps28
          go_wp2_with fail
          go_ret
          exact ⟨rfl, HB.out⟩
        · have d3 : decide (y ≤ 900000000) = false := decide_eq_false g3
          obtain rfl : r = false := by rw [hr]; exact decide_eq_false (fun h => g3 (by obtain ⟨_, _, _, _⟩ := h; assumption))
          clear hr
          go_enter Try.func28, Try.ntmps28
          go_wp2_with fail
          go_ret
          exact ⟨rfl, HB.out⟩
      · have d2 : decide (-900000000 ≤ y) = false := decide_eq_false g2
        obtain rfl : r = false := by rw [hr]; exact decide_eq_false (fun h => g2 (by obtain ⟨_, _, _, _⟩ := h; assumption))
        clear hr
        go_enter Try.func28, Try.ntmps28
        go_wp2_with fail
        go_ret
        exact ⟨rfl, HB.out⟩
    · have d1 : decide (x ≤ 1800000000) = false := decide_eq_false g1
      obtain rfl : r = false := by rw [hr]; exact decide_eq_false (fun h => g1 (by obtain ⟨_, _, _, _⟩ := h; assumption))
      clear hr
      go_enter Try.func28, Try.ntmps28
      go_wp2_with fail
      go_ret
      exact ⟨rfl, HB.out⟩
  · have d0 : decide (-1800000000 ≤ x) = false := decide_eq_false g0
    obtain rfl : r = false := by rw [hr]; exact decide_eq_false (fun h => g0 (by obtain ⟨_, _, _, _⟩ := h; assumption))
    clear hr
    go_enter Try.func28, Try.ntmps28
    go_wp2_with fail
    go_ret
    exact ⟨rfl, HB.out⟩
def zoomsD (h : Hd) : Bool := decide (0 ≤ h.zmin ∧ h.zmin ≤ h.zmax ∧ h.zmax ≤ 30 ∧ 0 ≤ h.mid ∧ h.mid ≤ 30)
theorem zooms_any (h : Hd) (w : World) : Calls Try.prog 19 #[hdV h] w fun e w' => e = .returned (.bool (zoomsD h)) ∧ Below w.heap.size w w' := by
  have HB := Lib.hid ((Below.refl w.heap.size w).alloc (Nat.le_refl _) (.cells h.cells 29))
  obtain ⟨r, hr⟩ : ∃ r, r = zoomsD h := ⟨_, rfl⟩
  rw [← hr]
  unfold zoomsD at hr
  unfold hdV
  unfold Hd.cells at HB ⊢
  obtain ⟨r0, r1, m0, m1, l0, l1, d0', d1', c0, c1, c2, cl, inn, out, kind, zmin, zmax, x0, y0, x1, y1, cx, cy, mid⟩ := h
  simp only at HB hr ⊢
  by_cases g0 : 0 ≤ zmin
  · have d0 : decide (0 ≤ zmin) = true := decide_eq_true g0
    by_cases g1 : zmin ≤ zmax
    · have d1 : decide (zmin ≤ zmax) = true := decide_eq_true g1
      by_cases g2 : zmax ≤ 30
      · have d2 : decide (zmax ≤ 30) = true := decide_eq_true g2
        by_cases g3 : 0 ≤ mid
        · have d3 : decide (0 ≤ mid) = true := decide_eq_true g3
          by_cases g4 : mid ≤ 30
          · have d4 : decide (mid ≤ 30) = true := decide_eq_true g4
            obtain rfl : r = true := by rw [hr]; exact decide_eq_true ⟨g0, g1, g2, g3, g4⟩
            clear hr
            go_enter Try.func19, Try.ntmps19
            go_wp2_with fail
            go_ret
            exact ⟨rfl, HB.out⟩
          · have d4 : decide (mid ≤ 30) = false := decide_eq_false g4
            obtain rfl : r = false := by rw [hr]; exact decide_eq_false (fun h => g4 (by obtain ⟨_, _, _, _, _⟩ := h; assumption))
            clear hr
            go_enter Try.func19, Try.ntmps19
            go_wp2_with fail
            go_ret
            exact ⟨rfl, HB.out⟩
        · have d3 : decide (0 ≤ mid) = false := decide_eq_false g3
          obtain rfl : r = false := by rw [hr]; exact decide_eq_false (fun h => g3 (by obtain ⟨_, _, _, _, _⟩ := h; assumption))
          clear hr
          go_enter Try.func19, Try.ntmps19
          go_wp2_with fail
          go_ret
          exact ⟨rfl, HB.out⟩
      · have d2 : decide (zmax ≤ 30) = false := decide_eq_false g2
        obtain rfl : r = false := by rw [hr]; exact decide_eq_false (fun h => g2 (by obtain ⟨_, _, _, _, _⟩ := h; assumption))
        clear hr
        go_enter Try.func19, Try.ntmps19
        go_wp2_with fail
        go_ret
        exact ⟨rfl, HB.out⟩
    · have d1 : decide (zmin ≤ zmax) = false := decide_eq_false g1
      obtain rfl : r = false := by rw [hr]; exact decide_eq_false (fun h => g1 (by obtain ⟨_, _, _, _, _⟩ := h; assumption))
      clear hr
      go_enter Try.func19, Try.ntmps19
      go_wp2_with fail
      go_ret
      exact ⟨rfl, HB.out⟩
  · have d0 : decide (0 ≤ zmin) = false := decide_eq_false g0
    obtain rfl : r = false := by rw [hr]; exact decide_eq_false (fun h => g0 (by obtain ⟨_, _, _, _, _⟩ := h; assumption))
    clear hr
    go_enter Try.func19, Try.ntmps19
    go_wp2_with fail
    go_ret
    exact ⟨rfl, HB.out⟩
end Go.Proofs.Ytlbplefmpbpchaa
