/- Huff4 -/
import Derived.Test.YtngnhkghpnamoaaHuff3
import Derived.Test.YtngnhkghpnamoaaHRead
namespace Go.Proofs.Ytngnhkghpnamoaa
open Go.RowKit Huff Bit
set_option linter.unusedVariables false
set_option maxRecDepth 100000

theorem read_nil (p : Value) (w : World) : Calls Try.prog 99 #[.pointer none, p] w fun e w' => e = .returned (.tuple #[.int .i64 0, .int .i64 7]) ∧ w = w' := by
  go_enter Try.func99, Try.ntmps99
  go_wp2_with fail
  go_ret2
  exact ⟨rfl, rfl⟩
theorem write_nil (p : Value) (n : Int) (w : World) : Calls Try.prog 43 #[.pointer none, p, .int .i64 n] w fun e w' => e = .returned (.int .i64 7) ∧ w = w' := by
  go_enter Try.func43, Try.ntmps43
  go_wp2_with fail
  go_ret
  exact ⟨rfl, rfl⟩

def fxl (n : Nat) : Nat := if n < 144 then 8 else if n < 256 then 9 else if n < 280 then 7 else 8
theorem fixedLength_any (n : Nat) (w : World) (hn : n < 288) : Calls Try.prog 60 #[.int .i64 (n : Int)] w fun e w' => e = .returned (.int .i64 (fxl n : Int)) ∧ w = w' := by
  unfold fxl
  by_cases h1 : n < 144
  · rw [if_pos h1]
    have d1 : decide ((n : Int) < 144) = true := decide_eq_true (by omega)
    go_enter Try.func60, Try.ntmps60
    go_wp2_with fail
    go_ret
    exact ⟨rfl, rfl⟩
  · rw [if_neg h1]
    have d1 : decide ((n : Int) < 144) = false := decide_eq_false (by omega)
    by_cases h2 : n < 256
    · rw [if_pos h2]
      have d2 : decide ((n : Int) < 256) = true := decide_eq_true (by omega)
      go_enter Try.func60, Try.ntmps60
      go_wp2_with fail
      go_ret
      exact ⟨rfl, rfl⟩
    · rw [if_neg h2]
      have d2 : decide ((n : Int) < 256) = false := decide_eq_false (by omega)
      by_cases h3 : n < 280
      · rw [if_pos h3]
        have d3 : decide ((n : Int) < 280) = true := decide_eq_true (by omega)
        go_enter Try.func60, Try.ntmps60
        go_wp2_with fail
        go_ret
        exact ⟨rfl, rfl⟩
      · rw [if_neg h3]
        have d3 : decide ((n : Int) < 280) = false := decide_eq_false (by omega)
        go_enter Try.func60, Try.ntmps60
        go_wp2_with fail
        go_ret
        exact ⟨rfl, rfl⟩
theorem refFixed_any (n : Nat) (w : World) (hn : n < 288) : Calls Try.prog 29 #[.int .i64 (n : Int)] w fun e w' => e = .returned (.int .i64 (fxl n : Int)) ∧ w = w' := by
  unfold fxl
  by_cases h1 : n < 144
  · rw [if_pos h1]
    have d1 : decide ((144 : Int) ≤ (n : Int)) = false := decide_eq_false (by omega)
    have d2 : decide ((256 : Int) ≤ (n : Int)) = false := decide_eq_false (by omega)
    go_enter Try.func29, Try.ntmps29
    go_wp2_with fail
    go_ret
    exact ⟨rfl, rfl⟩
  · rw [if_neg h1]
    have d1 : decide ((144 : Int) ≤ (n : Int)) = true := decide_eq_true (by omega)
    by_cases h2 : n < 256
    · rw [if_pos h2]
      have d2 : decide ((n : Int) < 256) = true := decide_eq_true (by omega)
      go_enter Try.func29, Try.ntmps29
      go_wp2_with fail
      go_ret
      exact ⟨rfl, rfl⟩
    · rw [if_neg h2]
      have d2 : decide ((n : Int) < 256) = false := decide_eq_false (by omega)
      have d4 : decide ((256 : Int) ≤ (n : Int)) = true := decide_eq_true (by omega)
      by_cases h3 : n < 280
      · rw [if_pos h3]
        have d3 : decide ((n : Int) < 280) = true := decide_eq_true (by omega)
        go_enter Try.func29, Try.ntmps29
        go_wp2_with fail
        go_ret
        exact ⟨rfl, rfl⟩
      · rw [if_neg h3]
        have d3 : decide ((n : Int) < 280) = false := decide_eq_false (by omega)
        go_enter Try.func29, Try.ntmps29
        go_wp2_with fail
        go_ret
        exact ⟨rfl, rfl⟩

def fillTo (n k : Nat) (f : Nat → Nat) : List Nat := (List.range n).map fun i => if i < k then f i else 0
theorem fillTo_length (n k : Nat) (f : Nat → Nat) : (fillTo n k f).length = n := by simp [fillTo]
theorem fillTo_start (n : Nat) (f : Nat → Nat) : fillTo n 0 f = List.replicate n 0 := by
  apply List.ext_getElem
  · simp [fillTo]
  · intro i h1 h2; simp [fillTo]
theorem fillTo_next (n k : Nat) (f : Nat → Nat) (h : k < n) : (fillTo n k f).set k (f k) = fillTo n (k + 1) f := by
  apply List.ext_getElem
  · simp [fillTo]
  · intro i h1 h2
    rw [List.getElem_set]
    simp only [fillTo, List.getElem_map, List.getElem_range]
    by_cases he : k = i
    · subst he; rw [if_pos rfl, if_pos (by omega)]
    · rw [if_neg he]
      by_cases hi : i < k
      · rw [if_pos hi, if_pos (by omega)]
      · rw [if_neg hi, if_neg (by omega)]
theorem i64s_set (l : List Nat) (k n : Nat) : (i64s l).set k (.int .i64 (n : Int)) = i64s (l.set k n) := by simp [i64s]
theorem Whole.seti {W : World} {g : Nat} {l : List Nat} (h : Whole W g 3 (i64s l).toArray) (k n : Nat) : Whole (W.setCell ⟨g, k, none⟩ (.int .i64 (n : Int))) g 3 (i64s (l.set k n)).toArray := by
  have := h.set k (.int .i64 (n : Int))
  rw [List.setIfInBounds_toArray, i64s_set] at this
  exact this
theorem imade (n : Nat) : madeCells #[.int .i64 0] n = (i64s (List.replicate n 0)).toArray := by
  apply Array.ext
  · simp [size_madeCells, i64s]
  · intro j hj1 hj2
    simp [madeCells, i64s, Nat.mod_one]
def fixL : List Nat := (List.range 288).map fxl
def fives : List Nat := List.replicate 30 5
def FixedPost (w : World) (e : Ending) (w' : World) : Prop := ∃ g, e = .returned (.tuple #[.slice (some ⟨w.heap.size, 0, none⟩) 288 288, .slice (some ⟨g, 0, none⟩) 30 30]) ∧
  Whole w' w.heap.size 3 (i64s fixL).toArray ∧ Whole w' g 3 (i64s fives).toArray ∧ Below w.heap.size w w'
set_option maxHeartbeats 4000000 in
theorem fixed_any (w : World) : Calls Try.prog 39 #[] w (FixedPost w) := by
  obtain ⟨i1, hi1, hy0, hy1, hy2⟩ := info_parts i64info
  have hmk := fun (W : World) (n : Nat) (hn : n ≤ 1000) => run_make (P := Try.prog) W 57 3 i1 _ Try.underlying57 hi1 hy0 .i64 .i64 (n : Int) (n : Int) (by omega) (Int.le_refl _) (by rw [hy2]; omega) (by omega)
  have hm1 : ∀ W, (Instr.makeSlice 57 (.int .i64 288) (.int .i64 288)).run Try.prog W = .ok (.slice (some ⟨W.heap.size, 0, none⟩) 288 288) (W.alloc (.cells (i64s (List.replicate 288 0)).toArray 3)) := fun W => by
    have := hmk W 288 (by omega)
    rw [hy1, show (Value.int .i64 0).cells = #[.int .i64 0] from rfl, Nat.mul_one, Int.toNat_natCast, imade] at this
    exact this
  have hm2 : ∀ W, (Instr.makeSlice 57 (.int .i64 30) (.int .i64 30)).run Try.prog W = .ok (.slice (some ⟨W.heap.size, 0, none⟩) 30 30) (W.alloc (.cells (i64s (List.replicate 30 0)).toArray 3)) := fun W => by
    have := hmk W 30 (by omega)
    rw [hy1, show (Value.int .i64 0).cells = #[.int .i64 0] from rfl, Nat.mul_one, Int.toNat_natCast, imade] at this
    exact this
  obtain ⟨A1, hA1⟩ : ∃ A, A = i64s (List.replicate 288 0) := ⟨_, rfl⟩
  obtain ⟨A2, hA2⟩ : ∃ A, A = i64s (List.replicate 30 0) := ⟨_, rfl⟩
  rw [← hA1] at hm1
  rw [← hA2] at hm2
  have HA1 := Lib.hid hA1
  have HA2 := Lib.hid hA2
  have Hfl := Lib.hid fixedLength_any
  clear hmk hA1 hA2
  go_enter Try.func39, Try.ntmps39
  go_upto_region 2 with (fail)
  obtain ⟨g, hg⟩ : ∃ g, g = w.heap.size := ⟨_, rfl⟩
  obtain ⟨X1, hX1⟩ : ∃ X, X = w.alloc (.cells A1.toArray 3) := ⟨_, rfl⟩
  have HW0 : Hid (Whole X1 g 3 (i64s (fillTo 288 0 fxl)).toArray) := by rw [hX1, hg, fillTo_start, ← HA1.out]; exact Whole.new w _ _
  have HB0 : Hid (Below w.heap.size w X1) := by rw [hX1]; exact (Below.refl _ _).alloc (Nat.le_refl _) _
  rw [← hX1, ← hg]
  have Hg := Lib.hid hg
  clear hX1 hg hm1
  go_wp2_with fail
  go_loopw [7] (fun x W => ∃ k : Nat, k ≤ 288 ∧ x = .int .i64 (k : Int) ∧ Hid (Whole W g 3 (i64s (fillTo 288 k fxl)).toArray) ∧ Hid (Below w.heap.size w W)) (fun x _ => 288 - (intOf x).toNat)
  case atStart => exact ⟨0, by omega, rfl, HW0, HB0⟩
  case round =>
    obtain ⟨k, hk, rfl, HW, HB⟩ := hrel
    clear HW0 HB0
    by_cases hlt : k < 288
    · have hc : wr.cell? ⟨g, k, none⟩ = some (.int .i64 (((fillTo 288 k fxl)[k]'(by rw [fillTo_length]; exact hlt) : Nat) : Int)) := by
        rw [HW.out.cell]; simp [i64s, hlt, fillTo_length]
      have hf : wr.frozen? ⟨g, k, none⟩ = false := HW.out.frozen _
      have HW2 : Hid (Whole (wr.setCell ⟨g, k, none⟩ (.int .i64 (fxl k : Int))) g 3 (i64s (fillTo 288 (k + 1) fxl)).toArray) := by
        have := HW.out.seti k (fxl k)
        rw [fillTo_next _ _ _ hlt] at this; exact this
      have HB2 := Lib.hid (HB.out.setCell (p := ⟨g, k, none⟩) (by rw [Hg.out]; exact Nat.le_refl _) (.int .i64 (fxl k : Int)))
      have Hq := Lib.hid (Hfl.out k wr hlt)
      generalize fxl k = f at *
      generalize (fillTo 288 k fxl)[k]'(by rw [fillTo_length]; exact hlt) = f0 at *
      have d1 : decide ((k : Int) < 288) = true := decide_eq_true (by omega)
      have k0 : (0 : Int) ≤ (k : Int) := by omega
      have k1 : (k : Int) < 288 := by omega
      clear HW HB hm2
      go_wp2_with fail
      refine Hq.out.mono ?_
      rintro e X ⟨rfl, rfl⟩
      go_wp2_with fail
      go_roundw
      case rel => exact ⟨k + 1, by omega, by go_num, HW2, HB2⟩
      case measure => simp [intOf]; omega
    · obtain rfl : k = 288 := by omega
      have HWf : Hid (Whole wr g 3 (i64s fixL).toArray) := by
        have := HW.out
        rwa [show fillTo 288 288 fxl = fixL from by unfold fillTo fixL; apply List.map_congr_left; intro i hi; rw [if_pos (List.mem_range.1 hi)]] at this
      clear hlt hk HW
      go_upto_region 8 with (fail)
      obtain ⟨X0, hX0⟩ : ∃ X, X = wr := ⟨_, rfl⟩
      subst hX0
      obtain ⟨g2, hg2⟩ : ∃ g, g = X0.heap.size := ⟨_, rfl⟩
      obtain ⟨X1, hX1⟩ : ∃ X, X = X0.alloc (.cells A2.toArray 3) := ⟨_, rfl⟩
      have HV0 : Hid (Whole X1 g2 3 (i64s (fillTo 30 0 (fun _ => 5))).toArray) := by rw [hX1, hg2, fillTo_start, ← HA2.out]; exact Whole.new X0 _ _
      have HW0 : Hid (Whole X1 g 3 (i64s fixL).toArray) := by rw [hX1]; exact HWf.out.alloc _
      have HB0 : Hid (Below w.heap.size w X1) := by rw [hX1]; exact HB.out.alloc HB.out.size _
      have Hg2 : Hid (g < g2) := by show _ < _; rw [hg2]; exact HWf.out.lt
      rw [← hX1, ← hg2]
      clear hX1 hg2 hm2
      go_wp2_with fail
      go_loopw [19] (fun x W => ∃ k : Nat, k ≤ 30 ∧ x = .int .i64 (k : Int) ∧ Hid (Whole W g2 3 (i64s (fillTo 30 k (fun _ => 5))).toArray) ∧ Hid (Whole W g 3 (i64s fixL).toArray) ∧ Hid (Below w.heap.size w W)) (fun x _ => 30 - (intOf x).toNat)
      case atStart => exact ⟨0, by omega, rfl, HV0, HW0, HB0⟩
      case round =>
        obtain ⟨k, hk, rfl, HV, HW, HB⟩ := hrel
        clear HV0 HW0 HB0
        by_cases hlt : k < 30
        · have hc : wr.cell? ⟨g2, k, none⟩ = some (.int .i64 (((fillTo 30 k (fun _ => 5))[k]'(by rw [fillTo_length]; exact hlt) : Nat) : Int)) := by
            rw [HV.out.cell]; simp [i64s, hlt, fillTo_length]
          have hf : wr.frozen? ⟨g2, k, none⟩ = false := HV.out.frozen _
          have HV2 : Hid (Whole (wr.setCell ⟨g2, k, none⟩ (.int .i64 5)) g2 3 (i64s (fillTo 30 (k + 1) (fun _ => 5))).toArray) := by
            have := HV.out.seti k 5
            rw [fillTo_next 30 k (fun _ => 5) hlt] at this; exact this
          have HW2 := Lib.hid (HW.out.far (p := ⟨g2, k, none⟩) (by have := Hg2.out; show g ≠ g2; omega) (.int .i64 5))
          have HB2 := Lib.hid (HB.out.setCell (p := ⟨g2, k, none⟩) (by have := Hg2.out; have := Hg.out; show _ ≤ g2; omega) (.int .i64 5))
          generalize (fillTo 30 k (fun _ => 5))[k]'(by rw [fillTo_length]; exact hlt) = f0 at *
          have d1 : decide ((k : Int) < 30) = true := decide_eq_true (by omega)
          have k0 : (0 : Int) ≤ (k : Int) := by omega
          have k1 : (k : Int) < 30 := by omega
          clear HV HW HB
          go_wp2_with fail
          go_roundw
          case rel => exact ⟨k + 1, by omega, by go_num, HV2, HW2, HB2⟩
          case measure => simp [intOf]; omega
        · obtain rfl : k = 30 := by omega
          have HVf : Hid (Whole wr g2 3 (i64s fives).toArray) := by
            have := HV.out
            rwa [show fillTo 30 30 (fun _ => 5) = fives from rfl] at this
          clear HV hlt hk
          go_wp2_with fail
          go_ret2
          exact ⟨g2, by rw [Hg.out]; rfl, by rw [← Hg.out]; exact HW.out, HVf.out, HB.out⟩

theorem live_err : errOf [2, 1, 3, 3] false = 0 := by decide
theorem live_of0 : ofA (nats [2, 1, 3, 3]) 0 = (2, 2) := by decide
theorem live_of3 : ofA (nats [2, 1, 3, 3]) 3 = (7, 3) := by decide
end Go.Proofs.Ytngnhkghpnamoaa
