/- Layer 33: Accepts at the law's own two examples; live. -/
import Derived.Test.YtkmdimepbghpcaaDoorReqWeigh
import Derived.Shelf.Strings.Split
namespace Go.Proofs.YtkmdimepbghpcaaDoor
open Go.RowKit Go.Shelf Go.Lib
set_option linter.unusedVariables false
set_option maxRecDepth 100000

shelf_lay Lays.n146 Nm 146 at Tryd as Tryd.laysSplit
theorem split_two (s e0 e1 : ByteArray) (w : World) (hs : s.size ≤ 1000) (hM : MaxOk w) (hc : Lib.countB s ⟨#[44]⟩ = 1) (hl : Lib.splitB ⟨#[44]⟩ 0 1 s = [e0, e1]) :
    Calls Tryd.prog 15 #[.string s, .string ⟨#[44]⟩] w fun e w' => e = .returned (.slice (some ⟨w.heap.size, 0, none⟩) 2 2) ∧ w' = w.alloc (.cells #[.string e0, .string e1] 9) := by
  obtain ⟨_, m, hm⟩ := hM
  have h := Any.strings_Split Tryd.laysSplit (by kernel_rfl) s ⟨#[44]⟩ m w (by omega) hm (by show 1 ≤ 1; decide)
  rw [hc, hl] at h
  exact h
theorem cell_new0 (w : World) (x y : Value) (t : TypeId) : (w.alloc (.cells #[x, y] t)).cell? ⟨w.heap.size, 0, none⟩ = some x := by
  rw [cell_of_row _ _ _ _ _ _ (heap_alloc_new w _)]; rfl
theorem cell_new1 (w : World) (x y : Value) (t : TypeId) : (w.alloc (.cells #[x, y] t)).cell? ⟨w.heap.size, 1, none⟩ = some y := by
  rw [cell_of_row _ _ _ _ _ _ (heap_alloc_new w _)]; rfl
theorem cell_new (w : World) (x : Value) (t : TypeId) : (w.alloc (.cells #[x] t)).cell? ⟨w.heap.size, 0, none⟩ = some x := by
  rw [cell_of_row _ _ _ _ _ _ (heap_alloc_new w _)]; rfl
def gz : ByteArray := ⟨#[103, 122, 105, 112]⟩
/-- The first element answers. -/
theorem accepts_first (s e0 e1 : ByteArray) (q : Int) (g : Nat) (w : World) (hs : s.size ≤ 1000) (hM : MaxOk w) (hg : w.cell? ⟨g, 0, none⟩ = some (.string s))
    (hc : Lib.countB s ⟨#[44]⟩ = 1) (hl : Lib.splitB ⟨#[44]⟩ 0 1 s = [e0, e1])
    (h0 : ∀ X, MaxOk X → Calls Tryd.prog 16 #[.string e0] X fun e w' => e = .returned (.tuple #[.string ⟨#[103, 122, 105, 112]⟩, .int .i64 q, .bool true]) ∧ Below X.heap.size X w') :
    Calls Tryd.prog 9 #[.slice (some ⟨g, 0, none⟩) 1 1] w fun e w' => e = .returned (.bool (decide (0 < q))) ∧ Below w.heap.size w w' := by
  have HS := Lib.hid (split_two s e0 e1 w hs hM hc hl)
  have H0 := Lib.hid h0
  have HM := Lib.hid hM
  have Hg := Lib.hid hg
  clear h0 hM hg
  go_enter Tryd.func9, Tryd.ntmps9
  go_wp2_with fail
  go_loopw [3, 4, 14] (fun x3 x4 x14 W => x3 = .int .i64 0 ∧ x4 = .bool false ∧ x14 = .int .i64 0 ∧ w = W) (fun _ _ _ _ => 0)
  case atStart => exact ⟨rfl, rfl, rfl, rfl⟩
  case round =>
    obtain ⟨rfl, rfl, rfl, rfl⟩ := hrel
    have hcell := Hg.out
    go_wp2_with fail
    refine HS.out.mono ?_
    rintro e X ⟨rfl, hX⟩
    have HX := Lib.hid hX
    obtain ⟨u, hu⟩ : ∃ u, u = w.heap.size := ⟨_, rfl⟩
    have hc0 := cell_new0 w (.string e0) (.string e1) 9
    have hMX : MaxOk X := by rw [hX]; exact HM.out.below ((Below.refl _ _).alloc (Nat.le_refl _) _)
    have HB : Hid (Below w.heap.size w X) := by show Below _ _ _; rw [hX]; exact (Below.refl _ _).alloc (Nat.le_refl _) _
    rw [← hX, ← hu] at hc0
    rw [← hu]
    have H1 := Lib.hid (H0.out X hMX)
    have Hc0 := Lib.hid hc0
    clear hX HX hu hMX HS H0 HM Hg hcell hc0
    go_wp2_with fail
    go_loopw [3, 4, 21] (fun x3 x4 x21 W => x3 = .int .i64 0 ∧ x4 = .bool false ∧ x21 = .int .i64 0 ∧ X = W) (fun _ _ _ _ => 0)
    case atStart => exact ⟨rfl, rfl, rfl, rfl⟩
    case round =>
      obtain ⟨rfl, rfl, rfl, rfl⟩ := hrel
      have hcell := Hc0.out
      go_wp2_with fail
      refine H1.out.mono ?_
      rintro e Y ⟨rfl, hb⟩
      have HY := Lib.hid (keepBelow hb HB.out)
      clear hb HB H1
      go_wp2_with fail
      exact bodyPost_ret (v := .bool (decide (0 < q))) (by simp [results, Tryd.results9, go_sem]) rfl ⟨rfl, HY.out⟩
/-- The second element answers. -/
theorem accepts_second (s e0 e1 : ByteArray) (q : Int) (g : Nat) (w : World) (hs : s.size ≤ 1000) (hM : MaxOk w) (hg : w.cell? ⟨g, 0, none⟩ = some (.string s))
    (hc : Lib.countB s ⟨#[44]⟩ = 1) (hl : Lib.splitB ⟨#[44]⟩ 0 1 s = [e0, e1])
    (h0 : ∀ X, MaxOk X → Calls Tryd.prog 16 #[.string e0] X fun e w' => e = .returned (.tuple #[.string ⟨#[98, 114]⟩, .int .i64 1000, .bool true]) ∧ Below X.heap.size X w')
    (h1 : ∀ X, MaxOk X → Calls Tryd.prog 16 #[.string e1] X fun e w' => e = .returned (.tuple #[.string ⟨#[103, 122, 105, 112]⟩, .int .i64 q, .bool true]) ∧ Below X.heap.size X w') :
    Calls Tryd.prog 9 #[.slice (some ⟨g, 0, none⟩) 1 1] w fun e w' => e = .returned (.bool (decide (0 < q))) ∧ Below w.heap.size w w' := by
  have HS := Lib.hid (split_two s e0 e1 w hs hM hc hl)
  have H0 := Lib.hid h0
  have H1 := Lib.hid h1
  have HM := Lib.hid hM
  have Hg := Lib.hid hg
  clear h0 h1 hM hg
  go_enter Tryd.func9, Tryd.ntmps9
  go_wp2_with fail
  go_loopw [3, 4, 14] (fun x3 x4 x14 W => x3 = .int .i64 0 ∧ x4 = .bool false ∧ x14 = .int .i64 0 ∧ w = W) (fun _ _ _ _ => 0)
  case atStart => exact ⟨rfl, rfl, rfl, rfl⟩
  case round =>
    obtain ⟨rfl, rfl, rfl, rfl⟩ := hrel
    have hcell := Hg.out
    go_wp2_with fail
    refine HS.out.mono ?_
    rintro e X ⟨rfl, hX⟩
    have HX := Lib.hid hX
    obtain ⟨u, hu⟩ : ∃ u, u = w.heap.size := ⟨_, rfl⟩
    have hc0 := cell_new0 w (.string e0) (.string e1) 9
    have hc1 := cell_new1 w (.string e0) (.string e1) 9
    have hMX : MaxOk X := by rw [hX]; exact HM.out.below ((Below.refl _ _).alloc (Nat.le_refl _) _)
    have HB : Hid (Below w.heap.size w X) := by show Below _ _ _; rw [hX]; exact (Below.refl _ _).alloc (Nat.le_refl _) _
    have hux : u < X.heap.size := by rw [hX, hu]; simp
    rw [← hX, ← hu] at hc0 hc1
    rw [← hu]
    have HR0 : Hid (Below X.heap.size X X) := Below.refl _ _
    have HMX := Lib.hid hMX
    have Hux := Lib.hid hux
    have Hc0 := Lib.hid hc0
    have Hc1 := Lib.hid hc1
    clear hX HX hu hMX HS HM Hg hcell hc0 hc1 hux
    go_wp2_with fail
    go_loopw [3, 4, 21] (fun x3 x4 x21 W => x3 = .int .i64 0 ∧ x4 = .bool false ∧ (∃ k : Nat, k ≤ 1 ∧ x21 = .int .i64 (k : Int)) ∧ Hid (Below X.heap.size X W)) (fun _ _ x21 _ => 1 - (RowKit.intOf x21).toNat)
    case atStart => exact ⟨rfl, rfl, ⟨0, by omega, rfl⟩, HR0⟩
    case round =>
      clear HR0
      obtain ⟨rfl, rfl, ⟨k, hk, rfl⟩, HR⟩ := hrel
      rcases (show k = 0 ∨ k = 1 by omega) with rfl | rfl
      · rw [show ((0 : Nat) : Int) = 0 from rfl]
        have hcell := (HR.out.cell (p := ⟨u, 0, none⟩) Hux.out).trans Hc0.out
        have hC := Lib.hid (H0.out wr (HMX.out.below HR.out))
        go_wp2_with fail
        refine hC.out.mono ?_
        rintro e Y ⟨rfl, hb⟩
        have HY : Hid (Below X.heap.size X Y) := keepBelow hb HR.out
        clear hb HR hC hcell
        go_wp2_with fail
        go_roundw
        case rel => exact ⟨rfl, rfl, ⟨1, by omega, rfl⟩, HY⟩
        case measure => simp [RowKit.intOf]
      · rw [show ((1 : Nat) : Int) = 1 from rfl]
        have hcell := (HR.out.cell (p := ⟨u, 1, none⟩) Hux.out).trans Hc1.out
        have hC := Lib.hid (H1.out wr (HMX.out.below HR.out))
        go_wp2_with fail
        refine hC.out.mono ?_
        rintro e Y ⟨rfl, hb⟩
        have HY : Hid (Below w.heap.size w Y) := keepBelow (keepBelow hb HR.out) HB.out
        clear hb HR hC hcell
        go_wp2_with fail
        exact bodyPost_ret (v := .bool (decide (0 < q))) (by simp [results, Tryd.results9, go_sem]) rfl ⟨rfl, HY.out⟩
theorem acceptsA (g : Nat) (w : World) (hM : MaxOk w) (hg : w.cell? ⟨g, 0, none⟩ = some (.string ⟨#[103, 122, 105, 112, 59, 113, 61, 48, 44, 32, 42]⟩)) :
    Calls Tryd.prog 9 #[.slice (some ⟨g, 0, none⟩) 1 1] w fun e w' => e = .returned (.bool false) ∧ Below w.heap.size w w' :=
  accepts_first ⟨#[103, 122, 105, 112, 59, 113, 61, 48, 44, 32, 42]⟩ ⟨#[103, 122, 105, 112, 59, 113, 61, 48]⟩ ⟨#[32, 42]⟩ 0 g w (by decide +kernel) hM hg (by decide +kernel) (by decide +kernel) (fun X h => weighed_elem elemA X h)
theorem acceptsB (g : Nat) (w : World) (hM : MaxOk w) (hg : w.cell? ⟨g, 0, none⟩ = some (.string ⟨#[98, 114, 44, 32, 71, 90, 73, 80, 59, 113, 61, 48, 46, 53]⟩)) :
    Calls Tryd.prog 9 #[.slice (some ⟨g, 0, none⟩) 1 1] w fun e w' => e = .returned (.bool true) ∧ Below w.heap.size w w' :=
  accepts_second ⟨#[98, 114, 44, 32, 71, 90, 73, 80, 59, 113, 61, 48, 46, 53]⟩ ⟨#[98, 114]⟩ ⟨#[32, 71, 90, 73, 80, 59, 113, 61, 48, 46, 53]⟩ 500 g w (by decide +kernel) hM hg (by decide +kernel) (by decide +kernel) (fun X h => weighed_plain plainC X h) (fun X h => weighed_elem elemB X h)
theorem live33_any (w : World) (hM : MaxOk w) : Calls Tryd.prog 4 #[] w fun e w' => e = .returned (.bool true) ∧ Below w.heap.size w w' := by
  have HA : Hid (Calls Tryd.prog 9 #[.slice (some ⟨w.heap.size, 0, none⟩) 1 1] (w.alloc (.cells #[.string ⟨#[103, 122, 105, 112, 59, 113, 61, 48, 44, 32, 42]⟩] 9)) fun e w' => e = .returned (.bool false) ∧ Below (w.alloc (.cells #[.string ⟨#[103, 122, 105, 112, 59, 113, 61, 48, 44, 32, 42]⟩] 9)).heap.size (w.alloc (.cells #[.string ⟨#[103, 122, 105, 112, 59, 113, 61, 48, 44, 32, 42]⟩] 9)) w') :=
    acceptsA _ _ (hM.below ((Below.refl _ _).alloc (Nat.le_refl _) _)) (cell_new _ _ _)
  have HM := Lib.hid hM
  clear hM
  go_enter Tryd.func4, Tryd.ntmps4
  go_wp2_with fail
  refine HA.out.mono ?_
  rintro e X ⟨rfl, hb⟩
  have HX : Hid (Below w.heap.size w X) := keepBelow hb ((Below.refl _ _).alloc (Nat.le_refl _) _)
  have HA2 : Hid (Calls Tryd.prog 9 #[.slice (some ⟨X.heap.size, 0, none⟩) 1 1] (X.alloc (.cells #[.string ⟨#[98, 114, 44, 32, 71, 90, 73, 80, 59, 113, 61, 48, 46, 53]⟩] 9)) fun e w' => e = .returned (.bool true) ∧ Below (X.alloc (.cells #[.string ⟨#[98, 114, 44, 32, 71, 90, 73, 80, 59, 113, 61, 48, 46, 53]⟩] 9)).heap.size (X.alloc (.cells #[.string ⟨#[98, 114, 44, 32, 71, 90, 73, 80, 59, 113, 61, 48, 46, 53]⟩] 9)) w') :=
    acceptsB _ _ ((HM.out.below HX.out).below ((Below.refl _ _).alloc (Nat.le_refl _) _)) (cell_new _ _ _)
  clear hb HA
  go_wp2_with fail
  refine HA2.out.mono ?_
  rintro e Y ⟨rfl, hb⟩
  have HY : Hid (Below w.heap.size w Y) := keepBelow hb (HX.out.alloc HX.out.size _)
  clear hb HA2 HX HM
  go_wp2_with fail
  exact bodyPost_ret (v := .bool true) (by simp [results, Tryd.results4, go_sem]) rfl ⟨rfl, HY.out⟩
end Go.Proofs.YtkmdimepbghpcaaDoor
