/- Walks over layer 3: the law of the fixed lengths. -/
import Derived.Test.YtcllcnccmjnieaaHuff4
import Derived.Deep.QuietTactic
import Derived.BigQuiet
namespace Go.Proofs.Ytcllcnccmjnieaa
open Go.RowKit Huff Bit
set_option linter.unusedVariables false
set_option maxRecDepth 100000

theorem fix_err : errOf (fixL.map fun n : Nat => (n : Int)) false = 0 := by decide +kernel
theorem fixL_get {k : Nat} (h : k < 288) : fixL[k]? = some (fxl k) := by simp [fixL, h]
theorem fives_get {k : Nat} (h : k < 30) : fives[k]? = some 5 := by unfold fives; rw [List.getElem?_replicate, if_pos h]
theorem below_then {B : Nat} {w X Y : World} (h : Below B w X) (h2 : Below X.heap.size X Y) (hB : B ≤ X.heap.size) : Below B w Y := h.trans (h2.mono hB)
set_option maxHeartbeats 8000000 in
theorem huffFixed_walk (n : Nat) (w : World) (hn : n < 65536) :
    Calls Try.prog 6 #[.int .u16 (n : Int)] w fun e w' => e = .returned (.bool true) ∧ Below w.heap.size w w' := by
  have Hl := Lib.hid live03_any
  have Hfix := Lib.hid (fixed_any w)
  have Hcode := Lib.hid code03_any
  have Hof := Lib.hid of_nil
  have Hrd := Lib.hid read_nil
  have Hwr := Lib.hid write_nil
  obtain ⟨k, hk⟩ : ∃ k, k = n % 288 := ⟨_, rfl⟩
  have hk2 : k < 288 := by omega
  obtain ⟨j, hj⟩ : ∃ j, j = k % 30 := ⟨_, rfl⟩
  have hj2 : j < 30 := by omega
  have hki : (n : Int) % 288 = (k : Int) := by omega
  have hji : (k : Int) % 30 = (j : Int) := by omega
  have hjt : (k : Int).tmod 30 = (j : Int) := by rw [Int.tmod_eq_emod_of_nonneg (by omega)]; exact hji
  have k0 : (0 : Int) ≤ (k : Int) := by omega
  have k1 : (k : Int) < 288 := by omega
  have j0 : (0 : Int) ≤ (j : Int) := by omega
  have j1 : (j : Int) < 30 := by omega
  have Hrf : Hid (∀ W, Calls Try.prog 27 #[.int .i64 (k : Int)] W fun e w' => e = .returned (.int .i64 (fxl k : Int)) ∧ W = w') := fun W => refFixed_any k W hk2
  have Hk2 := Lib.hid hk2
  have Hj2 := Lib.hid hj2
  have hne : ((fxl k : Int) != (fxl k : Int)) = false := by simp
  clear hk hj hk2 hj2
  go_enter Try.func6, Try.ntmps6
  go_wp2_with fail
  refine Hfix.out.mono ?_
  rintro e X1 ⟨g2, rfl, hF, hV, hB⟩
  have HF := Lib.hid hF
  have HV := Lib.hid hV
  have HB := Lib.hid hB
  have Hnew := Lib.hid (new_yes (some ⟨w.heap.size, 0, none⟩) 288 (fixL.map fun n : Nat => (n : Int)) false X1 (by
    have h1 : Nums .i64 X1 X1.heap.size (some ⟨w.heap.size, 0, none⟩) fixL := Nums.of_block (show X1.heap[w.heap.size]? = some (.cells (fixL.map fun n : Nat => Value.int .i64 (n : Int)).toArray 3 (0, 0)) from hF)
    exact Ints.of_nums h1) (by simp [fixL]) fix_err)
  rw [show (fixL.map fun n : Nat => (n : Int)).length = 288 by simp [fixL]] at Hnew
  clear hF hV hB Hfix
  go_wp2_with fail
  refine Hnew.out.mono ?_
  rintro e X2 ⟨g, rfl, _, hB⟩
  have HF2 := Lib.hid (HF.out.below hB HF.out.lt)
  have HV2 := Lib.hid (HV.out.below hB HV.out.lt)
  have HB2 := Lib.hid (below_then HB.out hB HB.out.size)
  clear hB HF HV HB Hnew
  have c0 : X2.cell? ⟨w.heap.size, k, none⟩ = some (.int .i64 (fxl k : Int)) := by rw [HF2.out.cell]; simp [i64s, fixL_get Hk2.out]
  have c1 : X2.cell? ⟨g2, j, none⟩ = some (.int .i64 5) := by rw [HV2.out.cell]; simp [i64s, fives_get Hj2.out]
  generalize fxl k = F at *
  go_upto_region 4 with (fail)
  go_quiet (first | (go_at_call 12; exact Calls.quiet_of_same ((Hcode.out _ _).mono fun _ _ h => ⟨h.1, h.2.symm⟩)) | (go_at_call 27; exact Calls.quiet_of_same ((Hrf.out _).mono fun _ _ h => ⟨h.1, h.2.symm⟩)))
  go_wp2_with fail
  refine (Hof.out _ _).mono ?_
  rintro e Y ⟨rfl, rfl⟩
  go_wp2_with fail
  refine (newReader_any _ 1 [1] _ (Nums.of_block (l := [1]) (heap_alloc_new _ _)) (by decide) (fun e => by cases e)).mono ?_
  rintro e X3 ⟨g3, a3, c3, rfl, _, _, hB⟩
  have HB3 : Hid (Below w.heap.size w X3) := below_then ((below_drawn HB2.out nq).alloc HB2.out.size _) hB (Nat.le_trans HB2.out.size (by simp))
  clear hB HB2 HF2 HV2 c0 c1
  go_wp2_with fail
  refine (Hrd.out _ _).mono ?_
  rintro e Y ⟨rfl, rfl⟩
  go_wp2_with fail
  refine (Hcode.out _ _).mono ?_
  rintro e Y ⟨rfl, rfl⟩
  go_wp2_with fail
  refine (newWriter_any _).mono ?_
  rintro e X4 ⟨rfl, _, hB⟩
  have HB4 := Lib.hid (below_then HB3.out hB HB3.out.size)
  clear hB
  go_wp2_with fail
  refine (Hwr.out _ _ _).mono ?_
  rintro e Y ⟨rfl, rfl⟩
  go_wp2_with fail
  refine (Hcode.out _ _).mono ?_
  rintro e Y ⟨rfl, rfl⟩
  go_wp2_with fail
  refine (Hl.out _).mono ?_
  rintro e X5 ⟨rfl, hB⟩
  have HB5 := Lib.hid (below_then HB4.out hB HB4.out.size)
  clear hB
  go_wp2_with fail
  go_ret
  exact ⟨rfl, HB5.out⟩
end Go.Proofs.Ytcllcnccmjnieaa
