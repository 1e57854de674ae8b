/- Layer 5: DeflateLong, the law's walk. -/
import Derived.Test.YtmheafadahdbfaaPar5
import Derived.Test.YtmheafadahdbfaaSto3
namespace Go.Proofs.Ytmheafadahdbfaa
open Go.RowKit
set_option linter.unusedVariables false
set_option maxRecDepth 100000

theorem u8made (n : Nat) : madeCells #[.int .u8 0] n = (u8s (List.replicate n 0)).toArray := by
  apply Array.ext
  · simp [size_madeCells, u8s]
  · intro j hj1 hj2
    simp [madeCells, u8s, Nat.mod_one]
theorem getD_block (last : Nat) (l r : List Nat) : (blockB last l ++ r).getD 0 0 = last ∧ (blockB last l ++ r).getD 1 0 = l.length % 256 ∧ (blockB last l ++ r).getD 2 0 = l.length / 256 := ⟨rfl, rfl, rfl⟩
theorem getD_behind (l r : List Nat) (j : Nat) : (l ++ r).getD (l.length + j) 0 = r.getD j 0 := by
  rw [List.getD_eq_getElem?_getD, List.getD_eq_getElem?_getD, List.getElem?_append_right (by omega), show l.length + j - l.length = j by omega]
theorem stored_one {k : Nat} (h : k ≤ 65535) : ∃ T, storedE 17 (List.replicate k 0) = T ∧ T.length = k + 5 ∧ T.getD 0 0 = 1 ∧ T.getD 1 0 = k % 256 ∧ T.getD 2 0 = k / 256 := by
  refine ⟨_, storedE_no (by rw [List.length_replicate]; omega), by rw [blockB_length, List.length_replicate], ?_⟩
  have := getD_block 1 (List.replicate k 0) []
  rw [List.append_nil, List.length_replicate] at this
  exact this
theorem stored_two {k : Nat} (h : 65535 < k) (h2 : k ≤ 65700) : ∃ T, storedE 17 (List.replicate k 0) = T ∧ T.length = k + 10 ∧ T.getD 0 0 = 0 ∧ T.getD 1 0 = 255 ∧ T.getD 2 0 = 255 ∧ T.getD 65540 0 = 1 ∧ T.getD 65541 0 = k - 65535 := by
  have e := storedE_yes (f := 16) (l := List.replicate k 0) (by rw [List.length_replicate]; exact h)
  rw [List.take_replicate, List.drop_replicate, show min 65535 k = 65535 by omega, storedE_no (f := 16) (l := List.replicate (k - 65535) 0) (by rw [List.length_replicate]; omega)] at e
  obtain ⟨Z, hZ⟩ : ∃ Z, List.replicate 65535 0 = Z := ⟨_, rfl⟩
  have hZl : Z.length = 65535 := by rw [← hZ, List.length_replicate]
  rw [hZ] at e
  have hbl : (blockB 0 Z).length = 65540 := by rw [blockB_length, hZl]
  have hD := getD_block 1 (List.replicate (k - 65535) 0) []
  rw [List.append_nil, List.length_replicate] at hD
  have hD0 := getD_block 0 Z (blockB 1 (List.replicate (k - 65535) 0))
  rw [hZl] at hD0
  refine ⟨_, e, by rw [List.length_append, hbl, blockB_length, List.length_replicate]; omega, hD0.1, hD0.2.1, hD0.2.2, ?_, ?_⟩
  · have := getD_behind (blockB 0 Z) (blockB 1 (List.replicate (k - 65535) 0)) 0
    rw [hbl, hD.1] at this; exact this
  · have := getD_behind (blockB 0 Z) (blockB 1 (List.replicate (k - 65535) 0)) 1
    rw [hbl, hD.2.1] at this; rw [this]; omega
theorem Nums.at_ {w : World} {B b off : Nat} {l : List Nat} (h : Nums .u8 w B (some ⟨b, off, none⟩) l) {i : Nat} (hi : i < l.length) : w.cell? ⟨b, off + i, none⟩ = some (.int .u8 ((l.getD i 0 : Nat) : Int)) := by
  obtain ⟨b', off', e, _, hc⟩ := h (by omega)
  injection e with e; injection e with e1 e2; subst e1 e2
  exact hc i hi
set_option maxHeartbeats 8000000 in
theorem deflateLong_walk (n : Nat) (w : World) (hn : n < 4294967296) :
    Calls Try.prog 7 #[.int .u32 (n : Int)] w fun e w' => e = .returned (.bool true) ∧ Below w.heap.size w w' := by
  obtain ⟨i1, hi1, hy0, hy1, hy2⟩ := info_parts u8info
  have hmk := fun (W : World) (k : Nat) (hk : k ≤ 2000000) => run_make (P := Try.prog) W 22 5 i1 _ Try.underlying22 hi1 hy0 .i64 .i64 (k : Int) (k : Int) (by omega) (Int.le_refl _) (by rw [hy2]; omega) (by omega)
  have hm1 : ∀ (k : Nat), k ≤ 2000000 → ∀ W, (Instr.makeSlice 22 (.int .i64 (k : Int)) (.int .i64 (k : Int))).run Try.prog W = .ok (.slice (some ⟨W.heap.size, 0, none⟩) k k) (W.alloc (.cells (u8s (List.replicate k 0)).toArray 5)) := fun k hk W => by
    have := hmk W k hk
    rw [hy1, show (Value.int .u8 0).cells = #[.int .u8 0] from rfl, Nat.mul_one, Int.toNat_natCast, u8made] at this
    exact this
  have HL := Lib.hid live_any
  have Hcode := Lib.hid code_any
  obtain ⟨r, hr⟩ : ∃ r, n % 20 = r := ⟨_, rfl⟩
  have hr20 : r < 20 := by rw [← hr]; exact Nat.mod_lt _ (by omega)
  have w1 : (n : Int) % 20 = (r : Int) := by omega
  have w1b : (n : Int).tmod 20 = (r : Int) := by rw [Int.tmod_eq_emod_of_nonneg (by omega)]; exact w1
  have w0 : IntKind.i64.wrap (n : Int) = (n : Int) := IntWalk.i64_in _ ⟨by omega, by omega⟩
  obtain ⟨k, hk⟩ : ∃ k, k = 65530 + r := ⟨_, rfl⟩
  have w2 : 65530 + (r : Int) = (k : Int) := by omega
  have hk1 : 65530 ≤ k := by omega
  have hk2 : k ≤ 65549 := by omega
  obtain ⟨A1, hA1⟩ : ∃ A, u8s (List.replicate k 0) = A := ⟨_, rfl⟩
  obtain ⟨A2, hA2⟩ : ∃ A, u8s (List.replicate 1048577 0) = A := ⟨_, rfl⟩
  have hma := hm1 k (by omega)
  have hmb : ∀ W, (Instr.makeSlice 22 (.int .i64 1048577) (.int .i64 1048577)).run Try.prog W = .ok (.slice (some ⟨W.heap.size, 0, none⟩) 1048577 1048577) (W.alloc (.cells A2.toArray 5)) := fun W => by
    have := hm1 1048577 (by omega) W
    rw [hA2] at this
    exact this
  have HD : Hid (∀ (W : World), Calls Try.prog 10 #[.slice (some ⟨W.heap.size, 0, none⟩) k k, .bool true] (W.alloc (.cells A1.toArray 5)) (DataPostS (W.alloc (.cells A1.toArray 5)) (storedE 17 (List.replicate k 0)))) := fun W => by
    have hN : Nums .u8 (W.alloc (.cells A1.toArray 5)) (W.alloc (.cells A1.toArray 5)).heap.size (some ⟨W.heap.size, 0, none⟩) (List.replicate k 0) := by
      rw [← hA1]; exact Nums.of_block (heap_alloc_new W _)
    have := data_stored (some ⟨W.heap.size, 0, none⟩) k (List.replicate k 0) _ (by rw [List.length_replicate]; omega) (by rw [List.length_replicate]; omega) (by unfold maxLen; omega) (fun x hx => by rw [List.eq_of_mem_replicate hx]; omega) hN
    rw [List.length_replicate] at this
    exact this
  have HD2 := Lib.hid fun (W : World) (a : Option Addr) => data_long a 1048577 1048577 true W (by omega) (by omega)
  rw [hA1] at hma
  clear hm1 hmk hr hA1 hA2 hi1 hy0 hy1 hy2
  have Hk := Lib.hid hk
  clear hk
  by_cases hbig : 65535 < k
  · have d1 : decide (65535 < (k : Int)) = true := decide_eq_true (by omega)
    obtain ⟨T, hT, t1, t2, t3, t4, t5, t6⟩ := stored_two hbig (by omega)
    rw [hT] at HD
    have HT1 := Lib.hid t1
    have HT2 := Lib.hid t2
    have HT3 := Lib.hid t3
    have HT4 := Lib.hid t4
    have HT5 := Lib.hid t5
    have HT6 := Lib.hid t6
    clear hT t1 t2 t3 t4 t5 t6
    go_enter Try.func7, Try.ntmps7
    go_wp2_with fail
    refine (HD.out w).mono ?_
    rintro e X1 ⟨a, c', rfl, hN1, hB1⟩
    have HB1 : Hid (Below w.heap.size w X1) := ((Below.refl _ _).alloc (Nat.le_refl _) _).trans (hB1.mono (by simp))
    obtain ⟨b, off, rfl, hb0, x0⟩ := hN1.byte (i := 0) (by rw [HT1.out]; omega)
    have x0 : X1.cell? ⟨b, off, none⟩ = _ := x0
    have x1 := hN1.at_ (i := 1) (by rw [HT1.out]; omega)
    have x2 := hN1.at_ (i := 2) (by rw [HT1.out]; omega)
    have x3 := hN1.at_ (i := 65540) (by rw [HT1.out]; omega)
    have x4 := hN1.at_ (i := 65541) (by rw [HT1.out]; omega)
    rw [HT2.out] at x0
    rw [HT3.out] at x1
    rw [HT4.out] at x2
    rw [HT5.out] at x3
    obtain ⟨q1, hq1⟩ : ∃ q, k - 65535 = q := ⟨_, rfl⟩
    rw [HT6.out, hq1] at x4
    have hq1i : (k : Int) - 65535 = (q1 : Int) := by omega
    have hq14 : q1 ≤ 14 := by omega
    obtain ⟨K5, hK5⟩ : ∃ q, q = k + 10 := ⟨_, rfl⟩
    rw [HT1.out, ← hK5]
    have hbX : b < X1.heap.size := hb0
    have hbX2 : b ≠ X1.heap.size := by omega
    have w3 : (k : Int) + 10 = (K5 : Int) := by omega
    have hK52 : K5 ≤ 65559 := by omega
    have hK53 : 65546 ≤ K5 := by omega
    clear hN1 hB1 hK5 hb0 HD hma hq1
    go_wp2_with fail
    refine (HD2.out _ _).mono ?_
    rintro e Y ⟨rfl, rfl⟩
    go_wp2_with fail
    refine (Hcode.out _ _).mono ?_
    rintro e Y ⟨rfl, rfl⟩
    go_wp2_with fail
    refine (Hcode.out _ _).mono ?_
    rintro e Y ⟨rfl, rfl⟩
    go_wp2_with fail
    refine (HL.out _).mono ?_
    rintro e Y ⟨rfl, hB⟩
    have HY : Hid (Below w.heap.size w Y) := (HB1.out.alloc HB1.out.size _).trans (hB.mono (by have := HB1.out.size; simp; omega))
    clear hB
    go_wp2_with fail
    go_ret
    exact ⟨rfl, HY.out⟩
  · have d1 : decide (65535 < (k : Int)) = false := decide_eq_false (by omega)
    obtain ⟨T, hT, t1, t2, t3, t4⟩ := stored_one (k := k) (by omega)
    rw [hT] at HD
    have HT1 := Lib.hid t1
    have HT2 := Lib.hid t2
    have HT3 := Lib.hid t3
    have HT4 := Lib.hid t4
    clear hT t1 t2 t3 t4
    go_enter Try.func7, Try.ntmps7
    go_wp2_with fail
    refine (HD.out w).mono ?_
    rintro e X1 ⟨a, c', rfl, hN1, hB1⟩
    have HB1 : Hid (Below w.heap.size w X1) := ((Below.refl _ _).alloc (Nat.le_refl _) _).trans (hB1.mono (by simp))
    obtain ⟨b, off, rfl, hb0, x0⟩ := hN1.byte (i := 0) (by rw [HT1.out]; omega)
    have x0 : X1.cell? ⟨b, off, none⟩ = _ := x0
    have x1 := hN1.at_ (i := 1) (by rw [HT1.out]; omega)
    have x2 := hN1.at_ (i := 2) (by rw [HT1.out]; omega)
    rw [HT2.out] at x0
    rw [HT3.out] at x1
    rw [HT4.out] at x2
    obtain ⟨q1, hq1⟩ : ∃ q, k % 256 = q := ⟨_, rfl⟩
    obtain ⟨q2, hq2⟩ : ∃ q, k / 256 = q := ⟨_, rfl⟩
    rw [hq1] at x1
    rw [hq2] at x2
    obtain ⟨K5, hK5⟩ : ∃ q, q = k + 5 := ⟨_, rfl⟩
    rw [HT1.out, ← hK5]
    have hbX : b < X1.heap.size := hb0
    have hbX2 : b ≠ X1.heap.size := by omega
    have w3 : (k : Int) + 5 = (K5 : Int) := by omega
    have hK52 : K5 ≤ 65540 := by omega
    have hK53 : 65535 ≤ K5 := by omega
    clear hN1 hB1 hK5 hb0 HD hma
    go_wp2_with fail
    refine (HD2.out _ _).mono ?_
    rintro e Y ⟨rfl, rfl⟩
    go_wp2_with fail
    refine (Hcode.out _ _).mono ?_
    rintro e Y ⟨rfl, rfl⟩
    go_wp2_with fail
    refine (Hcode.out _ _).mono ?_
    rintro e Y ⟨rfl, rfl⟩
    go_wp2_with fail
    refine (HL.out _).mono ?_
    rintro e Y ⟨rfl, hB⟩
    have HY : Hid (Below w.heap.size w Y) := (HB1.out.alloc HB1.out.size _).trans (hB.mono (by have := HB1.out.size; simp; omega))
    clear hB
    go_wp2_with fail
    go_ret
    exact ⟨rfl, HY.out⟩
end Go.Proofs.Ytmheafadahdbfaa
