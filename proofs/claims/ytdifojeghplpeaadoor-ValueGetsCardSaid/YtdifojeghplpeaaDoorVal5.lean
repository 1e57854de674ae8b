/- Walks over layer 8: the reference's Order. -/
import Derived.Test.YtdifojeghplpeaaDoorVal4
namespace Go.Proofs.YtdifojeghplpeaaDoor
open Go.RowKit
set_option linter.unusedVariables false
set_option maxRecDepth 100000

theorem cmpI_self (a : Int) : cmpI a a = 0 := by unfold cmpI; rw [if_neg (by omega), if_neg (by omega)]
theorem or3_one (a : Int) : or3 a 0 0 = a := by unfold or3; split <;> omega
theorem cmpS_self (s : ByteArray) : cmpS s s = 0 := cb_self _
theorem or3_mid (a : Int) : or3 0 a 0 = a := by unfold or3; rw [if_neg (by omega)]; split <;> omega
theorem or3_last (a : Int) : or3 0 0 a = a := by unfold or3; rw [if_neg (by omega), if_neg (by omega)]
theorem cmpI_ways (a b : Int) : cmpI a b = -1 ∧ a < b ∨ cmpI a b = 0 ∧ a = b ∨ cmpI a b = 1 ∧ b < a := by
  unfold cmpI
  rcases Int.lt_trichotomy a b with h | h | h
  · exact .inl ⟨if_pos h, h⟩
  · exact .inr (.inl ⟨by rw [if_neg (by omega), if_neg (by omega)], h⟩)
  · exact .inr (.inr ⟨by rw [if_neg (by omega), if_pos h], h⟩)
theorem ord_lt {u v : V3} (h : u.1 < v.1) : ord u v = -1 := by
  unfold ord
  have e1 : (plain u).1 = u.1 := by unfold plain; split <;> rfl
  have e2 : (plain v).1 = v.1 := by unfold plain; split <;> rfl
  rw [e1, e2]
  unfold or3 cmpI
  rw [if_pos h, if_pos (by omega)]
theorem ord_gt {u v : V3} (h : v.1 < u.1) : ord u v = 1 := by
  unfold ord
  have e1 : (plain u).1 = u.1 := by unfold plain; split <;> rfl
  have e2 : (plain v).1 = v.1 := by unfold plain; split <;> rfl
  rw [e1, e2]
  unfold or3 cmpI
  rw [if_neg (show ¬ u.1 < v.1 by omega), if_pos h, if_pos (by omega)]
theorem ord_text (s t : ByteArray) (a b : Nat) : ord (1, s, a) (1, t, b) = cmpS s t := by
  unfold ord plain
  simp only [if_true]
  rw [cmpI_self, cmpI_self, or3_mid]
theorem ord_bits (k : Int) (hk : ¬ k = 1) (s t : ByteArray) (a b : Nat) : ord (k, s, a) (k, t, b) = cmpI (a : Int) (b : Int) := by
  unfold ord plain
  simp only [if_neg hk]
  rw [cmpI_self, cmpS_self, or3_last]
theorem sameV_ord {u v : V3} (h : sameV u v = true) : ord u v = 0 := by
  unfold sameV at h
  simp only [Bool.and_eq_true, beq_iff_eq] at h
  unfold ord
  have e2 : (plain u).2.1 = (plain v).2.1 := by
    have := h.1.2
    rw [ByteArray.toList_eq, ByteArray.toList_eq] at this
    exact Go.WideShapes.bytes_inj this
  rw [h.1.1, e2, h.2, cmpI_self, cmpI_self, cmpS_self]
  rfl
theorem sameV_text {s t : ByteArray} {a b : Nat} (h : sameV (1, s, a) (1, t, b) = false) : cmpS s t ≠ 0 := fun e => by
  have e2 : s = t := Go.WideShapes.bytes_inj (cb_zero _ _ e)
  unfold sameV plain at h
  simp [e2] at h
theorem sameV_bits {k : Int} (hk : ¬ k = 1) {s t : ByteArray} {a b : Nat} (h : sameV (k, s, a) (k, t, b) = false) : a ≠ b := fun e => by
  unfold sameV plain at h
  simp [hk, e] at h
theorem cmpS_ways (s t : ByteArray) : cmpS s t = -1 ∨ cmpS s t = 0 ∨ cmpS s t = 1 := cb_ways _ _
set_option maxHeartbeats 8000000 in
theorem rorder_any (u v : V3) (w : World) (hu : u.2.1.size ≤ 9223372036854775807) (hv : v.2.1.size ≤ 9223372036854775807) : Calls Tryd.prog 21 #[vv u, vv v] w fun e w' => e = .returned (.int .i64 (ord u v)) ∧ Below w.heap.size w w' := by
  have HS := Lib.hid fun W => rsame_any u v W
  have HL := Lib.hid fun W => less_any u.2.1 v.2.1 W hu hv
  unfold vv at HS ⊢
  obtain ⟨u1, u2, u3⟩ := u
  obtain ⟨v1, v2, v3⟩ := v
  simp only at HS HL hu hv ⊢
  cases hs : sameV (u1, u2, u3) (v1, v2, v3)
  · rw [hs] at HS
    rcases Int.lt_trichotomy u1 v1 with h | h | h
    · rw [ord_lt (show ((u1, u2, u3) : V3).1 < ((v1, v2, v3) : V3).1 from h)]
      clear hs HL hu hv
      go_enter Tryd.func21, Tryd.ntmps21
      go_upto_region 1 with (fail)
      obtain ⟨bu, hbu0⟩ : ∃ z, z = w.heap.size := ⟨_, rfl⟩
      obtain ⟨bv, hbv0⟩ : ∃ z, z = w.heap.size + 1 := ⟨_, rfl⟩
      obtain ⟨X, hX⟩ : ∃ z, z = (w.alloc (.cells #[.int .i64 u1, .string u2, .int .u64 (u3 : Int)] 24)).alloc (.cells #[.int .i64 v1, .string v2, .int .u64 (v3 : Int)] 24) := ⟨_, rfl⟩
      obtain ⟨hWu, hWv, hB⟩ := two_boxes w X _ _ hX
      rw [← hbu0] at hWu
      rw [← hbv0] at hWv
      have x0 : X.cell? ⟨bu, 0, none⟩ = some (.int .i64 u1) := hWu.cell 0
      have x1 : X.cell? ⟨bu, 1, none⟩ = some (.string u2) := hWu.cell 1
      have x2 : X.cell? ⟨bu, 2, none⟩ = some (.int .u64 (u3 : Int)) := hWu.cell 2
      have y0 : X.cell? ⟨bv, 0, none⟩ = some (.int .i64 v1) := hWv.cell 0
      have y1 : X.cell? ⟨bv, 1, none⟩ = some (.string v2) := hWv.cell 1
      have y2 : X.cell? ⟨bv, 2, none⟩ = some (.int .u64 (v3 : Int)) := hWv.cell 2
      have HB := Lib.hid hB
      have HWu := Lib.hid hWu
      have HWv := Lib.hid hWv
      rw [← hX, ← hbv0, ← hbu0]
      clear hX hbu0 hbv0 hWu hWv hB
      go_wp2_with fail
      refine (HS.out X).mono ?_
      rintro e Y ⟨rfl, hXY⟩
      have x0 : Y.cell? ⟨bu, 0, none⟩ = some (.int .i64 u1) := (HWu.out.below hXY HWu.out.lt).cell 0
      have x1 : Y.cell? ⟨bu, 1, none⟩ = some (.string u2) := (HWu.out.below hXY HWu.out.lt).cell 1
      have x2 : Y.cell? ⟨bu, 2, none⟩ = some (.int .u64 (u3 : Int)) := (HWu.out.below hXY HWu.out.lt).cell 2
      have y0 : Y.cell? ⟨bv, 0, none⟩ = some (.int .i64 v1) := (HWv.out.below hXY HWv.out.lt).cell 0
      have y1 : Y.cell? ⟨bv, 1, none⟩ = some (.string v2) := (HWv.out.below hXY HWv.out.lt).cell 1
      have y2 : Y.cell? ⟨bv, 2, none⟩ = some (.int .u64 (v3 : Int)) := (HWv.out.below hXY HWv.out.lt).cell 2
      have hbuY : bu < Y.heap.size := (HWu.out.below hXY HWu.out.lt).lt
      have HY := Lib.hid (HB.out.trans (hXY.mono HB.out.size))
      clear hXY HB HWu HWv HS
      go_wp2_with fail
      go_ret
      exact ⟨rfl, HY.out⟩
    · subst h
      by_cases hk : u1 = 1
      · subst hk
        rw [ord_text]
        have hnz := sameV_text hs
        rcases cmpS_ways u2 v2 with hc | hc | hc
        · have hl : lessB u2 v2 = true := by unfold lessB; rw [hc]; rfl
          rw [hc]
          rw [hl] at HL
          clear hs hnz hc hl hu hv
          go_enter Tryd.func21, Tryd.ntmps21
          go_upto_region 1 with (fail)
          obtain ⟨bu, hbu0⟩ : ∃ z, z = w.heap.size := ⟨_, rfl⟩
          obtain ⟨bv, hbv0⟩ : ∃ z, z = w.heap.size + 1 := ⟨_, rfl⟩
          obtain ⟨X, hX⟩ : ∃ z, z = (w.alloc (.cells #[.int .i64 1, .string u2, .int .u64 (u3 : Int)] 24)).alloc (.cells #[.int .i64 1, .string v2, .int .u64 (v3 : Int)] 24) := ⟨_, rfl⟩
          obtain ⟨hWu, hWv, hB⟩ := two_boxes w X _ _ hX
          rw [← hbu0] at hWu
          rw [← hbv0] at hWv
          have x0 : X.cell? ⟨bu, 0, none⟩ = some (.int .i64 1) := hWu.cell 0
          have x1 : X.cell? ⟨bu, 1, none⟩ = some (.string u2) := hWu.cell 1
          have x2 : X.cell? ⟨bu, 2, none⟩ = some (.int .u64 (u3 : Int)) := hWu.cell 2
          have y0 : X.cell? ⟨bv, 0, none⟩ = some (.int .i64 1) := hWv.cell 0
          have y1 : X.cell? ⟨bv, 1, none⟩ = some (.string v2) := hWv.cell 1
          have y2 : X.cell? ⟨bv, 2, none⟩ = some (.int .u64 (v3 : Int)) := hWv.cell 2
          have HB := Lib.hid hB
          have HWu := Lib.hid hWu
          have HWv := Lib.hid hWv
          rw [← hX, ← hbv0, ← hbu0]
          clear hX hbu0 hbv0 hWu hWv hB
          go_wp2_with fail
          refine (HS.out X).mono ?_
          rintro e Y ⟨rfl, hXY⟩
          have x0 : Y.cell? ⟨bu, 0, none⟩ = some (.int .i64 1) := (HWu.out.below hXY HWu.out.lt).cell 0
          have x1 : Y.cell? ⟨bu, 1, none⟩ = some (.string u2) := (HWu.out.below hXY HWu.out.lt).cell 1
          have x2 : Y.cell? ⟨bu, 2, none⟩ = some (.int .u64 (u3 : Int)) := (HWu.out.below hXY HWu.out.lt).cell 2
          have y0 : Y.cell? ⟨bv, 0, none⟩ = some (.int .i64 1) := (HWv.out.below hXY HWv.out.lt).cell 0
          have y1 : Y.cell? ⟨bv, 1, none⟩ = some (.string v2) := (HWv.out.below hXY HWv.out.lt).cell 1
          have y2 : Y.cell? ⟨bv, 2, none⟩ = some (.int .u64 (v3 : Int)) := (HWv.out.below hXY HWv.out.lt).cell 2
          have hbuY : bu < Y.heap.size := (HWu.out.below hXY HWu.out.lt).lt
          have HY := Lib.hid (HB.out.trans (hXY.mono HB.out.size))
          clear hXY HB HWu HWv HS
          go_wp2_with fail
          refine (HL.out _).mono ?_
          rintro e Z ⟨rfl, hZ⟩
          have HZ := Lib.hid (HY.out.trans (hZ.mono HY.out.size))
          have x0 : Z.cell? ⟨bu, 0, none⟩ = some (.int .i64 1) := (hZ.cell (p := ⟨bu, 0, none⟩) hbuY).trans x0
          clear hZ
          go_wp2_with fail
          go_ret
          exact ⟨rfl, HZ.out⟩
        · exact absurd hc hnz
        · have hl : lessB u2 v2 = false := by unfold lessB; rw [hc]; rfl
          rw [hc]
          rw [hl] at HL
          clear hs hnz hc hl hu hv
          go_enter Tryd.func21, Tryd.ntmps21
          go_upto_region 1 with (fail)
          obtain ⟨bu, hbu0⟩ : ∃ z, z = w.heap.size := ⟨_, rfl⟩
          obtain ⟨bv, hbv0⟩ : ∃ z, z = w.heap.size + 1 := ⟨_, rfl⟩
          obtain ⟨X, hX⟩ : ∃ z, z = (w.alloc (.cells #[.int .i64 1, .string u2, .int .u64 (u3 : Int)] 24)).alloc (.cells #[.int .i64 1, .string v2, .int .u64 (v3 : Int)] 24) := ⟨_, rfl⟩
          obtain ⟨hWu, hWv, hB⟩ := two_boxes w X _ _ hX
          rw [← hbu0] at hWu
          rw [← hbv0] at hWv
          have x0 : X.cell? ⟨bu, 0, none⟩ = some (.int .i64 1) := hWu.cell 0
          have x1 : X.cell? ⟨bu, 1, none⟩ = some (.string u2) := hWu.cell 1
          have x2 : X.cell? ⟨bu, 2, none⟩ = some (.int .u64 (u3 : Int)) := hWu.cell 2
          have y0 : X.cell? ⟨bv, 0, none⟩ = some (.int .i64 1) := hWv.cell 0
          have y1 : X.cell? ⟨bv, 1, none⟩ = some (.string v2) := hWv.cell 1
          have y2 : X.cell? ⟨bv, 2, none⟩ = some (.int .u64 (v3 : Int)) := hWv.cell 2
          have HB := Lib.hid hB
          have HWu := Lib.hid hWu
          have HWv := Lib.hid hWv
          rw [← hX, ← hbv0, ← hbu0]
          clear hX hbu0 hbv0 hWu hWv hB
          go_wp2_with fail
          refine (HS.out X).mono ?_
          rintro e Y ⟨rfl, hXY⟩
          have x0 : Y.cell? ⟨bu, 0, none⟩ = some (.int .i64 1) := (HWu.out.below hXY HWu.out.lt).cell 0
          have x1 : Y.cell? ⟨bu, 1, none⟩ = some (.string u2) := (HWu.out.below hXY HWu.out.lt).cell 1
          have x2 : Y.cell? ⟨bu, 2, none⟩ = some (.int .u64 (u3 : Int)) := (HWu.out.below hXY HWu.out.lt).cell 2
          have y0 : Y.cell? ⟨bv, 0, none⟩ = some (.int .i64 1) := (HWv.out.below hXY HWv.out.lt).cell 0
          have y1 : Y.cell? ⟨bv, 1, none⟩ = some (.string v2) := (HWv.out.below hXY HWv.out.lt).cell 1
          have y2 : Y.cell? ⟨bv, 2, none⟩ = some (.int .u64 (v3 : Int)) := (HWv.out.below hXY HWv.out.lt).cell 2
          have hbuY : bu < Y.heap.size := (HWu.out.below hXY HWu.out.lt).lt
          have HY := Lib.hid (HB.out.trans (hXY.mono HB.out.size))
          clear hXY HB HWu HWv HS
          go_wp2_with fail
          refine (HL.out _).mono ?_
          rintro e Z ⟨rfl, hZ⟩
          have HZ := Lib.hid (HY.out.trans (hZ.mono HY.out.size))
          have x0 : Z.cell? ⟨bu, 0, none⟩ = some (.int .i64 1) := (hZ.cell (p := ⟨bu, 0, none⟩) hbuY).trans x0
          clear hZ
          go_wp2_with fail
          go_ret
          exact ⟨rfl, HZ.out⟩
      · rw [ord_bits u1 hk]
        have hnz := sameV_bits hk hs
        have hk2 : (u1 == 1) = false := by simpa using hk
        rcases cmpI_ways (u3 : Int) (v3 : Int) with ⟨hc, h⟩ | ⟨hc, h⟩ | ⟨hc, h⟩
        · rw [hc]
          have h9 : decide (u3 < v3) = true := decide_eq_true (by omega)
          clear hs hnz hc HL hu hv
          go_enter Tryd.func21, Tryd.ntmps21
          go_upto_region 1 with (fail)
          obtain ⟨bu, hbu0⟩ : ∃ z, z = w.heap.size := ⟨_, rfl⟩
          obtain ⟨bv, hbv0⟩ : ∃ z, z = w.heap.size + 1 := ⟨_, rfl⟩
          obtain ⟨X, hX⟩ : ∃ z, z = (w.alloc (.cells #[.int .i64 u1, .string u2, .int .u64 (u3 : Int)] 24)).alloc (.cells #[.int .i64 u1, .string v2, .int .u64 (v3 : Int)] 24) := ⟨_, rfl⟩
          obtain ⟨hWu, hWv, hB⟩ := two_boxes w X _ _ hX
          rw [← hbu0] at hWu
          rw [← hbv0] at hWv
          have x0 : X.cell? ⟨bu, 0, none⟩ = some (.int .i64 u1) := hWu.cell 0
          have x1 : X.cell? ⟨bu, 1, none⟩ = some (.string u2) := hWu.cell 1
          have x2 : X.cell? ⟨bu, 2, none⟩ = some (.int .u64 (u3 : Int)) := hWu.cell 2
          have y0 : X.cell? ⟨bv, 0, none⟩ = some (.int .i64 u1) := hWv.cell 0
          have y1 : X.cell? ⟨bv, 1, none⟩ = some (.string v2) := hWv.cell 1
          have y2 : X.cell? ⟨bv, 2, none⟩ = some (.int .u64 (v3 : Int)) := hWv.cell 2
          have HB := Lib.hid hB
          have HWu := Lib.hid hWu
          have HWv := Lib.hid hWv
          rw [← hX, ← hbv0, ← hbu0]
          clear hX hbu0 hbv0 hWu hWv hB
          go_wp2_with fail
          refine (HS.out X).mono ?_
          rintro e Y ⟨rfl, hXY⟩
          have x0 : Y.cell? ⟨bu, 0, none⟩ = some (.int .i64 u1) := (HWu.out.below hXY HWu.out.lt).cell 0
          have x1 : Y.cell? ⟨bu, 1, none⟩ = some (.string u2) := (HWu.out.below hXY HWu.out.lt).cell 1
          have x2 : Y.cell? ⟨bu, 2, none⟩ = some (.int .u64 (u3 : Int)) := (HWu.out.below hXY HWu.out.lt).cell 2
          have y0 : Y.cell? ⟨bv, 0, none⟩ = some (.int .i64 u1) := (HWv.out.below hXY HWv.out.lt).cell 0
          have y1 : Y.cell? ⟨bv, 1, none⟩ = some (.string v2) := (HWv.out.below hXY HWv.out.lt).cell 1
          have y2 : Y.cell? ⟨bv, 2, none⟩ = some (.int .u64 (v3 : Int)) := (HWv.out.below hXY HWv.out.lt).cell 2
          have hbuY : bu < Y.heap.size := (HWu.out.below hXY HWu.out.lt).lt
          have HY := Lib.hid (HB.out.trans (hXY.mono HB.out.size))
          clear hXY HB HWu HWv HS
          go_wp2_with fail
          go_ret
          exact ⟨rfl, HY.out⟩
        · omega
        · rw [hc]
          have h8 : decide ((u3 : Int) < (v3 : Int)) = false := decide_eq_false (by omega)
          have h9 : decide (u3 < v3) = false := decide_eq_false (by omega)
          clear hs hnz hc HL hu hv
          go_enter Tryd.func21, Tryd.ntmps21
          go_upto_region 1 with (fail)
          obtain ⟨bu, hbu0⟩ : ∃ z, z = w.heap.size := ⟨_, rfl⟩
          obtain ⟨bv, hbv0⟩ : ∃ z, z = w.heap.size + 1 := ⟨_, rfl⟩
          obtain ⟨X, hX⟩ : ∃ z, z = (w.alloc (.cells #[.int .i64 u1, .string u2, .int .u64 (u3 : Int)] 24)).alloc (.cells #[.int .i64 u1, .string v2, .int .u64 (v3 : Int)] 24) := ⟨_, rfl⟩
          obtain ⟨hWu, hWv, hB⟩ := two_boxes w X _ _ hX
          rw [← hbu0] at hWu
          rw [← hbv0] at hWv
          have x0 : X.cell? ⟨bu, 0, none⟩ = some (.int .i64 u1) := hWu.cell 0
          have x1 : X.cell? ⟨bu, 1, none⟩ = some (.string u2) := hWu.cell 1
          have x2 : X.cell? ⟨bu, 2, none⟩ = some (.int .u64 (u3 : Int)) := hWu.cell 2
          have y0 : X.cell? ⟨bv, 0, none⟩ = some (.int .i64 u1) := hWv.cell 0
          have y1 : X.cell? ⟨bv, 1, none⟩ = some (.string v2) := hWv.cell 1
          have y2 : X.cell? ⟨bv, 2, none⟩ = some (.int .u64 (v3 : Int)) := hWv.cell 2
          have HB := Lib.hid hB
          have HWu := Lib.hid hWu
          have HWv := Lib.hid hWv
          rw [← hX, ← hbv0, ← hbu0]
          clear hX hbu0 hbv0 hWu hWv hB
          go_wp2_with fail
          refine (HS.out X).mono ?_
          rintro e Y ⟨rfl, hXY⟩
          have x0 : Y.cell? ⟨bu, 0, none⟩ = some (.int .i64 u1) := (HWu.out.below hXY HWu.out.lt).cell 0
          have x1 : Y.cell? ⟨bu, 1, none⟩ = some (.string u2) := (HWu.out.below hXY HWu.out.lt).cell 1
          have x2 : Y.cell? ⟨bu, 2, none⟩ = some (.int .u64 (u3 : Int)) := (HWu.out.below hXY HWu.out.lt).cell 2
          have y0 : Y.cell? ⟨bv, 0, none⟩ = some (.int .i64 u1) := (HWv.out.below hXY HWv.out.lt).cell 0
          have y1 : Y.cell? ⟨bv, 1, none⟩ = some (.string v2) := (HWv.out.below hXY HWv.out.lt).cell 1
          have y2 : Y.cell? ⟨bv, 2, none⟩ = some (.int .u64 (v3 : Int)) := (HWv.out.below hXY HWv.out.lt).cell 2
          have hbuY : bu < Y.heap.size := (HWu.out.below hXY HWu.out.lt).lt
          have HY := Lib.hid (HB.out.trans (hXY.mono HB.out.size))
          clear hXY HB HWu HWv HS
          go_wp2_with fail
          go_ret
          exact ⟨rfl, HY.out⟩
    · rw [ord_gt (show ((v1, v2, v3) : V3).1 < ((u1, u2, u3) : V3).1 from h)]
      have h8 : decide (u1 < v1) = false := decide_eq_false (by omega)
      have h7 : (u1 == v1) = false := by simp; omega
      have h6 : ¬ u1 = v1 := by omega
      clear hs HL hu hv
      go_enter Tryd.func21, Tryd.ntmps21
      go_upto_region 1 with (fail)
      obtain ⟨bu, hbu0⟩ : ∃ z, z = w.heap.size := ⟨_, rfl⟩
      obtain ⟨bv, hbv0⟩ : ∃ z, z = w.heap.size + 1 := ⟨_, rfl⟩
      obtain ⟨X, hX⟩ : ∃ z, z = (w.alloc (.cells #[.int .i64 u1, .string u2, .int .u64 (u3 : Int)] 24)).alloc (.cells #[.int .i64 v1, .string v2, .int .u64 (v3 : Int)] 24) := ⟨_, rfl⟩
      obtain ⟨hWu, hWv, hB⟩ := two_boxes w X _ _ hX
      rw [← hbu0] at hWu
      rw [← hbv0] at hWv
      have x0 : X.cell? ⟨bu, 0, none⟩ = some (.int .i64 u1) := hWu.cell 0
      have x1 : X.cell? ⟨bu, 1, none⟩ = some (.string u2) := hWu.cell 1
      have x2 : X.cell? ⟨bu, 2, none⟩ = some (.int .u64 (u3 : Int)) := hWu.cell 2
      have y0 : X.cell? ⟨bv, 0, none⟩ = some (.int .i64 v1) := hWv.cell 0
      have y1 : X.cell? ⟨bv, 1, none⟩ = some (.string v2) := hWv.cell 1
      have y2 : X.cell? ⟨bv, 2, none⟩ = some (.int .u64 (v3 : Int)) := hWv.cell 2
      have HB := Lib.hid hB
      have HWu := Lib.hid hWu
      have HWv := Lib.hid hWv
      rw [← hX, ← hbv0, ← hbu0]
      clear hX hbu0 hbv0 hWu hWv hB
      go_wp2_with fail
      refine (HS.out X).mono ?_
      rintro e Y ⟨rfl, hXY⟩
      have x0 : Y.cell? ⟨bu, 0, none⟩ = some (.int .i64 u1) := (HWu.out.below hXY HWu.out.lt).cell 0
      have x1 : Y.cell? ⟨bu, 1, none⟩ = some (.string u2) := (HWu.out.below hXY HWu.out.lt).cell 1
      have x2 : Y.cell? ⟨bu, 2, none⟩ = some (.int .u64 (u3 : Int)) := (HWu.out.below hXY HWu.out.lt).cell 2
      have y0 : Y.cell? ⟨bv, 0, none⟩ = some (.int .i64 v1) := (HWv.out.below hXY HWv.out.lt).cell 0
      have y1 : Y.cell? ⟨bv, 1, none⟩ = some (.string v2) := (HWv.out.below hXY HWv.out.lt).cell 1
      have y2 : Y.cell? ⟨bv, 2, none⟩ = some (.int .u64 (v3 : Int)) := (HWv.out.below hXY HWv.out.lt).cell 2
      have hbuY : bu < Y.heap.size := (HWu.out.below hXY HWu.out.lt).lt
      have HY := Lib.hid (HB.out.trans (hXY.mono HB.out.size))
      clear hXY HB HWu HWv HS
      go_wp2_with fail
      go_ret
      exact ⟨rfl, HY.out⟩
  · rw [sameV_ord hs]
    rw [hs] at HS
    clear hs HL hu hv
    go_enter Tryd.func21, Tryd.ntmps21
    go_upto_region 1 with (fail)
    obtain ⟨bu, hbu0⟩ : ∃ z, z = w.heap.size := ⟨_, rfl⟩
    obtain ⟨bv, hbv0⟩ : ∃ z, z = w.heap.size + 1 := ⟨_, rfl⟩
    obtain ⟨X, hX⟩ : ∃ z, z = (w.alloc (.cells #[.int .i64 u1, .string u2, .int .u64 (u3 : Int)] 24)).alloc (.cells #[.int .i64 v1, .string v2, .int .u64 (v3 : Int)] 24) := ⟨_, rfl⟩
    obtain ⟨hWu, hWv, hB⟩ := two_boxes w X _ _ hX
    rw [← hbu0] at hWu
    rw [← hbv0] at hWv
    have x0 : X.cell? ⟨bu, 0, none⟩ = some (.int .i64 u1) := hWu.cell 0
    have x1 : X.cell? ⟨bu, 1, none⟩ = some (.string u2) := hWu.cell 1
    have x2 : X.cell? ⟨bu, 2, none⟩ = some (.int .u64 (u3 : Int)) := hWu.cell 2
    have y0 : X.cell? ⟨bv, 0, none⟩ = some (.int .i64 v1) := hWv.cell 0
    have y1 : X.cell? ⟨bv, 1, none⟩ = some (.string v2) := hWv.cell 1
    have y2 : X.cell? ⟨bv, 2, none⟩ = some (.int .u64 (v3 : Int)) := hWv.cell 2
    have HB := Lib.hid hB
    have HWu := Lib.hid hWu
    have HWv := Lib.hid hWv
    rw [← hX, ← hbv0, ← hbu0]
    clear hX hbu0 hbv0 hWu hWv hB
    go_wp2_with fail
    refine (HS.out X).mono ?_
    rintro e Y ⟨rfl, hXY⟩
    have x0 : Y.cell? ⟨bu, 0, none⟩ = some (.int .i64 u1) := (HWu.out.below hXY HWu.out.lt).cell 0
    have x1 : Y.cell? ⟨bu, 1, none⟩ = some (.string u2) := (HWu.out.below hXY HWu.out.lt).cell 1
    have x2 : Y.cell? ⟨bu, 2, none⟩ = some (.int .u64 (u3 : Int)) := (HWu.out.below hXY HWu.out.lt).cell 2
    have y0 : Y.cell? ⟨bv, 0, none⟩ = some (.int .i64 v1) := (HWv.out.below hXY HWv.out.lt).cell 0
    have y1 : Y.cell? ⟨bv, 1, none⟩ = some (.string v2) := (HWv.out.below hXY HWv.out.lt).cell 1
    have y2 : Y.cell? ⟨bv, 2, none⟩ = some (.int .u64 (v3 : Int)) := (HWv.out.below hXY HWv.out.lt).cell 2
    have hbuY : bu < Y.heap.size := (HWu.out.below hXY HWu.out.lt).lt
    have HY := Lib.hid (HB.out.trans (hXY.mono HB.out.size))
    clear hXY HB HWu HWv HS
    go_wp2_with fail
    go_ret
    exact ⟨rfl, HY.out⟩
end Go.Proofs.YtdifojeghplpeaaDoor
