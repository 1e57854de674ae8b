/- Layer 13: Head. -/
import Derived.Test.YtlbplefmpbpchaaArch7
namespace Go.Proofs.Ytlbplefmpbpchaa
open Go.RowKit
set_option linter.unusedVariables false
set_option maxRecDepth 100000

def magicL : List Nat := [80, 77, 84, 105, 108, 101, 115, 3]
/-- What Head says of the bytes l, which are not too many. -/
def headR (l : List Nat) : Hd × Int :=
  if l.length < 127 then (zHd, 2)
  else if l.take 8 ≠ magicL then (zHd, 3)
  else if 1 < byt (l.drop 8) 88 then (zHd, 3)
  else if rightD (hdOf (l.drop 8)) (l.length : Int) ≠ 0 then (zHd, rightD (hdOf (l.drop 8)) (l.length : Int))
  else (hdOf (l.drop 8), 0)
theorem magic_eq (m : List Nat) (hm : ∀ x ∈ m, x < 256) (c : List UInt8) : ((strOf m).toList == c) = decide (m = c.map UInt8.toNat) := by
  rw [Lib.toList_data]
  show (m.map UInt8.ofNat == c) = _
  by_cases h : m = c.map UInt8.toNat
  · rw [decide_eq_true h, h, List.map_map]
    have : c.map (UInt8.ofNat ∘ UInt8.toNat) = c := by
      conv => rhs; rw [← List.map_id c]
      exact List.map_congr_left fun x _ => by simp
    rw [this]
    exact beq_self_eq_true c
  · rw [decide_eq_false h]
    refine beq_eq_false_iff_ne.mpr fun e => h ?_
    rw [← e, List.map_map]
    conv => lhs; rw [← List.map_id m]
    exact List.map_congr_left fun x hx => by simp [Nat.mod_eq_of_lt (hm x hx)]
set_option maxHeartbeats 32000000 in
theorem head_any (A : Option Addr) (cap : Nat) (l : List Nat) (w : World) (hn : Nums .u8 w w.heap.size A l) (hl : ∀ x ∈ l, x < 256) (hcap : l.length ≤ cap) (hcm : cap ≤ maxLen) (hlen : l.length ≤ 4194304) :
    Calls Try.prog 5 #[.slice A l.length cap] w (fun e w' => e = .returned (.tuple #[hdV (headR l).1, .int .i64 (headR l).2]) ∧ Below w.heap.size w w') := by
  obtain ⟨H, hH⟩ : ∃ H, H = headR l := ⟨_, rfl⟩
  rw [← hH]
  have HH := Lib.hid hH
  clear hH
  obtain ⟨r, hr⟩ : ∃ r, r = w.heap.size := ⟨_, rfl⟩
  obtain ⟨X0, hX0⟩ : ∃ X, X = w.alloc (.cells zHd.cells 29) := ⟨_, rfl⟩
  have hR0 : Whole X0 r 29 zHd.cells := by rw [hX0, hr]; exact Whole.new w _ _
  have hB0 : Below w.heap.size w X0 := by rw [hX0]; exact (Below.refl _ _).alloc (Nat.le_refl _) _
  have hrs : Hid (X0.heap.size = r + 1) := by show _ = _; rw [hX0, hr]; simp
  have HX0 : Hid (w.alloc (.cells #[.int .u64 0, .int .u64 0, .int .u64 0, .int .u64 0, .int .u64 0, .int .u64 0, .int .u64 0, .int .u64 0, .int .u64 0, .int .u64 0, .int .u64 0, .bool false, .int .i64 0, .int .i64 0, .int .i64 0, .int .i64 0, .int .i64 0, .int .i64 0, .int .i64 0, .int .i64 0, .int .i64 0, .int .i64 0, .int .i64 0, .int .i64 0] 29) = X0) := hX0.symm
  have Hr := Lib.hid hr
  have HR0 := Lib.hid hR0
  have HB0 := Lib.hid hB0
  clear hX0 hr hR0 hB0
  obtain ⟨L, hL⟩ : ∃ L, L = l.length := ⟨_, rfl⟩
  rw [← hL] at hcap hlen ⊢
  have HL := Lib.hid hL
  have hN := Lib.hid hn
  have hl2 := Lib.hid hl
  clear hL hn hl
  have e0 : decide (4194304 < (L : Int)) = false := decide_eq_false (by omega)
  by_cases h127 : L < 127
  · have e1 : decide ((L : Int) < 127) = true := decide_eq_true (by omega)
    have hHv : Hid (H = (zHd, 2)) := by show _ = _; rw [HH.out]; unfold headR; rw [← HL.out, if_pos h127]
    obtain rfl := hHv.out
    go_enter Try.func5, Try.ntmps5
    go_upto_region 1 with (fail)
    rw [HX0.out, ← Hr.out]
    go_wp2_with (refine wpList_store_row rfl 29 (.tmp 2) (.tmp 17) rfl r zHd.cells rfl rfl 29 zHd.cells HR0.out hd_info rfl (hd_all _) ?_)
    exact bodyPost_ret (results_hd2 rfl _ _ r zHd _ rfl rfl (HR0.out.row _)) rfl ⟨rfl, below_setRow HB0.out (by rw [Hr.out]; exact Nat.le_refl _) _⟩
  · have e1 : decide ((L : Int) < 127) = false := decide_eq_false (by omega)
    obtain ⟨b, off, rfl, hb, hc⟩ := hN.out (by rw [← HL.out]; omega)
    have hcell : Hid (∀ i, i < l.length → X0.cell? ⟨b, off + i, none⟩ = some (.int .u8 ((l.getD i 0 : Nat) : Int))) := by
      intro i hi
      rw [HB0.out.cell (p := ⟨b, off + i, none⟩) hb]
      exact hc i hi
    have hbr : Hid (b < r) := by show _ < _; rw [Hr.out]; exact hb
    clear hc hb hN
    go_enter Try.func5, Try.ntmps5
    go_upto_region 5 with (fail)
    rw [HX0.out, ← Hr.out]
    have hnum8 : Nums .u8 X0 (b + 1) (some ⟨b, off, none⟩) (l.take 8) := fun _ => ⟨b, off, rfl, Nat.lt_succ_self _, fun i hi => by
      have hi8 : i < 8 ∧ i < l.length := by rw [List.length_take] at hi; omega
      rw [hcell.out i hi8.2]
      congr 3
      simp [List.getD, List.getElem?_take, hi8.1]⟩
    have h8 : (l.take 8).length = 8 := by rw [List.length_take, ← HL.out]; omega
    have hconv := str_of_nums (P := Try.prog) X0 (b + 1) 22 9 5 (some ⟨b, off, none⟩) cap (l.take 8) Try.underlying22 Try.underlying5 Try.underlying9 hnum8 (fun x hx => hl2.out x (List.mem_of_mem_take hx))
    rw [h8] at hconv
    obtain ⟨s, hs⟩ : ∃ s, s = strOf (l.take 8) := ⟨_, rfl⟩
    rw [← hs] at hconv
    have Hs := Lib.hid hs
    clear hs h8 hnum8
    have hq0 := magic_eq (l.take 8) (fun x hx => hl2.out x (List.mem_of_mem_take hx)) [80, 77, 84, 105, 108, 101, 115, 3]
    rw [← Hs.out] at hq0
    have hq : (s.toList == [80, 77, 84, 105, 108, 101, 115, 3]) = decide (l.take 8 = magicL) := hq0
    clear Hs hq0
    by_cases hM : l.take 8 = magicL
    · rw [decide_eq_true hM] at hq
      have hc8 : ¬ cap = 8 := by omega
      have h119 : 119 ≤ (l.drop 8).length := by rw [List.length_drop, ← HL.out]; omega
      go_upto_region 8 with (fail)
      obtain ⟨X1, hX1⟩ : ∃ X, X = X0.alloc (.cells #[.slice (some ⟨b, off + 8, none⟩) (L - 8) (cap - 8)] 43) := ⟨_, rfl⟩
      rw [← hX1, hrs.out]
      have hw1 : Whole X1 (r + 1) 43 #[.slice (some ⟨b, off + 8, none⟩) (L - 8) (cap - 8)] := by rw [hX1, ← hrs.out]; exact Whole.new X0 _ _
      have hR1 := Lib.hid (show Whole X1 r 29 zHd.cells by rw [hX1]; exact HR0.out.alloc _)
      have hB1 := Lib.hid (show Below w.heap.size w X1 by rw [hX1]; exact HB0.out.alloc (by rw [hrs.out, Hr.out]; omega) _)
      obtain ⟨g, hg⟩ : ∃ g, g = r + 1 := ⟨_, rfl⟩
      rw [← hg] at hw1 ⊢
      have e8 : L - 8 = (l.drop 8).length := by rw [List.length_drop, HL.out]
      have hRd : RdA X1 g b (off + 8) (cap - 8) (l.drop 8) := by
        refine ⟨by rw [← e8]; exact hw1, fun i hi => ?_, ?_, ?_, fun x hx => hl2.out x (List.mem_of_mem_drop hx), by rw [← e8]; omega, by rw [← e8]; omega, by omega⟩
        · rw [List.length_drop] at hi
          rw [getD_drop, hX1, show off + 8 + i = off + (8 + i) by omega, ← hcell.out (8 + i) (by omega)]
          exact World.cell?_of_block (w := X0) (Below.heap_alloc X0 _ b (by rw [hrs.out]; have := hbr.out; omega))
        · rw [hX1]; simp; have := hbr.out; have := hrs.out; omega
        · have := hbr.out; omega
      have HC := Lib.hid (header_any g b (off + 8) (cap - 8) (l.drop 8) X1 hRd h119)
      have hgr : Hid (g ≠ r ∧ w.heap.size ≤ g) := ⟨by omega, by have := Hr.out; omega⟩
      clear hRd e8 hw1 hX1 hg hconv hq hcell h119
      go_wp2_with fail
      refine HC.out.mono ?_
      rintro e Y ⟨rfl, ho⟩
      have hR2 := hR1.out.only ho (fun e => hgr.out.1 e.symm)
      have hB2 : Below w.heap.size w Y := hB1.out.trans (ho.below (fun k hk e => by have := hgr.out.2; omega) hB1.out.size)
      clear hR1 hB1 HC
      obtain ⟨h, hh⟩ : ∃ h, h = hdOf (l.drop 8) := ⟨_, rfl⟩
      obtain ⟨ok, hok⟩ : ∃ ok, decide ((byt (l.drop 8) 88 : Int) ≤ 1) = ok := ⟨_, rfl⟩
      rw [← hh, hok]
      have HR2 := Lib.hid hR2
      have HB2 := Lib.hid hB2
      have Hok := Lib.hid hok
      have Hh := Lib.hid hh
      clear hR2 hB2 ho hok hh
      unfold hdV
      have hNw := Lib.hid (heap_alloc_new Y (.cells zHd.cells 29))
      go_upto_region 9 with (refine wpList_store_row rfl 29 (.tmp 5) (.tmp 31) rfl Y.heap.size h.cells rfl rfl 29 zHd.cells hNw.out (hd_infoc _) rfl (hd_all _) ?_)
      obtain ⟨Z, hZ⟩ : ∃ Z, Z = (Y.alloc (.cells zHd.cells 29)).setRow Y.heap.size h.cells := ⟨_, rfl⟩
      obtain ⟨s5, hs5⟩ : ∃ s, s = Y.heap.size := ⟨_, rfl⟩
      have hW5 : Whole Z s5 29 h.cells := by rw [hZ, hs5]; exact Whole.row (heap_alloc_new Y _) _
      have hBZ : Below Y.heap.size Y Z := by rw [hZ]; exact below_setRow ((Below.refl _ _).alloc (Nat.le_refl _) _) (Nat.le_refl _) _
      have hRZ : Whole Z r 29 zHd.cells := HR2.out.below hBZ HR2.out.lt
      have hBw : Below w.heap.size w Z := keepBelow hBZ HB2.out
      have hZ2 : (Y.alloc (.cells #[.int .u64 0, .int .u64 0, .int .u64 0, .int .u64 0, .int .u64 0, .int .u64 0, .int .u64 0, .int .u64 0, .int .u64 0, .int .u64 0, .int .u64 0, .bool false, .int .i64 0, .int .i64 0, .int .i64 0, .int .i64 0, .int .i64 0, .int .i64 0, .int .i64 0, .int .i64 0, .int .i64 0, .int .i64 0, .int .i64 0, .int .i64 0] 29)).setRow Y.heap.size h.cells = Z := hZ.symm
      rw [hZ2, ← hs5]
      have H5 := Lib.hid hW5
      have HRZ := Lib.hid hRZ
      have HBw := Lib.hid hBw
      clear hZ hZ2 hs5 hW5 hBZ hRZ hBw HR2 HB2 hNw
      cases ok with
      | false =>
        have hHv : Hid (H = (zHd, 3)) := by
          show _ = _
          have := of_decide_eq_false Hok.out
          rw [HH.out]; unfold headR; rw [← HL.out, if_neg h127, if_neg (not_not_intro hM), if_pos (by omega)]
        obtain rfl := hHv.out
        go_wp2_with (refine wpList_store_row rfl 29 (.tmp 2) (.tmp 35) rfl r zHd.cells rfl rfl 29 zHd.cells HRZ.out hd_info rfl (hd_all _) ?_)
        exact bodyPost_ret (results_hd2 rfl _ _ r zHd _ rfl rfl (HRZ.out.row _)) rfl ⟨rfl, below_setRow HBw.out (by rw [Hr.out]; exact Nat.le_refl _) _⟩
      | true =>
        obtain ⟨e, he⟩ : ∃ e, e = rightD h (L : Int) := ⟨_, rfl⟩
        have HRt := Lib.hid (right_any h (L : Int) Z ⟨by omega, by omega⟩)
        unfold hdV at HRt
        rw [← he] at HRt
        have He := Lib.hid he
        clear he
        go_wp2_with (refine wpList_load_g 29 (.tmp 5) rfl (by rfl) s5 rfl 29 h.cells (0, 0) _ H5.out Try.underlying29 rfl (hd_infoc _) ?_)
        refine HRt.out.mono ?_
        rintro e' Y2 ⟨rfl, hb⟩
        have H6 := Lib.hid (H5.out.below hb H5.out.lt)
        have HR6 := Lib.hid (HRZ.out.below hb HRZ.out.lt)
        have HB6 := Lib.hid (keepBelow hb HBw.out)
        clear hb H5 HRZ HBw HRt
        have hHv : Hid (H = if e ≠ 0 then (zHd, e) else (h, 0)) := by
          show _ = _
          have := of_decide_eq_true Hok.out
          rw [HH.out, He.out, Hh.out, HL.out]; unfold headR; rw [← HL.out, if_neg h127, if_neg (not_not_intro hM), if_neg (by omega)]
        by_cases h0 : e = 0
        · subst h0
          have hHv2 : Hid (H = (h, 0)) := hHv
          obtain rfl := hHv2.out
          clear hHv hHv2
          go_wp2_with (first | (refine wpList_load_g 29 (.tmp 5) rfl (by rfl) s5 rfl 29 h.cells (0, 0) _ H6.out Try.underlying29 rfl (hd_infoc _) ?_) | (refine wpList_store_row rfl 29 (.tmp 2) (.tmp 44) rfl r h.cells rfl rfl 29 zHd.cells HR6.out (hd_infoc _) rfl (hd_all _) ?_))
          exact bodyPost_ret (results_hd2 rfl _ _ r h _ rfl rfl (HR6.out.row _)) rfl ⟨rfl, below_setRow HB6.out (by rw [Hr.out]; exact Nat.le_refl _) _⟩
        · have hHv2 : Hid (H = (zHd, e)) := by show _ = _; rw [hHv.out, if_pos h0]
          obtain rfl := hHv2.out
          have e9 : (e != 0) = true := bne_iff_ne.mpr h0
          clear hHv hHv2 h0
          go_wp2_with (first | (refine wpList_store_row rfl 29 (.tmp 2) (.tmp 42) rfl r zHd.cells rfl rfl 29 zHd.cells HR6.out hd_info rfl (hd_all _) ?_))
          exact bodyPost_ret (results_hd2 rfl _ _ r zHd _ rfl rfl (HR6.out.row _)) rfl ⟨rfl, below_setRow HB6.out (by rw [Hr.out]; exact Nat.le_refl _) _⟩
    · rw [decide_eq_false hM] at hq
      have hHv : Hid (H = (zHd, 3)) := by show _ = _; rw [HH.out]; unfold headR; rw [← HL.out, if_neg h127, if_pos hM]
      obtain rfl := hHv.out
      clear hM
      go_wp2_with (refine wpList_store_row rfl 29 (.tmp 2) (.tmp 23) rfl r zHd.cells rfl rfl 29 zHd.cells HR0.out hd_info rfl (hd_all _) ?_)
      exact bodyPost_ret (results_hd2 rfl _ _ r zHd _ rfl rfl (HR0.out.row _)) rfl ⟨rfl, below_setRow HB0.out (by rw [Hr.out]; exact Nat.le_refl _) _⟩
end Go.Proofs.Ytlbplefmpbpchaa
