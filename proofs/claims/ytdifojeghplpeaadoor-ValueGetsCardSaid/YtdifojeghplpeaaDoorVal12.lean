/- Layer 8: only. -/
import Derived.Test.YtdifojeghplpeaaDoorVal11
namespace Go.Proofs.YtdifojeghplpeaaDoor
open Go.RowKit Var
set_option linter.unusedVariables false
set_option maxRecDepth 100000

def kn (g : G) : Bool := decide (1 ≤ g.num ∧ g.num ≤ 7)
def knTo (l : List G) (k : Nat) : List G := (l.take k).filter kn
def lastG (l : List G) : G := l.getLast?.getD ⟨0, 0, 0, []⟩
theorem knTo_yes {l : List G} {k : Nat} (h : k < l.length) (hk : kn l[k] = true) : knTo l (k + 1) = knTo l k ++ [l[k]] := by
  unfold knTo
  rw [List.take_succ_eq_append_getElem h, List.filter_append]
  simp [hk]
theorem knTo_no {l : List G} {k : Nat} (h : k < l.length) (hk : kn l[k] = false) : knTo l (k + 1) = knTo l k := by
  unfold knTo
  rw [List.take_succ_eq_append_getElem h, List.filter_append]
  simp [hk]
theorem knTo_len (l : List G) (k : Nat) : (knTo l k).length ≤ k := by
  unfold knTo
  exact Nat.le_trans (List.length_filter_le _ _) (by simp; omega)
theorem lastG_snoc (l : List G) (g : G) : lastG (l ++ [g]) = g := by simp [lastG]
/-- The block b4 holds the field g. -/
def FoundAt (W : World) (B b4 : Nat) (g : G) : Prop := ∃ ad cc, Whole W b4 43 #[.int .i64 g.num, .int .i64 g.kind, .int .u64 (g.int : Int), .slice ad g.data.length cc] ∧ Nums .u8 W B ad g.data
set_option maxHeartbeats 8000000 in
theorem only_any (a : Option Addr) (c : Nat) (l : List G) (w : World) (h : GAt w w.heap.size a l) (hlen : l.length ≤ 1000000) :
    Calls Tryd.prog 29 #[.slice a l.length c] w fun e w' => ∃ ad cc, e = .returned (.tuple #[.agg #[.int .i64 (lastG (knTo l l.length)).num, .int .i64 (lastG (knTo l l.length)).kind, .int .u64 ((lastG (knTo l l.length)).int : Int), .slice ad (lastG (knTo l l.length)).data.length cc], .bool (decide ((knTo l l.length).length = 1))]) ∧ Nums .u8 w' w.heap.size ad (lastG (knTo l l.length)).data ∧ Below w.heap.size w w' := by
  have HA := Lib.hid h
  obtain ⟨L, hL⟩ : ∃ z, z = l.length := ⟨_, rfl⟩
  have HL := Lib.hid hL
  rw [← hL] at hlen ⊢
  have HKN := Lib.hid known_any
  clear h hL
  go_enter Tryd.func29, Tryd.ntmps29
  go_upto_region 2 with (fail)
  obtain ⟨b2, hb2⟩ : ∃ z, z = w.heap.size := ⟨_, rfl⟩
  obtain ⟨b4, hb4⟩ : ∃ z, z = w.heap.size + 1 := ⟨_, rfl⟩
  obtain ⟨X, hX⟩ : ∃ z, z = (w.alloc (.cells #[.int .i64 0, .int .i64 0, .int .u64 0, .slice none 0 0] 43)).alloc (.cells #[.int .i64 0, .int .i64 0, .int .u64 0, .slice none 0 0] 43) := ⟨_, rfl⟩
  obtain ⟨hW2, hW4, hB⟩ := two_boxes w X _ _ hX
  rw [← hb2] at hW2
  rw [← hb4] at hW4
  have h24 : b2 ≠ b4 := by omega
  have hl2 : w.heap.size ≤ b2 := by omega
  have hl4 : w.heap.size ≤ b4 := by omega
  have HB0 := Lib.hid hB
  have HW2 := Lib.hid hW2
  have HF0 : Hid (FoundAt X w.heap.size b4 (lastG (knTo l 0))) := ⟨none, 0, hW4, Nums.nil_⟩
  rw [← hX, ← hb4, ← hb2]
  clear hX hW2 hW4 hB hb2 hb4
  go_wp2_with fail
  go_loopw [5, 11] (fun n x W => ∃ k : Nat, k ≤ L ∧ x = .int .i64 (k : Int) ∧ n = .int .i64 ((knTo l k).length : Int) ∧ Hid (FoundAt W w.heap.size b4 (lastG (knTo l k))) ∧ Hid (Whole W b2 43 #[.int .i64 0, .int .i64 0, .int .u64 0, .slice none 0 0]) ∧ Hid (Below w.heap.size w W)) (fun _ x _ => L - (intOf x).toNat)
  case atStart => exact ⟨0, Nat.zero_le _, rfl, rfl, HF0, HW2, HB0⟩
  case round =>
    obtain ⟨k, hk, rfl, rfl, HF, HW, HB⟩ := hrel
    clear HF0 HW2 HB0
    have hkn := knTo_len l k
    by_cases hlt : k < L
    · have hkl : k < l.length := by have := HL.out; omega
      obtain ⟨b1, o1, ad, cc, rfl, hb1, c0, c1, c2, c3, hN⟩ := HA.out k hkl
      have p0 := (HB.out.cell (p := ⟨b1, o1 + k * 4, none⟩) hb1).trans c0
      have p1 := (HB.out.cell (p := ⟨b1, o1 + k * 4 + 1, none⟩) hb1).trans c1
      have p2 := (HB.out.cell (p := ⟨b1, o1 + k * 4 + 2, none⟩) hb1).trans c2
      have p3 := (HB.out.cell (p := ⟨b1, o1 + k * 4 + 3, none⟩) hb1).trans c3
      have HN := Lib.hid (hN.below HB.out)
      have hyes := fun h => knTo_yes (l := l) hkl h
      have hno := fun h => knTo_no (l := l) hkl h
      have hk0 : (0 : Int) ≤ (k : Int) := by omega
      have hk1 : (k : Int) < (L : Int) := by omega
      have hknv : ∀ W, Calls Tryd.prog 43 #[.int .i64 (l[k]'hkl).num] W fun e w' => e = .returned (.bool (kn (l[k]'hkl))) ∧ W = w' := fun W => HKN.out _ W
      generalize l[k]'hkl = g at *
      obtain ⟨num, kind, int, data⟩ := g
      simp only at p0 p1 p2 p3 HN hknv
      have HY := Lib.hid hyes
      have HNo := Lib.hid hno
      have HK := Lib.hid hknv
      obtain ⟨dl, hdl⟩ : ∃ z, z = data.length := ⟨_, rfl⟩
      have Hdl := Lib.hid hdl
      rw [← hdl] at p3
      clear c0 c1 c2 c3 hN hyes hno hknv hkl hdl
      go_upto_region 5 with (fail)
      obtain ⟨b7, hb7⟩ : ∃ z, z = wr.heap.size := ⟨_, rfl⟩
      obtain ⟨Y, hY⟩ : ∃ z, z = wr.alloc (.cells #[.int .i64 num, .int .i64 kind, .int .u64 (int : Int), .slice ad dl cc] 43) := ⟨_, rfl⟩
      have hW7 : Whole Y b7 43 #[.int .i64 num, .int .i64 kind, .int .u64 (int : Int), .slice ad dl cc] := by rw [hY, hb7]; exact Whole.new wr _ _
      have hYB : Below wr.heap.size wr Y := by rw [hY]; exact (Below.refl _ _).alloc (Nat.le_refl _) _
      obtain ⟨ad4, cc4, hF1, hF2⟩ := HF.out
      have hF3 := hF1.below hYB hF1.lt
      have hF4 := hF2.below (hYB.mono HB.out.size)
      have hW2 := HW.out.below hYB HW.out.lt
      have hN7 := HN.out.below (hYB.mono HB.out.size)
      have hBY := HB.out.trans (hYB.mono HB.out.size)
      have q0 : Y.cell? ⟨b7, 0, none⟩ = some (.int .i64 num) := hW7.cell 0
      have q1 : Y.cell? ⟨b7, 1, none⟩ = some (.int .i64 kind) := hW7.cell 1
      have q2 : Y.cell? ⟨b7, 2, none⟩ = some (.int .u64 (int : Int)) := hW7.cell 2
      have q3 : Y.cell? ⟨b7, 3, none⟩ = some (.slice ad dl cc) := hW7.cell 3
      rw [← hY, ← hb7]
      have HF3 := Lib.hid hF3
      have HF4 := Lib.hid hF4
      have HW2 := Lib.hid hW2
      have HN7 := Lib.hid hN7
      have HBY := Lib.hid hBY
      clear hY hb7 hW7 hYB hF1 hF2 hF3 hF4 hW2 hN7 hBY HF HW HB HN p0 p1 p2 p3
      go_wp2_with fail
      refine (HK.out _).mono ?_
      rintro e Z ⟨rfl, rfl⟩
      clear HK
      cases hkt : kn ⟨num, kind, int, data⟩ with
      | true =>
        have hstep := HY.out hkt
        have e0 : Y.cell? ⟨b4, 0, none⟩ = some (.int .i64 (lastG (knTo l k)).num) := HF3.out.cell 0
        have e1 : Y.cell? ⟨b4, 1, none⟩ = some (.int .i64 (lastG (knTo l k)).kind) := HF3.out.cell 1
        have e2 : Y.cell? ⟨b4, 2, none⟩ = some (.int .u64 ((lastG (knTo l k)).int : Int)) := HF3.out.cell 2
        have e3 : Y.cell? ⟨b4, 3, none⟩ = some (.slice ad4 (lastG (knTo l k)).data.length cc4) := HF3.out.cell 3
        have f0 : Y.frozen? ⟨b4, 0, none⟩ = false := HF3.out.frozen 0
        have f1 : Y.frozen? ⟨b4, 1, none⟩ = false := HF3.out.frozen 1
        have f2 : Y.frozen? ⟨b4, 2, none⟩ = false := HF3.out.frozen 2
        have f3 : Y.frozen? ⟨b4, 3, none⟩ = false := HF3.out.frozen 3
        have HST := Lib.hid hstep
        clear hstep HY HNo
        go_upto_region 7 with (fail)
        obtain ⟨V, hV⟩ : ∃ z, z = (((Y.setCell ⟨b4, 0, none⟩ (.int .i64 num)).setCell ⟨b4, 1, none⟩ (.int .i64 kind)).setCell ⟨b4, 2, none⟩ (.int .u64 (int : Int))).setCell ⟨b4, 3, none⟩ (.slice ad dl cc) := ⟨_, rfl⟩
        have hWV : Whole V b4 43 #[.int .i64 num, .int .i64 kind, .int .u64 (int : Int), .slice ad dl cc] := by
          rw [hV]
          simpa using (((HF3.out.set 0 (.int .i64 num)).set 1 (.int .i64 kind)).set 2 (.int .u64 (int : Int))).set 3 (.slice ad dl cc)
        have hOV : Only (fun b => b = b4) Y V := by
          rw [hV]
          have o0 : Only (fun b => b = b4) Y _ := Only.setCell (S := fun b => b = b4) (Only.refl _ Y) (p := ⟨b4, 0, none⟩) (fun _ => rfl) (.int .i64 num)
          have o1 : Only (fun b => b = b4) Y _ := Only.setCell (S := fun b => b = b4) o0 (p := ⟨b4, 1, none⟩) (fun _ => rfl) (.int .i64 kind)
          have o2 : Only (fun b => b = b4) Y _ := Only.setCell (S := fun b => b = b4) o1 (p := ⟨b4, 2, none⟩) (fun _ => rfl) (.int .u64 (int : Int))
          exact Only.setCell (S := fun b => b = b4) o2 (p := ⟨b4, 3, none⟩) (fun _ => rfl) (.slice ad dl cc)
        have hYV : Below w.heap.size Y V := hOV.below (fun b hb e => by omega) HBY.out.size
        have HW3 := Lib.hid (HW2.out.only hOV h24)
        have HFV : Hid (FoundAt V w.heap.size b4 (lastG (knTo l (k + 1)))) := by
          show FoundAt _ _ _ _
          rw [HST.out, lastG_snoc]
          exact ⟨ad, cc, by rw [← Hdl.out]; exact hWV, HN7.out.below hYV⟩
        have HBV := Lib.hid (HBY.out.trans hYV)
        have hlen1 : (knTo l (k + 1)).length = (knTo l k).length + 1 := by rw [HST.out]; simp
        have HLN := Lib.hid hlen1
        rw [← hV]
        clear hV hWV hOV hYV hlen1 e0 e1 e2 e3 f0 f1 f2 f3 q0 q1 q2 q3 HF3 HF4 HW2 HBY HN7
        go_wp2_with fail
        go_roundw
        case rel => exact ⟨k + 1, by omega, by go_num, by rw [HLN.out]; go_num, HFV, HW3, HBV⟩
        case measure => simp [intOf] <;> omega
      | false =>
        have HST := Lib.hid (HNo.out hkt)
        clear HY HNo
        go_wp2_with fail
        go_roundw
        case rel => exact ⟨k + 1, by omega, by go_num, by rw [HST.out], by rw [HST.out]; exact ⟨ad4, cc4, HF3.out, HF4.out⟩, HW2, HBY⟩
        case measure => simp [intOf] <;> omega
    · have hkL : k = L := by omega
      subst hkL
      obtain ⟨ad4, cc4, hF1, hF2⟩ := HF.out
      have HLe : Hid (k = l.length) := HL.out
      generalize hG : lastG (knTo l k) = g at *
      obtain ⟨num, kind, int, data⟩ := g
      simp only at hF1 hF2
      have q0 : wr.cell? ⟨b4, 0, none⟩ = some (.int .i64 num) := hF1.cell 0
      have q1 : wr.cell? ⟨b4, 1, none⟩ = some (.int .i64 kind) := hF1.cell 1
      have q2 : wr.cell? ⟨b4, 2, none⟩ = some (.int .u64 (int : Int)) := hF1.cell 2
      have q3 : wr.cell? ⟨b4, 3, none⟩ = some (.slice ad4 data.length cc4) := hF1.cell 3
      have e0 : wr.cell? ⟨b2, 0, none⟩ = some (.int .i64 0) := HW.out.cell 0
      have e1 : wr.cell? ⟨b2, 1, none⟩ = some (.int .i64 0) := HW.out.cell 1
      have e2 : wr.cell? ⟨b2, 2, none⟩ = some (.int .u64 0) := HW.out.cell 2
      have e3 : wr.cell? ⟨b2, 3, none⟩ = some (.slice none 0 0) := HW.out.cell 3
      have f0 : wr.frozen? ⟨b2, 0, none⟩ = false := HW.out.frozen 0
      have f1 : wr.frozen? ⟨b2, 1, none⟩ = false := HW.out.frozen 1
      have f2 : wr.frozen? ⟨b2, 2, none⟩ = false := HW.out.frozen 2
      have f3 : wr.frozen? ⟨b2, 3, none⟩ = false := HW.out.frozen 3
      have hF2 := Lib.hid hF2
      obtain ⟨n, hn⟩ : ∃ z, z = (knTo l k).length := ⟨_, rfl⟩
      rw [← hn] at hkn ⊢
      have HGe := Lib.hid hG
      have Hn := Lib.hid hn
      clear hF1 hG hn HF
      go_wp2_with fail
      obtain ⟨V, hV⟩ : ∃ z, z = (((wr.setCell ⟨b2, 0, none⟩ (.int .i64 num)).setCell ⟨b2, 1, none⟩ (.int .i64 kind)).setCell ⟨b2, 2, none⟩ (.int .u64 (int : Int))).setCell ⟨b2, 3, none⟩ (.slice ad4 data.length cc4) := ⟨_, rfl⟩
      have hWV : Whole V b2 43 #[.int .i64 num, .int .i64 kind, .int .u64 (int : Int), .slice ad4 data.length cc4] := by
        rw [hV]
        simpa using (((HW.out.set 0 (.int .i64 num)).set 1 (.int .i64 kind)).set 2 (.int .u64 (int : Int))).set 3 (.slice ad4 data.length cc4)
      have hOV : Only (fun b => b = b2) wr V := by
        rw [hV]
        have o0 : Only (fun b => b = b2) wr _ := Only.setCell (S := fun b => b = b2) (Only.refl _ wr) (p := ⟨b2, 0, none⟩) (fun _ => rfl) (.int .i64 num)
        have o1 : Only (fun b => b = b2) wr _ := Only.setCell (S := fun b => b = b2) o0 (p := ⟨b2, 1, none⟩) (fun _ => rfl) (.int .i64 kind)
        have o2 : Only (fun b => b = b2) wr _ := Only.setCell (S := fun b => b = b2) o1 (p := ⟨b2, 2, none⟩) (fun _ => rfl) (.int .u64 (int : Int))
        exact Only.setCell (S := fun b => b = b2) o2 (p := ⟨b2, 3, none⟩) (fun _ => rfl) (.slice ad4 data.length cc4)
      have hYV : Below w.heap.size wr V := hOV.below (fun b hb e => by omega) HB.out.size
      have v0 : V.cell? ⟨b2, 0, none⟩ = some (.int .i64 num) := hWV.cell 0
      have v1 : V.cell? ⟨b2, 1, none⟩ = some (.int .i64 kind) := hWV.cell 1
      have v2 : V.cell? ⟨b2, 2, none⟩ = some (.int .u64 (int : Int)) := hWV.cell 2
      have v3 : V.cell? ⟨b2, 3, none⟩ = some (.slice ad4 data.length cc4) := hWV.cell 3
      have hb1 : ((n : Int) == 1) = decide (n = 1) := by
        by_cases h : n = 1
        · simp [h]
        · rw [decide_eq_false h]; simp; omega
      rw [← hV]
      exact bodyPost_ret (v := .tuple #[.agg #[.int .i64 num, .int .i64 kind, .int .u64 (int : Int), .slice ad4 data.length cc4], .bool (decide (n = 1))]) (by simp [results, Tryd.results29, asAddr, go_sem, v0, v1, v2, v3, hb1]) rfl (by rw [HGe.out, ← Hn.out]; exact ⟨ad4, cc4, rfl, hF2.out.below hYV, HB.out.trans hYV⟩)
end Go.Proofs.YtdifojeghplpeaaDoor
