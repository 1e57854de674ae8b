/- Layer 9: Decode. -/
import Derived.Test.YtohgdlhijgjdkaaPathRd6
namespace Go.Proofs.Ytohgdlhijgjdkaa
open Go.RowKit
set_option linter.unusedVariables false
set_option maxRecDepth 100000

set_option maxHeartbeats 4000000 in
theorem decode_groups (K : Int) (kind km : Nat) (hK : K = (kind : Int)) (hkm : kind = km + 1) (hk23 : km = 1 ∨ km = 2) (a : Option Addr) (c : Nat) (l : List Nat) (w : World) (hN : Nums .u32 w w.heap.size a l) (hlc : l.length ≤ c) (hcm : c ≤ maxLen) (hlen : l.length ≤ 1000) (hl : ∀ x ∈ l, x < 4294967296) :
    Calls Try.prog 7 #[.int .i64 K, .slice a l.length c] w (DecPost w (outM (decM kind l))) := by
  have hmf : ∀ (fn : Fn) (first cap : Array Value) (w : World), (Instr.makeFunc fn first cap).run Try.prog w = .ok (.func fn first cap) w := fun _ _ _ _ => rfl
  obtain ⟨R, hR⟩ : ∃ R, R = outM (groupsM kind (l.length + 1) l (0, 0) []) := ⟨_, rfl⟩
  have hdm : outM (decM kind l) = R := by rw [hR]; unfold decM; rw [if_neg (by omega)]
  rw [hdm]
  have HRe := Lib.hid hR
  obtain ⟨L, hL⟩ : ∃ z, z = l.length := ⟨_, rfl⟩
  have HL := Lib.hid hL
  rw [← hL]
  have HNn := Lib.hid hN
  have Hlc := Lib.hid (show l.length ≤ c ∧ c ≤ maxLen ∧ l.length ≤ 1000 from ⟨hlc, hcm, hlen⟩)
  have Hl := Lib.hid hl
  clear hdm hR hL hN hlc hcm hlen hl
  have d1 : decide (K < 1) = false := decide_eq_false (by omega)
  have d3 : decide (3 < K) = false := decide_eq_false (by omega)
  have dk : (K == 1) = false := by simp; omega
  have HKm := Lib.hid (show K = (kind : Int) ∧ kind = km + 1 ∧ (km = 1 ∨ km = 2) from ⟨hK, hkm, hk23⟩)
  clear hK hkm hk23
  go_enter_defers Try.func7, Try.ntmps7
  go_upto_region 7 with (fail)
  obtain ⟨b4, hb4⟩ : ∃ z, z = w.heap.size := ⟨_, rfl⟩
  obtain ⟨b5, hb5⟩ : ∃ z, z = w.heap.size + 1 := ⟨_, rfl⟩
  obtain ⟨g, hg⟩ : ∃ z, z = w.heap.size + 1 + 1 := ⟨_, rfl⟩
  obtain ⟨X, hX⟩ : ∃ z, z = ((w.alloc (.cells #[.slice none 0 0] 24)).alloc (.cells #[.int .i64 0] 25)).alloc (.cells #[.slice a L c, .int .i64 0, .int .i64 0] 47) := ⟨_, rfl⟩
  obtain ⟨hW4, hW5, hWg, hBX, hsX⟩ := dec_boxes w X a L c hX
  rw [← hX, ← hg, ← hb5, ← hb4]
  rw [← hb4] at hW4
  rw [← hb5] at hW5
  rw [← hg] at hWg
  have h45 : b4 ≠ b5 := by omega
  have h4g : b4 < g := by omega
  have h5g : b5 < g := by omega
  have hl4 : w.heap.size ≤ b4 := by omega
  have hl5 : w.heap.size ≤ b5 := by omega
  have hlg : w.heap.size ≤ g := by omega
  have hgX : g ≤ X.heap.size := by omega
  have hRS : RS X g g l (0, 0) := ⟨a, c, by rw [← HL.out]; exact hWg, (HNn.out.below hBX).more hlg, Hlc.out.1, Hlc.out.2.1⟩
  have HPt := Lib.hid (groups_any g g K kind km l X hRS (Nat.le_refl _) hgX (by have := Hlc.out.2.2; omega) Hl.out HKm.out.1 HKm.out.2.1 HKm.out.2.2)
  have HW4 := Lib.hid hW4
  have HW5 := Lib.hid hW5
  have HBX := Lib.hid hBX
  clear hX hg hb5 hb4 hW4 hW5 hWg hBX hsX hRS HNn Hl Hlc
  cases h1 : groupsM kind (l.length + 1) l (0, 0) [] with
  | error n =>
    rw [h1] at HPt
    have hR : R = ([], n) := by rw [HRe.out, h1]; rfl
    subst hR
    go_wp2_with fail
    refine HPt.out.mono ?_
    rintro e W ⟨rfl, hb⟩
    exact dec_door w W b4 b5 n _ _ _ (HW4.out.below hb h4g) (HW5.out.below hb h5g) h45 hl4 hl5 (HBX.out.trans (hb.mono hlg)) (by rfl) (by rfl)
  | ok r =>
    rw [h1] at HPt
    have hR : R = (r, 0) := by rw [HRe.out, h1]; rfl
    subst hR
    go_wp2_with fail
    refine HPt.out.mono ?_
    rintro e W ⟨v', rfl, hOw, hb⟩
    obtain ⟨V1, hV1⟩ : ∃ z, z = (W.setCell ⟨b4, 0, none⟩ v').setCell ⟨b5, 0, none⟩ (.int .i64 0) := ⟨_, rfl⟩
    have k4 : Whole W b4 24 #[.slice none 0 0] := HW4.out.below hb h4g
    have k5 : Whole W b5 25 #[.int .i64 0] := HW5.out.below hb h5g
    have c4 : W.cell? ⟨b4, 0, none⟩ = some (.slice none 0 0) := k4.cell 0
    have c5 : W.cell? ⟨b5, 0, none⟩ = some (.int .i64 0) := k5.cell 0
    have f4 : W.frozen? ⟨b4, 0, none⟩ = false := k4.frozen 0
    have f5 : W.frozen? ⟨b5, 0, none⟩ = false := k5.frozen 0
    have n4 : Whole V1 b4 24 #[v'] := by rw [hV1]; simpa using (k4.set 0 v').far h45 (.int .i64 0)
    have n5 : Whole V1 b5 25 #[.int .i64 0] := by rw [hV1]; simpa using (k5.far (fun e => h45 e.symm) v').set 0 (.int .i64 0)
    have hoV : Only (fun b => b = b4 ∨ b = b5) W V1 := by
      rw [hV1]
      exact Only.setCell (S := fun b => b = b4 ∨ b = b5) (Only.setCell (S := fun b => b = b4 ∨ b = b5) (Only.refl _ _) (p := ⟨b4, 0, none⟩) (fun _ => .inl rfl) _) (p := ⟨b5, 0, none⟩) (fun _ => .inr rfl) _
    have hrd : RdPP V1 V1.heap.size v' r := (hOw.only hoV (fun b e => by rcases e with e | e <;> omega)).pp.rd
    have hBV : Below w.heap.size w V1 := by
      rw [hV1]
      exact ((HBX.out.trans (hb.mono hlg)).setCell (p := ⟨b4, 0, none⟩) hl4 _).setCell (p := ⟨b5, 0, none⟩) hl5 _
    have m4 := n4.cell 0
    have m5 := n5.cell 0
    have Hrd := Lib.hid hrd
    have HBf := Lib.hid hBV
    have M4 := Lib.hid m4
    have M5 := Lib.hid m5
    have HV1 := Lib.hid hV1
    obtain ⟨va, vc, rfl, _, _, _⟩ := hOw.pp.rd.at
    obtain ⟨rl, hrl⟩ : ∃ z, z = r.length := ⟨_, rfl⟩
    rw [← hrl] at Hrd M4 HV1
    try rw [← hrl]
    clear k4 k5 hOw hb HPt h1 n4 n5 hoV hrd hBV m4 m5 hV1 hrl
    go_wp2_with fail
    rw [← HV1.out]
    exact dec_door_ok w _ b4 b5 _ _ _ M4.out M5.out Hrd.out HBf.out (by rfl) (by rfl)
def decR (K : Int) (l : List Nat) : List (List P2) × Nat := if K < 1 ∨ 3 < K then ([], 1) else outM (decM K.toNat l)
theorem decode_any (K : Int) (a : Option Addr) (c : Nat) (l : List Nat) (w : World) (hN : Nums .u32 w w.heap.size a l) (hlc : l.length ≤ c) (hcm : c ≤ maxLen) (hlen : l.length ≤ 1000) (hl : ∀ x ∈ l, x < 4294967296) :
    Calls Try.prog 7 #[.int .i64 K, .slice a l.length c] w (DecPost w (decR K l)) := by
  unfold decR
  split
  · next h => exact decode_arg K a c l w h
  · next h =>
    have h3 : K = 1 ∨ K = 2 ∨ K = 3 := by omega
    rcases h3 with rfl | rfl | rfl
    · exact decode_points a c l w hN hlc hcm hlen hl
    · exact decode_groups 2 2 1 rfl rfl (.inl rfl) a c l w hN hlc hcm hlen hl
    · exact decode_groups 3 3 2 rfl rfl (.inr rfl) a c l w hN hlc hcm hlen hl
end Go.Proofs.Ytohgdlhijgjdkaa
