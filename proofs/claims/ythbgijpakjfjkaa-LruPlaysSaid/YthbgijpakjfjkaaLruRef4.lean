/- Layer 34: the reference's Get where there is none. -/
import Derived.Test.YthbgijpakjfjkaaLruRef3
namespace Go.Proofs.Ythbgijpakjfjkaa
open Go.RowKit
set_option linter.unusedVariables false
set_option maxRecDepth 100000

set_option maxHeartbeats 20000000 in
theorem getR_no (a : Option Addr) (c B en sn hh mm : Nat) (rl : List REn) (s : ByteArray) (w : World) (hV : Vals w B 2 a rl.length (rcells rl)) (hB : B ≤ w.heap.size) (hl : rl.length ≤ 100000) (hm : mm ≤ 1000000) (hno : ∀ r ∈ rl, kb r.key ≠ kb s) :
    Calls Try.prog 11 #[.agg #[.slice a rl.length c, .int .i64 (en : Int), .int .i64 (sn : Int), .int .i64 (hh : Int), .int .i64 (mm : Int)], .string s] w
      fun e w' => e = .returned (.tuple #[.agg #[.slice a rl.length c, .int .i64 (en : Int), .int .i64 (sn : Int), .int .i64 (hh : Int), .int .i64 ((mm + 1 : Nat) : Int)], .slice none 0 0, .bool false]) ∧ Below w.heap.size w w' := by
  have HV := Lib.hid (hV.more hB)
  have Hno := Lib.hid hno
  clear hV hB hno
  go_enter Try.func11, Try.ntmps11
  go_upto_region 1 with (fail)
  obtain ⟨b3, hb3⟩ : ∃ z, z = w.heap.size := ⟨_, rfl⟩
  obtain ⟨b6, hb6⟩ : ∃ z, z = w.heap.size + 1 := ⟨_, rfl⟩
  obtain ⟨C6, hC6⟩ : ∃ z, z = #[Value.slice none 0 0, .int .i64 0, .int .i64 0, .int .i64 0, .int .i64 0] := ⟨_, rfl⟩
  obtain ⟨X, hX⟩ : ∃ z, z = (w.alloc (.cells #[.slice a rl.length c, .int .i64 (en : Int), .int .i64 (sn : Int), .int .i64 (hh : Int), .int .i64 (mm : Int)] 29)).alloc (.cells #[.slice none 0 0, .int .i64 0, .int .i64 0, .int .i64 0, .int .i64 0] 29) := ⟨_, rfl⟩
  have hX3 : Whole X b3 29 #[.slice a rl.length c, .int .i64 (en : Int), .int .i64 (sn : Int), .int .i64 (hh : Int), .int .i64 (mm : Int)] := by rw [hX, hb3]; exact (Whole.new w _ _).alloc _
  have hX6 : Whole X b6 29 C6 := by
    rw [hX, hb6, hC6]
    have := Whole.new (w.alloc (.cells #[.slice a rl.length c, .int .i64 (en : Int), .int .i64 (sn : Int), .int .i64 (hh : Int), .int .i64 (mm : Int)] 29)) 29 #[Value.slice none 0 0, .int .i64 0, .int .i64 0, .int .i64 0, .int .i64 0]
    simpa using this
  have hBX : Below w.heap.size w X := by rw [hX]; exact ((Below.refl _ _).alloc (Nat.le_refl _) _).alloc (by simp) _
  have HC6 : Hid (C6.size = 5) := by rw [hC6]; rfl
  have H36 : Hid (b6 ≠ b3) := by show _ ≠ _; omega
  have H3w : Hid (w.heap.size ≤ b3) := by show _ ≤ _; omega
  have Hb6w : Hid (w.heap.size ≤ b6) := by show _ ≤ _; omega
  rw [← hX, ← hb6, ← hb3]
  have x0 : X.cell? ⟨b3, 0, none⟩ = some (.slice a rl.length c) := by rw [hX3.cell]; rfl
  have x4 : X.cell? ⟨b3, 4, none⟩ = some (.int .i64 (mm : Int)) := by rw [hX3.cell]; rfl
  have xf : X.frozen? ⟨b3, 4, none⟩ = false := hX3.frozen 4
  have HVX := Lib.hid (HV.out.below hBX)
  have HX3 := Lib.hid hX3
  have HX6 := Lib.hid hX6
  have HBX := Lib.hid hBX
  clear hX hb3 hb6 hC6 hX3 hX6 hBX HV
  go_wp2_with fail
  go_loopw [7] (fun i W => ∃ k : Nat, i = .int .i64 (k : Int) ∧ k ≤ rl.length ∧ W = X) (fun i _ => rl.length - (intOf i).toNat)
  case atStart => exact ⟨0, rfl, Nat.zero_le _, rfl⟩
  case round =>
    obtain ⟨k, rfl, hk, hX⟩ := hrel
    subst hX
    by_cases hlt : k < rl.length
    · obtain ⟨b2, off, rfl, _, hcell⟩ := HVX.out.r_at (by omega)
      obtain ⟨e1, _⟩ := hcell k hlt
      obtain ⟨t, ht⟩ : ∃ z, z = (rl[k]).key := ⟨_, rfl⟩
      rw [← ht] at e1
      have hne : (t.toList == s.toList) = false := by
        rw [beq_eq_false_iff_ne, ByteArray.toList_eq, ByteArray.toList_eq]
        rw [ht]
        exact Hno.out _ (List.getElem_mem hlt)
      have d1 : decide ((k : Int) < (rl.length : Int)) = true := decide_eq_true (by omega)
      have Hlt := Lib.hid hlt
      clear hcell ht
      go_wp2_with fail
      go_roundw
      case rel => exact ⟨k + 1, by go_num, Hlt.out, trivial⟩
      case measure => simp [intOf] <;> omega
    · obtain rfl : k = rl.length := by omega
      have d1 : decide ((rl.length : Int) < (rl.length : Int)) = false := decide_eq_false (by omega)
      obtain ⟨T, hT⟩ : ∃ T, T = #[Value.slice a rl.length c, .int .i64 (en : Int), .int .i64 (sn : Int), .int .i64 (hh : Int), .int .i64 ((mm : Int) + 1)] := ⟨_, rfl⟩
      have hY3 : Whole (wr.setCell ⟨b3, 4, none⟩ (.int .i64 ((mm : Int) + 1))) b3 29 T := by
        have := HX3.out.set 4 (.int .i64 ((mm : Int) + 1))
        rw [hT]
        simpa using this
      have hY6 : Whole (wr.setCell ⟨b3, 4, none⟩ (.int .i64 ((mm : Int) + 1))) b6 29 C6 := HX6.out.far (p := ⟨b3, 4, none⟩) H36.out _
      have Hs1 : Hid ((Try.prog.info? 29).map (·.size) = some T.size) := by rw [hT]; show _ = _; kernel_rfl
      have Hs0 : Hid (C6.size = T.size) := by rw [hT]; exact HC6.out
      have Hal : Hid (T.all (·.oneCell') = true) := by rw [hT]; show _ = _; simp [Value.oneCell']
      have HY3 := Lib.hid hY3
      have HY6 := Lib.hid hY6
      have hY6r := hY6.row T
      have v0 : ((wr.setCell ⟨b3, 4, none⟩ (.int .i64 ((mm : Int) + 1))).setRow b6 T).cell? ⟨b6, 0, none⟩ = some (.slice a rl.length c) := by rw [Whole.cell hY6r, hT]; rfl
      have v1 : ((wr.setCell ⟨b3, 4, none⟩ (.int .i64 ((mm : Int) + 1))).setRow b6 T).cell? ⟨b6, 1, none⟩ = some (.int .i64 (en : Int)) := by rw [Whole.cell hY6r, hT]; rfl
      have v2 : ((wr.setCell ⟨b3, 4, none⟩ (.int .i64 ((mm : Int) + 1))).setRow b6 T).cell? ⟨b6, 2, none⟩ = some (.int .i64 (sn : Int)) := by rw [Whole.cell hY6r, hT]; rfl
      have v3 : ((wr.setCell ⟨b3, 4, none⟩ (.int .i64 ((mm : Int) + 1))).setRow b6 T).cell? ⟨b6, 3, none⟩ = some (.int .i64 (hh : Int)) := by rw [Whole.cell hY6r, hT]; rfl
      have v4 : ((wr.setCell ⟨b3, 4, none⟩ (.int .i64 ((mm : Int) + 1))).setRow b6 T).cell? ⟨b6, 4, none⟩ = some (.int .i64 ((mm : Int) + 1)) := by rw [Whole.cell hY6r, hT]; rfl
      have POST : Hid (Below w.heap.size w ((wr.setCell ⟨b3, 4, none⟩ (.int .i64 ((mm : Int) + 1))).setRow b6 T)) := below_setRow (HBX.out.setCell H3w.out _) Hb6w.out T
      clear hT hY3 hY6 hY6r HX3 HX6 HVX
      go_wp2_with (first
        | (refine wpList_load_row rfl 29 (.tmp 2) rfl b3 rfl 29 T (0, 0) _ HY3.out Try.underlying29 rfl Hs1.out ?_)
        | (refine wpList_store_row rfl 29 (.tmp 4) (.tmp 48) rfl b6 T rfl rfl 29 C6 HY6.out Hs1.out Hs0.out Hal.out ?_))
      exact bodyPost_ret (v := .tuple #[.agg #[.slice a rl.length c, .int .i64 (en : Int), .int .i64 (sn : Int), .int .i64 (hh : Int), .int .i64 ((mm : Int) + 1)], .slice none 0 0, .bool false]) (by simp [results, Try.results11, asAddr, v0, v1, v2, v3, v4, go_sem]) rfl ⟨by simp, POST.out⟩
end Go.Proofs.Ythbgijpakjfjkaa
