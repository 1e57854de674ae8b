/- Layer 13: Right. -/
import Derived.Test.YtlbplefmpbpchaaArch2
import Derived.Deep.CutRange
import Derived.Deep.CutBlock
namespace Go.Proofs.Ytlbplefmpbpchaa
open Go.RowKit
set_option linter.unusedVariables false
set_option maxRecDepth 100000

/-- From the part with that number on: does each lie within so many bytes? -/
def partsD (h : Hd) (s : Nat) : Nat → Bool
  | 0 => withinD h.r0 h.r1 s && (withinD h.m0 h.m1 s && (withinD h.l0 h.l1 s && withinD h.d0 h.d1 s))
  | 1 => withinD h.m0 h.m1 s && (withinD h.l0 h.l1 s && withinD h.d0 h.d1 s)
  | 2 => withinD h.l0 h.l1 s && withinD h.d0 h.d1 s
  | 3 => withinD h.d0 h.d1 s
  | _ => true
theorem partsD_0 (h : Hd) (s : Nat) : partsD h s 0 = (withinD h.r0 h.r1 s && partsD h s 1) := rfl
theorem partsD_1 (h : Hd) (s : Nat) : partsD h s 1 = (withinD h.m0 h.m1 s && partsD h s 2) := rfl
theorem partsD_2 (h : Hd) (s : Nat) : partsD h s 2 = (withinD h.l0 h.l1 s && partsD h s 3) := rfl
theorem partsD_3 (h : Hd) (s : Nat) : partsD h s 3 = (withinD h.d0 h.d1 s && partsD h s 4) := (Bool.and_true _).symm
def formD (h : Hd) : Bool := decide (h.inn = 1 ∨ h.inn = 2) && decide (h.out = 1 ∨ h.out = 2) && decide (h.kind = 1) && zoomsD h && cornersD h
def rightD (h : Hd) (n : Int) : Int := if formD h = true then (if partsD h n.toNat 0 = true then 0 else 8) else 3
theorem cells_size (h : Hd) : h.cells.size = 24 := rfl
/-- A whole variable's load, under a guard or not. -/
theorem wpList_load_g {P : Program} {ops : Array Oper} {rest : List Oper} {o : Oper} {a : Act} {w : World} {Q : Exit → Act → World → Prop} (ty : TypeId) (x : Operand) (ho : o.op = .load ty x)
    (hw : Region.wanted o (yielded ops a.tmps) = true) (g : Nat) (hx : a.eval x = .pointer (some ⟨g, 0, none⟩)) (t : TypeId) (cs : Array Value) (fr : Nat × Nat) (d : TypeDesc) (hg : w.heap[g]? = some (.cells cs t fr))
    (hu : P.underlying ty = some d) (hd : (match d with | .struct _ | .array _ _ => true | _ => false) = true) (hi : (P.info? ty).map (·.size) = some cs.size)
    (h : wpList P ops Q rest (a.put o.dst (.agg cs)) w) : wpList P ops Q (o :: rest) a w :=
  wpList_step fun K hK => by
    simp only [hw, if_true]
    exact wp_load_row ty x ho g hx t cs fr d hg hu hd hi (hK _ _ h)
theorem ldC {w W : World} {b : Nat} {h : Hd} (hO : One w b h.cells W) : (loadCellsFrom ⟨b, 0, none⟩ 0 24 #[]).run Try.prog W = .ok h.cells W := by
  have := run_loadCells_list (P := Try.prog) W ⟨b, 0, none⟩ h.cells.toList (fun j v hv => by
    have hadd : (⟨b, 0, none⟩ : Addr).add j = ⟨b, j, none⟩ := by unfold Addr.add; split <;> simp_all
    rw [hadd, cell_of_row W b j h.cells 29 (0, 0) hO.a]
    simpa using hv)
  rw [show h.cells.toList.length = 24 from rfl] at this
  simpa only [loadCells, Array.toArray_toList] using this
theorem ldH {w W : World} {b : Nat} {h : Hd} (hO : One w b h.cells W) : (loadVar 29 ⟨b, 0, none⟩).run Try.prog W = .ok (.agg h.cells) W :=
  run_loadVar_row W b 29 29 h.cells (0, 0) _ hO.a Try.underlying29 rfl (by rw [cells_size]; kernel_rfl)
set_option maxHeartbeats 16000000 in
theorem right_any (h : Hd) (n : Int) (w : World) (hn : -9223372036854775808 ≤ n ∧ n < 9223372036854775808) :
    Calls Try.prog 10 #[hdV h, .int .i64 n] w fun e w' => e = .returned (.int .i64 (rightD h n)) ∧ Below w.heap.size w w' := by
  have HP1 := Lib.hid fun W => packing_any h.inn W
  have HP2 := Lib.hid fun W => packing_any h.out W
  have HZ := Lib.hid fun W => zooms_any h W
  have HC := Lib.hid fun W => corners_any h W
  obtain ⟨r, hr⟩ : ∃ r, r = rightD h n := ⟨_, rfl⟩
  rw [← hr]
  unfold rightD at hr
  obtain ⟨q, hq⟩ : ∃ q, q = formD h := ⟨_, rfl⟩
  rw [← hq] at hr
  unfold formD at hq
  obtain ⟨b1, hb1⟩ : ∃ b, b = decide (h.inn = 1 ∨ h.inn = 2) := ⟨_, rfl⟩
  obtain ⟨b2, hb2⟩ : ∃ b, b = decide (h.out = 1 ∨ h.out = 2) := ⟨_, rfl⟩
  obtain ⟨b3, hb3⟩ : ∃ b, b = zoomsD h := ⟨_, rfl⟩
  obtain ⟨b4, hb4⟩ : ∃ b, b = cornersD h := ⟨_, rfl⟩
  rw [← hb1] at HP1 hq
  rw [← hb2] at HP2 hq
  rw [← hb3] at HZ hq
  rw [← hb4] at HC hq
  have Hr := Lib.hid hr
  have Hq := Lib.hid hq
  clear hr hb1 hb2 hb3 hb4 hq
  obtain ⟨b, hb⟩ : ∃ z, z = w.heap.size := ⟨_, rfl⟩
  obtain ⟨X0, hX0⟩ : ∃ z, z = w.alloc (.cells h.cells 29) := ⟨_, rfl⟩
  have hO : One w b h.cells X0 := by rw [hX0, hb]; exact ⟨Whole.new w _ _, (Below.refl _ _).alloc (Nat.le_refl _) _⟩
  have HO0 := Lib.hid hO
  have HX0 := Lib.hid hX0
  have Hb := Lib.hid hb
  clear hX0 hb hO
  unfold hdV at HZ HC ⊢
  go_enter Try.func10, Try.ntmps10
  go_upto_region 1 with (fail)
  rw [← HX0.out, ← Hb.out]
  clear HX0 Hb
  go_cut [8, 9, 10, 11, 12, 13, 14, 15, 16, 17, 18, 19, 20, 21, 22, 23, 24, 25, 26, 27, 28, 29, 30, 31, 32] (fun x8 x9 x10 x11 x12 x13 x14 x15 x16 x17 x18 x19 x20 x21 x22 x23 x24 x25 x26 x27 x28 x29 x30 x31 x32 W => x32 = .bool (!q) ∧ Hid (One w b h.cells W))
  case first =>
    as_aux_lemma =>
      have hq := Hq.out
      have q12 : X0.cell? ⟨b, 12, none⟩ = some (.int .i64 h.inn) := HO0.out.a.cell 12
      go_wp2_with fail
      refine (HP1.out _).mono ?_
      rintro e Y ⟨rfl, rfl⟩
      clear q12
      cases b1 with
      | false =>
        as_aux_lemma =>
          obtain rfl : q = false := by rw [hq]; simp
          clear hq
          go_wp2_with fail
          go_meet
          exact ⟨by first | rfl | simp, HO0.out⟩
      | true =>
        as_aux_lemma =>
          have q13 : X0.cell? ⟨b, 13, none⟩ = some (.int .i64 h.out) := HO0.out.a.cell 13
          go_wp2_with fail
          refine (HP2.out _).mono ?_
          rintro e Y ⟨rfl, rfl⟩
          clear q13
          cases b2 with
          | false =>
            as_aux_lemma =>
              obtain rfl : q = false := by rw [hq]; simp
              clear hq
              go_wp2_with fail
              go_meet
              exact ⟨by first | rfl | simp, HO0.out⟩
          | true =>
            as_aux_lemma =>
              have q14 : X0.cell? ⟨b, 14, none⟩ = some (.int .i64 h.kind) := HO0.out.a.cell 14
              by_cases g1 : h.kind = 1
              · have d1 : (h.kind == 1) = true := by rw [g1]; rfl
                have d1' : (h.kind != 1) = false := by rw [g1]; rfl
                have G1 := Lib.hid g1
                clear g1
                go_wp2_with (refine wpList_load_g 29 _ rfl (by rfl) b rfl 29 h.cells (0, 0) _ HO0.out.a Try.underlying29 rfl (by rw [cells_size]; kernel_rfl) ?_)
                refine (HZ.out _).mono ?_
                rintro e Y1 ⟨rfl, hb⟩
                have HO1 := Lib.hid (HO0.out.step hb)
                clear hb q14
                cases b3 with
                | false =>
                  as_aux_lemma =>
                    obtain rfl : q = false := by rw [hq]; simp
                    clear hq
                    go_wp2_with fail
                    go_meet
                    exact ⟨by first | rfl | simp, HO1.out⟩
                | true =>
                  as_aux_lemma =>
                    go_wp2_with (refine wpList_load_g 29 _ rfl (by rfl) b rfl 29 h.cells (0, 0) _ HO1.out.a Try.underlying29 rfl (by rw [cells_size]; kernel_rfl) ?_)
                    refine (HC.out _).mono ?_
                    rintro e Y2 ⟨rfl, hb⟩
                    have HO2 := Lib.hid (HO1.out.step hb)
                    clear hb
                    have hqb : q = b4 := by rw [hq, decide_eq_true G1.out]; simp
                    subst hqb
                    clear hq
                    go_wp2_with fail
                    go_meet
                    exact ⟨by first | rfl | simp, HO2.out⟩
              · have d1 : (h.kind == 1) = false := beq_eq_false_iff_ne.mpr g1
                have d1' : (h.kind != 1) = true := by simp [g1]
                obtain rfl : q = false := by rw [hq, decide_eq_false g1]; simp
                clear hq g1
                go_wp2_with fail
                go_meet
                exact ⟨by first | rfl | simp, HO0.out⟩
  case rest =>
    obtain ⟨rfl, hO⟩ := hcut
    clear HO0 HP1 HP2 HZ HC Hq
    cases q with
    | false =>
      have hr2 : Hid (r = 3) := by show _ = _; rw [Hr.out, if_neg (by decide)]
      go_wp2_with fail
      go_ret
      exact ⟨by rw [hr2.out]; rfl, hO.out.k⟩
    | true =>
      obtain ⟨sz, hsz0⟩ : ∃ s, s = n.toNat := ⟨_, rfl⟩
      have hsz : sz < 18446744073709551616 := by omega
      have HR0 : Hid (partsD h sz 0 = true → r = 0) := fun hp => by rw [Hr.out, if_pos rfl, ← hsz0, if_pos hp]
      have HR : Hid (partsD h sz 0 = false → r = 8) := fun hp => by rw [Hr.out, if_pos rfl, ← hsz0, hp, if_neg (by decide)]
      go_upto_region 3 with (fail)
      obtain ⟨w0, hw0⟩ : ∃ z, z = wc := ⟨_, rfl⟩
      go_cut [5, 33, 34, 35] (fun x5 x33 x34 x35 W => x5 = .int .u64 (sz : Int) ∧ w0 = W)
      case first =>
        as_aux_lemma =>
          by_cases h0 : 0 ≤ n
          · have hm : max n 0 = n := by omega
            have hu : IntKind.u64.wrap n = (sz : Int) := by rw [IntKind.wrap_u64]; omega
            go_wp2_with fail
            go_meet
            exact ⟨congrArg (Value.int .u64) (by omega), hw0⟩
          · have hm : max n 0 = 0 := by omega
            have hs0 : sz = 0 := by omega
            go_wp2_with fail
            go_meet
            exact ⟨by first | (rw [hm, hs0]; rfl) | simp [hm, hs0], hw0⟩
      case rest =>
        obtain ⟨rfl, rfl⟩ := hcut
        subst hw0
        have q0 : w0.cell? ⟨b, 0, none⟩ = some (.int .u64 (h.r0 : Int)) := hO.out.a.cell 0
        have q1 : w0.cell? ⟨b, 1, none⟩ = some (.int .u64 (h.r1 : Int)) := hO.out.a.cell 1
        have q2 : w0.cell? ⟨b, 2, none⟩ = some (.int .u64 (h.m0 : Int)) := hO.out.a.cell 2
        have q3 : w0.cell? ⟨b, 3, none⟩ = some (.int .u64 (h.m1 : Int)) := hO.out.a.cell 3
        have q4 : w0.cell? ⟨b, 4, none⟩ = some (.int .u64 (h.l0 : Int)) := hO.out.a.cell 4
        have q5 : w0.cell? ⟨b, 5, none⟩ = some (.int .u64 (h.l1 : Int)) := hO.out.a.cell 5
        have q6 : w0.cell? ⟨b, 6, none⟩ = some (.int .u64 (h.d0 : Int)) := hO.out.a.cell 6
        have q7 : w0.cell? ⟨b, 7, none⟩ = some (.int .u64 (h.d1 : Int)) := hO.out.a.cell 7
        clear Hr hsz0
        have HB0 := Lib.hid hO.out.k
        clear hO
        go_upto_region 4 with (fail)
        obtain ⟨w1, hw1⟩ : ∃ z, z = w0 := ⟨_, rfl⟩
        obtain ⟨g, hg⟩ : ∃ z, z = w0.heap.size := ⟨_, rfl⟩
        obtain ⟨X4, hX4⟩ : ∃ z, z = w0.alloc (.cells #[.int .u64 (h.r0 : Int), .int .u64 (h.r1 : Int), .int .u64 (h.m0 : Int), .int .u64 (h.m1 : Int), .int .u64 (h.l0 : Int), .int .u64 (h.l1 : Int), .int .u64 (h.d0 : Int), .int .u64 (h.d1 : Int)] 24) := ⟨_, rfl⟩
        have hG : Whole X4 g 24 #[.int .u64 (h.r0 : Int), .int .u64 (h.r1 : Int), .int .u64 (h.m0 : Int), .int .u64 (h.m1 : Int), .int .u64 (h.l0 : Int), .int .u64 (h.l1 : Int), .int .u64 (h.d0 : Int), .int .u64 (h.d1 : Int)] := by rw [hX4, hg]; exact Whole.new w0 _ _
        have hB : Below w.heap.size w X4 := by rw [hX4]; exact HB0.out.alloc HB0.out.size _
        have HG0 := Lib.hid hG
        have HBB := Lib.hid hB
        have Hg := Lib.hid hg
        have HX4 := Lib.hid hX4
        clear hG hB hw1 hg hX4
        go_upto_block 0 with (fail)
        rw [← HX4.out, ← Hg.out]
        clear Hg HX4 q0 q1 q2 q3 q4 q5 q6 q7 HB0
        go_wp2_with fail
        go_loopw [7, 46] (fun x7 x46 W => ∃ k : Nat, k ≤ 4 ∧ x46 = .int .i64 (k : Int) ∧ Hid (partsD h sz k = partsD h sz 0) ∧ Hid (Whole W g 24 #[.int .u64 (h.r0 : Int), .int .u64 (h.r1 : Int), .int .u64 (h.m0 : Int), .int .u64 (h.m1 : Int), .int .u64 (h.l0 : Int), .int .u64 (h.l1 : Int), .int .u64 (h.d0 : Int), .int .u64 (h.d1 : Int)]) ∧ Hid (Below w.heap.size w W)) (fun x7 x46 _ => 4 - (intOf x46).toNat)
        case atStart => exact ⟨0, by omega, rfl, rfl, HG0, HBB⟩
        case round =>
          clear HG0 HBB
          obtain ⟨k, hk, rfl, hF, hG, hB⟩ := hrel
          have hk5 : k = 0 ∨ k = 1 ∨ k = 2 ∨ k = 3 ∨ k = 4 := by omega
          rcases hk5 with rfl | rfl | rfl | rfl | rfl
          · have c0 : wr.cell? ⟨g, 0, none⟩ = some (.int .u64 (h.r0 : Int)) := hG.out.cell 0
            have c1 : wr.cell? ⟨g, 1, none⟩ = some (.int .u64 (h.r1 : Int)) := hG.out.cell 1
            have HW := Lib.hid fun W => within_any h.r0 h.r1 sz hsz W
            cases hw : withinD h.r0 h.r1 sz with
            | true =>
              rw [hw] at HW
              have hF2 : Hid (partsD h sz 1 = partsD h sz 0) := by show _ = _; rw [← hF.out, partsD_0, hw, Bool.true_and]
              have hB2 := Lib.hid (hB.out.alloc hB.out.size (.cells #[.int .u64 (h.r0 : Int), .int .u64 (h.r1 : Int)] 24))
              have hG2 := Lib.hid (hG.out.alloc (.cells #[.int .u64 (h.r0 : Int), .int .u64 (h.r1 : Int)] 24))
              clear hF hw
              go_wp2_with fail
              refine (HW.out _).mono ?_
              rintro e Y ⟨rfl, rfl⟩
              clear c0 c1
              go_wp2_with fail
              refine ⟨⟨1, by omega, rfl, hF2, hG2, hB2⟩, by decide⟩
            | false =>
              rw [hw] at HW
              have hF2 : Hid (partsD h sz 0 = false) := by show _ = _; rw [← hF.out, partsD_0, hw, Bool.false_and]
              have hB2 := Lib.hid (hB.out.alloc hB.out.size (.cells #[.int .u64 (h.r0 : Int), .int .u64 (h.r1 : Int)] 24))
              clear hF hw
              go_wp2_with fail
              refine (HW.out _).mono ?_
              rintro e Y ⟨rfl, rfl⟩
              clear c0 c1
              go_wp2_with fail
              go_ret
              exact ⟨by rw [HR.out hF2.out]; rfl, hB2.out⟩
          · have c0 : wr.cell? ⟨g, 2, none⟩ = some (.int .u64 (h.m0 : Int)) := hG.out.cell 2
            have c1 : wr.cell? ⟨g, 3, none⟩ = some (.int .u64 (h.m1 : Int)) := hG.out.cell 3
            have HW := Lib.hid fun W => within_any h.m0 h.m1 sz hsz W
            cases hw : withinD h.m0 h.m1 sz with
            | true =>
              rw [hw] at HW
              have hF2 : Hid (partsD h sz 2 = partsD h sz 0) := by show _ = _; rw [← hF.out, partsD_1, hw, Bool.true_and]
              have hB2 := Lib.hid (hB.out.alloc hB.out.size (.cells #[.int .u64 (h.m0 : Int), .int .u64 (h.m1 : Int)] 24))
              have hG2 := Lib.hid (hG.out.alloc (.cells #[.int .u64 (h.m0 : Int), .int .u64 (h.m1 : Int)] 24))
              clear hF hw
              go_wp2_with fail
              refine (HW.out _).mono ?_
              rintro e Y ⟨rfl, rfl⟩
              clear c0 c1
              go_wp2_with fail
              refine ⟨⟨2, by omega, rfl, hF2, hG2, hB2⟩, by decide⟩
            | false =>
              rw [hw] at HW
              have hF2 : Hid (partsD h sz 0 = false) := by show _ = _; rw [← hF.out, partsD_1, hw, Bool.false_and]
              have hB2 := Lib.hid (hB.out.alloc hB.out.size (.cells #[.int .u64 (h.m0 : Int), .int .u64 (h.m1 : Int)] 24))
              clear hF hw
              go_wp2_with fail
              refine (HW.out _).mono ?_
              rintro e Y ⟨rfl, rfl⟩
              clear c0 c1
              go_wp2_with fail
              go_ret
              exact ⟨by rw [HR.out hF2.out]; rfl, hB2.out⟩
          · have c0 : wr.cell? ⟨g, 4, none⟩ = some (.int .u64 (h.l0 : Int)) := hG.out.cell 4
            have c1 : wr.cell? ⟨g, 5, none⟩ = some (.int .u64 (h.l1 : Int)) := hG.out.cell 5
            have HW := Lib.hid fun W => within_any h.l0 h.l1 sz hsz W
            cases hw : withinD h.l0 h.l1 sz with
            | true =>
              rw [hw] at HW
              have hF2 : Hid (partsD h sz 3 = partsD h sz 0) := by show _ = _; rw [← hF.out, partsD_2, hw, Bool.true_and]
              have hB2 := Lib.hid (hB.out.alloc hB.out.size (.cells #[.int .u64 (h.l0 : Int), .int .u64 (h.l1 : Int)] 24))
              have hG2 := Lib.hid (hG.out.alloc (.cells #[.int .u64 (h.l0 : Int), .int .u64 (h.l1 : Int)] 24))
              clear hF hw
              go_wp2_with fail
              refine (HW.out _).mono ?_
              rintro e Y ⟨rfl, rfl⟩
              clear c0 c1
              go_wp2_with fail
              refine ⟨⟨3, by omega, rfl, hF2, hG2, hB2⟩, by decide⟩
            | false =>
              rw [hw] at HW
              have hF2 : Hid (partsD h sz 0 = false) := by show _ = _; rw [← hF.out, partsD_2, hw, Bool.false_and]
              have hB2 := Lib.hid (hB.out.alloc hB.out.size (.cells #[.int .u64 (h.l0 : Int), .int .u64 (h.l1 : Int)] 24))
              clear hF hw
              go_wp2_with fail
              refine (HW.out _).mono ?_
              rintro e Y ⟨rfl, rfl⟩
              clear c0 c1
              go_wp2_with fail
              go_ret
              exact ⟨by rw [HR.out hF2.out]; rfl, hB2.out⟩
          · have c0 : wr.cell? ⟨g, 6, none⟩ = some (.int .u64 (h.d0 : Int)) := hG.out.cell 6
            have c1 : wr.cell? ⟨g, 7, none⟩ = some (.int .u64 (h.d1 : Int)) := hG.out.cell 7
            have HW := Lib.hid fun W => within_any h.d0 h.d1 sz hsz W
            cases hw : withinD h.d0 h.d1 sz with
            | true =>
              rw [hw] at HW
              have hF2 : Hid (partsD h sz 4 = partsD h sz 0) := by show _ = _; rw [← hF.out, partsD_3, hw, Bool.true_and]
              have hB2 := Lib.hid (hB.out.alloc hB.out.size (.cells #[.int .u64 (h.d0 : Int), .int .u64 (h.d1 : Int)] 24))
              have hG2 := Lib.hid (hG.out.alloc (.cells #[.int .u64 (h.d0 : Int), .int .u64 (h.d1 : Int)] 24))
              clear hF hw
              go_wp2_with fail
              refine (HW.out _).mono ?_
              rintro e Y ⟨rfl, rfl⟩
              clear c0 c1
              go_wp2_with fail
              refine ⟨⟨4, by omega, rfl, hF2, hG2, hB2⟩, by decide⟩
            | false =>
              rw [hw] at HW
              have hF2 : Hid (partsD h sz 0 = false) := by show _ = _; rw [← hF.out, partsD_3, hw, Bool.false_and]
              have hB2 := Lib.hid (hB.out.alloc hB.out.size (.cells #[.int .u64 (h.d0 : Int), .int .u64 (h.d1 : Int)] 24))
              clear hF hw
              go_wp2_with fail
              refine (HW.out _).mono ?_
              rintro e Y ⟨rfl, rfl⟩
              clear c0 c1
              go_wp2_with fail
              go_ret
              exact ⟨by rw [HR.out hF2.out]; rfl, hB2.out⟩
          · have hr0 := Lib.hid (HR0.out hF.out.symm)
            go_wp2_with fail
            go_ret
            exact ⟨by rw [hr0.out]; rfl, hB.out⟩
end Go.Proofs.Ytlbplefmpbpchaa
