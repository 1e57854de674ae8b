/- Layer 9: the writer's run. -/
import Derived.Test.YtohgdlhijgjdkaaPathEn3
import Derived.Deep.DeepCutAuto
namespace Go.Proofs.Ytohgdlhijgjdkaa
open Go.RowKit
set_option linter.unusedVariables false
set_option maxRecDepth 100000

/-- The numbers of points behind the point q; the last point. -/
def runE : P2 → List P2 → List Nat
  | _, [] => []
  | q, p :: r => zig (p.1 - q.1) :: zig (p.2 - q.2) :: runE p r
def endP : P2 → List P2 → P2
  | q, [] => q
  | _, p :: r => endP p r
theorem runE_at {l : List P2} {k : Nat} (h : k < l.length) (q : P2) : runE q (l.drop k) = zig (l[k].1 - q.1) :: zig (l[k].2 - q.2) :: runE l[k] (l.drop (k + 1)) := by
  rw [List.drop_eq_getElem_cons h]; rfl
theorem endP_at {l : List P2} {k : Nat} (h : k < l.length) (q : P2) : endP q (l.drop k) = endP l[k] (l.drop (k + 1)) := by
  rw [List.drop_eq_getElem_cons h]; rfl
theorem zig_small {d : Int} (h : -2097152 ≤ d ∧ d ≤ 2097152) : zig d < 4294967296 := by unfold zig; split <;> omega
set_option maxHeartbeats 16000000 in
theorem wrun_any (base g op : Nat) (v : Value) (m : List Nat) (q : P2) (l : List P2) (w : World) (a : Option Addr) (c : Nat) (h : Wp w base g v m q.1 q.2) (hr : PAt w base a l) (hB : base ≤ w.heap.size) (hg : base ≤ g) (hop : op < 8) (hl : l.length ≤ 1000) (hm : m.length ≤ 10000) (hq : inP q) (hin : ∀ p ∈ l, inP p) :
    Calls Try.prog 33 #[.pointer (some ⟨g, 0, none⟩), .int .i64 (op : Int), .slice a l.length c] w fun e w' => e = .returned (.tuple #[]) ∧ ∃ v', Wp w' base g v' (m ++ ((8 * l.length + op) :: runE q l)) (endP q l).1 (endP q l).2 ∧ Below base w w' := by
  have hc := Lib.hid (wcommand_any base g v m q.1 q.2 op l.length w h hB hg hop (by omega) (by omega))
  obtain ⟨T, hT⟩ : ∃ T, T = m ++ ((8 * l.length + op) :: runE q l) := ⟨_, rfl⟩
  obtain ⟨E, hE⟩ : ∃ E, E = endP q l := ⟨_, rfl⟩
  rw [← hT, ← hE]
  obtain ⟨L, hL⟩ : ∃ z, z = l.length := ⟨_, rfl⟩
  have HL := Lib.hid hL
  rw [← hL] at hc hT ⊢
  have HT := Lib.hid hT
  have HE := Lib.hid hE
  have HP := Lib.hid hr
  have HIn := Lib.hid hin
  have Hq := Lib.hid hq
  have Hm := Lib.hid hm
  have Hl1 := Lib.hid (show L ≤ 1000 from by omega)
  clear hr h hT hE hL hin hq hm hl
  go_enter Try.func33, Try.ntmps33
  go_wp2_with fail
  refine hc.out.mono ?_
  rintro e X ⟨rfl, v0, hW, hX⟩
  have HW := Lib.hid hW
  have HX := Lib.hid hX
  have hsX := hX.size
  have Htot0 : Hid ((m ++ [8 * L + op]) ++ runE q (l.drop 0) = T) := by show _ = _; rw [HT.out]; simp
  have Hlen0 : Hid ((m ++ [8 * L + op]).length ≤ 10001 + 2 * 0) := by show _ ≤ _; have := Hm.out; simp; omega
  clear hW hX hc
  go_wp2_with fail
  go_loopw [15] (fun i W => ∃ (k : Nat) (mk : List Nat) (qk : P2) (v1 : Value), k ≤ L ∧ i = .int .i64 (k : Int) ∧ Hid (Wp W base g v1 mk qk.1 qk.2) ∧ Hid (Below base w W) ∧ Hid (mk ++ runE qk (l.drop k) = T) ∧ Hid (endP qk (l.drop k) = E) ∧ Hid (inP qk) ∧ Hid (mk.length ≤ 10001 + 2 * k)) (fun i _ => L - (intOf i).toNat)
  case atStart => exact ⟨0, _, q, v0, Nat.zero_le _, rfl, HW, HX, Htot0, HE.out.symm, Hq, Hlen0⟩
  case round =>
    obtain ⟨k, mk, qk, v1, hk, rfl, HWp, HBw, HTot, HEnd, Hqk, Hlen⟩ := hrel
    clear HW HX Htot0 Hlen0
    by_cases hlt : k < L
    · have hkl : k < l.length := by have := HL.out; omega
      have Hlt : Hid (k + 1 ≤ L) := hlt
      have hkb : k ≤ 1000 := by have := Hl1.out; omega
      obtain ⟨b1, o1, rfl, hb1, p0, p1⟩ := (HP.out.below HBw.out).at k hkl
      have hin := HIn.out _ (List.getElem_mem hkl)
      have ht := HTot.out
      have hen := HEnd.out
      rw [runE_at hkl] at ht
      rw [endP_at hkl] at hen
      generalize l[k]'hkl = pk at *
      obtain ⟨px, py⟩ := pk
      obtain ⟨qx, qy⟩ := qk
      have hqk := Hqk.out
      simp only at p0 p1 ht hen
      obtain ⟨sx, hsx⟩ : ∃ s, s = px - qx := ⟨_, rfl⟩
      obtain ⟨sy, hsy⟩ : ∃ s, s = py - qy := ⟨_, rfl⟩
      have hbx : -2097152 ≤ sx ∧ sx ≤ 2097152 := by have h1 := hin.1; have h2 := hqk.1; simp only at h1 h2; omega
      have hby : -2097152 ≤ sy ∧ sy ≤ 2097152 := by have h1 := hin.2; have h2 := hqk.2; simp only at h1 h2; omega
      have hwsx : IntKind.i64.wrap (px - qx) = sx := by rw [hsx, IntKind.wrap_i64]; omega
      have hwsy : IntKind.i64.wrap (py - qy) = sy := by rw [hsy, IntKind.wrap_i64]; omega
      have hzx := zig_small hbx
      have hzy := zig_small hby
      have HZx := Lib.hid fun W => zig_any sx W (by omega)
      have HZy := Lib.hid fun W => zig_any sy W (by omega)
      rw [← hsx, ← hsy] at ht
      obtain ⟨zx, hzxe⟩ : ∃ z, z = zig sx := ⟨_, rfl⟩
      obtain ⟨zy, hzye⟩ : ∃ z, z = zig sy := ⟨_, rfl⟩
      rw [← hzxe] at HZx hzx ht
      rw [← hzye] at HZy hzy ht
      have hwzx : IntKind.u32.wrap (zx : Int) = (zx : Int) := by rw [IntKind.wrap_u32]; omega
      have hwzy : IntKind.u32.wrap (zy : Int) = (zy : Int) := by rw [IntKind.wrap_u32]; omega
      have Htot : Hid ((mk ++ [zx, zy]) ++ runE (px, py) (l.drop (k + 1)) = T) := by show _ = _; rw [← ht]; simp
      have Hlst : Hid (endP (px, py) (l.drop (k + 1)) = E) := hen
      have Hpin : Hid (inP (px, py)) := hin
      have Hlen2 : Hid ((mk ++ [zx, zy]).length ≤ 10001 + 2 * (k + 1)) := by show _ ≤ _; have := Hlen.out; simp; omega
      have hk0 : (0 : Int) ≤ (k : Int) := by omega
      have hk1 : (k : Int) < (L : Int) := by omega
      have hBr : base ≤ wr.heap.size := Nat.le_trans hB HBw.out.size
      clear ht hen hin hqk hsx hsy hbx hby hzx hzy hzxe hzye hkl
      go_upto_region 4 with (fail)
      obtain ⟨gb, hgb⟩ : ∃ g, g = wr.heap.size := ⟨_, rfl⟩
      obtain ⟨W0, hW0⟩ : ∃ W, W = wr.alloc (.cells #[.int .i64 px, .int .i64 py] 42) := ⟨_, rfl⟩
      have hOx : Own32 wr base v1 mk := HWp.out.2.1
      have HW0 : Hid (Whole W0.drew g 53 #[v1, .int .i64 qx, .int .i64 qy]) := by rw [hW0]; exact (HWp.out.1.alloc _).drew
      have HO0 : Hid (Own32 W0.drew base v1 mk) := by rw [hW0]; exact hOx.alloc _
      have HB0 : Hid (Whole W0.drew gb 42 #[.int .i64 px, .int .i64 py]) := by rw [hW0, hgb]; exact (Whole.new wr _ _).drew
      have HBB : Hid (Below base w W0.drew) := by rw [hW0]; exact (HBw.out.alloc hBr _).drew
      have Hvg := Lib.hid HWp.out.2.2
      have Hvb : Hid (v1.ownBlock ≠ some gb) := fun e => by have := (hOx.lt _ e).2; omega
      have Hgg : Hid (gb ≠ g) := by show _ ≠ _; have := HWp.out.1.lt; omega
      rw [← hW0, ← hgb]
      have HS0 : Hid (W0.drew.cell? ⟨g, 1, none⟩ = some (.int .i64 qx) ∧ W0.drew.cell? ⟨g, 2, none⟩ = some (.int .i64 qy) ∧ Whole W0.drew gb 42 #[.int .i64 px, .int .i64 py]) := ⟨HW0.out.cell 1, HW0.out.cell 2, HB0.out⟩
      have HW0a := Lib.hid (HW0.out.alloc (.cells #[.int .u32 (zx : Int), .int .u32 (zy : Int)] 44))
      have HS2 : Hid ((W0.drew.alloc (.cells #[.int .u32 (zx : Int), .int .u32 (zy : Int)] 44)).cell? ⟨g, 1, none⟩ = some (.int .i64 qx) ∧ (W0.drew.alloc (.cells #[.int .u32 (zx : Int), .int .u32 (zy : Int)] 44)).cell? ⟨g, 2, none⟩ = some (.int .i64 qy) ∧ Whole (W0.drew.alloc (.cells #[.int .u32 (zx : Int), .int .u32 (zy : Int)] 44)) gb 42 #[.int .i64 px, .int .i64 py]) := ⟨HW0a.out.cell 1, HW0a.out.cell 2, HB0.out.alloc _⟩
      obtain ⟨v3, w3, hrun, hG⟩ := app_two base v1 mk zx zy 2 HO0.out (by have := Hlen.out; have := Hl1.out; omega) (Nat.le_trans hB HBB.out.size)
      obtain ⟨a3, c3, rfl, _, _, _, _⟩ := hG.own.nums
      obtain ⟨L3, hL3⟩ : ∃ L, (mk ++ [zx, zy] : List Nat).length = L := ⟨_, rfl⟩
      rw [hL3] at hrun hG
      have Hrun := Lib.hid hrun
      have HW3 := Lib.hid (HW0.out.only hG.only Hvg.out)
      have HB3 := Lib.hid (HB0.out.only hG.only Hvb.out)
      have HS3 : Hid (w3.cell? ⟨g, 1, none⟩ = some (.int .i64 qx) ∧ w3.cell? ⟨g, 2, none⟩ = some (.int .i64 qy) ∧ Whole w3 gb 42 #[.int .i64 px, .int .i64 py]) := ⟨HW3.out.cell 1, HW3.out.cell 2, HB3.out⟩
      have hP4 := wp_store HW0.out hG Hvg.out
      have HW4 := Lib.hid hP4.1
      have hB4 : Whole (w3.setCell ⟨g, 0, none⟩ (.slice a3 L3 c3)) gb 42 #[.int .i64 px, .int .i64 py] := HB3.out.only (Only.setCell (S := fun k => k = g) (Only.refl _ _) (p := ⟨g, 0, none⟩) (fun _ => rfl) _) Hgg.out
      have HB4 := Lib.hid hB4
      have HS4 : Hid ((w3.setCell ⟨g, 0, none⟩ (.slice a3 L3 c3)).cell? ⟨g, 1, none⟩ = some (.int .i64 qx) ∧ (w3.setCell ⟨g, 0, none⟩ (.slice a3 L3 c3)).cell? ⟨g, 2, none⟩ = some (.int .i64 qy) ∧ Whole (w3.setCell ⟨g, 0, none⟩ (.slice a3 L3 c3)) gb 42 #[.int .i64 px, .int .i64 py]) := ⟨HW4.out.cell 1, HW4.out.cell 2, hB4⟩
      have HEND : Hid (Wp (((w3.setCell ⟨g, 0, none⟩ (.slice a3 L3 c3)).setCell ⟨g, 1, none⟩ (.int .i64 px)).setCell ⟨g, 2, none⟩ (.int .i64 py)) base g (.slice a3 L3 c3) (mk ++ [zx, zy]) px py ∧ Below base w (((w3.setCell ⟨g, 0, none⟩ (.slice a3 L3 c3)).setCell ⟨g, 1, none⟩ (.int .i64 px)).setCell ⟨g, 2, none⟩ (.int .i64 py))) := by
        refine ⟨⟨?_, ?_, hP4.2.2⟩, ?_⟩
        · have := (hP4.1.set 1 (.int .i64 px)).set 2 (.int .i64 py)
          simpa using this
        · exact (hP4.2.1.only (Only.setCell (S := fun k => k = g) (Only.refl _ _) (p := ⟨g, 1, none⟩) (fun _ => rfl) _) (fun b hb e => hP4.2.2 (by rw [hb, e]))).only (Only.setCell (S := fun k => k = g) (Only.refl _ _) (p := ⟨g, 2, none⟩) (fun _ => rfl) _) (fun b hb e => hP4.2.2 (by rw [hb, e]))
        · exact (((HBB.out.trans (hG.below HO0.out (Nat.le_trans hB HBB.out.size))).setCell (p := ⟨g, 0, none⟩) hg _).setCell (p := ⟨g, 1, none⟩) hg _).setCell (p := ⟨g, 2, none⟩) hg _
      clear hrun hG hP4 hB4 hOx hW0 hgb p0 p1 HTot HEnd Hqk hL3
      refine wp_region_held (S := fun W => W.cell? ⟨g, 1, none⟩ = some (.int .i64 qx) ∧ W.cell? ⟨g, 2, none⟩ = some (.int .i64 qy) ∧ Whole W gb 42 #[.int .i64 px, .int .i64 py]) (by kernel_rfl) ?_
      refine wpAnyH_take (i := 0) (oi := { dst := some 19, op := Go.Op.move (Go.Operand.tmp 0), type := 52, pos := "path.go:178", after := #[], guard := none }) (v := ?_) rfl (by kernel_rfl) (by kernel_rfl) (by kernel_rfl) (fun _ _ _ h => h) (Or.inl ⟨by rfl, ?_⟩) (HS0.out) ?_
      rotate_left 1
      · intro w5 hSw
        go_simp; all_goals (with_reducible rfl)
      try simp only [Act.put, List.setIfInBounds_toArray, List.set_cons_zero, List.set_cons_succ]
      refine wpAnyH_take (i := 1) (oi := { dst := some 20, op := Go.Op.move (Go.Operand.tmp 0), type := 52, pos := "path.go:178", after := #[], guard := none }) (v := ?_) rfl (by kernel_rfl) (by kernel_rfl) (by kernel_rfl) (fun _ _ _ h => h) (Or.inl ⟨by rfl, ?_⟩) (HS0.out) ?_
      rotate_left 1
      · intro w5 hSw
        go_simp; all_goals (with_reducible rfl)
      try simp only [Act.put, List.setIfInBounds_toArray, List.set_cons_zero, List.set_cons_succ]
      refine wpAnyH_take (i := 2) (oi := { dst := some 21, op := Go.Op.nilCheck (Go.Operand.tmp 20), type := 0, pos := "path.go:178", after := #[{ on := 1, ground := Go.Ground.data }], guard := none }) (v := ?_) rfl (by kernel_rfl) (by kernel_rfl) (by kernel_rfl) (fun _ _ _ h => h) (Or.inl ⟨by rfl, ?_⟩) (HS0.out) ?_
      rotate_left 1
      · intro w5 hSw
        go_simp; all_goals (with_reducible rfl)
      try simp only [Act.put, List.setIfInBounds_toArray, List.set_cons_zero, List.set_cons_succ]
      refine wpAnyH_take (i := 3) (oi := { dst := some 22, op := Go.Op.fieldAddr 53 (Go.Operand.tmp 21) 0, type := 0, pos := "path.go:178", after := #[{ on := 2, ground := Go.Ground.data }], guard := none }) (v := ?_) rfl (by kernel_rfl) (by kernel_rfl) (by kernel_rfl) (fun _ _ _ h => h) (Or.inl ⟨by rfl, ?_⟩) (HS0.out) ?_
      rotate_left 1
      · intro w5 hSw
        go_simp; all_goals (with_reducible rfl)
      try simp only [Act.put, List.setIfInBounds_toArray, List.set_cons_zero, List.set_cons_succ]
      refine wpAnyH_take (i := 5) (oi := { dst := some 24, op := Go.Op.fieldAddr 42 (Go.Operand.tmp 7) 0, type := 0, pos := "path.go:178", after := #[], guard := none }) (v := ?_) rfl (by kernel_rfl) (by kernel_rfl) (by kernel_rfl) (fun _ _ _ h => h) (Or.inl ⟨by rfl, ?_⟩) (HS0.out) ?_
      rotate_left 1
      · intro w5 hSw
        go_simp; all_goals (with_reducible rfl)
      try simp only [Act.put, List.setIfInBounds_toArray, List.set_cons_zero, List.set_cons_succ]
      refine wpAnyH_take (i := 6) (oi := { dst := some 25, op := Go.Op.load 3 (Go.Operand.tmp 24), type := 3, pos := "path.go:178", after := #[{ on := 5, ground := Go.Ground.data }], guard := none }) (v := ?_) rfl (by kernel_rfl) (by kernel_rfl) (by kernel_rfl) (fun _ _ _ h => h) (Or.inl ⟨by rfl, ?_⟩) (HS0.out) ?_
      rotate_left 1
      · intro w5 hSw
        have d1 := hSw.2.2.cell 0
        simp only [List.getElem?_toArray, List.getElem?_cons_zero, List.getElem?_cons_succ] at d1
        go_simp; all_goals (with_reducible rfl)
      try simp only [Act.put, List.setIfInBounds_toArray, List.set_cons_zero, List.set_cons_succ]
      refine wpAnyH_take (i := 7) (oi := { dst := some 26, op := Go.Op.move (Go.Operand.tmp 0), type := 52, pos := "path.go:178", after := #[], guard := none }) (v := ?_) rfl (by kernel_rfl) (by kernel_rfl) (by kernel_rfl) (fun _ _ _ h => h) (Or.inl ⟨by rfl, ?_⟩) (HS0.out) ?_
      rotate_left 1
      · intro w5 hSw
        go_simp; all_goals (with_reducible rfl)
      try simp only [Act.put, List.setIfInBounds_toArray, List.set_cons_zero, List.set_cons_succ]
      refine wpAnyH_take (i := 8) (oi := { dst := some 27, op := Go.Op.nilCheck (Go.Operand.tmp 26), type := 0, pos := "path.go:178", after := #[{ on := 7, ground := Go.Ground.data }], guard := none }) (v := ?_) rfl (by kernel_rfl) (by kernel_rfl) (by kernel_rfl) (fun _ _ _ h => h) (Or.inl ⟨by rfl, ?_⟩) (HS0.out) ?_
      rotate_left 1
      · intro w5 hSw
        go_simp; all_goals (with_reducible rfl)
      try simp only [Act.put, List.setIfInBounds_toArray, List.set_cons_zero, List.set_cons_succ]
      refine wpAnyH_take (i := 9) (oi := { dst := some 28, op := Go.Op.fieldAddr 53 (Go.Operand.tmp 27) 1, type := 0, pos := "path.go:178", after := #[{ on := 8, ground := Go.Ground.data }], guard := none }) (v := ?_) rfl (by kernel_rfl) (by kernel_rfl) (by kernel_rfl) (fun _ _ _ h => h) (Or.inl ⟨by rfl, ?_⟩) (HS0.out) ?_
      rotate_left 1
      · intro w5 hSw
        go_simp; all_goals (with_reducible rfl)
      try simp only [Act.put, List.setIfInBounds_toArray, List.set_cons_zero, List.set_cons_succ]
      refine wpAnyH_take (i := 10) (oi := { dst := some 29, op := Go.Op.fieldAddr 42 (Go.Operand.tmp 28) 0, type := 0, pos := "path.go:178", after := #[{ on := 9, ground := Go.Ground.data }], guard := none }) (v := ?_) rfl (by kernel_rfl) (by kernel_rfl) (by kernel_rfl) (fun _ _ _ h => h) (Or.inl ⟨by rfl, ?_⟩) (HS0.out) ?_
      rotate_left 1
      · intro w5 hSw
        go_simp; all_goals (with_reducible rfl)
      try simp only [Act.put, List.setIfInBounds_toArray, List.set_cons_zero, List.set_cons_succ]
      refine wpAnyH_take (i := 11) (oi := { dst := some 30, op := Go.Op.load 3 (Go.Operand.tmp 29), type := 3, pos := "path.go:178", after := #[{ on := 10, ground := Go.Ground.data }], guard := none }) (v := ?_) rfl (by kernel_rfl) (by kernel_rfl) (by kernel_rfl) (fun _ _ _ h => h) (Or.inl ⟨by rfl, ?_⟩) (HS0.out) ?_
      rotate_left 1
      · intro w5 hSw
        have d3 := hSw.1
        go_simp; all_goals (with_reducible rfl)
      try simp only [Act.put, List.setIfInBounds_toArray, List.set_cons_zero, List.set_cons_succ]
      refine wpAnyH_take (i := 12) (oi := { dst := some 31, op := Go.Op.binOp Go.BinOp.sub 3 (Go.Operand.tmp 25) (Go.Operand.tmp 30) 3, type := 3, pos := "path.go:178", after := #[{ on := 6, ground := Go.Ground.data }, { on := 11, ground := Go.Ground.data }], guard := none }) (v := ?_) rfl (by kernel_rfl) (by kernel_rfl) (by kernel_rfl) (fun _ _ _ h => h) (Or.inl ⟨by rfl, ?_⟩) (HS0.out) ?_
      rotate_left 1
      · intro w5 hSw
        go_simp; all_goals (with_reducible rfl)
      try simp only [Act.put, List.setIfInBounds_toArray, List.set_cons_zero, List.set_cons_succ]
      refine wpAnyH_take (i := 15) (oi := { dst := some 34, op := Go.Op.fieldAddr 42 (Go.Operand.tmp 7) 1, type := 0, pos := "path.go:178", after := #[], guard := none }) (v := ?_) rfl (by kernel_rfl) (by kernel_rfl) (by kernel_rfl) (fun _ _ _ h => h) (Or.inl ⟨by rfl, ?_⟩) (HS0.out) ?_
      rotate_left 1
      · intro w5 hSw
        go_simp; all_goals (with_reducible rfl)
      try simp only [Act.put, List.setIfInBounds_toArray, List.set_cons_zero, List.set_cons_succ]
      refine wpAnyH_take (i := 16) (oi := { dst := some 35, op := Go.Op.load 3 (Go.Operand.tmp 34), type := 3, pos := "path.go:178", after := #[{ on := 15, ground := Go.Ground.data }], guard := none }) (v := ?_) rfl (by kernel_rfl) (by kernel_rfl) (by kernel_rfl) (fun _ _ _ h => h) (Or.inl ⟨by rfl, ?_⟩) (HS0.out) ?_
      rotate_left 1
      · intro w5 hSw
        have d2 := hSw.2.2.cell 1
        simp only [List.getElem?_toArray, List.getElem?_cons_zero, List.getElem?_cons_succ] at d2
        go_simp; all_goals (with_reducible rfl)
      try simp only [Act.put, List.setIfInBounds_toArray, List.set_cons_zero, List.set_cons_succ]
      refine wpAnyH_take (i := 17) (oi := { dst := some 36, op := Go.Op.move (Go.Operand.tmp 0), type := 52, pos := "path.go:178", after := #[], guard := none }) (v := ?_) rfl (by kernel_rfl) (by kernel_rfl) (by kernel_rfl) (fun _ _ _ h => h) (Or.inl ⟨by rfl, ?_⟩) (HS0.out) ?_
      rotate_left 1
      · intro w5 hSw
        go_simp; all_goals (with_reducible rfl)
      try simp only [Act.put, List.setIfInBounds_toArray, List.set_cons_zero, List.set_cons_succ]
      refine wpAnyH_take (i := 18) (oi := { dst := some 37, op := Go.Op.nilCheck (Go.Operand.tmp 36), type := 0, pos := "path.go:178", after := #[{ on := 17, ground := Go.Ground.data }], guard := none }) (v := ?_) rfl (by kernel_rfl) (by kernel_rfl) (by kernel_rfl) (fun _ _ _ h => h) (Or.inl ⟨by rfl, ?_⟩) (HS0.out) ?_
      rotate_left 1
      · intro w5 hSw
        go_simp; all_goals (with_reducible rfl)
      try simp only [Act.put, List.setIfInBounds_toArray, List.set_cons_zero, List.set_cons_succ]
      refine wpAnyH_take (i := 19) (oi := { dst := some 38, op := Go.Op.fieldAddr 53 (Go.Operand.tmp 37) 1, type := 0, pos := "path.go:178", after := #[{ on := 18, ground := Go.Ground.data }], guard := none }) (v := ?_) rfl (by kernel_rfl) (by kernel_rfl) (by kernel_rfl) (fun _ _ _ h => h) (Or.inl ⟨by rfl, ?_⟩) (HS0.out) ?_
      rotate_left 1
      · intro w5 hSw
        go_simp; all_goals (with_reducible rfl)
      try simp only [Act.put, List.setIfInBounds_toArray, List.set_cons_zero, List.set_cons_succ]
      refine wpAnyH_take (i := 20) (oi := { dst := some 39, op := Go.Op.fieldAddr 42 (Go.Operand.tmp 38) 1, type := 0, pos := "path.go:178", after := #[{ on := 19, ground := Go.Ground.data }], guard := none }) (v := ?_) rfl (by kernel_rfl) (by kernel_rfl) (by kernel_rfl) (fun _ _ _ h => h) (Or.inl ⟨by rfl, ?_⟩) (HS0.out) ?_
      rotate_left 1
      · intro w5 hSw
        go_simp; all_goals (with_reducible rfl)
      try simp only [Act.put, List.setIfInBounds_toArray, List.set_cons_zero, List.set_cons_succ]
      refine wpAnyH_take (i := 21) (oi := { dst := some 40, op := Go.Op.load 3 (Go.Operand.tmp 39), type := 3, pos := "path.go:178", after := #[{ on := 20, ground := Go.Ground.data }], guard := none }) (v := ?_) rfl (by kernel_rfl) (by kernel_rfl) (by kernel_rfl) (fun _ _ _ h => h) (Or.inl ⟨by rfl, ?_⟩) (HS0.out) ?_
      rotate_left 1
      · intro w5 hSw
        have d4 := hSw.2.1
        go_simp; all_goals (with_reducible rfl)
      try simp only [Act.put, List.setIfInBounds_toArray, List.set_cons_zero, List.set_cons_succ]
      refine wpAnyH_take (i := 22) (oi := { dst := some 41, op := Go.Op.binOp Go.BinOp.sub 3 (Go.Operand.tmp 35) (Go.Operand.tmp 40) 3, type := 3, pos := "path.go:178", after := #[{ on := 16, ground := Go.Ground.data }, { on := 21, ground := Go.Ground.data }], guard := none }) (v := ?_) rfl (by kernel_rfl) (by kernel_rfl) (by kernel_rfl) (fun _ _ _ h => h) (Or.inl ⟨by rfl, ?_⟩) (HS0.out) ?_
      rotate_left 1
      · intro w5 hSw
        go_simp; all_goals (with_reducible rfl)
      try simp only [Act.put, List.setIfInBounds_toArray, List.set_cons_zero, List.set_cons_succ]
      refine wpAnyH_ready (rs := [4, 13]) (by kernel_rfl) (by simp) ?_
      refine (AllReadyH.cons (o := { dst := some 23, op := Go.Op.load 22 (Go.Operand.tmp 22), type := 22, pos := "path.go:178", after := #[{ on := 3, ground := Go.Ground.data }], guard := none }) rfl (fun K hK => ?_) (AllReadyH.cons (o := { dst := some 32, op := Go.Op.call { callee := Go.Callee.value (Go.Operand.func 39), args := #[Go.Operand.tmp 31], argTypes := #[3] }, type := 59, pos := "path.go:178", after := #[{ on := 12, ground := Go.Ground.data }], guard := none }) rfl (fun K hK => ?_) AllReadyH.nil))
      · have d0 := HW0.out.cell 0
        simp only [List.getElem?_toArray, List.getElem?_cons_zero, List.getElem?_cons_succ] at d0
        go_simp
        refine hK.out _ _ (HS0.out) (fun _ => ?_)
        clear hK K
        try simp only [Act.put, List.setIfInBounds_toArray, List.set_cons_zero, List.set_cons_succ]
        refine wpAnyH_ready (rs := [13]) (by kernel_rfl) (by simp) ?_
        refine (AllReadyH.cons (o := { dst := some 32, op := Go.Op.call { callee := Go.Callee.value (Go.Operand.func 39), args := #[Go.Operand.tmp 31], argTypes := #[3] }, type := 59, pos := "path.go:178", after := #[{ on := 12, ground := Go.Ground.data }], guard := none }) rfl (fun K hK => ?_) AllReadyH.nil)
        go_simp
        refine (HZx.out _).mono ?_; rintro e Y ⟨rfl, rfl⟩
        go_wp2_with fail
        refine hK.out _ _ (HS0.out) (fun _ => ?_)
        clear hK K
        try simp only [Act.put, List.setIfInBounds_toArray, List.set_cons_zero, List.set_cons_succ]
        refine wpAnyH_take (i := 14) (oi := { dst := some 33, op := Go.Op.convert 59 44 (Go.Operand.tmp 32), type := 44, pos := "path.go:178", after := #[{ on := 13, ground := Go.Ground.data }], guard := none }) (v := ?_) rfl (by kernel_rfl) (by kernel_rfl) (by kernel_rfl) (fun _ _ _ h => h) (Or.inl ⟨by rfl, ?_⟩) (HS0.out) ?_
        rotate_left 1
        · intro w5 hSw
          go_simp; all_goals (with_reducible rfl)
        try simp only [Act.put, List.setIfInBounds_toArray, List.set_cons_zero, List.set_cons_succ]
        refine wpAnyH_ready (rs := [23]) (by kernel_rfl) (by simp) ?_
        refine (AllReadyH.cons (o := { dst := some 42, op := Go.Op.call { callee := Go.Callee.value (Go.Operand.func 39), args := #[Go.Operand.tmp 41], argTypes := #[3] }, type := 59, pos := "path.go:178", after := #[{ on := 22, ground := Go.Ground.data }, { on := 13, ground := Go.Ground.chain }], guard := none }) rfl (fun K hK => ?_) AllReadyH.nil)
        go_simp
        refine (HZy.out _).mono ?_; rintro e Y ⟨rfl, rfl⟩
        go_wp2_with fail
        refine hK.out _ _ (HS0.out) (fun _ => ?_)
        clear hK K
        try simp only [Act.put, List.setIfInBounds_toArray, List.set_cons_zero, List.set_cons_succ]
        refine wpAnyH_take (i := 24) (oi := { dst := some 43, op := Go.Op.convert 59 44 (Go.Operand.tmp 42), type := 44, pos := "path.go:178", after := #[{ on := 23, ground := Go.Ground.data }], guard := none }) (v := ?_) rfl (by kernel_rfl) (by kernel_rfl) (by kernel_rfl) (fun _ _ _ h => h) (Or.inl ⟨by rfl, ?_⟩) (HS0.out) ?_
        rotate_left 1
        · intro w5 hSw
          go_simp; all_goals (with_reducible rfl)
        try simp only [Act.put, List.setIfInBounds_toArray, List.set_cons_zero, List.set_cons_succ]
        refine wpAnyH_ready (rs := [25]) (by kernel_rfl) (by simp) ?_
        refine (AllReadyH.cons (o := { dst := some 44, op := Go.Op.buildSlice 22 2 #[(0, Go.Operand.tmp 33), (1, Go.Operand.tmp 43)], type := 22, pos := "path.go:178", after := #[{ on := 14, ground := Go.Ground.data }, { on := 24, ground := Go.Ground.data }], guard := none }) rfl (fun K hK => ?_) AllReadyH.nil)
        go_simp
        refine hK.out _ _ (HS2.out) (fun _ => ?_)
        clear hK K
        try simp only [Act.put, List.setIfInBounds_toArray, List.set_cons_zero, List.set_cons_succ]
        refine wpAnyH_ready (rs := [26]) (by kernel_rfl) (by simp) ?_
        refine (AllReadyH.cons (o := { dst := some 45, op := Go.Op.call { callee := Go.Callee.builtin Go.Builtin.append, args := #[Go.Operand.tmp 23, Go.Operand.tmp 44], argTypes := #[22, 22] }, type := 22, pos := "path.go:178", after := #[{ on := 4, ground := Go.Ground.data }, { on := 25, ground := Go.Ground.data }, { on := 23, ground := Go.Ground.chain }], guard := none }) rfl (fun K hK => ?_) AllReadyH.nil)
        refine held_app (by rfl) (.tmp 23) (.tmp 44) 22 rfl _ _ (.slice a3 L3 c3) rfl rfl (Hrun.out) ?_
        refine hK.out _ _ (HS3.out) (fun _ => ?_)
        clear hK K
        try simp only [Act.put, List.setIfInBounds_toArray, List.set_cons_zero, List.set_cons_succ]
        refine wpAnyH_take (i := 27) (oi := { dst := some 46, op := Go.Op.nilCheck (Go.Operand.tmp 19), type := 0, pos := "path.go:178", after := #[{ on := 0, ground := Go.Ground.data }, { on := 0, ground := Go.Ground.phase }, { on := 1, ground := Go.Ground.phase }, { on := 2, ground := Go.Ground.phase }, { on := 3, ground := Go.Ground.phase }, { on := 4, ground := Go.Ground.phase }, { on := 5, ground := Go.Ground.phase }, { on := 6, ground := Go.Ground.phase }, { on := 7, ground := Go.Ground.phase }, { on := 8, ground := Go.Ground.phase }, { on := 9, ground := Go.Ground.phase }, { on := 10, ground := Go.Ground.phase }, { on := 11, ground := Go.Ground.phase }, { on := 12, ground := Go.Ground.phase }, { on := 13, ground := Go.Ground.phase }, { on := 14, ground := Go.Ground.phase }, { on := 15, ground := Go.Ground.phase }, { on := 16, ground := Go.Ground.phase }, { on := 17, ground := Go.Ground.phase }, { on := 18, ground := Go.Ground.phase }, { on := 19, ground := Go.Ground.phase }, { on := 20, ground := Go.Ground.phase }, { on := 21, ground := Go.Ground.phase }, { on := 22, ground := Go.Ground.phase }, { on := 23, ground := Go.Ground.phase }, { on := 24, ground := Go.Ground.phase }, { on := 25, ground := Go.Ground.phase }, { on := 26, ground := Go.Ground.phase }], guard := none }) (v := ?_) rfl (by kernel_rfl) (by kernel_rfl) (by kernel_rfl) (fun _ _ _ h => h) (Or.inl ⟨by rfl, ?_⟩) (HS3.out) ?_
        rotate_left 1
        · intro w5 hSw
          go_simp; all_goals (with_reducible rfl)
        try simp only [Act.put, List.setIfInBounds_toArray, List.set_cons_zero, List.set_cons_succ]
        refine wpAnyH_take (i := 28) (oi := { dst := some 47, op := Go.Op.fieldAddr 53 (Go.Operand.tmp 46) 0, type := 0, pos := "path.go:178", after := #[{ on := 27, ground := Go.Ground.data }, { on := 0, ground := Go.Ground.phase }, { on := 1, ground := Go.Ground.phase }, { on := 2, ground := Go.Ground.phase }, { on := 3, ground := Go.Ground.phase }, { on := 4, ground := Go.Ground.phase }, { on := 5, ground := Go.Ground.phase }, { on := 6, ground := Go.Ground.phase }, { on := 7, ground := Go.Ground.phase }, { on := 8, ground := Go.Ground.phase }, { on := 9, ground := Go.Ground.phase }, { on := 10, ground := Go.Ground.phase }, { on := 11, ground := Go.Ground.phase }, { on := 12, ground := Go.Ground.phase }, { on := 13, ground := Go.Ground.phase }, { on := 14, ground := Go.Ground.phase }, { on := 15, ground := Go.Ground.phase }, { on := 16, ground := Go.Ground.phase }, { on := 17, ground := Go.Ground.phase }, { on := 18, ground := Go.Ground.phase }, { on := 19, ground := Go.Ground.phase }, { on := 20, ground := Go.Ground.phase }, { on := 21, ground := Go.Ground.phase }, { on := 22, ground := Go.Ground.phase }, { on := 23, ground := Go.Ground.phase }, { on := 24, ground := Go.Ground.phase }, { on := 25, ground := Go.Ground.phase }, { on := 26, ground := Go.Ground.phase }], guard := none }) (v := ?_) rfl (by kernel_rfl) (by kernel_rfl) (by kernel_rfl) (fun _ _ _ h => h) (Or.inl ⟨by rfl, ?_⟩) (HS3.out) ?_
        rotate_left 1
        · intro w5 hSw
          go_simp; all_goals (with_reducible rfl)
        try simp only [Act.put, List.setIfInBounds_toArray, List.set_cons_zero, List.set_cons_succ]
        refine wpAnyH_ready (rs := [29]) (by kernel_rfl) (by simp) ?_
        refine (AllReadyH.cons (o := { dst := none, op := Go.Op.store 22 (Go.Operand.tmp 47) (Go.Operand.tmp 45), type := 0, pos := "path.go:178", after := #[{ on := 28, ground := Go.Ground.data }, { on := 26, ground := Go.Ground.data }, { on := 26, ground := Go.Ground.chain }, { on := 0, ground := Go.Ground.phase }, { on := 1, ground := Go.Ground.phase }, { on := 2, ground := Go.Ground.phase }, { on := 3, ground := Go.Ground.phase }, { on := 4, ground := Go.Ground.phase }, { on := 5, ground := Go.Ground.phase }, { on := 6, ground := Go.Ground.phase }, { on := 7, ground := Go.Ground.phase }, { on := 8, ground := Go.Ground.phase }, { on := 9, ground := Go.Ground.phase }, { on := 10, ground := Go.Ground.phase }, { on := 11, ground := Go.Ground.phase }, { on := 12, ground := Go.Ground.phase }, { on := 13, ground := Go.Ground.phase }, { on := 14, ground := Go.Ground.phase }, { on := 15, ground := Go.Ground.phase }, { on := 16, ground := Go.Ground.phase }, { on := 17, ground := Go.Ground.phase }, { on := 18, ground := Go.Ground.phase }, { on := 19, ground := Go.Ground.phase }, { on := 20, ground := Go.Ground.phase }, { on := 21, ground := Go.Ground.phase }, { on := 22, ground := Go.Ground.phase }, { on := 23, ground := Go.Ground.phase }, { on := 24, ground := Go.Ground.phase }, { on := 25, ground := Go.Ground.phase }, { on := 26, ground := Go.Ground.phase }], guard := none }) rfl (fun K hK => ?_) AllReadyH.nil)
        have d5 := HW3.out.cell 0
        have f5 := HW3.out.frozen 0
        simp only [List.getElem?_toArray, List.getElem?_cons_zero, List.getElem?_cons_succ] at d5
        go_simp
        refine hK.out _ _ (HS4.out) (fun _ => ?_)
        clear hK K
        try simp only [Act.put, List.setIfInBounds_toArray, List.set_cons_zero, List.set_cons_succ]
        refine wpAnyH_done (by kernel_rfl) ?_ _
        have k0 := HB4.out.cell 0
        have k1 := HB4.out.cell 1
        have m1 := HW4.out.cell 1
        have m2 := HW4.out.cell 2
        have g1 := HW4.out.frozen 1
        have g2 := HW4.out.frozen 2
        simp only [List.getElem?_toArray, List.getElem?_cons_zero, List.getElem?_cons_succ] at k0 k1 m1 m2
        go_wp2_with fail
        go_roundw
        case rel => exact ⟨k + 1, mk ++ [zx, zy], (px, py), .slice a3 L3 c3, Hlt.out, by go_num, HEND.out.1, HEND.out.2, Htot, Hlst, Hpin, Hlen2⟩
        case measure => have := Hlt.out; simp [intOf]; omega
      · go_simp
        refine (HZx.out _).mono ?_; rintro e Y ⟨rfl, rfl⟩
        go_wp2_with fail
        refine hK.out _ _ (HS0.out) (fun _ => ?_)
        clear hK K
        try simp only [Act.put, List.setIfInBounds_toArray, List.set_cons_zero, List.set_cons_succ]
        refine wpAnyH_take (i := 14) (oi := { dst := some 33, op := Go.Op.convert 59 44 (Go.Operand.tmp 32), type := 44, pos := "path.go:178", after := #[{ on := 13, ground := Go.Ground.data }], guard := none }) (v := ?_) rfl (by kernel_rfl) (by kernel_rfl) (by kernel_rfl) (fun _ _ _ h => h) (Or.inl ⟨by rfl, ?_⟩) (HS0.out) ?_
        rotate_left 1
        · intro w5 hSw
          go_simp; all_goals (with_reducible rfl)
        try simp only [Act.put, List.setIfInBounds_toArray, List.set_cons_zero, List.set_cons_succ]
        refine wpAnyH_ready (rs := [4, 23]) (by kernel_rfl) (by simp) ?_
        refine (AllReadyH.cons (o := { dst := some 23, op := Go.Op.load 22 (Go.Operand.tmp 22), type := 22, pos := "path.go:178", after := #[{ on := 3, ground := Go.Ground.data }], guard := none }) rfl (fun K hK => ?_) (AllReadyH.cons (o := { dst := some 42, op := Go.Op.call { callee := Go.Callee.value (Go.Operand.func 39), args := #[Go.Operand.tmp 41], argTypes := #[3] }, type := 59, pos := "path.go:178", after := #[{ on := 22, ground := Go.Ground.data }, { on := 13, ground := Go.Ground.chain }], guard := none }) rfl (fun K hK => ?_) AllReadyH.nil))
        · have d0 := HW0.out.cell 0
          simp only [List.getElem?_toArray, List.getElem?_cons_zero, List.getElem?_cons_succ] at d0
          go_simp
          refine hK.out _ _ (HS0.out) (fun _ => ?_)
          clear hK K
          try simp only [Act.put, List.setIfInBounds_toArray, List.set_cons_zero, List.set_cons_succ]
          refine wpAnyH_ready (rs := [23]) (by kernel_rfl) (by simp) ?_
          refine (AllReadyH.cons (o := { dst := some 42, op := Go.Op.call { callee := Go.Callee.value (Go.Operand.func 39), args := #[Go.Operand.tmp 41], argTypes := #[3] }, type := 59, pos := "path.go:178", after := #[{ on := 22, ground := Go.Ground.data }, { on := 13, ground := Go.Ground.chain }], guard := none }) rfl (fun K hK => ?_) AllReadyH.nil)
          go_simp
          refine (HZy.out _).mono ?_; rintro e Y ⟨rfl, rfl⟩
          go_wp2_with fail
          refine hK.out _ _ (HS0.out) (fun _ => ?_)
          clear hK K
          try simp only [Act.put, List.setIfInBounds_toArray, List.set_cons_zero, List.set_cons_succ]
          refine wpAnyH_take (i := 24) (oi := { dst := some 43, op := Go.Op.convert 59 44 (Go.Operand.tmp 42), type := 44, pos := "path.go:178", after := #[{ on := 23, ground := Go.Ground.data }], guard := none }) (v := ?_) rfl (by kernel_rfl) (by kernel_rfl) (by kernel_rfl) (fun _ _ _ h => h) (Or.inl ⟨by rfl, ?_⟩) (HS0.out) ?_
          rotate_left 1
          · intro w5 hSw
            go_simp; all_goals (with_reducible rfl)
          try simp only [Act.put, List.setIfInBounds_toArray, List.set_cons_zero, List.set_cons_succ]
          refine wpAnyH_ready (rs := [25]) (by kernel_rfl) (by simp) ?_
          refine (AllReadyH.cons (o := { dst := some 44, op := Go.Op.buildSlice 22 2 #[(0, Go.Operand.tmp 33), (1, Go.Operand.tmp 43)], type := 22, pos := "path.go:178", after := #[{ on := 14, ground := Go.Ground.data }, { on := 24, ground := Go.Ground.data }], guard := none }) rfl (fun K hK => ?_) AllReadyH.nil)
          go_simp
          refine hK.out _ _ (HS2.out) (fun _ => ?_)
          clear hK K
          try simp only [Act.put, List.setIfInBounds_toArray, List.set_cons_zero, List.set_cons_succ]
          refine wpAnyH_ready (rs := [26]) (by kernel_rfl) (by simp) ?_
          refine (AllReadyH.cons (o := { dst := some 45, op := Go.Op.call { callee := Go.Callee.builtin Go.Builtin.append, args := #[Go.Operand.tmp 23, Go.Operand.tmp 44], argTypes := #[22, 22] }, type := 22, pos := "path.go:178", after := #[{ on := 4, ground := Go.Ground.data }, { on := 25, ground := Go.Ground.data }, { on := 23, ground := Go.Ground.chain }], guard := none }) rfl (fun K hK => ?_) AllReadyH.nil)
          refine held_app (by rfl) (.tmp 23) (.tmp 44) 22 rfl _ _ (.slice a3 L3 c3) rfl rfl (Hrun.out) ?_
          refine hK.out _ _ (HS3.out) (fun _ => ?_)
          clear hK K
          try simp only [Act.put, List.setIfInBounds_toArray, List.set_cons_zero, List.set_cons_succ]
          refine wpAnyH_take (i := 27) (oi := { dst := some 46, op := Go.Op.nilCheck (Go.Operand.tmp 19), type := 0, pos := "path.go:178", after := #[{ on := 0, ground := Go.Ground.data }, { on := 0, ground := Go.Ground.phase }, { on := 1, ground := Go.Ground.phase }, { on := 2, ground := Go.Ground.phase }, { on := 3, ground := Go.Ground.phase }, { on := 4, ground := Go.Ground.phase }, { on := 5, ground := Go.Ground.phase }, { on := 6, ground := Go.Ground.phase }, { on := 7, ground := Go.Ground.phase }, { on := 8, ground := Go.Ground.phase }, { on := 9, ground := Go.Ground.phase }, { on := 10, ground := Go.Ground.phase }, { on := 11, ground := Go.Ground.phase }, { on := 12, ground := Go.Ground.phase }, { on := 13, ground := Go.Ground.phase }, { on := 14, ground := Go.Ground.phase }, { on := 15, ground := Go.Ground.phase }, { on := 16, ground := Go.Ground.phase }, { on := 17, ground := Go.Ground.phase }, { on := 18, ground := Go.Ground.phase }, { on := 19, ground := Go.Ground.phase }, { on := 20, ground := Go.Ground.phase }, { on := 21, ground := Go.Ground.phase }, { on := 22, ground := Go.Ground.phase }, { on := 23, ground := Go.Ground.phase }, { on := 24, ground := Go.Ground.phase }, { on := 25, ground := Go.Ground.phase }, { on := 26, ground := Go.Ground.phase }], guard := none }) (v := ?_) rfl (by kernel_rfl) (by kernel_rfl) (by kernel_rfl) (fun _ _ _ h => h) (Or.inl ⟨by rfl, ?_⟩) (HS3.out) ?_
          rotate_left 1
          · intro w5 hSw
            go_simp; all_goals (with_reducible rfl)
          try simp only [Act.put, List.setIfInBounds_toArray, List.set_cons_zero, List.set_cons_succ]
          refine wpAnyH_take (i := 28) (oi := { dst := some 47, op := Go.Op.fieldAddr 53 (Go.Operand.tmp 46) 0, type := 0, pos := "path.go:178", after := #[{ on := 27, ground := Go.Ground.data }, { on := 0, ground := Go.Ground.phase }, { on := 1, ground := Go.Ground.phase }, { on := 2, ground := Go.Ground.phase }, { on := 3, ground := Go.Ground.phase }, { on := 4, ground := Go.Ground.phase }, { on := 5, ground := Go.Ground.phase }, { on := 6, ground := Go.Ground.phase }, { on := 7, ground := Go.Ground.phase }, { on := 8, ground := Go.Ground.phase }, { on := 9, ground := Go.Ground.phase }, { on := 10, ground := Go.Ground.phase }, { on := 11, ground := Go.Ground.phase }, { on := 12, ground := Go.Ground.phase }, { on := 13, ground := Go.Ground.phase }, { on := 14, ground := Go.Ground.phase }, { on := 15, ground := Go.Ground.phase }, { on := 16, ground := Go.Ground.phase }, { on := 17, ground := Go.Ground.phase }, { on := 18, ground := Go.Ground.phase }, { on := 19, ground := Go.Ground.phase }, { on := 20, ground := Go.Ground.phase }, { on := 21, ground := Go.Ground.phase }, { on := 22, ground := Go.Ground.phase }, { on := 23, ground := Go.Ground.phase }, { on := 24, ground := Go.Ground.phase }, { on := 25, ground := Go.Ground.phase }, { on := 26, ground := Go.Ground.phase }], guard := none }) (v := ?_) rfl (by kernel_rfl) (by kernel_rfl) (by kernel_rfl) (fun _ _ _ h => h) (Or.inl ⟨by rfl, ?_⟩) (HS3.out) ?_
          rotate_left 1
          · intro w5 hSw
            go_simp; all_goals (with_reducible rfl)
          try simp only [Act.put, List.setIfInBounds_toArray, List.set_cons_zero, List.set_cons_succ]
          refine wpAnyH_ready (rs := [29]) (by kernel_rfl) (by simp) ?_
          refine (AllReadyH.cons (o := { dst := none, op := Go.Op.store 22 (Go.Operand.tmp 47) (Go.Operand.tmp 45), type := 0, pos := "path.go:178", after := #[{ on := 28, ground := Go.Ground.data }, { on := 26, ground := Go.Ground.data }, { on := 26, ground := Go.Ground.chain }, { on := 0, ground := Go.Ground.phase }, { on := 1, ground := Go.Ground.phase }, { on := 2, ground := Go.Ground.phase }, { on := 3, ground := Go.Ground.phase }, { on := 4, ground := Go.Ground.phase }, { on := 5, ground := Go.Ground.phase }, { on := 6, ground := Go.Ground.phase }, { on := 7, ground := Go.Ground.phase }, { on := 8, ground := Go.Ground.phase }, { on := 9, ground := Go.Ground.phase }, { on := 10, ground := Go.Ground.phase }, { on := 11, ground := Go.Ground.phase }, { on := 12, ground := Go.Ground.phase }, { on := 13, ground := Go.Ground.phase }, { on := 14, ground := Go.Ground.phase }, { on := 15, ground := Go.Ground.phase }, { on := 16, ground := Go.Ground.phase }, { on := 17, ground := Go.Ground.phase }, { on := 18, ground := Go.Ground.phase }, { on := 19, ground := Go.Ground.phase }, { on := 20, ground := Go.Ground.phase }, { on := 21, ground := Go.Ground.phase }, { on := 22, ground := Go.Ground.phase }, { on := 23, ground := Go.Ground.phase }, { on := 24, ground := Go.Ground.phase }, { on := 25, ground := Go.Ground.phase }, { on := 26, ground := Go.Ground.phase }], guard := none }) rfl (fun K hK => ?_) AllReadyH.nil)
          have d5 := HW3.out.cell 0
          have f5 := HW3.out.frozen 0
          simp only [List.getElem?_toArray, List.getElem?_cons_zero, List.getElem?_cons_succ] at d5
          go_simp
          refine hK.out _ _ (HS4.out) (fun _ => ?_)
          clear hK K
          try simp only [Act.put, List.setIfInBounds_toArray, List.set_cons_zero, List.set_cons_succ]
          refine wpAnyH_done (by kernel_rfl) ?_ _
          have k0 := HB4.out.cell 0
          have k1 := HB4.out.cell 1
          have m1 := HW4.out.cell 1
          have m2 := HW4.out.cell 2
          have g1 := HW4.out.frozen 1
          have g2 := HW4.out.frozen 2
          simp only [List.getElem?_toArray, List.getElem?_cons_zero, List.getElem?_cons_succ] at k0 k1 m1 m2
          go_wp2_with fail
          go_roundw
          case rel => exact ⟨k + 1, mk ++ [zx, zy], (px, py), .slice a3 L3 c3, Hlt.out, by go_num, HEND.out.1, HEND.out.2, Htot, Hlst, Hpin, Hlen2⟩
          case measure => have := Hlt.out; simp [intOf]; omega
        · go_simp
          refine (HZy.out _).mono ?_; rintro e Y ⟨rfl, rfl⟩
          go_wp2_with fail
          refine hK.out _ _ (HS0.out) (fun _ => ?_)
          clear hK K
          try simp only [Act.put, List.setIfInBounds_toArray, List.set_cons_zero, List.set_cons_succ]
          refine wpAnyH_take (i := 24) (oi := { dst := some 43, op := Go.Op.convert 59 44 (Go.Operand.tmp 42), type := 44, pos := "path.go:178", after := #[{ on := 23, ground := Go.Ground.data }], guard := none }) (v := ?_) rfl (by kernel_rfl) (by kernel_rfl) (by kernel_rfl) (fun _ _ _ h => h) (Or.inl ⟨by rfl, ?_⟩) (HS0.out) ?_
          rotate_left 1
          · intro w5 hSw
            go_simp; all_goals (with_reducible rfl)
          try simp only [Act.put, List.setIfInBounds_toArray, List.set_cons_zero, List.set_cons_succ]
          refine wpAnyH_ready (rs := [4, 25]) (by kernel_rfl) (by simp) ?_
          refine (AllReadyH.cons (o := { dst := some 23, op := Go.Op.load 22 (Go.Operand.tmp 22), type := 22, pos := "path.go:178", after := #[{ on := 3, ground := Go.Ground.data }], guard := none }) rfl (fun K hK => ?_) (AllReadyH.cons (o := { dst := some 44, op := Go.Op.buildSlice 22 2 #[(0, Go.Operand.tmp 33), (1, Go.Operand.tmp 43)], type := 22, pos := "path.go:178", after := #[{ on := 14, ground := Go.Ground.data }, { on := 24, ground := Go.Ground.data }], guard := none }) rfl (fun K hK => ?_) AllReadyH.nil))
          · have d0 := HW0.out.cell 0
            simp only [List.getElem?_toArray, List.getElem?_cons_zero, List.getElem?_cons_succ] at d0
            go_simp
            refine hK.out _ _ (HS0.out) (fun _ => ?_)
            clear hK K
            try simp only [Act.put, List.setIfInBounds_toArray, List.set_cons_zero, List.set_cons_succ]
            refine wpAnyH_ready (rs := [25]) (by kernel_rfl) (by simp) ?_
            refine (AllReadyH.cons (o := { dst := some 44, op := Go.Op.buildSlice 22 2 #[(0, Go.Operand.tmp 33), (1, Go.Operand.tmp 43)], type := 22, pos := "path.go:178", after := #[{ on := 14, ground := Go.Ground.data }, { on := 24, ground := Go.Ground.data }], guard := none }) rfl (fun K hK => ?_) AllReadyH.nil)
            go_simp
            refine hK.out _ _ (HS2.out) (fun _ => ?_)
            clear hK K
            try simp only [Act.put, List.setIfInBounds_toArray, List.set_cons_zero, List.set_cons_succ]
            refine wpAnyH_ready (rs := [26]) (by kernel_rfl) (by simp) ?_
            refine (AllReadyH.cons (o := { dst := some 45, op := Go.Op.call { callee := Go.Callee.builtin Go.Builtin.append, args := #[Go.Operand.tmp 23, Go.Operand.tmp 44], argTypes := #[22, 22] }, type := 22, pos := "path.go:178", after := #[{ on := 4, ground := Go.Ground.data }, { on := 25, ground := Go.Ground.data }, { on := 23, ground := Go.Ground.chain }], guard := none }) rfl (fun K hK => ?_) AllReadyH.nil)
            refine held_app (by rfl) (.tmp 23) (.tmp 44) 22 rfl _ _ (.slice a3 L3 c3) rfl rfl (Hrun.out) ?_
            refine hK.out _ _ (HS3.out) (fun _ => ?_)
            clear hK K
            try simp only [Act.put, List.setIfInBounds_toArray, List.set_cons_zero, List.set_cons_succ]
            refine wpAnyH_take (i := 27) (oi := { dst := some 46, op := Go.Op.nilCheck (Go.Operand.tmp 19), type := 0, pos := "path.go:178", after := #[{ on := 0, ground := Go.Ground.data }, { on := 0, ground := Go.Ground.phase }, { on := 1, ground := Go.Ground.phase }, { on := 2, ground := Go.Ground.phase }, { on := 3, ground := Go.Ground.phase }, { on := 4, ground := Go.Ground.phase }, { on := 5, ground := Go.Ground.phase }, { on := 6, ground := Go.Ground.phase }, { on := 7, ground := Go.Ground.phase }, { on := 8, ground := Go.Ground.phase }, { on := 9, ground := Go.Ground.phase }, { on := 10, ground := Go.Ground.phase }, { on := 11, ground := Go.Ground.phase }, { on := 12, ground := Go.Ground.phase }, { on := 13, ground := Go.Ground.phase }, { on := 14, ground := Go.Ground.phase }, { on := 15, ground := Go.Ground.phase }, { on := 16, ground := Go.Ground.phase }, { on := 17, ground := Go.Ground.phase }, { on := 18, ground := Go.Ground.phase }, { on := 19, ground := Go.Ground.phase }, { on := 20, ground := Go.Ground.phase }, { on := 21, ground := Go.Ground.phase }, { on := 22, ground := Go.Ground.phase }, { on := 23, ground := Go.Ground.phase }, { on := 24, ground := Go.Ground.phase }, { on := 25, ground := Go.Ground.phase }, { on := 26, ground := Go.Ground.phase }], guard := none }) (v := ?_) rfl (by kernel_rfl) (by kernel_rfl) (by kernel_rfl) (fun _ _ _ h => h) (Or.inl ⟨by rfl, ?_⟩) (HS3.out) ?_
            rotate_left 1
            · intro w5 hSw
              go_simp; all_goals (with_reducible rfl)
            try simp only [Act.put, List.setIfInBounds_toArray, List.set_cons_zero, List.set_cons_succ]
            refine wpAnyH_take (i := 28) (oi := { dst := some 47, op := Go.Op.fieldAddr 53 (Go.Operand.tmp 46) 0, type := 0, pos := "path.go:178", after := #[{ on := 27, ground := Go.Ground.data }, { on := 0, ground := Go.Ground.phase }, { on := 1, ground := Go.Ground.phase }, { on := 2, ground := Go.Ground.phase }, { on := 3, ground := Go.Ground.phase }, { on := 4, ground := Go.Ground.phase }, { on := 5, ground := Go.Ground.phase }, { on := 6, ground := Go.Ground.phase }, { on := 7, ground := Go.Ground.phase }, { on := 8, ground := Go.Ground.phase }, { on := 9, ground := Go.Ground.phase }, { on := 10, ground := Go.Ground.phase }, { on := 11, ground := Go.Ground.phase }, { on := 12, ground := Go.Ground.phase }, { on := 13, ground := Go.Ground.phase }, { on := 14, ground := Go.Ground.phase }, { on := 15, ground := Go.Ground.phase }, { on := 16, ground := Go.Ground.phase }, { on := 17, ground := Go.Ground.phase }, { on := 18, ground := Go.Ground.phase }, { on := 19, ground := Go.Ground.phase }, { on := 20, ground := Go.Ground.phase }, { on := 21, ground := Go.Ground.phase }, { on := 22, ground := Go.Ground.phase }, { on := 23, ground := Go.Ground.phase }, { on := 24, ground := Go.Ground.phase }, { on := 25, ground := Go.Ground.phase }, { on := 26, ground := Go.Ground.phase }], guard := none }) (v := ?_) rfl (by kernel_rfl) (by kernel_rfl) (by kernel_rfl) (fun _ _ _ h => h) (Or.inl ⟨by rfl, ?_⟩) (HS3.out) ?_
            rotate_left 1
            · intro w5 hSw
              go_simp; all_goals (with_reducible rfl)
            try simp only [Act.put, List.setIfInBounds_toArray, List.set_cons_zero, List.set_cons_succ]
            refine wpAnyH_ready (rs := [29]) (by kernel_rfl) (by simp) ?_
            refine (AllReadyH.cons (o := { dst := none, op := Go.Op.store 22 (Go.Operand.tmp 47) (Go.Operand.tmp 45), type := 0, pos := "path.go:178", after := #[{ on := 28, ground := Go.Ground.data }, { on := 26, ground := Go.Ground.data }, { on := 26, ground := Go.Ground.chain }, { on := 0, ground := Go.Ground.phase }, { on := 1, ground := Go.Ground.phase }, { on := 2, ground := Go.Ground.phase }, { on := 3, ground := Go.Ground.phase }, { on := 4, ground := Go.Ground.phase }, { on := 5, ground := Go.Ground.phase }, { on := 6, ground := Go.Ground.phase }, { on := 7, ground := Go.Ground.phase }, { on := 8, ground := Go.Ground.phase }, { on := 9, ground := Go.Ground.phase }, { on := 10, ground := Go.Ground.phase }, { on := 11, ground := Go.Ground.phase }, { on := 12, ground := Go.Ground.phase }, { on := 13, ground := Go.Ground.phase }, { on := 14, ground := Go.Ground.phase }, { on := 15, ground := Go.Ground.phase }, { on := 16, ground := Go.Ground.phase }, { on := 17, ground := Go.Ground.phase }, { on := 18, ground := Go.Ground.phase }, { on := 19, ground := Go.Ground.phase }, { on := 20, ground := Go.Ground.phase }, { on := 21, ground := Go.Ground.phase }, { on := 22, ground := Go.Ground.phase }, { on := 23, ground := Go.Ground.phase }, { on := 24, ground := Go.Ground.phase }, { on := 25, ground := Go.Ground.phase }, { on := 26, ground := Go.Ground.phase }], guard := none }) rfl (fun K hK => ?_) AllReadyH.nil)
            have d5 := HW3.out.cell 0
            have f5 := HW3.out.frozen 0
            simp only [List.getElem?_toArray, List.getElem?_cons_zero, List.getElem?_cons_succ] at d5
            go_simp
            refine hK.out _ _ (HS4.out) (fun _ => ?_)
            clear hK K
            try simp only [Act.put, List.setIfInBounds_toArray, List.set_cons_zero, List.set_cons_succ]
            refine wpAnyH_done (by kernel_rfl) ?_ _
            have k0 := HB4.out.cell 0
            have k1 := HB4.out.cell 1
            have m1 := HW4.out.cell 1
            have m2 := HW4.out.cell 2
            have g1 := HW4.out.frozen 1
            have g2 := HW4.out.frozen 2
            simp only [List.getElem?_toArray, List.getElem?_cons_zero, List.getElem?_cons_succ] at k0 k1 m1 m2
            go_wp2_with fail
            go_roundw
            case rel => exact ⟨k + 1, mk ++ [zx, zy], (px, py), .slice a3 L3 c3, Hlt.out, by go_num, HEND.out.1, HEND.out.2, Htot, Hlst, Hpin, Hlen2⟩
            case measure => have := Hlt.out; simp [intOf]; omega
          · go_simp
            refine hK.out _ _ (HS2.out) (fun _ => ?_)
            clear hK K
            try simp only [Act.put, List.setIfInBounds_toArray, List.set_cons_zero, List.set_cons_succ]
            refine wpAnyH_ready (rs := [4]) (by kernel_rfl) (by simp) ?_
            refine (AllReadyH.cons (o := { dst := some 23, op := Go.Op.load 22 (Go.Operand.tmp 22), type := 22, pos := "path.go:178", after := #[{ on := 3, ground := Go.Ground.data }], guard := none }) rfl (fun K hK => ?_) AllReadyH.nil)
            have d0 := HW0a.out.cell 0
            simp only [List.getElem?_toArray, List.getElem?_cons_zero, List.getElem?_cons_succ] at d0
            have d9 := HW0.out.cell 0
            simp only [List.getElem?_toArray, List.getElem?_cons_zero, List.getElem?_cons_succ] at d9
            have d7 : g < W0.heap.size := HW0.out.lt
            have d6 : W0.cell? ⟨g, 0, none⟩ = some v1 := d9
            go_simp
            refine hK.out _ _ (HS2.out) (fun _ => ?_)
            clear hK K
            try simp only [Act.put, List.setIfInBounds_toArray, List.set_cons_zero, List.set_cons_succ]
            refine wpAnyH_ready (rs := [26]) (by kernel_rfl) (by simp) ?_
            refine (AllReadyH.cons (o := { dst := some 45, op := Go.Op.call { callee := Go.Callee.builtin Go.Builtin.append, args := #[Go.Operand.tmp 23, Go.Operand.tmp 44], argTypes := #[22, 22] }, type := 22, pos := "path.go:178", after := #[{ on := 4, ground := Go.Ground.data }, { on := 25, ground := Go.Ground.data }, { on := 23, ground := Go.Ground.chain }], guard := none }) rfl (fun K hK => ?_) AllReadyH.nil)
            refine held_app (by rfl) (.tmp 23) (.tmp 44) 22 rfl _ _ (.slice a3 L3 c3) rfl rfl (Hrun.out) ?_
            refine hK.out _ _ (HS3.out) (fun _ => ?_)
            clear hK K
            try simp only [Act.put, List.setIfInBounds_toArray, List.set_cons_zero, List.set_cons_succ]
            refine wpAnyH_take (i := 27) (oi := { dst := some 46, op := Go.Op.nilCheck (Go.Operand.tmp 19), type := 0, pos := "path.go:178", after := #[{ on := 0, ground := Go.Ground.data }, { on := 0, ground := Go.Ground.phase }, { on := 1, ground := Go.Ground.phase }, { on := 2, ground := Go.Ground.phase }, { on := 3, ground := Go.Ground.phase }, { on := 4, ground := Go.Ground.phase }, { on := 5, ground := Go.Ground.phase }, { on := 6, ground := Go.Ground.phase }, { on := 7, ground := Go.Ground.phase }, { on := 8, ground := Go.Ground.phase }, { on := 9, ground := Go.Ground.phase }, { on := 10, ground := Go.Ground.phase }, { on := 11, ground := Go.Ground.phase }, { on := 12, ground := Go.Ground.phase }, { on := 13, ground := Go.Ground.phase }, { on := 14, ground := Go.Ground.phase }, { on := 15, ground := Go.Ground.phase }, { on := 16, ground := Go.Ground.phase }, { on := 17, ground := Go.Ground.phase }, { on := 18, ground := Go.Ground.phase }, { on := 19, ground := Go.Ground.phase }, { on := 20, ground := Go.Ground.phase }, { on := 21, ground := Go.Ground.phase }, { on := 22, ground := Go.Ground.phase }, { on := 23, ground := Go.Ground.phase }, { on := 24, ground := Go.Ground.phase }, { on := 25, ground := Go.Ground.phase }, { on := 26, ground := Go.Ground.phase }], guard := none }) (v := ?_) rfl (by kernel_rfl) (by kernel_rfl) (by kernel_rfl) (fun _ _ _ h => h) (Or.inl ⟨by rfl, ?_⟩) (HS3.out) ?_
            rotate_left 1
            · intro w5 hSw
              go_simp; all_goals (with_reducible rfl)
            try simp only [Act.put, List.setIfInBounds_toArray, List.set_cons_zero, List.set_cons_succ]
            refine wpAnyH_take (i := 28) (oi := { dst := some 47, op := Go.Op.fieldAddr 53 (Go.Operand.tmp 46) 0, type := 0, pos := "path.go:178", after := #[{ on := 27, ground := Go.Ground.data }, { on := 0, ground := Go.Ground.phase }, { on := 1, ground := Go.Ground.phase }, { on := 2, ground := Go.Ground.phase }, { on := 3, ground := Go.Ground.phase }, { on := 4, ground := Go.Ground.phase }, { on := 5, ground := Go.Ground.phase }, { on := 6, ground := Go.Ground.phase }, { on := 7, ground := Go.Ground.phase }, { on := 8, ground := Go.Ground.phase }, { on := 9, ground := Go.Ground.phase }, { on := 10, ground := Go.Ground.phase }, { on := 11, ground := Go.Ground.phase }, { on := 12, ground := Go.Ground.phase }, { on := 13, ground := Go.Ground.phase }, { on := 14, ground := Go.Ground.phase }, { on := 15, ground := Go.Ground.phase }, { on := 16, ground := Go.Ground.phase }, { on := 17, ground := Go.Ground.phase }, { on := 18, ground := Go.Ground.phase }, { on := 19, ground := Go.Ground.phase }, { on := 20, ground := Go.Ground.phase }, { on := 21, ground := Go.Ground.phase }, { on := 22, ground := Go.Ground.phase }, { on := 23, ground := Go.Ground.phase }, { on := 24, ground := Go.Ground.phase }, { on := 25, ground := Go.Ground.phase }, { on := 26, ground := Go.Ground.phase }], guard := none }) (v := ?_) rfl (by kernel_rfl) (by kernel_rfl) (by kernel_rfl) (fun _ _ _ h => h) (Or.inl ⟨by rfl, ?_⟩) (HS3.out) ?_
            rotate_left 1
            · intro w5 hSw
              go_simp; all_goals (with_reducible rfl)
            try simp only [Act.put, List.setIfInBounds_toArray, List.set_cons_zero, List.set_cons_succ]
            refine wpAnyH_ready (rs := [29]) (by kernel_rfl) (by simp) ?_
            refine (AllReadyH.cons (o := { dst := none, op := Go.Op.store 22 (Go.Operand.tmp 47) (Go.Operand.tmp 45), type := 0, pos := "path.go:178", after := #[{ on := 28, ground := Go.Ground.data }, { on := 26, ground := Go.Ground.data }, { on := 26, ground := Go.Ground.chain }, { on := 0, ground := Go.Ground.phase }, { on := 1, ground := Go.Ground.phase }, { on := 2, ground := Go.Ground.phase }, { on := 3, ground := Go.Ground.phase }, { on := 4, ground := Go.Ground.phase }, { on := 5, ground := Go.Ground.phase }, { on := 6, ground := Go.Ground.phase }, { on := 7, ground := Go.Ground.phase }, { on := 8, ground := Go.Ground.phase }, { on := 9, ground := Go.Ground.phase }, { on := 10, ground := Go.Ground.phase }, { on := 11, ground := Go.Ground.phase }, { on := 12, ground := Go.Ground.phase }, { on := 13, ground := Go.Ground.phase }, { on := 14, ground := Go.Ground.phase }, { on := 15, ground := Go.Ground.phase }, { on := 16, ground := Go.Ground.phase }, { on := 17, ground := Go.Ground.phase }, { on := 18, ground := Go.Ground.phase }, { on := 19, ground := Go.Ground.phase }, { on := 20, ground := Go.Ground.phase }, { on := 21, ground := Go.Ground.phase }, { on := 22, ground := Go.Ground.phase }, { on := 23, ground := Go.Ground.phase }, { on := 24, ground := Go.Ground.phase }, { on := 25, ground := Go.Ground.phase }, { on := 26, ground := Go.Ground.phase }], guard := none }) rfl (fun K hK => ?_) AllReadyH.nil)
            have d5 := HW3.out.cell 0
            have f5 := HW3.out.frozen 0
            simp only [List.getElem?_toArray, List.getElem?_cons_zero, List.getElem?_cons_succ] at d5
            go_simp
            refine hK.out _ _ (HS4.out) (fun _ => ?_)
            clear hK K
            try simp only [Act.put, List.setIfInBounds_toArray, List.set_cons_zero, List.set_cons_succ]
            refine wpAnyH_done (by kernel_rfl) ?_ _
            have k0 := HB4.out.cell 0
            have k1 := HB4.out.cell 1
            have m1 := HW4.out.cell 1
            have m2 := HW4.out.cell 2
            have g1 := HW4.out.frozen 1
            have g2 := HW4.out.frozen 2
            simp only [List.getElem?_toArray, List.getElem?_cons_zero, List.getElem?_cons_succ] at k0 k1 m1 m2
            go_wp2_with fail
            go_roundw
            case rel => exact ⟨k + 1, mk ++ [zx, zy], (px, py), .slice a3 L3 c3, Hlt.out, by go_num, HEND.out.1, HEND.out.2, Htot, Hlst, Hpin, Hlen2⟩
            case measure => have := Hlt.out; simp [intOf]; omega
    · have hkL : k = L := by omega
      have ht := HTot.out
      have he := HEnd.out
      rw [List.drop_eq_nil_of_le (by have := HL.out; omega)] at ht he
      have hmT : mk = T := by simpa [runE] using ht
      have hqE : qk = E := he
      subst hkL hmT hqE
      clear ht he
      go_wp2_with fail
      go_end0
      exact ⟨rfl, _, HWp.out, HBw.out⟩
end Go.Proofs.Ytohgdlhijgjdkaa
