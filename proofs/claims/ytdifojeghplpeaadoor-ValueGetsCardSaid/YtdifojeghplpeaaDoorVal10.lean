/- Walks over layer 8: the reference's Put. -/
import Derived.Test.YtdifojeghplpeaaDoorVal9
import Derived.Test.YtdifojeghplpeaaDoorRefPut
namespace Go.Proofs.YtdifojeghplpeaaDoor
open Go.RowKit Var
set_option linter.unusedVariables false
set_option maxRecDepth 100000

set_option maxHeartbeats 8000000 in
theorem rvaluePut_yes (v : V3) (w : World) (hk : -9223372036854775808 ≤ v.1 ∧ v.1 < 9223372036854775808) (hb : v.2.2 < 18446744073709551616) (hs : v.2.1.size ≤ 1000) (hl : (pgs [fieldG v]).length ≤ 900000)
    (HR : ∀ W, Below w.heap.size w W → Calls Tryd.prog 9 #[vv v] W fun e w' => e = .returned (.bool true) ∧ Below W.heap.size W w') :
    Calls Tryd.prog 10 #[vv v] w (PutPost w (pgs [fieldG v])) := by
  have HRi := Lib.hid HR
  clear HR
  obtain ⟨k, s, b⟩ := v
  unfold vv at HRi ⊢
  simp only at HRi hk hb hs ⊢
  go_enter Tryd.func10, Tryd.ntmps10
  go_upto_region 1 with (fail)
  obtain ⟨bu, hbu0⟩ : ∃ z, z = w.heap.size := ⟨_, rfl⟩
  obtain ⟨X, hX⟩ : ∃ z, z = w.alloc (.cells #[.int .i64 k, .string s, .int .u64 (b : Int)] 24) := ⟨_, rfl⟩
  have hW : Whole X bu 24 #[.int .i64 k, .string s, .int .u64 (b : Int)] := by rw [hX, hbu0]; exact Whole.new w _ _
  have hB : Below w.heap.size w X := by rw [hX]; exact (Below.refl _ _).alloc (Nat.le_refl _) _
  have x0 : X.cell? ⟨bu, 0, none⟩ = some (.int .i64 k) := hW.cell 0
  have x1 : X.cell? ⟨bu, 1, none⟩ = some (.string s) := hW.cell 1
  have x2 : X.cell? ⟨bu, 2, none⟩ = some (.int .u64 (b : Int)) := hW.cell 2
  rw [← hX, ← hbu0]
  have HB := Lib.hid hB
  have HW := Lib.hid hW
  clear hX hbu0 hW hB
  go_wp2_with fail
  refine (HRi.out X HB.out).mono ?_
  rintro e Y ⟨rfl, hY⟩
  have HW := Lib.hid (HW.out.below hY HW.out.lt)
  have HB := Lib.hid (HB.out.trans (hY.mono HB.out.size))
  clear hY HRi
  have x0 : Y.cell? ⟨bu, 0, none⟩ = some (.int .i64 k) := HW.out.cell 0
  have x1 : Y.cell? ⟨bu, 1, none⟩ = some (.string s) := HW.out.cell 1
  have x2 : Y.cell? ⟨bu, 2, none⟩ = some (.int .u64 (b : Int)) := HW.out.cell 2
  go_upto_region 4 with (fail)
  obtain ⟨b3, hb3⟩ : ∃ z, z = Y.heap.size := ⟨_, rfl⟩
  obtain ⟨F0, hF0⟩ : ∃ z, z = Y.alloc (.cells #[.int .i64 k, .int .i64 0, .int .u64 (b : Int), .slice none 0 0] 43) := ⟨_, rfl⟩
  have HWF : Whole F0 b3 43 #[.int .i64 k, .int .i64 0, .int .u64 (b : Int), .slice none 0 0] := by rw [hF0, hb3]; exact Whole.new Y _ _
  have hYF : Below Y.heap.size Y F0 := by rw [hF0]; exact (Below.refl _ _).alloc (Nat.le_refl _) _
  have hWu := HW.out.below hYF HW.out.lt
  have HB9 := HB.out.trans (hYF.mono HB.out.size)
  have hlo3 : w.heap.size ≤ b3 := by rw [hb3]; exact HB.out.size
  have hu3 : bu ≠ b3 := by rw [hb3]; have := HW.out.lt; omega
  have x0 : F0.cell? ⟨bu, 0, none⟩ = some (.int .i64 k) := hWu.cell 0
  have x1 : F0.cell? ⟨bu, 1, none⟩ = some (.string s) := hWu.cell 1
  have x2 : F0.cell? ⟨bu, 2, none⟩ = some (.int .u64 (b : Int)) := hWu.cell 2
  have f1 : F0.frozen? ⟨b3, 1, none⟩ = false := HWF.frozen 1
  have f2 : F0.frozen? ⟨b3, 2, none⟩ = false := HWF.frozen 2
  have e1 : F0.cell? ⟨b3, 1, none⟩ = some (.int .i64 0) := HWF.cell 1
  have e2 : F0.cell? ⟨b3, 2, none⟩ = some (.int .u64 (b : Int)) := HWF.cell 2
  rw [← hF0, ← hb3]
  clear hF0 hb3 hYF HB hWu HW
  by_cases hk1 : k = 1
  · subst hk1
    have hgp : pgs [fieldG (1, s, b)] = pgs [(⟨1, 2, b, bsOf s⟩ : G)] := by simp [pgs, G.bytes, pfI, fieldG, fk]
    obtain ⟨capA, WA, hcA0, hBA0, hNA0⟩ := conv_bytes s F0.drew
    obtain ⟨WK, hWK⟩ : ∃ z, z = F0.drew.setCell ⟨b3, 1, none⟩ (.int .i64 2) := ⟨_, rfl⟩
    obtain ⟨capB, WB, hcB0, hBB0, hNB0⟩ := conv_bytes s WK
    have hszK : WK.heap.size = F0.heap.size := by rw [hWK]; simp [World.setCell]
    have hcA : (convert 9 26 (.string s)).run Tryd.prog F0.drew = .ok (.slice (some ⟨F0.heap.size, 0, none⟩) s.size capA) WA := hcA0
    have hBA : Below F0.heap.size F0 WA := ⟨hBA0.os, hBA0.tape, hBA0.output, hBA0.size, hBA0.block⟩
    have hNA : Nums .u8 WA WA.heap.size (some ⟨F0.heap.size, 0, none⟩) (bsOf s) := hNA0
    have hB9d : Below w.heap.size w F0.drew := ⟨HB9.os, HB9.tape, HB9.output, HB9.size, HB9.block⟩
    have hBK : Below w.heap.size w WK := by rw [hWK]; exact hB9d.setCell (p := ⟨b3, 1, none⟩) hlo3 _
    rw [hszK] at hBB0 hNB0
    have hcB : (convert 9 26 (.string s)).run Tryd.prog (F0.setCell ⟨b3, 1, none⟩ (.int .i64 2)).drew = .ok (.slice (some ⟨F0.heap.size, 0, none⟩) s.size capB) WB := by rw [hszK, hWK] at hcB0; exact hcB0
    have hb3l : b3 < F0.heap.size := HWF.lt
    have hbul : bu < F0.heap.size := World.block_lt_of_cell? _ _ x1
    have hne : F0.heap.size ≠ b3 := by omega
    have hWA : Whole WA b3 43 #[.int .i64 1, .int .i64 0, .int .u64 (b : Int), .slice none 0 0] := HWF.below hBA HWF.lt
    have hWK2 : Whole WK b3 43 #[.int .i64 1, .int .i64 2, .int .u64 (b : Int), .slice none 0 0] := by rw [hWK]; simpa using HWF.drew.set 1 (.int .i64 2)
    have hWB : Whole WB b3 43 #[.int .i64 1, .int .i64 2, .int .u64 (b : Int), .slice none 0 0] := hWK2.below hBB0 (by omega)
    have hA1 : Whole (WA.setCell ⟨b3, 1, none⟩ (.int .i64 2)) b3 43 #[.int .i64 1, .int .i64 2, .int .u64 (b : Int), .slice none 0 0] := by simpa using hWA.set 1 (.int .i64 2)
    have HWSA := Lib.hid (hA1.set 3 (.slice (some ⟨F0.heap.size, 0, none⟩) s.size capA))
    have HWSB := Lib.hid (hWB.set 3 (.slice (some ⟨F0.heap.size, 0, none⟩) s.size capB))
    have HBSA := Lib.hid (((HB9.trans (hBA.mono HB9.size)).setCell (p := ⟨b3, 1, none⟩) hlo3 (.int .i64 2)).setCell (p := ⟨b3, 3, none⟩) hlo3 (.slice (some ⟨F0.heap.size, 0, none⟩) s.size capA))
    have HBSB := Lib.hid ((hBK.trans (hBB0.mono HB9.size)).setCell (p := ⟨b3, 3, none⟩) hlo3 (.slice (some ⟨F0.heap.size, 0, none⟩) s.size capB))
    have HNSA := Lib.hid (nums_set (i := 3) (u := .slice (some ⟨F0.heap.size, 0, none⟩) s.size capA) (nums_set (i := 1) (u := .int .i64 2) hNA hne) hne)
    have HNSB := Lib.hid (nums_set (i := 3) (u := .slice (some ⟨F0.heap.size, 0, none⟩) s.size capB) hNB0 hne)
    have fA1 : WA.frozen? ⟨b3, 1, none⟩ = false := hWA.frozen 1
    have cA1 : WA.cell? ⟨b3, 1, none⟩ = some (.int .i64 0) := hWA.cell 1
    have fA3 : (WA.setCell ⟨b3, 1, none⟩ (.int .i64 2)).frozen? ⟨b3, 3, none⟩ = false := hA1.frozen 3
    have cA3 : (WA.setCell ⟨b3, 1, none⟩ (.int .i64 2)).cell? ⟨b3, 3, none⟩ = some (.slice none 0 0) := hA1.cell 3
    have fB3 : WB.frozen? ⟨b3, 3, none⟩ = false := hWB.frozen 3
    have cB3 : WB.cell? ⟨b3, 3, none⟩ = some (.slice none 0 0) := hWB.cell 3
    have oth : ∀ (W : World) (i : Nat) (u : Value), W.cell? ⟨bu, 1, none⟩ = some (.string s) → (W.setCell ⟨b3, i, none⟩ u).cell? ⟨bu, 1, none⟩ = some (.string s) := fun W i u h => (World.cell?_of_block (w := W) (Below.heap_setCell W ⟨b3, i, none⟩ u bu hu3)).trans h
    have K0 : Hid (F0.drew.cell? ⟨bu, 1, none⟩ = some (.string s)) := x1
    have K2 : Hid (WA.cell? ⟨bu, 1, none⟩ = some (.string s)) := (hBA.cell (p := ⟨bu, 1, none⟩) hbul).trans x1
    have K4 : Hid ((F0.drew.setCell ⟨b3, 1, none⟩ (.int .i64 2)).cell? ⟨bu, 1, none⟩ = some (.string s)) := oth _ _ _ x1
    have K24 : Hid ((WA.setCell ⟨b3, 1, none⟩ (.int .i64 2)).cell? ⟨bu, 1, none⟩ = some (.string s)) := oth _ _ _ K2.out
    have K42 : Hid (WB.cell? ⟨bu, 1, none⟩ = some (.string s)) := (hBB0.cell (p := ⟨bu, 1, none⟩) hbul).trans (by rw [hWK]; exact K4.out)
    have KF : Hid (((WA.setCell ⟨b3, 1, none⟩ (.int .i64 2)).setCell ⟨b3, 3, none⟩ (.slice (some ⟨F0.heap.size, 0, none⟩) s.size capA)).cell? ⟨bu, 1, none⟩ = some (.string s)) := oth _ _ _ K24.out
    have KG : Hid ((WB.setCell ⟨b3, 3, none⟩ (.slice (some ⟨F0.heap.size, 0, none⟩) s.size capB)).cell? ⟨bu, 1, none⟩ = some (.string s)) := oth _ _ _ K42.out
    clear hcA0 hBA0 hNA0 hWK hcB0 hBB0 hNB0 hszK hBA hNA hBK hWA hWK2 hWB hA1 oth HWF HB9
    go_upto_region 6 with (fail)
    refine wp_region_held (S := (fun W => W.cell? ⟨bu, 1, none⟩ = some (.string s))) (by kernel_rfl) ?_
    refine wpAnyH_take (i := 0) (oi := { dst := some 16, op := Go.Op.fieldAddr 24 (Go.Operand.tmp 1) 1, type := 0, pos := "ref.go:71", after := #[{ on := 4, ground := Go.Ground.gcOnly Go.Departure.lateStores }], guard := none }) (v := ?_) rfl (by kernel_rfl) (by kernel_rfl) (by kernel_rfl) (fun _ _ _ h => h) (Or.inl ⟨by rfl, ?_⟩) (K0.out) ?_
    rotate_left 1
    · intro w5 hSw
      go_simp; all_goals (with_reducible rfl)
    try simp only [Act.put, List.setIfInBounds_toArray, List.set_cons_zero, List.set_cons_succ]
    refine wpAnyH_take (i := 1) (oi := { dst := some 17, op := Go.Op.load 9 (Go.Operand.tmp 16), type := 9, pos := "ref.go:71", after := #[{ on := 0, ground := Go.Ground.data }, { on := 4, ground := Go.Ground.gcOnly Go.Departure.lateStores }], guard := none }) (v := ?_) rfl (by kernel_rfl) (by kernel_rfl) (by kernel_rfl) (fun _ _ _ h => h) (Or.inl ⟨by rfl, ?_⟩) (K0.out) ?_
    rotate_left 1
    · intro w5 hSw
      have q0 := hSw
      go_simp; all_goals (with_reducible rfl)
    try simp only [Act.put, List.setIfInBounds_toArray, List.set_cons_zero, List.set_cons_succ]
    refine wpAnyH_take (i := 3) (oi := { dst := some 19, op := Go.Op.fieldAddr 43 (Go.Operand.tmp 3) 1, type := 0, pos := "ref.go:71", after := #[{ on := 0, ground := Go.Ground.textOnly Go.Departure.lateStores }, { on := 1, ground := Go.Ground.textOnly Go.Departure.lateStores }, { on := 2, ground := Go.Ground.textOnly Go.Departure.lateStores }], guard := none }) (v := ?_) rfl (by kernel_rfl) (by kernel_rfl) (by kernel_rfl) (fun _ _ _ h => h) (Or.inl ⟨by rfl, ?_⟩) (K0.out) ?_
    rotate_left 1
    · intro w5 hSw
      go_simp; all_goals (with_reducible rfl)
    try simp only [Act.put, List.setIfInBounds_toArray, List.set_cons_zero, List.set_cons_succ]
    refine wpAnyH_ready (rs := [2, 4]) (by kernel_rfl) (by simp) ?_
    refine (AllReadyH.cons (o := { dst := some 18, op := Go.Op.convert 9 26 (Go.Operand.tmp 17), type := 26, pos := "ref.go:71", after := #[{ on := 1, ground := Go.Ground.data }, { on := 4, ground := Go.Ground.gcOnly Go.Departure.lateStores }], guard := none }) rfl (fun K hK => ?_) (AllReadyH.cons (o := { dst := none, op := Go.Op.store 3 (Go.Operand.tmp 19) (Go.Operand.const (Go.Value.int Go.IntKind.i64 2)), type := 0, pos := "ref.go:71", after := #[{ on := 3, ground := Go.Ground.data }, { on := 0, ground := Go.Ground.textOnly Go.Departure.lateStores }, { on := 1, ground := Go.Ground.textOnly Go.Departure.lateStores }, { on := 2, ground := Go.Ground.textOnly Go.Departure.lateStores }], guard := none }) rfl (fun K hK => ?_) AllReadyH.nil))
    · go_simp
      refine hK.out _ _ (K2.out) (fun _ => ?_)
      clear hK K
      try simp only [Act.put, List.setIfInBounds_toArray, List.set_cons_zero, List.set_cons_succ]
      refine wpAnyH_ready (rs := [4]) (by kernel_rfl) (by simp) ?_
      refine (AllReadyH.cons (o := { dst := none, op := Go.Op.store 3 (Go.Operand.tmp 19) (Go.Operand.const (Go.Value.int Go.IntKind.i64 2)), type := 0, pos := "ref.go:71", after := #[{ on := 3, ground := Go.Ground.data }, { on := 0, ground := Go.Ground.textOnly Go.Departure.lateStores }, { on := 1, ground := Go.Ground.textOnly Go.Departure.lateStores }, { on := 2, ground := Go.Ground.textOnly Go.Departure.lateStores }], guard := none }) rfl (fun K hK => ?_) AllReadyH.nil)
      go_simp
      refine hK.out _ _ (K24.out) (fun _ => ?_)
      clear hK K
      try simp only [Act.put, List.setIfInBounds_toArray, List.set_cons_zero, List.set_cons_succ]
      refine wpAnyH_take (i := 5) (oi := { dst := some 20, op := Go.Op.fieldAddr 43 (Go.Operand.tmp 3) 3, type := 0, pos := "ref.go:71", after := #[{ on := 0, ground := Go.Ground.phase }, { on := 1, ground := Go.Ground.phase }, { on := 2, ground := Go.Ground.phase }, { on := 3, ground := Go.Ground.phase }, { on := 4, ground := Go.Ground.phase }], guard := none }) (v := ?_) rfl (by kernel_rfl) (by kernel_rfl) (by kernel_rfl) (fun _ _ _ h => h) (Or.inl ⟨by rfl, ?_⟩) (K24.out) ?_
      rotate_left 1
      · intro w5 hSw
        go_simp; all_goals (with_reducible rfl)
      try simp only [Act.put, List.setIfInBounds_toArray, List.set_cons_zero, List.set_cons_succ]
      refine wpAnyH_ready (rs := [6]) (by kernel_rfl) (by simp) ?_
      refine (AllReadyH.cons (o := { dst := none, op := Go.Op.store 26 (Go.Operand.tmp 20) (Go.Operand.tmp 18), type := 0, pos := "ref.go:71", after := #[{ on := 5, ground := Go.Ground.data }, { on := 2, ground := Go.Ground.data }, { on := 4, ground := Go.Ground.chain }, { on := 0, ground := Go.Ground.phase }, { on := 1, ground := Go.Ground.phase }, { on := 2, ground := Go.Ground.phase }, { on := 3, ground := Go.Ground.phase }, { on := 4, ground := Go.Ground.phase }], guard := none }) rfl (fun K hK => ?_) AllReadyH.nil)
      go_simp
      refine hK.out _ _ (KF.out) (fun _ => ?_)
      clear hK K
      try simp only [Act.put, List.setIfInBounds_toArray, List.set_cons_zero, List.set_cons_succ]
      refine wpAnyH_done (by kernel_rfl) ?_ _
      go_upto_region 13 with (fail)
      obtain ⟨W2, hW2⟩ : ∃ z, z = (WA.setCell ⟨b3, 1, none⟩ (.int .i64 2)).setCell ⟨b3, 3, none⟩ (.slice (some ⟨F0.heap.size, 0, none⟩) s.size capA) := ⟨_, rfl⟩
      have HWF : Whole W2 b3 43 #[.int .i64 1, .int .i64 2, .int .u64 (b : Int), .slice (some ⟨F0.heap.size, 0, none⟩) s.size capA] := by rw [hW2]; simpa using HWSA.out
      have HB9 : Below w.heap.size w W2 := by rw [hW2]; exact HBSA.out
      have hNf : Nums .u8 W2 W2.heap.size (some ⟨F0.heap.size, 0, none⟩) (bsOf s) := by rw [hW2]; exact HNSA.out
      rw [← hW2]
      clear hW2 HWSA HWSB HBSA HBSB HNSA HNSB
      have hGA : GAt (W2.alloc (.cells #[.int .i64 1, .int .i64 2, .int .u64 (b : Int), .slice (some ⟨F0.heap.size, 0, none⟩) s.size capA] 43)) (W2.heap.size + 1) (some ⟨W2.heap.size, 0, none⟩) [(⟨1, 2, b, (bsOf s)⟩ : G)] := gAt_one W2 1 2 b (bsOf s) _ _ ((bsOf_length s).symm) (hNf)
      have HP := Lib.hid (refPut_any _ 1 [(⟨1, 2, b, (bsOf s)⟩ : G)] _ (hGA.more (by simp)) (fun g hg => by obtain rfl := List.mem_singleton.1 hg; exact ⟨hk, by first | (show (-9223372036854775808 : Int) ≤ 2 ∧ (2 : Int) < 9223372036854775808; omega), by first | exact hb | exact Hzl.out, by simp [bsOf_length]; first | omega | done, by first | exact bsOf_lt s | (intro x hx; cases hx)⟩) (by simp) (by rw [← hgp]; exact hl))
      rw [← hgp] at HP
      have g0 : W2.cell? ⟨b3, 0, none⟩ = some (.int .i64 1) := HWF.cell 0
      have g1 : W2.cell? ⟨b3, 1, none⟩ = some (.int .i64 2) := HWF.cell 1
      have g2 : W2.cell? ⟨b3, 2, none⟩ = some (.int .u64 (b : Int)) := HWF.cell 2
      have g3 : W2.cell? ⟨b3, 3, none⟩ = some (.slice (some ⟨F0.heap.size, 0, none⟩) s.size capA) := HWF.cell 3
      have HBF := Lib.hid (HB9.alloc HB9.size (.cells #[.int .i64 1, .int .i64 2, .int .u64 (b : Int), .slice (some ⟨F0.heap.size, 0, none⟩) s.size capA] 43))
      clear hGA HWF HB9
      go_wp2_with fail
      refine HP.out.mono ?_
      rintro e W9 ⟨v9, rfl, hO, hB9⟩
      have HO := Lib.hid hO
      have HB9 := Lib.hid (HBF.out.trans (hB9.mono HBF.out.size))
      clear hO hB9 HP
      go_wp2_with fail
      go_ret
      exact ⟨_, rfl, own8_lower HO.out HBF.out.size, HB9.out⟩
    · go_simp
      refine hK.out _ _ (K4.out) (fun _ => ?_)
      clear hK K
      try simp only [Act.put, List.setIfInBounds_toArray, List.set_cons_zero, List.set_cons_succ]
      refine wpAnyH_ready (rs := [2]) (by kernel_rfl) (by simp) ?_
      refine (AllReadyH.cons (o := { dst := some 18, op := Go.Op.convert 9 26 (Go.Operand.tmp 17), type := 26, pos := "ref.go:71", after := #[{ on := 1, ground := Go.Ground.data }, { on := 4, ground := Go.Ground.gcOnly Go.Departure.lateStores }], guard := none }) rfl (fun K hK => ?_) AllReadyH.nil)
      go_simp
      refine hK.out _ _ (K42.out) (fun _ => ?_)
      clear hK K
      try simp only [Act.put, List.setIfInBounds_toArray, List.set_cons_zero, List.set_cons_succ]
      refine wpAnyH_take (i := 5) (oi := { dst := some 20, op := Go.Op.fieldAddr 43 (Go.Operand.tmp 3) 3, type := 0, pos := "ref.go:71", after := #[{ on := 0, ground := Go.Ground.phase }, { on := 1, ground := Go.Ground.phase }, { on := 2, ground := Go.Ground.phase }, { on := 3, ground := Go.Ground.phase }, { on := 4, ground := Go.Ground.phase }], guard := none }) (v := ?_) rfl (by kernel_rfl) (by kernel_rfl) (by kernel_rfl) (fun _ _ _ h => h) (Or.inl ⟨by rfl, ?_⟩) (K42.out) ?_
      rotate_left 1
      · intro w5 hSw
        go_simp; all_goals (with_reducible rfl)
      try simp only [Act.put, List.setIfInBounds_toArray, List.set_cons_zero, List.set_cons_succ]
      refine wpAnyH_ready (rs := [6]) (by kernel_rfl) (by simp) ?_
      refine (AllReadyH.cons (o := { dst := none, op := Go.Op.store 26 (Go.Operand.tmp 20) (Go.Operand.tmp 18), type := 0, pos := "ref.go:71", after := #[{ on := 5, ground := Go.Ground.data }, { on := 2, ground := Go.Ground.data }, { on := 4, ground := Go.Ground.chain }, { on := 0, ground := Go.Ground.phase }, { on := 1, ground := Go.Ground.phase }, { on := 2, ground := Go.Ground.phase }, { on := 3, ground := Go.Ground.phase }, { on := 4, ground := Go.Ground.phase }], guard := none }) rfl (fun K hK => ?_) AllReadyH.nil)
      go_simp
      refine hK.out _ _ (KG.out) (fun _ => ?_)
      clear hK K
      try simp only [Act.put, List.setIfInBounds_toArray, List.set_cons_zero, List.set_cons_succ]
      refine wpAnyH_done (by kernel_rfl) ?_ _
      go_upto_region 13 with (fail)
      obtain ⟨W2, hW2⟩ : ∃ z, z = WB.setCell ⟨b3, 3, none⟩ (.slice (some ⟨F0.heap.size, 0, none⟩) s.size capB) := ⟨_, rfl⟩
      have HWF : Whole W2 b3 43 #[.int .i64 1, .int .i64 2, .int .u64 (b : Int), .slice (some ⟨F0.heap.size, 0, none⟩) s.size capB] := by rw [hW2]; simpa using HWSB.out
      have HB9 : Below w.heap.size w W2 := by rw [hW2]; exact HBSB.out
      have hNf : Nums .u8 W2 W2.heap.size (some ⟨F0.heap.size, 0, none⟩) (bsOf s) := by rw [hW2]; exact HNSB.out
      rw [← hW2]
      clear hW2 HWSA HWSB HBSA HBSB HNSA HNSB
      have hGA : GAt (W2.alloc (.cells #[.int .i64 1, .int .i64 2, .int .u64 (b : Int), .slice (some ⟨F0.heap.size, 0, none⟩) s.size capB] 43)) (W2.heap.size + 1) (some ⟨W2.heap.size, 0, none⟩) [(⟨1, 2, b, (bsOf s)⟩ : G)] := gAt_one W2 1 2 b (bsOf s) _ _ ((bsOf_length s).symm) (hNf)
      have HP := Lib.hid (refPut_any _ 1 [(⟨1, 2, b, (bsOf s)⟩ : G)] _ (hGA.more (by simp)) (fun g hg => by obtain rfl := List.mem_singleton.1 hg; exact ⟨hk, by first | (show (-9223372036854775808 : Int) ≤ 2 ∧ (2 : Int) < 9223372036854775808; omega), by first | exact hb | exact Hzl.out, by simp [bsOf_length]; first | omega | done, by first | exact bsOf_lt s | (intro x hx; cases hx)⟩) (by simp) (by rw [← hgp]; exact hl))
      rw [← hgp] at HP
      have g0 : W2.cell? ⟨b3, 0, none⟩ = some (.int .i64 1) := HWF.cell 0
      have g1 : W2.cell? ⟨b3, 1, none⟩ = some (.int .i64 2) := HWF.cell 1
      have g2 : W2.cell? ⟨b3, 2, none⟩ = some (.int .u64 (b : Int)) := HWF.cell 2
      have g3 : W2.cell? ⟨b3, 3, none⟩ = some (.slice (some ⟨F0.heap.size, 0, none⟩) s.size capB) := HWF.cell 3
      have HBF := Lib.hid (HB9.alloc HB9.size (.cells #[.int .i64 1, .int .i64 2, .int .u64 (b : Int), .slice (some ⟨F0.heap.size, 0, none⟩) s.size capB] 43))
      clear hGA HWF HB9
      go_wp2_with fail
      refine HP.out.mono ?_
      rintro e W9 ⟨v9, rfl, hO, hB9⟩
      have HO := Lib.hid hO
      have HB9 := Lib.hid (HBF.out.trans (hB9.mono HBF.out.size))
      clear hO hB9 HP
      go_wp2_with fail
      go_ret
      exact ⟨_, rfl, own8_lower HO.out HBF.out.size, HB9.out⟩
  · have d1 : (k == 1) = false := by simpa using hk1
    by_cases hk2 : k = 2
    · subst hk2
      have hgp : pgs [fieldG (2, s, b)] = pgs [(⟨2, 5, b, []⟩ : G)] := by simp [pgs, G.bytes, pfI, fieldG, fk]
      have HWS := Lib.hid (HWF.set 1 (.int .i64 5))
      have HBS := Lib.hid (HB9.setCell (p := ⟨b3, 1, none⟩) hlo3 (.int .i64 5))
      clear HWF HB9
      go_upto_region 13 with (fail)
      obtain ⟨W2, hW2⟩ : ∃ z, z = F0.setCell ⟨b3, 1, none⟩ (.int .i64 5) := ⟨_, rfl⟩
      have HWF : Whole W2 b3 43 #[.int .i64 2, .int .i64 5, .int .u64 (b : Int), .slice none 0 0] := by rw [hW2]; simpa using HWS.out
      have HB9 := HBS.out
      rw [← hW2] at HB9 ⊢
      clear hW2 HWS HBS
      have hGA : GAt (W2.alloc (.cells #[.int .i64 2, .int .i64 5, .int .u64 (b : Int), .slice none 0 0] 43)) (W2.heap.size + 1) (some ⟨W2.heap.size, 0, none⟩) [(⟨2, 5, b, []⟩ : G)] := gAt_one W2 2 5 b [] _ _ (rfl) (Nums.nil_)
      have HP := Lib.hid (refPut_any _ 1 [(⟨2, 5, b, []⟩ : G)] _ (hGA.more (by simp)) (fun g hg => by obtain rfl := List.mem_singleton.1 hg; exact ⟨hk, by first | (show (-9223372036854775808 : Int) ≤ 5 ∧ (5 : Int) < 9223372036854775808; omega), by first | exact hb | exact Hzl.out, by simp [bsOf_length]; first | omega | done, by first | exact bsOf_lt s | (intro x hx; cases hx)⟩) (by simp) (by rw [← hgp]; exact hl))
      rw [← hgp] at HP
      have g0 : W2.cell? ⟨b3, 0, none⟩ = some (.int .i64 2) := HWF.cell 0
      have g1 : W2.cell? ⟨b3, 1, none⟩ = some (.int .i64 5) := HWF.cell 1
      have g2 : W2.cell? ⟨b3, 2, none⟩ = some (.int .u64 (b : Int)) := HWF.cell 2
      have g3 : W2.cell? ⟨b3, 3, none⟩ = some (.slice none 0 0) := HWF.cell 3
      have HBF := Lib.hid (HB9.alloc HB9.size (.cells #[.int .i64 2, .int .i64 5, .int .u64 (b : Int), .slice none 0 0] 43))
      clear hGA HWF HB9
      go_wp2_with fail
      refine HP.out.mono ?_
      rintro e W9 ⟨v9, rfl, hO, hB9⟩
      have HO := Lib.hid hO
      have HB9 := Lib.hid (HBF.out.trans (hB9.mono HBF.out.size))
      clear hO hB9 HP
      go_wp2_with fail
      go_ret
      exact ⟨_, rfl, own8_lower HO.out HBF.out.size, HB9.out⟩
    · have d2 : (k == 2) = false := by simpa using hk2
      by_cases hk3 : k = 3
      · subst hk3
        have hgp : pgs [fieldG (3, s, b)] = pgs [(⟨3, 1, b, []⟩ : G)] := by simp [pgs, G.bytes, pfI, fieldG, fk]
        have HWS := Lib.hid (HWF.set 1 (.int .i64 1))
        have HBS := Lib.hid (HB9.setCell (p := ⟨b3, 1, none⟩) hlo3 (.int .i64 1))
        clear HWF HB9
        go_upto_region 13 with (fail)
        obtain ⟨W2, hW2⟩ : ∃ z, z = F0.setCell ⟨b3, 1, none⟩ (.int .i64 1) := ⟨_, rfl⟩
        have HWF : Whole W2 b3 43 #[.int .i64 3, .int .i64 1, .int .u64 (b : Int), .slice none 0 0] := by rw [hW2]; simpa using HWS.out
        have HB9 := HBS.out
        rw [← hW2] at HB9 ⊢
        clear hW2 HWS HBS
        have hGA : GAt (W2.alloc (.cells #[.int .i64 3, .int .i64 1, .int .u64 (b : Int), .slice none 0 0] 43)) (W2.heap.size + 1) (some ⟨W2.heap.size, 0, none⟩) [(⟨3, 1, b, []⟩ : G)] := gAt_one W2 3 1 b [] _ _ (rfl) (Nums.nil_)
        have HP := Lib.hid (refPut_any _ 1 [(⟨3, 1, b, []⟩ : G)] _ (hGA.more (by simp)) (fun g hg => by obtain rfl := List.mem_singleton.1 hg; exact ⟨hk, by first | (show (-9223372036854775808 : Int) ≤ 1 ∧ (1 : Int) < 9223372036854775808; omega), by first | exact hb | exact Hzl.out, by simp [bsOf_length]; first | omega | done, by first | exact bsOf_lt s | (intro x hx; cases hx)⟩) (by simp) (by rw [← hgp]; exact hl))
        rw [← hgp] at HP
        have g0 : W2.cell? ⟨b3, 0, none⟩ = some (.int .i64 3) := HWF.cell 0
        have g1 : W2.cell? ⟨b3, 1, none⟩ = some (.int .i64 1) := HWF.cell 1
        have g2 : W2.cell? ⟨b3, 2, none⟩ = some (.int .u64 (b : Int)) := HWF.cell 2
        have g3 : W2.cell? ⟨b3, 3, none⟩ = some (.slice none 0 0) := HWF.cell 3
        have HBF := Lib.hid (HB9.alloc HB9.size (.cells #[.int .i64 3, .int .i64 1, .int .u64 (b : Int), .slice none 0 0] 43))
        clear hGA HWF HB9
        go_wp2_with fail
        refine HP.out.mono ?_
        rintro e W9 ⟨v9, rfl, hO, hB9⟩
        have HO := Lib.hid hO
        have HB9 := Lib.hid (HBF.out.trans (hB9.mono HBF.out.size))
        clear hO hB9 HP
        go_wp2_with fail
        go_ret
        exact ⟨_, rfl, own8_lower HO.out HBF.out.size, HB9.out⟩
      · have d3 : (k == 3) = false := by simpa using hk3
        by_cases hk6 : k = 6
        · subst hk6
          obtain ⟨n, hn⟩ : ∃ n : Int, n = if b < 9223372036854775808 then (b : Int) else (b : Int) - 18446744073709551616 := ⟨_, rfl⟩
          have hnr : -9223372036854775808 ≤ n ∧ n < 9223372036854775808 := by rw [hn]; split <;> omega
          have w1 : wrap64 (b : Int) = n := by rw [hn]; unfold wrap64; split <;> omega
          have hwn : IntKind.i64.wrap (b : Int) = n := (IntWalk.i64_left _).trans w1
          have Hzl := Lib.hid (zig_lt hnr)
          have hgp : pgs [fieldG (6, s, b)] = pgs [(⟨6, 0, zig n, []⟩ : G)] := by rw [hn]; rfl
          clear hn
          have w2 : IntKind.i64.wrap (b : Int) = n := hwn
          have HZ := Lib.hid fun W => rzig_any n W hnr
          have HWS := Lib.hid (HWF.set 2 (.int .u64 ((zig n : Nat) : Int)))
          have HBS := Lib.hid (HB9.setCell (p := ⟨b3, 2, none⟩) hlo3 (.int .u64 ((zig n : Nat) : Int)))
          clear HWF HB9
          go_wp2_with fail
          refine (HZ.out _).mono ?_
          rintro e Z ⟨rfl, rfl⟩
          clear HZ
          go_upto_region 13 with (fail)
          obtain ⟨W2, hW2⟩ : ∃ z, z = F0.setCell ⟨b3, 2, none⟩ (.int .u64 ((zig n : Nat) : Int)) := ⟨_, rfl⟩
          have HWF : Whole W2 b3 43 #[.int .i64 6, .int .i64 0, .int .u64 ((zig n : Nat) : Int), .slice none 0 0] := by rw [hW2]; simpa using HWS.out
          have HB9 := HBS.out
          rw [← hW2] at HB9 ⊢
          clear hW2 HWS HBS
          have hGA : GAt (W2.alloc (.cells #[.int .i64 6, .int .i64 0, .int .u64 ((zig n : Nat) : Int), .slice none 0 0] 43)) (W2.heap.size + 1) (some ⟨W2.heap.size, 0, none⟩) [(⟨6, 0, (zig n), []⟩ : G)] := gAt_one W2 6 0 (zig n) [] _ _ (rfl) (Nums.nil_)
          have HP := Lib.hid (refPut_any _ 1 [(⟨6, 0, (zig n), []⟩ : G)] _ (hGA.more (by simp)) (fun g hg => by obtain rfl := List.mem_singleton.1 hg; exact ⟨hk, by first | (show (-9223372036854775808 : Int) ≤ 0 ∧ (0 : Int) < 9223372036854775808; omega), by first | exact hb | exact Hzl.out, by simp [bsOf_length]; first | omega | done, by first | exact bsOf_lt s | (intro x hx; cases hx)⟩) (by simp) (by rw [← hgp]; exact hl))
          rw [← hgp] at HP
          have g0 : W2.cell? ⟨b3, 0, none⟩ = some (.int .i64 6) := HWF.cell 0
          have g1 : W2.cell? ⟨b3, 1, none⟩ = some (.int .i64 0) := HWF.cell 1
          have g2 : W2.cell? ⟨b3, 2, none⟩ = some (.int .u64 ((zig n : Nat) : Int)) := HWF.cell 2
          have g3 : W2.cell? ⟨b3, 3, none⟩ = some (.slice none 0 0) := HWF.cell 3
          have HBF := Lib.hid (HB9.alloc HB9.size (.cells #[.int .i64 6, .int .i64 0, .int .u64 ((zig n : Nat) : Int), .slice none 0 0] 43))
          clear hGA HWF HB9
          go_wp2_with fail
          refine HP.out.mono ?_
          rintro e W9 ⟨v9, rfl, hO, hB9⟩
          have HO := Lib.hid hO
          have HB9 := Lib.hid (HBF.out.trans (hB9.mono HBF.out.size))
          clear hO hB9 HP
          go_wp2_with fail
          go_ret
          exact ⟨_, rfl, own8_lower HO.out HBF.out.size, HB9.out⟩
        · have d6 : (k == 6) = false := by simpa using hk6
          have hgp : pgs [fieldG (k, s, b)] = pgs [(⟨k, 0, b, []⟩ : G)] := by unfold fieldG fk; simp only [if_neg hk1, if_neg hk2, if_neg hk3, if_neg hk6]
          go_upto_region 13 with (fail)
          have hGA : GAt (F0.alloc (.cells #[.int .i64 k, .int .i64 0, .int .u64 (b : Int), .slice none 0 0] 43)) (F0.heap.size + 1) (some ⟨F0.heap.size, 0, none⟩) [(⟨k, 0, b, []⟩ : G)] := gAt_one F0 k 0 b [] _ _ (rfl) (Nums.nil_)
          have HP := Lib.hid (refPut_any _ 1 [(⟨k, 0, b, []⟩ : G)] _ (hGA.more (by simp)) (fun g hg => by obtain rfl := List.mem_singleton.1 hg; exact ⟨hk, by first | (show (-9223372036854775808 : Int) ≤ 0 ∧ (0 : Int) < 9223372036854775808; omega), by first | exact hb | exact Hzl.out, by simp [bsOf_length]; first | omega | done, by first | exact bsOf_lt s | (intro x hx; cases hx)⟩) (by simp) (by rw [← hgp]; exact hl))
          rw [← hgp] at HP
          have g0 : F0.cell? ⟨b3, 0, none⟩ = some (.int .i64 k) := HWF.cell 0
          have g1 : F0.cell? ⟨b3, 1, none⟩ = some (.int .i64 0) := HWF.cell 1
          have g2 : F0.cell? ⟨b3, 2, none⟩ = some (.int .u64 (b : Int)) := HWF.cell 2
          have g3 : F0.cell? ⟨b3, 3, none⟩ = some (.slice none 0 0) := HWF.cell 3
          have HBF := Lib.hid (HB9.alloc HB9.size (.cells #[.int .i64 k, .int .i64 0, .int .u64 (b : Int), .slice none 0 0] 43))
          clear hGA HWF HB9
          go_wp2_with fail
          refine HP.out.mono ?_
          rintro e W9 ⟨v9, rfl, hO, hB9⟩
          have HO := Lib.hid hO
          have HB9 := Lib.hid (HBF.out.trans (hB9.mono HBF.out.size))
          clear hO hB9 HP
          go_wp2_with fail
          go_ret
          exact ⟨_, rfl, own8_lower HO.out HBF.out.size, HB9.out⟩
end Go.Proofs.YtdifojeghplpeaaDoor
