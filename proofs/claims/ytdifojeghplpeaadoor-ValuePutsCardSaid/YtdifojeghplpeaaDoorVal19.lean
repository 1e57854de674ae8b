/- Layer 8: ValuePuts. -/
import Derived.Test.YtdifojeghplpeaaDoorVal18
import Derived.Test.YtdifojeghplpeaaDoorOpenVal
namespace Go.Proofs.YtdifojeghplpeaaDoor
open Go.RowKit Var
set_option linter.unusedVariables false
set_option maxRecDepth 100000

def putV (v : V3) : List Nat := if rightV v = true then pgs [fieldG v] else []
theorem getW_nil : getW [] = (zeroV, 3) := by
  unfold getW
  have h : gets [] (([] : List Nat).length + 1) 0 [] = ([], 0) := gets_end (by simp)
  rw [h]
  simp [knTo]
theorem valuePut_any (v : V3) (w : World) (hT : Tabs w) (hk : -9223372036854775808 ≤ v.1 ∧ v.1 < 9223372036854775808) (hb : v.2.2 < 18446744073709551616) (hs : v.2.1.size ≤ 1000) :
    Calls Tryd.prog 7 #[vv v] w (PutPost w (putV v)) := by
  have HR : ∀ W, Below w.heap.size w W → Calls Tryd.prog 8 #[vv v] W fun e w' => e = .returned (.bool (rightV v)) ∧ Below W.heap.size W w' := fun W hW => right_any v W (hT.below hW) (by omega) hb
  unfold putV
  cases h : rightV v with
  | true =>
    rw [h] at HR
    rw [if_pos rfl]
    exact valuePut_yes v w hk hb hs (by have := (right_back h hb hs).1; omega) HR
  | false =>
    rw [h] at HR
    rw [if_neg (by simp)]
    refine (valuePut_no v w HR).mono ?_
    rintro e w' ⟨rfl, hb⟩
    exact ⟨_, rfl, Own8.nil_ _ _, hb⟩
theorem rvaluePut_any (v : V3) (w : World) (hT : Tabs w) (hk : -9223372036854775808 ≤ v.1 ∧ v.1 < 9223372036854775808) (hb : v.2.2 < 18446744073709551616) (hs : v.2.1.size ≤ 1000) :
    Calls Tryd.prog 10 #[vv v] w (PutPost w (putV v)) := by
  have HR : ∀ W, Below w.heap.size w W → Calls Tryd.prog 9 #[vv v] W fun e w' => e = .returned (.bool (rightV v)) ∧ Below W.heap.size W w' := fun W hW => rright_any v W (hT.below hW) (by omega) hb
  unfold putV
  cases h : rightV v with
  | true =>
    rw [h] at HR
    rw [if_pos rfl]
    exact rvaluePut_yes v w hk hb hs (by have := (right_back h hb hs).1; omega) HR
  | false =>
    rw [h] at HR
    rw [if_neg (by simp)]
    refine (rvaluePut_no v w HR).mono ?_
    rintro e w' ⟨rfl, hb⟩
    exact ⟨_, rfl, Own8.nil_ _ _, hb⟩
theorem putV_facts {v : V3} (hb : v.2.2 < 18446744073709551616) (hs : v.2.1.size ≤ 1000) : (putV v).length ≤ 1020 ∧ (∀ x ∈ putV v, x < 256) ∧ getW (putV v) = (if rightV v = true then (plain v, 0) else (zeroV, 3)) ∧ (rightV v = false → putV v = []) := by
  unfold putV
  cases h : rightV v with
  | true => simpa using right_back h hb hs
  | false => exact ⟨by simp, by simp, by simpa using getW_nil, fun _ => by simp⟩
set_option maxHeartbeats 16000000 in
theorem valuePuts_walk (v : V3) (w : World) (hs0 : v.2.1.size ≤ 9223372036854775807) (hk : -9223372036854775808 ≤ v.1 ∧ v.1 < 9223372036854775808) (hb : v.2.2 < 18446744073709551616) (hT : Tabs w) :
    Calls Tryd.prog 3 #[vv v] w fun e w' => e = .returned (.bool true) ∧ Below w.heap.size w w' := by
  have HLV := Lib.hid fun W (_ : Below w.heap.size w W) => live08_any W
  have HC := Lib.hid code8_any
  by_cases hbig : v.2.1.size ≤ 500
  · have HRt := Lib.hid fun W (h : Below w.heap.size w W) => right_any v W (hT.below h) hs0 hb
    have HRR := Lib.hid fun W (h : Below w.heap.size w W) => rright_any v W (hT.below h) hs0 hb
    have HP := Lib.hid fun W (h : Below w.heap.size w W) => valuePut_any v W (hT.below h) hk hb (by omega)
    have HRP := Lib.hid fun W (h : Below w.heap.size w W) => rvaluePut_any v W (hT.below h) hk hb (by omega)
    have HK := Lib.hid fun W (_ : Below w.heap.size w W) => kind_any v W
    have HRK := Lib.hid fun W (_ : Below w.heap.size w W) => rkind_any v W
    have HPl := Lib.hid fun W (_ : Below w.heap.size w W) => plain_any v W
    have HRPl := Lib.hid fun W (_ : Below w.heap.size w W) => rplain_any v W
    have hf := putV_facts hb (show v.2.1.size ≤ 1000 by omega)
    have HG := Lib.hid fun (a : Option Addr) (c : Nat) W (h : Below w.heap.size w W) (hN : Nums .u8 W W.heap.size a (putV v)) (hc : (putV v).length ≤ c) => valueGet_any a c (putV v) W (hT.below h) hN hf.2.1 hc (by omega)
    obtain ⟨bl, hbl⟩ : ∃ z, z = putV v := ⟨_, rfl⟩
    obtain ⟨rv, hrv⟩ : ∃ z, z = rightV v := ⟨_, rfl⟩
    obtain ⟨⟨pk, ps, pn⟩, hpl⟩ : ∃ z, z = plain v := ⟨_, rfl⟩
    rw [← hbl] at HP HRP HG hf
    rw [← hrv] at HRt HRR hf
    rw [← hpl] at HPl HRPl hf
    obtain ⟨⟨⟨gk, gs, gn⟩, gE⟩, hgw⟩ : ∃ z, z = getW bl := ⟨_, rfl⟩
    rw [← hgw] at HG hf
    obtain ⟨k, s, b⟩ := v
    simp only at hbig HK HRK
    obtain ⟨kv, hkv⟩ : ∃ z, z = kindV k := ⟨_, rfl⟩
    rw [← hkv] at HK HRK
    have HLt := Lib.hid hf.2.1
    have Hgw := Lib.hid hf.2.2.1
    have Hnil := Lib.hid hf.2.2.2
    simp only [vv] at HRt HRR HP HRP HK HRK HPl HRPl HG ⊢
    have hg : ¬ (500 : Int) < (s.size : Int) := by omega
    have dg : decide ((500 : Int) < (s.size : Int)) = false := decide_eq_false hg
    obtain ⟨n1, hn1⟩ : ∃ z, z = bl.length := ⟨_, rfl⟩
    have HNl := Lib.hid hn1
    clear hs0 hk hb hT hf hbl hrv hpl hgw hkv hbig hn1
    go_enter Tryd.func3, Tryd.ntmps3
    go_upto_region 1 with (fail)
    obtain ⟨b1, hb1⟩ : ∃ z, z = w.heap.size := ⟨_, rfl⟩
    obtain ⟨X, hX⟩ : ∃ z, z = w.alloc (.cells #[.int .i64 k, .string s, .int .u64 (b : Int)] 24) := ⟨_, rfl⟩
    have hW : Whole X b1 24 #[.int .i64 k, .string s, .int .u64 (b : Int)] := by rw [hX, hb1]; exact Whole.new w _ _
    have HB : Hid (Below w.heap.size w X) := by rw [hX]; exact (Below.refl _ _).alloc (Nat.le_refl _) _
    have x0 : X.cell? ⟨b1, 0, none⟩ = some (.int .i64 k) := hW.cell 0
    have x1 : X.cell? ⟨b1, 1, none⟩ = some (.string s) := hW.cell 1
    have x2 : X.cell? ⟨b1, 2, none⟩ = some (.int .u64 (b : Int)) := hW.cell 2
    have hl : b1 < X.heap.size := hW.lt
    rw [← hX, ← hb1]
    clear hX hb1 hW
    go_wp2_with fail
    refine (HP.out _ HB.out).mono ?_
    rintro e Z ⟨v1, rfl, hO1, hb⟩
    have HB := Lib.hid (HB.out.trans (hb.mono HB.out.size))
    have x0 := (hb.cell hl).trans x0
    have x1 := (hb.cell hl).trans x1
    have x2 := (hb.cell hl).trans x2
    have hl := Nat.lt_of_lt_of_le hl hb.size
    obtain ⟨a1, c1, rfl, hc1, -, -, hN1⟩ := hO1.nums
    have HN := Lib.hid hN1
    rw [← HNl.out]
    have hc1 : n1 ≤ c1 := by rw [HNl.out]; exact hc1
    clear hb hO1 hN1 HP
    go_upto_region 4 with (fail)
    refine held_start (by kernel_rfl) ?_
    obtain ⟨D, hD⟩ : ∃ z, z = Z.drew := ⟨_, rfl⟩
    have HBd : Hid (Below w.heap.size w Z.drew) := ⟨HB.out.os, HB.out.tape, HB.out.output, HB.out.size, HB.out.block⟩
    have d0 : Z.drew.cell? ⟨b1, 0, none⟩ = _ := x0
    have d1 : Z.drew.cell? ⟨b1, 1, none⟩ = _ := x1
    have d2 : Z.drew.cell? ⟨b1, 2, none⟩ = _ := x2
    have dl : b1 < Z.drew.heap.size := hl
    have HNd : Hid (Nums .u8 Z.drew Z.drew.heap.size a1 bl) := HN.out
    rw [← hD] at HBd d0 d1 d2 dl HNd ⊢
    clear hD HB x0 x1 x2 hl HN
    have HB := HBd
    have x0 := d0
    have x1 := d1
    have x2 := d2
    have hl := dl
    have HN := HNd
    clear HBd d0 d1 d2 dl HNd
    refine wpAnyH_take (i := 0) (oi := { dst := some 13, op := Go.Op.load 24 (Go.Operand.tmp 1), type := 24, pos := "law.go:23", after := #[], guard := none }) (v := ?_) rfl (by kernel_rfl) (by kernel_rfl) (by kernel_rfl) (fun _ _ _ h => h) (Or.inl ⟨by rfl, ?_⟩) (Kp.refl _) ?_
    rotate_left 1
    · intro w5 hSw
      have q0 := (hSw.cell hl).trans x0
      have q1 := (hSw.cell hl).trans x1
      have q2 := (hSw.cell hl).trans x2
      go_simp; all_goals (with_reducible rfl)
    try simp only [Act.put, List.setIfInBounds_toArray, List.set_cons_zero, List.set_cons_succ]
    refine wpAnyH_take (i := 2) (oi := { dst := some 15, op := Go.Op.load 24 (Go.Operand.tmp 1), type := 24, pos := "law.go:23", after := #[], guard := none }) (v := ?_) rfl (by kernel_rfl) (by kernel_rfl) (by kernel_rfl) (fun _ _ _ h => h) (Or.inl ⟨by rfl, ?_⟩) (Kp.refl _) ?_
    rotate_left 1
    · intro w5 hSw
      have q0 := (hSw.cell hl).trans x0
      have q1 := (hSw.cell hl).trans x1
      have q2 := (hSw.cell hl).trans x2
      go_simp; all_goals (with_reducible rfl)
    try simp only [Act.put, List.setIfInBounds_toArray, List.set_cons_zero, List.set_cons_succ]
    refine wpAnyH_ready (rs := [1]) (by kernel_rfl) (by simp) ?_
    refine AllReadyH.cons (o := { dst := some 14, op := Go.Op.call { callee := Go.Callee.value (Go.Operand.func 8), args := #[Go.Operand.tmp 13], argTypes := #[24] }, type := 4, pos := "law.go:23", after := #[{ on := 0, ground := Go.Ground.data }], guard := none }) rfl (fun K hK => ?_) AllReadyH.nil
    go_simp
    refine (HRt.out D HB.out).mono ?_; rintro e Y1 ⟨rfl, hb⟩; have HB := Lib.hid (HB.out.trans (hb.mono HB.out.size)); have x0 := (hb.cell hl).trans x0; have x1 := (hb.cell hl).trans x1; have x2 := (hb.cell hl).trans x2; have HN := Lib.hid ((HN.out.below hb).more hb.size); have hb1 := hb; have hl := Nat.lt_of_lt_of_le hl hb.size; clear hb
    go_wp2_with fail
    refine hK.out _ _ (hb1) (fun _ => held_more (hb1) ?_)
    clear hK K
    try simp only [Act.put, List.setIfInBounds_toArray, List.set_cons_zero, List.set_cons_succ]
    refine wpAnyH_ready (rs := [3]) (by kernel_rfl) (by simp) ?_
    refine AllReadyH.cons (o := { dst := some 16, op := Go.Op.call { callee := Go.Callee.value (Go.Operand.func 9), args := #[Go.Operand.tmp 15], argTypes := #[24] }, type := 4, pos := "law.go:23", after := #[{ on := 2, ground := Go.Ground.data }, { on := 1, ground := Go.Ground.chain }], guard := none }) rfl (fun K hK => ?_) AllReadyH.nil
    go_simp
    refine (HRR.out Y1 HB.out).mono ?_; rintro e Y2 ⟨rfl, hb⟩; have HB := Lib.hid (HB.out.trans (hb.mono HB.out.size)); have x0 := (hb.cell hl).trans x0; have x1 := (hb.cell hl).trans x1; have x2 := (hb.cell hl).trans x2; have HN := Lib.hid ((HN.out.below hb).more hb.size); have hb2 := hb; have hl := Nat.lt_of_lt_of_le hl hb.size; clear hb
    go_wp2_with fail
    refine hK.out _ _ (hb2) (fun _ => held_more (hb2) ?_)
    clear hK K
    try simp only [Act.put, List.setIfInBounds_toArray, List.set_cons_zero, List.set_cons_succ]
    refine wpAnyH_take (i := 4) (oi := { dst := some 17, op := Go.Op.binOp Go.BinOp.neq 4 (Go.Operand.tmp 14) (Go.Operand.tmp 16) 4, type := 4, pos := "law.go:23", after := #[{ on := 1, ground := Go.Ground.data }, { on := 3, ground := Go.Ground.data }], guard := none }) (v := ?_) rfl (by kernel_rfl) (by kernel_rfl) (by kernel_rfl) (fun _ _ _ h => h) (Or.inl ⟨by rfl, ?_⟩) (Kp.refl _) ?_
    rotate_left 1
    · intro w5 hSw
      go_simp; all_goals (with_reducible rfl)
    try simp only [Act.put, List.setIfInBounds_toArray, List.set_cons_zero, List.set_cons_succ]
    refine wpAnyH_take (i := 5) (oi := { dst := some 18, op := Go.Op.move (Go.Operand.tmp 17), type := 4, pos := "law.go:23", after := #[{ on := 4, ground := Go.Ground.data }, { on := 3, ground := Go.Ground.chain }], guard := none }) (v := ?_) rfl (by kernel_rfl) (by kernel_rfl) (by kernel_rfl) (fun _ _ _ h => h) (Or.inl ⟨by rfl, ?_⟩) (Kp.refl _) ?_
    rotate_left 1
    · intro w5 hSw
      go_simp; all_goals (with_reducible rfl)
    try simp only [Act.put, List.setIfInBounds_toArray, List.set_cons_zero, List.set_cons_succ]
    refine wpAnyH_take (i := 6) (oi := { dst := some 19, op := Go.Op.move (Go.Operand.tmp 3), type := 26, pos := "law.go:23", after := #[{ on := 5, ground := Go.Ground.guard }], guard := some (5, false) }) (v := ?_) rfl (by kernel_rfl) (by kernel_rfl) (by kernel_rfl) (fun _ _ _ h => h) (Or.inl ⟨by rfl, ?_⟩) (Kp.refl _) ?_
    rotate_left 1
    · intro w5 hSw
      go_simp; all_goals (with_reducible rfl)
    try simp only [Act.put, List.setIfInBounds_toArray, List.set_cons_zero, List.set_cons_succ]
    refine wpAnyH_take (i := 7) (oi := { dst := some 20, op := Go.Op.convert 26 9 (Go.Operand.tmp 19), type := 9, pos := "law.go:23", after := #[{ on := 6, ground := Go.Ground.data }, { on := 5, ground := Go.Ground.guard }], guard := some (5, false) }) (v := ?_) rfl (by kernel_rfl) (by kernel_rfl) (by kernel_rfl) (fun _ _ _ h => h) (Or.inl ⟨by rfl, ?_⟩) (Kp.refl _) ?_
    rotate_left 1
    · intro w5 hSw
      have hst : (convert 26 9 (.slice a1 n1 c1)).run Tryd.prog w5 = .ok (.string (strOf bl)) w5 := by rw [HNl.out]; exact str_of_nums w5 _ 26 9 5 a1 c1 bl Tryd.underlying26 Tryd.underlying5 Tryd.underlying9 (HN.out.below hSw) HLt.out
      go_simp; all_goals (with_reducible rfl)
    try simp only [Act.put, List.setIfInBounds_toArray, List.set_cons_zero, List.set_cons_succ]
    refine wpAnyH_take (i := 8) (oi := { dst := some 21, op := Go.Op.load 24 (Go.Operand.tmp 1), type := 24, pos := "law.go:23", after := #[{ on := 5, ground := Go.Ground.guard }], guard := some (5, false) }) (v := ?_) rfl (by kernel_rfl) (by kernel_rfl) (by kernel_rfl) (fun _ _ _ h => h) (Or.inl ⟨by rfl, ?_⟩) (Kp.refl _) ?_
    rotate_left 1
    · intro w5 hSw
      have q0 := (hSw.cell hl).trans x0
      have q1 := (hSw.cell hl).trans x1
      have q2 := (hSw.cell hl).trans x2
      go_simp; all_goals (with_reducible rfl)
    try simp only [Act.put, List.setIfInBounds_toArray, List.set_cons_zero, List.set_cons_succ]
    refine wpAnyH_ready (rs := [9]) (by kernel_rfl) (by simp) ?_
    refine AllReadyH.cons (o := { dst := some 22, op := Go.Op.call { callee := Go.Callee.value (Go.Operand.func 10), args := #[Go.Operand.tmp 21], argTypes := #[24] }, type := 26, pos := "law.go:23", after := #[{ on := 8, ground := Go.Ground.data }, { on := 5, ground := Go.Ground.chain }, { on := 5, ground := Go.Ground.guard }], guard := some (5, false) }) rfl (fun K hK => ?_) AllReadyH.nil
    go_simp
    refine (HRP.out Y2 HB.out).mono ?_; rintro e Y3 ⟨v2, rfl, hO2, hb⟩; obtain ⟨a2, c2, rfl, -, -, -, hN2⟩ := hO2.nums; have HN2 := Lib.hid hN2; clear hN2 hO2; have HB := Lib.hid (HB.out.trans (hb.mono HB.out.size)); have x0 := (hb.cell hl).trans x0; have x1 := (hb.cell hl).trans x1; have x2 := (hb.cell hl).trans x2; have HN := Lib.hid ((HN.out.below hb).more hb.size); have hb3 := hb; have hl := Nat.lt_of_lt_of_le hl hb.size; clear hb
    go_wp2_with fail
    refine hK.out _ _ (hb3) (fun _ => held_more (hb3) ?_)
    clear hK K
    try simp only [Act.put, List.setIfInBounds_toArray, List.set_cons_zero, List.set_cons_succ]
    refine wpAnyH_take (i := 10) (oi := { dst := some 23, op := Go.Op.convert 26 9 (Go.Operand.tmp 22), type := 9, pos := "law.go:23", after := #[{ on := 9, ground := Go.Ground.data }, { on := 5, ground := Go.Ground.guard }], guard := some (5, false) }) (v := ?_) rfl (by kernel_rfl) (by kernel_rfl) (by kernel_rfl) (fun _ _ _ h => h) (Or.inl ⟨by rfl, ?_⟩) (Kp.refl _) ?_
    rotate_left 1
    · intro w5 hSw
      have hst : (convert 26 9 (.slice a2 bl.length c2)).run Tryd.prog w5 = .ok (.string (strOf bl)) w5 := str_of_nums w5 _ 26 9 5 a2 c2 bl Tryd.underlying26 Tryd.underlying5 Tryd.underlying9 (HN2.out.below hSw) HLt.out
      go_simp; all_goals (with_reducible rfl)
    try simp only [Act.put, List.setIfInBounds_toArray, List.set_cons_zero, List.set_cons_succ]
    refine wpAnyH_take (i := 11) (oi := { dst := some 24, op := Go.Op.binOp Go.BinOp.neq 9 (Go.Operand.tmp 20) (Go.Operand.tmp 23) 9, type := 4, pos := "law.go:23", after := #[{ on := 7, ground := Go.Ground.data }, { on := 10, ground := Go.Ground.data }, { on := 5, ground := Go.Ground.guard }], guard := some (5, false) }) (v := ?_) rfl (by kernel_rfl) (by kernel_rfl) (by kernel_rfl) (fun _ _ _ h => h) (Or.inl ⟨by rfl, ?_⟩) (Kp.refl _) ?_
    rotate_left 1
    · intro w5 hSw
      go_simp; all_goals (with_reducible rfl)
    try simp only [Act.put, List.setIfInBounds_toArray, List.set_cons_zero, List.set_cons_succ]
    refine wpAnyH_take (i := 12) (oi := { dst := some 25, op := Go.Op.pick (Go.Operand.tmp 18) (Go.Operand.const (Go.Value.bool true)) (Go.Operand.tmp 24), type := 4, pos := "law.go:23", after := #[{ on := 5, ground := Go.Ground.data }, { on := 11, ground := Go.Ground.data }], guard := none }) (v := ?_) rfl (by kernel_rfl) (by kernel_rfl) (by kernel_rfl) (fun _ _ _ h => h) (Or.inl ⟨by rfl, ?_⟩) (Kp.refl _) ?_
    rotate_left 1
    · intro w5 hSw
      go_simp; all_goals (with_reducible rfl)
    try simp only [Act.put, List.setIfInBounds_toArray, List.set_cons_zero, List.set_cons_succ]
    refine wpAnyH_take (i := 13) (oi := { dst := some 26, op := Go.Op.move (Go.Operand.tmp 25), type := 4, pos := "law.go:23", after := #[{ on := 12, ground := Go.Ground.data }, { on := 9, ground := Go.Ground.chain }], guard := none }) (v := ?_) rfl (by kernel_rfl) (by kernel_rfl) (by kernel_rfl) (fun _ _ _ h => h) (Or.inl ⟨by rfl, ?_⟩) (Kp.refl _) ?_
    rotate_left 1
    · intro w5 hSw
      go_simp; all_goals (with_reducible rfl)
    try simp only [Act.put, List.setIfInBounds_toArray, List.set_cons_zero, List.set_cons_succ]
    refine wpAnyH_take (i := 14) (oi := { dst := some 27, op := Go.Op.load 24 (Go.Operand.tmp 1), type := 24, pos := "law.go:23", after := #[{ on := 13, ground := Go.Ground.guard }], guard := some (13, false) }) (v := ?_) rfl (by kernel_rfl) (by kernel_rfl) (by kernel_rfl) (fun _ _ _ h => h) (Or.inl ⟨by rfl, ?_⟩) (Kp.refl _) ?_
    rotate_left 1
    · intro w5 hSw
      have q0 := (hSw.cell hl).trans x0
      have q1 := (hSw.cell hl).trans x1
      have q2 := (hSw.cell hl).trans x2
      go_simp; all_goals (with_reducible rfl)
    try simp only [Act.put, List.setIfInBounds_toArray, List.set_cons_zero, List.set_cons_succ]
    refine wpAnyH_take (i := 16) (oi := { dst := some 29, op := Go.Op.load 24 (Go.Operand.tmp 1), type := 24, pos := "law.go:23", after := #[{ on := 13, ground := Go.Ground.guard }], guard := some (13, false) }) (v := ?_) rfl (by kernel_rfl) (by kernel_rfl) (by kernel_rfl) (fun _ _ _ h => h) (Or.inl ⟨by rfl, ?_⟩) (Kp.refl _) ?_
    rotate_left 1
    · intro w5 hSw
      have q0 := (hSw.cell hl).trans x0
      have q1 := (hSw.cell hl).trans x1
      have q2 := (hSw.cell hl).trans x2
      go_simp; all_goals (with_reducible rfl)
    try simp only [Act.put, List.setIfInBounds_toArray, List.set_cons_zero, List.set_cons_succ]
    refine wpAnyH_ready (rs := [15]) (by kernel_rfl) (by simp) ?_
    refine AllReadyH.cons (o := { dst := some 28, op := Go.Op.call { callee := Go.Callee.value (Go.Operand.func 11), args := #[Go.Operand.tmp 27], argTypes := #[24] }, type := 9, pos := "law.go:23", after := #[{ on := 14, ground := Go.Ground.data }, { on := 13, ground := Go.Ground.chain }, { on := 13, ground := Go.Ground.guard }], guard := some (13, false) }) rfl (fun K hK => ?_) AllReadyH.nil
    go_simp
    refine (HK.out Y3 HB.out).mono ?_; rintro e Y4 ⟨rfl, hb⟩; have HB := Lib.hid (HB.out.trans (hb.mono HB.out.size)); have x0 := (hb.cell hl).trans x0; have x1 := (hb.cell hl).trans x1; have x2 := (hb.cell hl).trans x2; have HN := Lib.hid ((HN.out.below hb).more hb.size); have HN2 := Lib.hid ((HN2.out.below hb).more hb.size); have hb4 := hb; have hl := Nat.lt_of_lt_of_le hl hb.size; clear hb
    go_wp2_with fail
    refine hK.out _ _ (hb4) (fun _ => held_more (hb4) ?_)
    clear hK K
    try simp only [Act.put, List.setIfInBounds_toArray, List.set_cons_zero, List.set_cons_succ]
    refine wpAnyH_ready (rs := [17]) (by kernel_rfl) (by simp) ?_
    refine AllReadyH.cons (o := { dst := some 30, op := Go.Op.call { callee := Go.Callee.value (Go.Operand.func 12), args := #[Go.Operand.tmp 29], argTypes := #[24] }, type := 9, pos := "law.go:23", after := #[{ on := 16, ground := Go.Ground.data }, { on := 15, ground := Go.Ground.chain }, { on := 13, ground := Go.Ground.guard }], guard := some (13, false) }) rfl (fun K hK => ?_) AllReadyH.nil
    go_simp
    refine (HRK.out Y4 HB.out).mono ?_; rintro e Y5 ⟨rfl, hb⟩; have HB := Lib.hid (HB.out.trans (hb.mono HB.out.size)); have x0 := (hb.cell hl).trans x0; have x1 := (hb.cell hl).trans x1; have x2 := (hb.cell hl).trans x2; have HN := Lib.hid ((HN.out.below hb).more hb.size); have HN2 := Lib.hid ((HN2.out.below hb).more hb.size); have hb5 := hb; have hl := Nat.lt_of_lt_of_le hl hb.size; clear hb
    go_wp2_with fail
    refine hK.out _ _ (hb5) (fun _ => held_more (hb5) ?_)
    clear hK K
    try simp only [Act.put, List.setIfInBounds_toArray, List.set_cons_zero, List.set_cons_succ]
    refine wpAnyH_take (i := 18) (oi := { dst := some 31, op := Go.Op.binOp Go.BinOp.neq 9 (Go.Operand.tmp 28) (Go.Operand.tmp 30) 9, type := 4, pos := "law.go:23", after := #[{ on := 15, ground := Go.Ground.data }, { on := 17, ground := Go.Ground.data }, { on := 13, ground := Go.Ground.guard }], guard := some (13, false) }) (v := ?_) rfl (by kernel_rfl) (by kernel_rfl) (by kernel_rfl) (fun _ _ _ h => h) (Or.inl ⟨by rfl, ?_⟩) (Kp.refl _) ?_
    rotate_left 1
    · intro w5 hSw
      go_simp; all_goals (with_reducible rfl)
    try simp only [Act.put, List.setIfInBounds_toArray, List.set_cons_zero, List.set_cons_succ]
    refine wpAnyH_take (i := 19) (oi := { dst := some 32, op := Go.Op.pick (Go.Operand.tmp 26) (Go.Operand.const (Go.Value.bool true)) (Go.Operand.tmp 31), type := 4, pos := "law.go:23", after := #[{ on := 13, ground := Go.Ground.data }, { on := 18, ground := Go.Ground.data }], guard := none }) (v := ?_) rfl (by kernel_rfl) (by kernel_rfl) (by kernel_rfl) (fun _ _ _ h => h) (Or.inl ⟨by rfl, ?_⟩) (Kp.refl _) ?_
    rotate_left 1
    · intro w5 hSw
      go_simp; all_goals (with_reducible rfl)
    try simp only [Act.put, List.setIfInBounds_toArray, List.set_cons_zero, List.set_cons_succ]
    refine wpAnyH_take (i := 20) (oi := { dst := some 33, op := Go.Op.move (Go.Operand.tmp 32), type := 4, pos := "law.go:23", after := #[{ on := 19, ground := Go.Ground.data }, { on := 17, ground := Go.Ground.chain }], guard := none }) (v := ?_) rfl (by kernel_rfl) (by kernel_rfl) (by kernel_rfl) (fun _ _ _ h => h) (Or.inl ⟨by rfl, ?_⟩) (Kp.refl _) ?_
    rotate_left 1
    · intro w5 hSw
      go_simp; all_goals (with_reducible rfl)
    try simp only [Act.put, List.setIfInBounds_toArray, List.set_cons_zero, List.set_cons_succ]
    refine wpAnyH_take (i := 21) (oi := { dst := some 34, op := Go.Op.load 24 (Go.Operand.tmp 1), type := 24, pos := "law.go:23", after := #[{ on := 20, ground := Go.Ground.guard }], guard := some (20, false) }) (v := ?_) rfl (by kernel_rfl) (by kernel_rfl) (by kernel_rfl) (fun _ _ _ h => h) (Or.inl ⟨by rfl, ?_⟩) (Kp.refl _) ?_
    rotate_left 1
    · intro w5 hSw
      have q0 := (hSw.cell hl).trans x0
      have q1 := (hSw.cell hl).trans x1
      have q2 := (hSw.cell hl).trans x2
      go_simp; all_goals (with_reducible rfl)
    try simp only [Act.put, List.setIfInBounds_toArray, List.set_cons_zero, List.set_cons_succ]
    refine wpAnyH_take (i := 23) (oi := { dst := some 36, op := Go.Op.load 24 (Go.Operand.tmp 1), type := 24, pos := "law.go:23", after := #[{ on := 20, ground := Go.Ground.guard }], guard := some (20, false) }) (v := ?_) rfl (by kernel_rfl) (by kernel_rfl) (by kernel_rfl) (fun _ _ _ h => h) (Or.inl ⟨by rfl, ?_⟩) (Kp.refl _) ?_
    rotate_left 1
    · intro w5 hSw
      have q0 := (hSw.cell hl).trans x0
      have q1 := (hSw.cell hl).trans x1
      have q2 := (hSw.cell hl).trans x2
      go_simp; all_goals (with_reducible rfl)
    try simp only [Act.put, List.setIfInBounds_toArray, List.set_cons_zero, List.set_cons_succ]
    refine wpAnyH_ready (rs := [22]) (by kernel_rfl) (by simp) ?_
    refine AllReadyH.cons (o := { dst := some 35, op := Go.Op.call { callee := Go.Callee.value (Go.Operand.func 13), args := #[Go.Operand.tmp 34], argTypes := #[24] }, type := 24, pos := "law.go:23", after := #[{ on := 21, ground := Go.Ground.data }, { on := 20, ground := Go.Ground.chain }, { on := 20, ground := Go.Ground.guard }], guard := some (20, false) }) rfl (fun K hK => ?_) AllReadyH.nil
    go_simp
    refine (HPl.out Y5 HB.out).mono ?_; rintro e Y6 ⟨rfl, hb⟩; have HB := Lib.hid (HB.out.trans (hb.mono HB.out.size)); have x0 := (hb.cell hl).trans x0; have x1 := (hb.cell hl).trans x1; have x2 := (hb.cell hl).trans x2; have HN := Lib.hid ((HN.out.below hb).more hb.size); have HN2 := Lib.hid ((HN2.out.below hb).more hb.size); have hb6 := hb; have hl := Nat.lt_of_lt_of_le hl hb.size; clear hb
    go_wp2_with fail
    refine hK.out _ _ (hb6) (fun _ => held_more (hb6) ?_)
    clear hK K
    try simp only [Act.put, List.setIfInBounds_toArray, List.set_cons_zero, List.set_cons_succ]
    refine wpAnyH_ready (rs := [24]) (by kernel_rfl) (by simp) ?_
    refine AllReadyH.cons (o := { dst := some 37, op := Go.Op.call { callee := Go.Callee.value (Go.Operand.func 14), args := #[Go.Operand.tmp 36], argTypes := #[24] }, type := 24, pos := "law.go:23", after := #[{ on := 23, ground := Go.Ground.data }, { on := 22, ground := Go.Ground.chain }, { on := 20, ground := Go.Ground.guard }], guard := some (20, false) }) rfl (fun K hK => ?_) AllReadyH.nil
    go_simp
    refine (HRPl.out Y6 HB.out).mono ?_; rintro e Y7 ⟨rfl, hb⟩; have HB := Lib.hid (HB.out.trans (hb.mono HB.out.size)); have x0 := (hb.cell hl).trans x0; have x1 := (hb.cell hl).trans x1; have x2 := (hb.cell hl).trans x2; have HN := Lib.hid ((HN.out.below hb).more hb.size); have HN2 := Lib.hid ((HN2.out.below hb).more hb.size); have hb7 := hb; have hl := Nat.lt_of_lt_of_le hl hb.size; clear hb
    go_wp2_with fail
    refine hK.out _ _ (hb7) (fun _ => held_more (hb7) ?_)
    clear hK K
    try simp only [Act.put, List.setIfInBounds_toArray, List.set_cons_zero, List.set_cons_succ]
    refine wpAnyH_take (i := 25) (oi := { dst := some 38, op := Go.Op.binOp Go.BinOp.neq 24 (Go.Operand.tmp 35) (Go.Operand.tmp 37) 24, type := 4, pos := "law.go:23", after := #[{ on := 22, ground := Go.Ground.data }, { on := 24, ground := Go.Ground.data }, { on := 20, ground := Go.Ground.guard }], guard := some (20, false) }) (v := ?_) rfl (by kernel_rfl) (by kernel_rfl) (by kernel_rfl) (fun _ _ _ h => h) (Or.inl ⟨by rfl, ?_⟩) (Kp.refl _) ?_
    rotate_left 1
    · intro w5 hSw
      go_simp; all_goals (with_reducible rfl)
    try simp only [Act.put, List.setIfInBounds_toArray, List.set_cons_zero, List.set_cons_succ]
    refine wpAnyH_take (i := 26) (oi := { dst := some 39, op := Go.Op.pick (Go.Operand.tmp 33) (Go.Operand.const (Go.Value.bool true)) (Go.Operand.tmp 38), type := 4, pos := "law.go:23", after := #[{ on := 20, ground := Go.Ground.data }, { on := 25, ground := Go.Ground.data }], guard := none }) (v := ?_) rfl (by kernel_rfl) (by kernel_rfl) (by kernel_rfl) (fun _ _ _ h => h) (Or.inl ⟨by rfl, ?_⟩) (Kp.refl _) ?_
    rotate_left 1
    · intro w5 hSw
      go_simp; all_goals (with_reducible rfl)
    try simp only [Act.put, List.setIfInBounds_toArray, List.set_cons_zero, List.set_cons_succ]
    refine wpAnyH_done (by kernel_rfl) ?_ _
    have HGb := Lib.hid (HG.out a1 c1 Y7 HB.out HN.out (by rw [← HNl.out]; exact hc1))
    rw [← HNl.out] at HGb
    clear HRt HRP HK HRK HPl HN2 HG
    go_wp2_with fail
    refine HGb.out.mono ?_
    rintro e Z2 ⟨rfl, hb⟩
    have HB := Lib.hid (HB.out.trans (hb.mono HB.out.size))
    have x0 := (hb.cell hl).trans x0
    have x1 := (hb.cell hl).trans x1
    have x2 := (hb.cell hl).trans x2
    have HN := Lib.hid ((HN.out.below hb).more hb.size)
    have hl := Nat.lt_of_lt_of_le hl hb.size
    clear hb HGb
    go_upto_region 7 with (fail)
    obtain ⟨b4, hb4⟩ : ∃ z, z = Z2.heap.size := ⟨_, rfl⟩
    obtain ⟨U, hU⟩ : ∃ z, z = Z2.alloc (.cells #[.int .i64 gk, .string gs, .int .u64 (gn : Int)] 24) := ⟨_, rfl⟩
    have hb : Below Z2.heap.size Z2 U := by rw [hU]; exact (Below.refl _ _).alloc (Nat.le_refl _) _
    have hW4 : Whole U b4 24 #[.int .i64 gk, .string gs, .int .u64 (gn : Int)] := by rw [hU, hb4]; exact Whole.new Z2 _ _
    have HB := Lib.hid (HB.out.trans (hb.mono HB.out.size))
    have x0 := (hb.cell hl).trans x0
    have x1 := (hb.cell hl).trans x1
    have x2 := (hb.cell hl).trans x2
    have HN := Lib.hid ((HN.out.below hb).more hb.size)
    have hl := Nat.lt_of_lt_of_le hl hb.size
    have HW4 := Lib.hid hW4
    rw [← hU, ← hb4]
    clear hU hb4 hb hW4
    go_wp2_with fail
    refine (HRR.out _ HB.out).mono ?_
    rintro e U2 ⟨rfl, hb⟩
    have HB := Lib.hid (HB.out.trans (hb.mono HB.out.size))
    have x0 := (hb.cell hl).trans x0
    have x1 := (hb.cell hl).trans x1
    have x2 := (hb.cell hl).trans x2
    have HN := Lib.hid ((HN.out.below hb).more hb.size)
    have hl := Nat.lt_of_lt_of_le hl hb.size
    have HW4 := Lib.hid (HW4.out.below hb HW4.out.lt)
    clear hb HRR
    cases hrv : rv with
    | false =>
      subst hrv
      have hgE : ((gk, gs, gn), gE) = ((zeroV : V3), 3) := Hgw.out
      have hE : gE = 3 := congrArg Prod.snd hgE
      have hnn : n1 = 0 := by rw [HNl.out, Hnil.out rfl]; rfl
      clear hgE Hgw Hnil HNl HLt HRPl
      subst hE hnn
      go_wp2_with (go_at_call 16; refine (HC.out _ _).mono ?_; rintro e Z9 ⟨rfl, rfl⟩)
      refine (HLV.out _ HB.out).mono ?_
      rintro e U9 ⟨rfl, hU9⟩
      have HF := Lib.hid (HB.out.trans (hU9.mono HB.out.size))
      clear hU9
      go_wp2_with fail
      go_ret
      exact ⟨rfl, HF.out⟩
    | true =>
      subst hrv
      have hgE : ((gk, gs, gn), gE) = ((pk, ps, pn), 0) := Hgw.out
      have hE : gE = 0 := congrArg Prod.snd hgE
      have hk0 : gk = pk := congrArg (fun x => x.1.1) hgE
      have hs0 : gs = ps := congrArg (fun x => x.1.2.1) hgE
      have hn0 : gn = pn := congrArg (fun x => x.1.2.2) hgE
      clear hgE Hgw Hnil
      subst hE hk0 hs0 hn0
      have z0 : U2.cell? ⟨b4, 0, none⟩ = some (.int .i64 gk) := HW4.out.cell 0
      have z1 : U2.cell? ⟨b4, 1, none⟩ = some (.string gs) := HW4.out.cell 1
      have z2 : U2.cell? ⟨b4, 2, none⟩ = some (.int .u64 (gn : Int)) := HW4.out.cell 2
      have hl4 : b4 < U2.heap.size := HW4.out.lt
      clear HW4
      go_upto_region 9 with (fail)
      refine held_start (by kernel_rfl) ?_
      obtain ⟨D, hD⟩ : ∃ z, z = U2.drew := ⟨_, rfl⟩
      have HBd : Hid (Below w.heap.size w U2.drew) := ⟨HB.out.os, HB.out.tape, HB.out.output, HB.out.size, HB.out.block⟩
      have d0 : U2.drew.cell? ⟨b1, 0, none⟩ = _ := x0
      have d1 : U2.drew.cell? ⟨b1, 1, none⟩ = _ := x1
      have d2 : U2.drew.cell? ⟨b1, 2, none⟩ = _ := x2
      have dl : b1 < U2.drew.heap.size := hl
      have HNd : Hid (Nums .u8 U2.drew U2.drew.heap.size a1 bl) := HN.out
      have e0 : U2.drew.cell? ⟨b4, 0, none⟩ = _ := z0
      have e1 : U2.drew.cell? ⟨b4, 1, none⟩ = _ := z1
      have e2 : U2.drew.cell? ⟨b4, 2, none⟩ = _ := z2
      have el : b4 < U2.drew.heap.size := hl4
      rw [← hD] at e0 e1 e2 el
      clear z0 z1 z2 hl4
      have z0 := e0
      have z1 := e1
      have z2 := e2
      have hl4 := el
      clear e0 e1 e2 el
      rw [← hD] at HBd d0 d1 d2 dl HNd ⊢
      clear hD HB x0 x1 x2 hl HN
      have HB := HBd
      have x0 := d0
      have x1 := d1
      have x2 := d2
      have hl := dl
      have HN := HNd
      clear HBd d0 d1 d2 dl HNd
      refine wpAnyH_take (i := 0) (oi := { dst := some 59, op := Go.Op.move (Go.Operand.tmp 5), type := 31, pos := "law.go:30", after := #[], guard := none }) (v := ?_) rfl (by kernel_rfl) (by kernel_rfl) (by kernel_rfl) (fun _ _ _ h => h) (Or.inl ⟨by rfl, ?_⟩) (Kp.refl _) ?_
      rotate_left 1
      · intro w5 hSw
        go_simp; all_goals (with_reducible rfl)
      try simp only [Act.put, List.setIfInBounds_toArray, List.set_cons_zero, List.set_cons_succ]
      refine wpAnyH_ready (rs := [1]) (by kernel_rfl) (by simp) ?_
      refine AllReadyH.cons (o := { dst := some 60, op := Go.Op.call { callee := Go.Callee.value (Go.Operand.func 16), args := #[Go.Operand.tmp 59], argTypes := #[31] }, type := 3, pos := "law.go:30", after := #[{ on := 0, ground := Go.Ground.data }], guard := none }) rfl (fun K hK => ?_) AllReadyH.nil
      go_simp
      refine (HC.out _ D).mono ?_; rintro e Y ⟨rfl, rfl⟩
      go_wp2_with fail
      refine hK.out _ _ (Below.refl _ _) (fun _ => held_more (Below.refl _ _) ?_)
      clear hK K
      try simp only [Act.put, List.setIfInBounds_toArray, List.set_cons_zero, List.set_cons_succ]
      refine wpAnyH_take (i := 2) (oi := { dst := some 61, op := Go.Op.binOp Go.BinOp.eql 3 (Go.Operand.tmp 60) (Go.Operand.const (Go.Value.int Go.IntKind.i64 0)) 3, type := 4, pos := "law.go:30", after := #[{ on := 1, ground := Go.Ground.data }], guard := none }) (v := ?_) rfl (by kernel_rfl) (by kernel_rfl) (by kernel_rfl) (fun _ _ _ h => h) (Or.inl ⟨by rfl, ?_⟩) (Kp.refl _) ?_
      rotate_left 1
      · intro w5 hSw
        go_simp; all_goals (with_reducible rfl)
      try simp only [Act.put, List.setIfInBounds_toArray, List.set_cons_zero, List.set_cons_succ]
      refine wpAnyH_take (i := 3) (oi := { dst := some 62, op := Go.Op.move (Go.Operand.tmp 61), type := 4, pos := "law.go:30", after := #[{ on := 2, ground := Go.Ground.data }, { on := 1, ground := Go.Ground.chain }], guard := none }) (v := ?_) rfl (by kernel_rfl) (by kernel_rfl) (by kernel_rfl) (fun _ _ _ h => h) (Or.inl ⟨by rfl, ?_⟩) (Kp.refl _) ?_
      rotate_left 1
      · intro w5 hSw
        go_simp; all_goals (with_reducible rfl)
      try simp only [Act.put, List.setIfInBounds_toArray, List.set_cons_zero, List.set_cons_succ]
      refine wpAnyH_take (i := 4) (oi := { dst := some 63, op := Go.Op.load 24 (Go.Operand.tmp 4), type := 24, pos := "law.go:30", after := #[{ on := 3, ground := Go.Ground.guard }], guard := some (3, true) }) (v := ?_) rfl (by kernel_rfl) (by kernel_rfl) (by kernel_rfl) (fun _ _ _ h => h) (Or.inl ⟨by rfl, ?_⟩) (Kp.refl _) ?_
      rotate_left 1
      · intro w5 hSw
        have q0 := (hSw.cell hl4).trans z0
        have q1 := (hSw.cell hl4).trans z1
        have q2 := (hSw.cell hl4).trans z2
        go_simp; all_goals (with_reducible rfl)
      try simp only [Act.put, List.setIfInBounds_toArray, List.set_cons_zero, List.set_cons_succ]
      refine wpAnyH_take (i := 5) (oi := { dst := some 64, op := Go.Op.load 24 (Go.Operand.tmp 1), type := 24, pos := "law.go:30", after := #[{ on := 3, ground := Go.Ground.guard }], guard := some (3, true) }) (v := ?_) rfl (by kernel_rfl) (by kernel_rfl) (by kernel_rfl) (fun _ _ _ h => h) (Or.inl ⟨by rfl, ?_⟩) (Kp.refl _) ?_
      rotate_left 1
      · intro w5 hSw
        have q0 := (hSw.cell hl).trans x0
        have q1 := (hSw.cell hl).trans x1
        have q2 := (hSw.cell hl).trans x2
        go_simp; all_goals (with_reducible rfl)
      try simp only [Act.put, List.setIfInBounds_toArray, List.set_cons_zero, List.set_cons_succ]
      refine wpAnyH_ready (rs := [6]) (by kernel_rfl) (by simp) ?_
      refine AllReadyH.cons (o := { dst := some 65, op := Go.Op.call { callee := Go.Callee.value (Go.Operand.func 14), args := #[Go.Operand.tmp 64], argTypes := #[24] }, type := 24, pos := "law.go:30", after := #[{ on := 5, ground := Go.Ground.data }, { on := 3, ground := Go.Ground.chain }, { on := 3, ground := Go.Ground.guard }], guard := some (3, true) }) rfl (fun K hK => ?_) AllReadyH.nil
      go_simp
      refine (HRPl.out D HB.out).mono ?_; rintro e Y1 ⟨rfl, hb⟩; have HB := Lib.hid (HB.out.trans (hb.mono HB.out.size)); have x0 := (hb.cell hl).trans x0; have x1 := (hb.cell hl).trans x1; have x2 := (hb.cell hl).trans x2; have HN := Lib.hid ((HN.out.below hb).more hb.size); have z0 := (hb.cell hl4).trans z0; have z1 := (hb.cell hl4).trans z1; have z2 := (hb.cell hl4).trans z2; have hl4 := Nat.lt_of_lt_of_le hl4 hb.size; have hb1 := hb; have hl := Nat.lt_of_lt_of_le hl hb.size; clear hb
      go_wp2_with fail
      refine hK.out _ _ (hb1) (fun _ => held_more (hb1) ?_)
      clear hK K
      try simp only [Act.put, List.setIfInBounds_toArray, List.set_cons_zero, List.set_cons_succ]
      refine wpAnyH_take (i := 7) (oi := { dst := some 66, op := Go.Op.binOp Go.BinOp.eql 24 (Go.Operand.tmp 63) (Go.Operand.tmp 65) 24, type := 4, pos := "law.go:30", after := #[{ on := 4, ground := Go.Ground.data }, { on := 6, ground := Go.Ground.data }, { on := 3, ground := Go.Ground.guard }], guard := some (3, true) }) (v := ?_) rfl (by kernel_rfl) (by kernel_rfl) (by kernel_rfl) (fun _ _ _ h => h) (Or.inl ⟨by rfl, ?_⟩) (Kp.refl _) ?_
      rotate_left 1
      · intro w5 hSw
        go_simp; all_goals (with_reducible rfl)
      try simp only [Act.put, List.setIfInBounds_toArray, List.set_cons_zero, List.set_cons_succ]
      refine wpAnyH_take (i := 8) (oi := { dst := some 67, op := Go.Op.pick (Go.Operand.tmp 62) (Go.Operand.tmp 66) (Go.Operand.const (Go.Value.bool false)), type := 4, pos := "law.go:30", after := #[{ on := 3, ground := Go.Ground.data }, { on := 7, ground := Go.Ground.data }], guard := none }) (v := ?_) rfl (by kernel_rfl) (by kernel_rfl) (by kernel_rfl) (fun _ _ _ h => h) (Or.inl ⟨by rfl, ?_⟩) (Kp.refl _) ?_
      rotate_left 1
      · intro w5 hSw
        go_simp; all_goals (with_reducible rfl)
      try simp only [Act.put, List.setIfInBounds_toArray, List.set_cons_zero, List.set_cons_succ]
      refine wpAnyH_take (i := 9) (oi := { dst := some 68, op := Go.Op.move (Go.Operand.tmp 67), type := 4, pos := "law.go:30", after := #[{ on := 8, ground := Go.Ground.data }, { on := 6, ground := Go.Ground.chain }], guard := none }) (v := ?_) rfl (by kernel_rfl) (by kernel_rfl) (by kernel_rfl) (fun _ _ _ h => h) (Or.inl ⟨by rfl, ?_⟩) (Kp.refl _) ?_
      rotate_left 1
      · intro w5 hSw
        go_simp; all_goals (with_reducible rfl)
      try simp only [Act.put, List.setIfInBounds_toArray, List.set_cons_zero, List.set_cons_succ]
      refine wpAnyH_ready (rs := [10]) (by kernel_rfl) (by simp) ?_
      refine AllReadyH.cons (o := { dst := some 69, op := Go.Op.call { callee := Go.Callee.value (Go.Operand.func 6), args := #[], argTypes := #[] }, type := 4, pos := "law.go:30", after := #[{ on := 9, ground := Go.Ground.chain }, { on := 9, ground := Go.Ground.guard }], guard := some (9, true) }) rfl (fun K hK => ?_) AllReadyH.nil
      go_simp
      refine (HLV.out Y1 HB.out).mono ?_; rintro e Y2 ⟨rfl, hb⟩; have HB := Lib.hid (HB.out.trans (hb.mono HB.out.size)); have x0 := (hb.cell hl).trans x0; have x1 := (hb.cell hl).trans x1; have x2 := (hb.cell hl).trans x2; have HN := Lib.hid ((HN.out.below hb).more hb.size); have z0 := (hb.cell hl4).trans z0; have z1 := (hb.cell hl4).trans z1; have z2 := (hb.cell hl4).trans z2; have hl4 := Nat.lt_of_lt_of_le hl4 hb.size; have hb2 := hb; have hl := Nat.lt_of_lt_of_le hl hb.size; clear hb
      go_wp2_with fail
      refine hK.out _ _ (hb2) (fun _ => held_more (hb2) ?_)
      clear hK K
      try simp only [Act.put, List.setIfInBounds_toArray, List.set_cons_zero, List.set_cons_succ]
      refine wpAnyH_take (i := 11) (oi := { dst := some 70, op := Go.Op.pick (Go.Operand.tmp 68) (Go.Operand.tmp 69) (Go.Operand.const (Go.Value.bool false)), type := 4, pos := "law.go:30", after := #[{ on := 9, ground := Go.Ground.data }, { on := 10, ground := Go.Ground.data }], guard := none }) (v := ?_) rfl (by kernel_rfl) (by kernel_rfl) (by kernel_rfl) (fun _ _ _ h => h) (Or.inl ⟨by rfl, ?_⟩) (Kp.refl _) ?_
      rotate_left 1
      · intro w5 hSw
        go_simp; all_goals (with_reducible rfl)
      try simp only [Act.put, List.setIfInBounds_toArray, List.set_cons_zero, List.set_cons_succ]
      refine wpAnyH_take (i := 12) (oi := { dst := some 2, op := Go.Op.assign (Go.Operand.tmp 70), type := 4, pos := "law.go:30", after := #[{ on := 11, ground := Go.Ground.data }, { on := 10, ground := Go.Ground.chain }, { on := 0, ground := Go.Ground.phase }, { on := 1, ground := Go.Ground.phase }, { on := 2, ground := Go.Ground.phase }, { on := 3, ground := Go.Ground.phase }, { on := 4, ground := Go.Ground.phase }, { on := 5, ground := Go.Ground.phase }, { on := 6, ground := Go.Ground.phase }, { on := 7, ground := Go.Ground.phase }, { on := 8, ground := Go.Ground.phase }, { on := 9, ground := Go.Ground.phase }, { on := 10, ground := Go.Ground.phase }, { on := 11, ground := Go.Ground.phase }], guard := none }) (v := ?_) rfl (by kernel_rfl) (by kernel_rfl) (by kernel_rfl) (fun _ _ _ h => h) (Or.inl ⟨by rfl, ?_⟩) (Kp.refl _) ?_
      rotate_left 1
      · intro w5 hSw
        go_simp; all_goals (with_reducible rfl)
      try simp only [Act.put, List.setIfInBounds_toArray, List.set_cons_zero, List.set_cons_succ]
      refine wpAnyH_done (by kernel_rfl) ?_ _
      go_wp2_with fail
      go_ret
      exact ⟨rfl, HB.out⟩
  · obtain ⟨k, s, b⟩ := v
    simp only at hbig
    have hg : (500 : Int) < (s.size : Int) := by omega
    have dg : decide ((500 : Int) < (s.size : Int)) = true := decide_eq_true hg
    have hB : Below w.heap.size w (w.alloc (.cells #[.int .i64 k, .string s, .int .u64 (b : Int)] 24)) := (Below.refl _ _).alloc (Nat.le_refl _) _
    have HB := Lib.hid hB
    simp only [vv]
    clear hs0 hk hb hT hbig hB
    go_enter Tryd.func3, Tryd.ntmps3
    go_wp2_with fail
    refine (HLV.out _ HB.out).mono ?_
    rintro e U9 ⟨rfl, hU9⟩
    have HF := Lib.hid (HB.out.trans (hU9.mono HB.out.size))
    clear hU9
    go_wp2_with fail
    go_ret
    exact ⟨rfl, HF.out⟩
theorem valuePuts_walk2 (v : Value) (w : World) (hv : ValArg v) (hT : Tabs w) :
    Calls Tryd.prog 3 #[v] w fun e w' => e = .returned (.bool true) ∧ Below w.heap.size w w' := by
  obtain ⟨x, rfl, hx, hk, hb⟩ := hv
  exact valuePuts_walk x w hx hk hb hT
end Go.Proofs.YtdifojeghplpeaaDoor
