/- Layer 9: the reference's points. -/
import Derived.Test.YtohgdlhijgjdkaaPathRd7
import Derived.Deep.CutRange
import Derived.Deep.DeepCutAuto
namespace Go.Proofs.Ytohgdlhijgjdkaa
open Go.RowKit
set_option linter.unusedVariables false
set_option maxRecDepth 100000

theorem rout_any (n : Int) (w : World) : Calls Try.prog 26 #[.int .i64 n] w fun e w' => e = .returned (.bool (!okC n)) ∧ w = w' := by
  unfold okC
  by_cases h1 : n < -1048576
  · have e : (!decide (-1048576 ≤ n ∧ n ≤ 1048576)) = true := by simp; omega
    have d1 : decide (n < -1048576) = true := decide_eq_true h1
    rw [e]
    clear e
    go_enter Try.func26, Try.ntmps26
    go_wp2_with fail
    go_ret
    exact ⟨rfl, rfl⟩
  · have d1 : decide (n < -1048576) = false := decide_eq_false h1
    by_cases h7 : 1048576 < n
    · have e : (!decide (-1048576 ≤ n ∧ n ≤ 1048576)) = true := by simp; omega
      have d7 : decide (1048576 < n) = true := decide_eq_true h7
      rw [e]
      clear e
      go_enter Try.func26, Try.ntmps26
      go_wp2_with fail
      go_ret
      exact ⟨rfl, rfl⟩
    · have e : (!decide (-1048576 ≤ n ∧ n ≤ 1048576)) = false := by simp; omega
      have d7 : decide (1048576 < n) = false := decide_eq_false h7
      rw [e]
      clear e
      go_enter Try.func26, Try.ntmps26
      go_wp2_with fail
      go_ret
      exact ⟨rfl, rfl⟩
theorem crd_at {l : List Nat} {i : Nat} (h : i < l.length) (x : Int) : crd x (l.drop i) = if okC (x + zag l[i]) = true then .ok (x + zag l[i], l.drop (i + 1)) else .error 8 := by
  rw [List.drop_eq_getElem_cons h]; rfl
theorem crd_end {l : List Nat} {i : Nat} (h : l.length ≤ i) (x : Int) : crd x (l.drop i) = .error 2 := by
  rw [List.drop_eq_nil_of_le h]; rfl
/-- What points hands back. -/
def RPts (w : World) (L : Nat) (R : Except Nat (List P2 × List Nat × P2)) (e : Ending) (w' : World) : Prop :=
  match R with
  | .error n => e = .returned (.tuple #[.slice none 0 0, .int .i64 0, .int .i64 (n : Int)]) ∧ Below w.heap.size w w'
  | .ok (r, rest, _) => ∃ v, e = .returned (.tuple #[v, .int .i64 ((L - rest.length : Nat) : Int), .int .i64 0]) ∧ OwnP w' w.heap.size v r ∧ Below w.heap.size w w'
/-- Behind the store of a coordinate. -/
def PStep (w0 : World) (b : Nat) (x y : Int) (W : World) : Prop := Whole W b 42 #[.int .i64 x, .int .i64 y] ∧ Only (fun k => k = b) w0 W
set_option maxHeartbeats 16000000 in
theorem refPts_any (a : Option Addr) (c : Nat) (l : List Nat) (i n : Nat) (p : P2) (w : World) (hN : Nums .u32 w w.heap.size a l) (hlen : l.length ≤ 1000) (hl : ∀ x ∈ l, x < 4294967296) (hi : i ≤ l.length) (hn : n ≤ 536870912) (hp : inP p) :
    Calls Try.prog 21 #[.slice a l.length c, .int .i64 (i : Int), .int .i64 (n : Int), .agg #[.int .i64 p.1, .int .i64 p.2]] w (RPts w l.length (ptsM n (l.drop i) p [])) := by
  obtain ⟨i0, hi0, hz0, hz1, hz2⟩ := info_parts ptinfo
  obtain ⟨R, hRe⟩ : ∃ R, ptsM n (l.drop i) p [] = R := ⟨_, rfl⟩
  rw [hRe]
  have HRe := Lib.hid hRe
  have Hp := Lib.hid hp
  obtain ⟨L, hL⟩ : ∃ z, z = l.length := ⟨_, rfl⟩
  have HL := Lib.hid hL
  rw [← hL] at hlen hi ⊢
  have HN := Lib.hid hN
  have Hl := Lib.hid hl
  have HO := Lib.hid rout_any
  have HZ := Lib.hid rzag_any
  clear hRe hp hL hN hl
  go_enter Try.func21, Try.ntmps21
  go_upto_region 1 with (fail)
  obtain ⟨b7, hb7⟩ : ∃ z, z = w.heap.size := ⟨_, rfl⟩
  obtain ⟨X, hX⟩ : ∃ z, z = w.alloc (.cells #[.int .i64 p.1, .int .i64 p.2] 42) := ⟨_, rfl⟩
  have hW7 : Whole X b7 42 #[.int .i64 p.1, .int .i64 p.2] := by rw [hX, hb7]; exact Whole.new w _ _
  have hBX : Below w.heap.size w X := by rw [hX]; exact (Below.refl _ _).alloc (Nat.le_refl _) _
  have hl7 : w.heap.size ≤ b7 := by omega
  have HW7 := Lib.hid hW7
  have HBX := Lib.hid hBX
  rw [← hX, ← hb7]
  clear hX hb7 hW7 hBX
  go_wp2_with fail
  go_loopw [1, 11, 12] (fun ti tv tk W => ∃ (k ik : Nat) (pk : P2) (m : List P2) (v1 : Value), k ≤ n ∧ ik ≤ L ∧ ti = .int .i64 (ik : Int) ∧ tk = .int .i64 (k : Int) ∧ v1 = tv ∧ Hid (OwnP W w.heap.size v1 m) ∧ Hid (Whole W b7 42 #[.int .i64 pk.1, .int .i64 pk.2]) ∧ Hid (v1.ownBlock ≠ some b7) ∧ Hid (Below w.heap.size w W) ∧ Hid (ptsM (n - k) (l.drop ik) pk m = R) ∧ Hid (inP pk) ∧ Hid (m.length ≤ ik)) (fun _ _ tk _ => n - (intOf tk).toNat)
  case atStart => exact ⟨0, i, p, [], _, Nat.zero_le _, hi, rfl, rfl, rfl, OwnP.nil_ _ _, HW7, (by show ¬ _; simp [Value.ownBlock]), HBX, HRe, Hp, Nat.zero_le _⟩
  case round =>
    obtain ⟨k, ik, pk, m, v1, hk, hik, rfl, rfl, rfl, HOv, HW, HV7, HB, HPt, Hpk, HLn⟩ := hrel
    clear HW7 HBX HRe Hp
    by_cases hlt : k < n
    · obtain ⟨j, hj⟩ : ∃ j, n - k = j + 1 := ⟨n - k - 1, by omega⟩
      have hpt := HPt.out
      rw [hj] at hpt
      by_cases hiL : ik < L
      · have hiL2 : ik < l.length := by have := HL.out; omega
        have hc1 := crd_at hiL2 pk.1
        obtain ⟨b, off, rfl, hb, hc⟩ := HN.out (by omega)
        have e0 : wr.cell? ⟨b, off + ik, none⟩ = some (.int .u32 ((l[ik]'hiL2 : Nat) : Int)) := by
          have := hc ik hiL2
          rw [(HB.out.cell (p := ⟨b, off + ik, none⟩) hb), this]
          simp [List.getD, hiL2]
        have hx := Hl.out _ (List.getElem_mem hiL2)
        obtain ⟨x, hxe⟩ : ∃ x, x = l[ik]'hiL2 := ⟨_, rfl⟩
        rw [← hxe] at hc1 e0 hx
        have hz := zag32 x hx
        obtain ⟨z, hze⟩ : ∃ z, z = zag x := ⟨_, rfl⟩
        have HZx := Lib.hid fun W => HZ.out x W (by omega)
        rw [← hze] at hc1 hz HZx
        obtain ⟨px, py⟩ := pk
        have hpx := Hpk.out.1
        have hpy := Hpk.out.2
        simp only at hc1 hpx hpy hpt
        have t0 : wr.cell? ⟨b7, 0, none⟩ = some (.int .i64 px) := HW.out.cell 0
        have t1 : wr.cell? ⟨b7, 1, none⟩ = some (.int .i64 py) := HW.out.cell 1
        have f0 : wr.frozen? ⟨b7, 0, none⟩ = false := HW.out.frozen 0
        have hik0 : (0 : Int) ≤ (ik : Int) := by omega
        have hik1 : (ik : Int) < (L : Int) := by omega
        have hwx : IntKind.u64.wrap (x : Int) = (x : Int) := by rw [IntKind.wrap_u64]; omega
        obtain ⟨sx, hsx⟩ : ∃ s, s = px + z := ⟨_, rfl⟩
        have hws : IntKind.i64.wrap (px + z) = sx := by rw [hsx, IntKind.wrap_i64]; omega
        rw [← hsx] at hc1
        have HC1 := Lib.hid hc1
        clear hsx
        have Hpt := Lib.hid hpt
        have HCell := Lib.hid hc
        clear hxe hze hc1 hpt hc hiL2
        have hbne : b ≠ b7 := by omega
        go_upto_region 7 with (fail)
        have K0 : Hid (wr.drew.cell? ⟨b, off + ik, none⟩ = some (.int .u32 (x : Int))) := e0
        have K1 : Hid ((wr.drew.setCell ⟨b7, 0, none⟩ (.int .i64 sx)).cell? ⟨b, off + ik, none⟩ = some (.int .u32 (x : Int))) := (World.cell?_of_block (w := wr.drew) (Below.heap_setCell wr.drew ⟨b7, 0, none⟩ (.int .i64 sx) b hbne)).trans K0.out
        have K2 : Hid (PStep wr b7 sx py (wr.drew.setCell ⟨b7, 0, none⟩ (.int .i64 sx))) := ⟨by simpa using (show Whole wr.drew b7 42 _ from HW.out).set 0 (.int .i64 sx), Only.setCell (S := fun k => k = b7) ((Only.refl _ wr).drew) (p := ⟨b7, 0, none⟩) (fun _ => rfl) _⟩
        go_cut [] (fun W => Hid (PStep wr b7 sx py W))
        case first =>
          refine wp_region_held (S := (fun W => W.cell? ⟨b, off + ik, none⟩ = some (.int .u32 (x : Int)))) (by kernel_rfl) ?_
          refine wpAnyH_take (i := 0) (oi := { dst := some 22, op := Go.Op.fieldAddr 42 (Go.Operand.tmp 7) 0, type := 0, pos := "ref.go:76", after := #[], guard := none }) (v := ?_) rfl (by kernel_rfl) (by kernel_rfl) (by kernel_rfl) (fun _ _ _ h => h) (Or.inl ⟨by rfl, ?_⟩) (K0.out) ?_
          rotate_left 1
          · intro w5 hSw
            go_simp; all_goals (with_reducible rfl)
          try simp only [Act.put, List.setIfInBounds_toArray, List.set_cons_zero, List.set_cons_succ]
          refine wpAnyH_take (i := 2) (oi := { dst := some 24, op := Go.Op.move (Go.Operand.tmp 0), type := 22, pos := "ref.go:76", after := #[], guard := none }) (v := ?_) rfl (by kernel_rfl) (by kernel_rfl) (by kernel_rfl) (fun _ _ _ h => h) (Or.inl ⟨by rfl, ?_⟩) (K0.out) ?_
          rotate_left 1
          · intro w5 hSw
            go_simp; all_goals (with_reducible rfl)
          try simp only [Act.put, List.setIfInBounds_toArray, List.set_cons_zero, List.set_cons_succ]
          refine wpAnyH_take (i := 3) (oi := { dst := some 25, op := Go.Op.move (Go.Operand.tmp 1), type := 3, pos := "ref.go:76", after := #[], guard := none }) (v := ?_) rfl (by kernel_rfl) (by kernel_rfl) (by kernel_rfl) (fun _ _ _ h => h) (Or.inl ⟨by rfl, ?_⟩) (K0.out) ?_
          rotate_left 1
          · intro w5 hSw
            go_simp; all_goals (with_reducible rfl)
          try simp only [Act.put, List.setIfInBounds_toArray, List.set_cons_zero, List.set_cons_succ]
          refine wpAnyH_take (i := 4) (oi := { dst := some 26, op := Go.Op.indexAddr 22 (Go.Operand.tmp 24) (Go.Operand.tmp 25), type := 0, pos := "ref.go:76", after := #[{ on := 2, ground := Go.Ground.data }, { on := 3, ground := Go.Ground.data }], guard := none }) (v := ?_) rfl (by kernel_rfl) (by kernel_rfl) (by kernel_rfl) (fun _ _ _ h => h) (Or.inl ⟨by rfl, ?_⟩) (K0.out) ?_
          rotate_left 1
          · intro w5 hSw
            go_simp; all_goals (with_reducible rfl)
          try simp only [Act.put, List.setIfInBounds_toArray, List.set_cons_zero, List.set_cons_succ]
          refine wpAnyH_take (i := 5) (oi := { dst := some 27, op := Go.Op.load 44 (Go.Operand.tmp 26), type := 44, pos := "ref.go:76", after := #[{ on := 4, ground := Go.Ground.data }], guard := none }) (v := ?_) rfl (by kernel_rfl) (by kernel_rfl) (by kernel_rfl) (fun _ _ _ h => h) (Or.inl ⟨by rfl, ?_⟩) (K0.out) ?_
          rotate_left 1
          · intro w5 hSw
            have q0 := hSw
            go_simp; all_goals (with_reducible rfl)
          try simp only [Act.put, List.setIfInBounds_toArray, List.set_cons_zero, List.set_cons_succ]
          refine wpAnyH_take (i := 6) (oi := { dst := some 28, op := Go.Op.convert 44 59 (Go.Operand.tmp 27), type := 59, pos := "ref.go:76", after := #[{ on := 5, ground := Go.Ground.data }], guard := none }) (v := ?_) rfl (by kernel_rfl) (by kernel_rfl) (by kernel_rfl) (fun _ _ _ h => h) (Or.inl ⟨by rfl, ?_⟩) (K0.out) ?_
          rotate_left 1
          · intro w5 hSw
            go_simp; all_goals (with_reducible rfl)
          try simp only [Act.put, List.setIfInBounds_toArray, List.set_cons_zero, List.set_cons_succ]
          refine wpAnyH_ready (rs := [1, 7]) (by kernel_rfl) (by simp) ?_
          refine (AllReadyH.cons (o := { dst := some 23, op := Go.Op.load 3 (Go.Operand.tmp 22), type := 3, pos := "ref.go:76", after := #[{ on := 0, ground := Go.Ground.data }], guard := none }) rfl (fun K hK => ?_) (AllReadyH.cons (o := { dst := some 29, op := Go.Op.call { callee := Go.Callee.value (Go.Operand.func 32), args := #[Go.Operand.tmp 28], argTypes := #[59] }, type := 3, pos := "ref.go:76", after := #[{ on := 6, ground := Go.Ground.data }], guard := none }) rfl (fun K hK => ?_) AllReadyH.nil))
          · go_simp
            refine hK.out _ _ (K0.out) (fun _ => ?_)
            clear hK K
            try simp only [Act.put, List.setIfInBounds_toArray, List.set_cons_zero, List.set_cons_succ]
            refine wpAnyH_ready (rs := [7]) (by kernel_rfl) (by simp) ?_
            refine (AllReadyH.cons (o := { dst := some 29, op := Go.Op.call { callee := Go.Callee.value (Go.Operand.func 32), args := #[Go.Operand.tmp 28], argTypes := #[59] }, type := 3, pos := "ref.go:76", after := #[{ on := 6, ground := Go.Ground.data }], guard := none }) rfl (fun K hK => ?_) AllReadyH.nil)
            go_simp
            refine (HZx.out _).mono ?_; rintro e W9 ⟨rfl, rfl⟩
            go_wp2_with fail
            refine hK.out _ _ (K0.out) (fun _ => ?_)
            clear hK K
            try simp only [Act.put, List.setIfInBounds_toArray, List.set_cons_zero, List.set_cons_succ]
            refine wpAnyH_take (i := 8) (oi := { dst := some 30, op := Go.Op.binOp Go.BinOp.add 3 (Go.Operand.tmp 23) (Go.Operand.tmp 29) 3, type := 3, pos := "ref.go:76", after := #[{ on := 1, ground := Go.Ground.data }, { on := 7, ground := Go.Ground.data }], guard := none }) (v := ?_) rfl (by kernel_rfl) (by kernel_rfl) (by kernel_rfl) (fun _ _ _ h => h) (Or.inl ⟨by rfl, ?_⟩) (K0.out) ?_
            rotate_left 1
            · intro w5 hSw
              go_simp; all_goals (with_reducible rfl)
            try simp only [Act.put, List.setIfInBounds_toArray, List.set_cons_zero, List.set_cons_succ]
            refine wpAnyH_take (i := 9) (oi := { dst := some 31, op := Go.Op.fieldAddr 42 (Go.Operand.tmp 7) 0, type := 0, pos := "ref.go:76", after := #[{ on := 0, ground := Go.Ground.phase }, { on := 1, ground := Go.Ground.phase }, { on := 2, ground := Go.Ground.phase }, { on := 3, ground := Go.Ground.phase }, { on := 4, ground := Go.Ground.phase }, { on := 5, ground := Go.Ground.phase }, { on := 6, ground := Go.Ground.phase }, { on := 7, ground := Go.Ground.phase }, { on := 8, ground := Go.Ground.phase }], guard := none }) (v := ?_) rfl (by kernel_rfl) (by kernel_rfl) (by kernel_rfl) (fun _ _ _ h => h) (Or.inl ⟨by rfl, ?_⟩) (K0.out) ?_
            rotate_left 1
            · intro w5 hSw
              go_simp; all_goals (with_reducible rfl)
            try simp only [Act.put, List.setIfInBounds_toArray, List.set_cons_zero, List.set_cons_succ]
            refine wpAnyH_ready (rs := [10]) (by kernel_rfl) (by simp) ?_
            refine (AllReadyH.cons (o := { dst := none, op := Go.Op.store 3 (Go.Operand.tmp 31) (Go.Operand.tmp 30), type := 0, pos := "ref.go:76", after := #[{ on := 9, ground := Go.Ground.data }, { on := 8, ground := Go.Ground.data }, { on := 7, ground := Go.Ground.chain }, { on := 0, ground := Go.Ground.phase }, { on := 1, ground := Go.Ground.phase }, { on := 2, ground := Go.Ground.phase }, { on := 3, ground := Go.Ground.phase }, { on := 4, ground := Go.Ground.phase }, { on := 5, ground := Go.Ground.phase }, { on := 6, ground := Go.Ground.phase }, { on := 7, ground := Go.Ground.phase }, { on := 8, ground := Go.Ground.phase }], guard := none }) rfl (fun K hK => ?_) AllReadyH.nil)
            go_simp
            refine hK.out _ _ (K1.out) (fun _ => ?_)
            clear hK K
            try simp only [Act.put, List.setIfInBounds_toArray, List.set_cons_zero, List.set_cons_succ]
            refine wpAnyH_done (by kernel_rfl) ?_ _
            go_wp2_with fail
            go_meet
            exact K2
          · go_simp
            refine (HZx.out _).mono ?_; rintro e W9 ⟨rfl, rfl⟩
            go_wp2_with fail
            refine hK.out _ _ (K0.out) (fun _ => ?_)
            clear hK K
            try simp only [Act.put, List.setIfInBounds_toArray, List.set_cons_zero, List.set_cons_succ]
            refine wpAnyH_ready (rs := [1]) (by kernel_rfl) (by simp) ?_
            refine (AllReadyH.cons (o := { dst := some 23, op := Go.Op.load 3 (Go.Operand.tmp 22), type := 3, pos := "ref.go:76", after := #[{ on := 0, ground := Go.Ground.data }], guard := none }) rfl (fun K hK => ?_) AllReadyH.nil)
            go_simp
            refine hK.out _ _ (K0.out) (fun _ => ?_)
            clear hK K
            try simp only [Act.put, List.setIfInBounds_toArray, List.set_cons_zero, List.set_cons_succ]
            refine wpAnyH_take (i := 8) (oi := { dst := some 30, op := Go.Op.binOp Go.BinOp.add 3 (Go.Operand.tmp 23) (Go.Operand.tmp 29) 3, type := 3, pos := "ref.go:76", after := #[{ on := 1, ground := Go.Ground.data }, { on := 7, ground := Go.Ground.data }], guard := none }) (v := ?_) rfl (by kernel_rfl) (by kernel_rfl) (by kernel_rfl) (fun _ _ _ h => h) (Or.inl ⟨by rfl, ?_⟩) (K0.out) ?_
            rotate_left 1
            · intro w5 hSw
              go_simp; all_goals (with_reducible rfl)
            try simp only [Act.put, List.setIfInBounds_toArray, List.set_cons_zero, List.set_cons_succ]
            refine wpAnyH_take (i := 9) (oi := { dst := some 31, op := Go.Op.fieldAddr 42 (Go.Operand.tmp 7) 0, type := 0, pos := "ref.go:76", after := #[{ on := 0, ground := Go.Ground.phase }, { on := 1, ground := Go.Ground.phase }, { on := 2, ground := Go.Ground.phase }, { on := 3, ground := Go.Ground.phase }, { on := 4, ground := Go.Ground.phase }, { on := 5, ground := Go.Ground.phase }, { on := 6, ground := Go.Ground.phase }, { on := 7, ground := Go.Ground.phase }, { on := 8, ground := Go.Ground.phase }], guard := none }) (v := ?_) rfl (by kernel_rfl) (by kernel_rfl) (by kernel_rfl) (fun _ _ _ h => h) (Or.inl ⟨by rfl, ?_⟩) (K0.out) ?_
            rotate_left 1
            · intro w5 hSw
              go_simp; all_goals (with_reducible rfl)
            try simp only [Act.put, List.setIfInBounds_toArray, List.set_cons_zero, List.set_cons_succ]
            refine wpAnyH_ready (rs := [10]) (by kernel_rfl) (by simp) ?_
            refine (AllReadyH.cons (o := { dst := none, op := Go.Op.store 3 (Go.Operand.tmp 31) (Go.Operand.tmp 30), type := 0, pos := "ref.go:76", after := #[{ on := 9, ground := Go.Ground.data }, { on := 8, ground := Go.Ground.data }, { on := 7, ground := Go.Ground.chain }, { on := 0, ground := Go.Ground.phase }, { on := 1, ground := Go.Ground.phase }, { on := 2, ground := Go.Ground.phase }, { on := 3, ground := Go.Ground.phase }, { on := 4, ground := Go.Ground.phase }, { on := 5, ground := Go.Ground.phase }, { on := 6, ground := Go.Ground.phase }, { on := 7, ground := Go.Ground.phase }, { on := 8, ground := Go.Ground.phase }], guard := none }) rfl (fun K hK => ?_) AllReadyH.nil)
            go_simp
            refine hK.out _ _ (K1.out) (fun _ => ?_)
            clear hK K
            try simp only [Act.put, List.setIfInBounds_toArray, List.set_cons_zero, List.set_cons_succ]
            refine wpAnyH_done (by kernel_rfl) ?_ _
            go_wp2_with fail
            go_meet
            exact K2
        case rest =>
          obtain ⟨hW1, hO1⟩ := hcut.out
          have HW1 := Lib.hid hW1
          have HO1 := Lib.hid hO1
          have hB1 : Below w.heap.size w wc := HB.out.trans (hO1.below (fun k hk e => by omega) HB.out.size)
          have HB1 := Lib.hid hB1
          have y0 : wc.cell? ⟨b7, 0, none⟩ = some (.int .i64 sx) := hW1.cell 0
          have y1 : wc.cell? ⟨b7, 1, none⟩ = some (.int .i64 py) := hW1.cell 1
          have g1 : wc.frozen? ⟨b7, 1, none⟩ = false := hW1.frozen 1
          clear hW1 hO1 hB1 hcut t0 t1 f0 e0
          cases hk1 : okC sx with
          | false =>
            have hr : R = .error 8 := by rw [← Hpt.out]; exact ptsM_err _ _ _ _ (by rw [HC1.out, hk1]; rfl)
            subst hr
            go_wp2_with (go_at_call 26; refine (HO.out _ _).mono ?_; rintro e W9 ⟨rfl, rfl⟩; rw [hk1])
            exact bodyPost_ret (v := .tuple #[.slice none 0 0, .int .i64 0, .int .i64 8]) (by simp [results, Try.results21, asAddr, go_sem]) rfl ⟨rfl, HB1.out⟩
          | true =>
            have hcx : crd px (l.drop ik) = .ok (sx, l.drop (ik + 1)) := by rw [HC1.out, hk1]; rfl
            have hin1 := crd_in hcx
            have HCX := Lib.hid hcx
            clear hcx
            by_cases hiL1 : ik + 1 < L
            · have hiL3 : ik + 1 < l.length := by have := HL.out; omega
              have hc2 := crd_at hiL3 py
              have hc := HCell.out
              have e1 : wc.cell? ⟨b, off + (ik + 1), none⟩ = some (.int .u32 ((l[ik + 1]'hiL3 : Nat) : Int)) := by
                have := hc (ik + 1) hiL3
                rw [(HB1.out.cell (p := ⟨b, off + (ik + 1), none⟩) hb), this]
                simp [List.getD, hiL3]
              have hx2 := Hl.out _ (List.getElem_mem hiL3)
              obtain ⟨x2, hxe⟩ : ∃ x, x = l[ik + 1]'hiL3 := ⟨_, rfl⟩
              rw [← hxe] at hc2 e1 hx2
              have hz2 := zag32 x2 hx2
              obtain ⟨z2, hze⟩ : ∃ z, z = zag x2 := ⟨_, rfl⟩
              have HZy := Lib.hid fun W => HZ.out x2 W (by omega)
              rw [← hze] at hc2 hz2 HZy
              obtain ⟨ik1, hik1e⟩ : ∃ q, q = ik + 1 := ⟨_, rfl⟩
              have hik2 : (0 : Int) ≤ (ik1 : Int) := by omega
              have hik3 : (ik1 : Int) < (L : Int) := by omega
              have hwx2 : IntKind.u64.wrap (x2 : Int) = (x2 : Int) := by rw [IntKind.wrap_u64]; omega
              obtain ⟨sy, hsy⟩ : ∃ s, s = py + z2 := ⟨_, rfl⟩
              have hws2 : IntKind.i64.wrap (py + z2) = sy := by rw [hsy, IntKind.wrap_i64]; omega
              have hwi : IntKind.i64.wrap ((ik : Int) + 1) = (ik1 : Int) := by rw [IntKind.wrap_i64]; omega
              have hwi2 : (ik : Int) + 1 = (ik1 : Int) := by omega
              have hwi3 : IntKind.i64.wrap (ik1 : Int) = (ik1 : Int) := by rw [IntKind.wrap_i64]; omega
              rw [← hik1e] at e1
              rw [← hsy] at hc2
              have HC2 := Lib.hid hc2
              have Hik1 := Lib.hid hik1e
              clear hxe hze hsy hc2 hc hiL3 hik1e
              go_wp2_with (go_at_call 26; refine (HO.out _ _).mono ?_; rintro e W9 ⟨rfl, rfl⟩; rw [hk1])
              go_upto_region 12 with (fail)
              have K0 : Hid (wc.drew.cell? ⟨b, off + ik1, none⟩ = some (.int .u32 (x2 : Int))) := e1
              have K1 : Hid ((wc.drew.setCell ⟨b7, 1, none⟩ (.int .i64 sy)).cell? ⟨b, off + ik1, none⟩ = some (.int .u32 (x2 : Int))) := (World.cell?_of_block (w := wc.drew) (Below.heap_setCell wc.drew ⟨b7, 1, none⟩ (.int .i64 sy) b hbne)).trans K0.out
              have K2 : Hid (PStep wc b7 sx sy (wc.drew.setCell ⟨b7, 1, none⟩ (.int .i64 sy))) := ⟨by simpa using (show Whole wc.drew b7 42 _ from HW1.out).set 1 (.int .i64 sy), Only.setCell (S := fun k => k = b7) ((Only.refl _ wc).drew) (p := ⟨b7, 1, none⟩) (fun _ => rfl) _⟩
              go_cut [] (fun W => Hid (PStep wc b7 sx sy W))
              case first =>
                refine wp_region_held (S := (fun W => W.cell? ⟨b, off + ik1, none⟩ = some (.int .u32 (x2 : Int)))) (by kernel_rfl) ?_
                refine wpAnyH_take (i := 0) (oi := { dst := some 40, op := Go.Op.fieldAddr 42 (Go.Operand.tmp 7) 1, type := 0, pos := "ref.go:83", after := #[], guard := none }) (v := ?_) rfl (by kernel_rfl) (by kernel_rfl) (by kernel_rfl) (fun _ _ _ h => h) (Or.inl ⟨by rfl, ?_⟩) (K0.out) ?_
                rotate_left 1
                · intro w5 hSw
                  go_simp; all_goals (with_reducible rfl)
                try simp only [Act.put, List.setIfInBounds_toArray, List.set_cons_zero, List.set_cons_succ]
                refine wpAnyH_take (i := 2) (oi := { dst := some 42, op := Go.Op.move (Go.Operand.tmp 0), type := 22, pos := "ref.go:83", after := #[], guard := none }) (v := ?_) rfl (by kernel_rfl) (by kernel_rfl) (by kernel_rfl) (fun _ _ _ h => h) (Or.inl ⟨by rfl, ?_⟩) (K0.out) ?_
                rotate_left 1
                · intro w5 hSw
                  go_simp; all_goals (with_reducible rfl)
                try simp only [Act.put, List.setIfInBounds_toArray, List.set_cons_zero, List.set_cons_succ]
                refine wpAnyH_take (i := 3) (oi := { dst := some 43, op := Go.Op.move (Go.Operand.tmp 1), type := 3, pos := "ref.go:83", after := #[], guard := none }) (v := ?_) rfl (by kernel_rfl) (by kernel_rfl) (by kernel_rfl) (fun _ _ _ h => h) (Or.inl ⟨by rfl, ?_⟩) (K0.out) ?_
                rotate_left 1
                · intro w5 hSw
                  go_simp; all_goals (with_reducible rfl)
                try simp only [Act.put, List.setIfInBounds_toArray, List.set_cons_zero, List.set_cons_succ]
                refine wpAnyH_take (i := 4) (oi := { dst := some 44, op := Go.Op.binOp Go.BinOp.add 3 (Go.Operand.tmp 43) (Go.Operand.const (Go.Value.int Go.IntKind.i64 1)) 3, type := 3, pos := "ref.go:83", after := #[{ on := 3, ground := Go.Ground.data }], guard := none }) (v := ?_) rfl (by kernel_rfl) (by kernel_rfl) (by kernel_rfl) (fun _ _ _ h => h) (Or.inl ⟨by rfl, ?_⟩) (K0.out) ?_
                rotate_left 1
                · intro w5 hSw
                  go_simp; all_goals (with_reducible rfl)
                try simp only [Act.put, List.setIfInBounds_toArray, List.set_cons_zero, List.set_cons_succ]
                refine wpAnyH_take (i := 5) (oi := { dst := some 45, op := Go.Op.indexAddr 22 (Go.Operand.tmp 42) (Go.Operand.tmp 44), type := 0, pos := "ref.go:83", after := #[{ on := 2, ground := Go.Ground.data }, { on := 4, ground := Go.Ground.data }], guard := none }) (v := ?_) rfl (by kernel_rfl) (by kernel_rfl) (by kernel_rfl) (fun _ _ _ h => h) (Or.inl ⟨by rfl, ?_⟩) (K0.out) ?_
                rotate_left 1
                · intro w5 hSw
                  go_simp; all_goals (with_reducible rfl)
                try simp only [Act.put, List.setIfInBounds_toArray, List.set_cons_zero, List.set_cons_succ]
                refine wpAnyH_take (i := 6) (oi := { dst := some 46, op := Go.Op.load 44 (Go.Operand.tmp 45), type := 44, pos := "ref.go:83", after := #[{ on := 5, ground := Go.Ground.data }], guard := none }) (v := ?_) rfl (by kernel_rfl) (by kernel_rfl) (by kernel_rfl) (fun _ _ _ h => h) (Or.inl ⟨by rfl, ?_⟩) (K0.out) ?_
                rotate_left 1
                · intro w5 hSw
                  have q0 := hSw
                  go_simp; all_goals (with_reducible rfl)
                try simp only [Act.put, List.setIfInBounds_toArray, List.set_cons_zero, List.set_cons_succ]
                refine wpAnyH_take (i := 7) (oi := { dst := some 47, op := Go.Op.convert 44 59 (Go.Operand.tmp 46), type := 59, pos := "ref.go:83", after := #[{ on := 6, ground := Go.Ground.data }], guard := none }) (v := ?_) rfl (by kernel_rfl) (by kernel_rfl) (by kernel_rfl) (fun _ _ _ h => h) (Or.inl ⟨by rfl, ?_⟩) (K0.out) ?_
                rotate_left 1
                · intro w5 hSw
                  go_simp; all_goals (with_reducible rfl)
                try simp only [Act.put, List.setIfInBounds_toArray, List.set_cons_zero, List.set_cons_succ]
                refine wpAnyH_ready (rs := [1, 8]) (by kernel_rfl) (by simp) ?_
                refine (AllReadyH.cons (o := { dst := some 41, op := Go.Op.load 3 (Go.Operand.tmp 40), type := 3, pos := "ref.go:83", after := #[{ on := 0, ground := Go.Ground.data }], guard := none }) rfl (fun K hK => ?_) (AllReadyH.cons (o := { dst := some 48, op := Go.Op.call { callee := Go.Callee.value (Go.Operand.func 32), args := #[Go.Operand.tmp 47], argTypes := #[59] }, type := 3, pos := "ref.go:83", after := #[{ on := 7, ground := Go.Ground.data }], guard := none }) rfl (fun K hK => ?_) AllReadyH.nil))
                · go_simp
                  refine hK.out _ _ (K0.out) (fun _ => ?_)
                  clear hK K
                  try simp only [Act.put, List.setIfInBounds_toArray, List.set_cons_zero, List.set_cons_succ]
                  refine wpAnyH_ready (rs := [8]) (by kernel_rfl) (by simp) ?_
                  refine (AllReadyH.cons (o := { dst := some 48, op := Go.Op.call { callee := Go.Callee.value (Go.Operand.func 32), args := #[Go.Operand.tmp 47], argTypes := #[59] }, type := 3, pos := "ref.go:83", after := #[{ on := 7, ground := Go.Ground.data }], guard := none }) rfl (fun K hK => ?_) AllReadyH.nil)
                  go_simp
                  refine (HZy.out _).mono ?_; rintro e W9 ⟨rfl, rfl⟩
                  go_wp2_with fail
                  refine hK.out _ _ (K0.out) (fun _ => ?_)
                  clear hK K
                  try simp only [Act.put, List.setIfInBounds_toArray, List.set_cons_zero, List.set_cons_succ]
                  refine wpAnyH_take (i := 9) (oi := { dst := some 49, op := Go.Op.binOp Go.BinOp.add 3 (Go.Operand.tmp 41) (Go.Operand.tmp 48) 3, type := 3, pos := "ref.go:83", after := #[{ on := 1, ground := Go.Ground.data }, { on := 8, ground := Go.Ground.data }], guard := none }) (v := ?_) rfl (by kernel_rfl) (by kernel_rfl) (by kernel_rfl) (fun _ _ _ h => h) (Or.inl ⟨by rfl, ?_⟩) (K0.out) ?_
                  rotate_left 1
                  · intro w5 hSw
                    go_simp; all_goals (with_reducible rfl)
                  try simp only [Act.put, List.setIfInBounds_toArray, List.set_cons_zero, List.set_cons_succ]
                  refine wpAnyH_take (i := 10) (oi := { dst := some 50, op := Go.Op.fieldAddr 42 (Go.Operand.tmp 7) 1, type := 0, pos := "ref.go:83", after := #[{ on := 0, ground := Go.Ground.phase }, { on := 1, ground := Go.Ground.phase }, { on := 2, ground := Go.Ground.phase }, { on := 3, ground := Go.Ground.phase }, { on := 4, ground := Go.Ground.phase }, { on := 5, ground := Go.Ground.phase }, { on := 6, ground := Go.Ground.phase }, { on := 7, ground := Go.Ground.phase }, { on := 8, ground := Go.Ground.phase }, { on := 9, ground := Go.Ground.phase }], guard := none }) (v := ?_) rfl (by kernel_rfl) (by kernel_rfl) (by kernel_rfl) (fun _ _ _ h => h) (Or.inl ⟨by rfl, ?_⟩) (K0.out) ?_
                  rotate_left 1
                  · intro w5 hSw
                    go_simp; all_goals (with_reducible rfl)
                  try simp only [Act.put, List.setIfInBounds_toArray, List.set_cons_zero, List.set_cons_succ]
                  refine wpAnyH_ready (rs := [11]) (by kernel_rfl) (by simp) ?_
                  refine (AllReadyH.cons (o := { dst := none, op := Go.Op.store 3 (Go.Operand.tmp 50) (Go.Operand.tmp 49), type := 0, pos := "ref.go:83", after := #[{ on := 10, ground := Go.Ground.data }, { on := 9, ground := Go.Ground.data }, { on := 8, ground := Go.Ground.chain }, { on := 0, ground := Go.Ground.phase }, { on := 1, ground := Go.Ground.phase }, { on := 2, ground := Go.Ground.phase }, { on := 3, ground := Go.Ground.phase }, { on := 4, ground := Go.Ground.phase }, { on := 5, ground := Go.Ground.phase }, { on := 6, ground := Go.Ground.phase }, { on := 7, ground := Go.Ground.phase }, { on := 8, ground := Go.Ground.phase }, { on := 9, ground := Go.Ground.phase }], guard := none }) rfl (fun K hK => ?_) AllReadyH.nil)
                  go_simp
                  refine hK.out _ _ (K1.out) (fun _ => ?_)
                  clear hK K
                  try simp only [Act.put, List.setIfInBounds_toArray, List.set_cons_zero, List.set_cons_succ]
                  refine wpAnyH_done (by kernel_rfl) ?_ _
                  go_wp2_with fail
                  go_meet
                  exact K2
                · go_simp
                  refine (HZy.out _).mono ?_; rintro e W9 ⟨rfl, rfl⟩
                  go_wp2_with fail
                  refine hK.out _ _ (K0.out) (fun _ => ?_)
                  clear hK K
                  try simp only [Act.put, List.setIfInBounds_toArray, List.set_cons_zero, List.set_cons_succ]
                  refine wpAnyH_ready (rs := [1]) (by kernel_rfl) (by simp) ?_
                  refine (AllReadyH.cons (o := { dst := some 41, op := Go.Op.load 3 (Go.Operand.tmp 40), type := 3, pos := "ref.go:83", after := #[{ on := 0, ground := Go.Ground.data }], guard := none }) rfl (fun K hK => ?_) AllReadyH.nil)
                  go_simp
                  refine hK.out _ _ (K0.out) (fun _ => ?_)
                  clear hK K
                  try simp only [Act.put, List.setIfInBounds_toArray, List.set_cons_zero, List.set_cons_succ]
                  refine wpAnyH_take (i := 9) (oi := { dst := some 49, op := Go.Op.binOp Go.BinOp.add 3 (Go.Operand.tmp 41) (Go.Operand.tmp 48) 3, type := 3, pos := "ref.go:83", after := #[{ on := 1, ground := Go.Ground.data }, { on := 8, ground := Go.Ground.data }], guard := none }) (v := ?_) rfl (by kernel_rfl) (by kernel_rfl) (by kernel_rfl) (fun _ _ _ h => h) (Or.inl ⟨by rfl, ?_⟩) (K0.out) ?_
                  rotate_left 1
                  · intro w5 hSw
                    go_simp; all_goals (with_reducible rfl)
                  try simp only [Act.put, List.setIfInBounds_toArray, List.set_cons_zero, List.set_cons_succ]
                  refine wpAnyH_take (i := 10) (oi := { dst := some 50, op := Go.Op.fieldAddr 42 (Go.Operand.tmp 7) 1, type := 0, pos := "ref.go:83", after := #[{ on := 0, ground := Go.Ground.phase }, { on := 1, ground := Go.Ground.phase }, { on := 2, ground := Go.Ground.phase }, { on := 3, ground := Go.Ground.phase }, { on := 4, ground := Go.Ground.phase }, { on := 5, ground := Go.Ground.phase }, { on := 6, ground := Go.Ground.phase }, { on := 7, ground := Go.Ground.phase }, { on := 8, ground := Go.Ground.phase }, { on := 9, ground := Go.Ground.phase }], guard := none }) (v := ?_) rfl (by kernel_rfl) (by kernel_rfl) (by kernel_rfl) (fun _ _ _ h => h) (Or.inl ⟨by rfl, ?_⟩) (K0.out) ?_
                  rotate_left 1
                  · intro w5 hSw
                    go_simp; all_goals (with_reducible rfl)
                  try simp only [Act.put, List.setIfInBounds_toArray, List.set_cons_zero, List.set_cons_succ]
                  refine wpAnyH_ready (rs := [11]) (by kernel_rfl) (by simp) ?_
                  refine (AllReadyH.cons (o := { dst := none, op := Go.Op.store 3 (Go.Operand.tmp 50) (Go.Operand.tmp 49), type := 0, pos := "ref.go:83", after := #[{ on := 10, ground := Go.Ground.data }, { on := 9, ground := Go.Ground.data }, { on := 8, ground := Go.Ground.chain }, { on := 0, ground := Go.Ground.phase }, { on := 1, ground := Go.Ground.phase }, { on := 2, ground := Go.Ground.phase }, { on := 3, ground := Go.Ground.phase }, { on := 4, ground := Go.Ground.phase }, { on := 5, ground := Go.Ground.phase }, { on := 6, ground := Go.Ground.phase }, { on := 7, ground := Go.Ground.phase }, { on := 8, ground := Go.Ground.phase }, { on := 9, ground := Go.Ground.phase }], guard := none }) rfl (fun K hK => ?_) AllReadyH.nil)
                  go_simp
                  refine hK.out _ _ (K1.out) (fun _ => ?_)
                  clear hK K
                  try simp only [Act.put, List.setIfInBounds_toArray, List.set_cons_zero, List.set_cons_succ]
                  refine wpAnyH_done (by kernel_rfl) ?_ _
                  go_wp2_with fail
                  go_meet
                  exact K2
              case rest =>
                obtain ⟨hW2, hO2⟩ := hcut.out
                have hOw := HO1.out.trans hO2 (fun _ _ h => h)
                have hB2 := HB.out.trans (hOw.below (fun k hk e => by omega) HB.out.size)
                have HB2 := Lib.hid hB2
                have HW2 := Lib.hid hW2
                have HOw := Lib.hid hOw
                have y0 : wc.cell? ⟨b7, 0, none⟩ = some (.int .i64 sx) := hW2.cell 0
                have y1 : wc.cell? ⟨b7, 1, none⟩ = some (.int .i64 sy) := hW2.cell 1
                clear hW2 hO2 hOw hB2 hcut hwi hwi2 hwi3 hik2 hik3
                have hjj : j = n - (k + 1) := by omega
                have hik2L : ik + 2 ≤ L := by omega
                cases hk2 : okC sy with
                | false =>
                  have hr : R = .error 8 := by rw [← Hpt.out]; exact ptsM_err2 _ _ _ _ _ HCX.out (by rw [HC2.out, hk2]; rfl)
                  subst hr
                  go_wp2_with (go_at_call 26; refine (HO.out _ _).mono ?_; rintro e W9 ⟨rfl, rfl⟩; rw [hk2])
                  exact bodyPost_ret (v := .tuple #[.slice none 0 0, .int .i64 0, .int .i64 8]) (by simp [results, Try.results21, asAddr, go_sem]) rfl ⟨rfl, HB2.out⟩
                | true =>
                  have hcy : crd py (l.drop (ik + 1)) = .ok (sy, l.drop (ik + 2)) := by rw [HC2.out, hk2]; rfl
                  have hin2 := crd_in hcy
                  have hpt2 := Hpt.out
                  rw [ptsM_ok _ _ _ _ _ _ HCX.out hcy, hjj] at hpt2
                  have HPT2 := Lib.hid hpt2
                  have hownv : OwnP wc w.heap.size v1 m := HOv.out.only HOw.out (fun b hb e => HV7.out (by rw [hb, e]))
                  have HOv2 := Lib.hid hownv
                  have hown : wc.ownsRow w.heap.size 42 2 v1 m.length (pts m) := hownv
                  have hBX := HB2.out.size
                  have hml : m.length ≤ 1000 := by have := HLn.out; omega
                  clear hcy hpt2 hownv
                  go_wp2_with (first | (go_at_call 26; refine (HO.out _ _).mono ?_; rintro e W9 ⟨rfl, rfl⟩; rw [hk2]) | (at_builtin; refine app_rec rfl (.tmp 54) (.tmp 56) 43 rfl w.heap.size 42 i0 _ 2 16 Try.underlying43 hi0 hz0 hz1 (by assumption) rfl (by decide) v1 _ _ rfl hown [.int .i64 sx, .int .i64 sy] rfl 1 rfl (pts_one [(sx, sy)]) (by unfold maxLen; omega) (by omega) hBX ?_))
                  intro v3 w3 h2 h3 h5
                  have hG : GoneP wc w.heap.size v1 (m ++ [(sx, sy)]) v3 w3 := GoneP.grown h2 (by simp) (by rw [pts_append]; rfl) h3 h5
                  have HA := Lib.hid hG.own
                  have hV3 : v3.ownBlock ≠ some b7 := fun e => by
                    have := HW2.out.lt
                    rcases hG.at_ with e1 | ⟨i, e1, hi⟩
                    · rw [e1] at e; exact HV7.out e
                    · rw [e1] at e; injection e with e; omega
                  have HC3 := Lib.hid hV3
                  have HD := Lib.hid (HW2.out.only hG.only (fun e => HV7.out e))
                  have HE := Lib.hid (HB2.out.trans (hG.below HOv2.out hBX))
                  have HF := Lib.hid (show (m ++ [(sx, sy)]).length ≤ ik + 2 from by have := HLn.out; simp; omega)
                  clear h2 h3 h5 hG hown hV3
                  go_wp2_with fail
                  go_roundw
                  case rel => exact ⟨k + 1, ik + 2, (sx, sy), m ++ [(sx, sy)], v3, hlt, hik2L, by go_num, by go_num, rfl, HA, HD, HC3, HE, HPT2, ⟨hin1, hin2⟩, HF⟩
                  case measure => simp [intOf]; omega
            · have hr : R = .error 2 := by rw [← Hpt.out]; exact ptsM_err2 _ _ _ _ _ HCX.out (crd_end (by have := HL.out; omega) py)
              subst hr
              have hle : (L : Int) ≤ ((ik + 1 : Nat) : Int) := by omega
              go_wp2_with (go_at_call 26; refine (HO.out _ _).mono ?_; rintro e W9 ⟨rfl, rfl⟩; rw [hk1])
              exact bodyPost_ret (v := .tuple #[.slice none 0 0, .int .i64 0, .int .i64 2]) (by simp [results, Try.results21, asAddr, go_sem]) rfl ⟨rfl, HB1.out⟩
      · have hik2 : ik = L := by omega
        subst hik2
        have hr : R = .error 2 := by rw [← HPt.out, hj]; exact ptsM_err _ _ _ _ (crd_end (by have := HL.out; omega) _)
        subst hr
        clear hpt
        go_wp2_with fail
        exact bodyPost_ret (v := .tuple #[.slice none 0 0, .int .i64 0, .int .i64 2]) (by simp [results, Try.results21, asAddr, go_sem]) rfl ⟨rfl, HB.out⟩
    · have hkn : k = n := by omega
      subst hkn
      have hr := HPt.out
      rw [Nat.sub_self] at hr
      simp only [ptsM] at hr
      subst hr
      go_wp2_with fail
      exact bodyPost_ret (v := .tuple #[v1, .int .i64 (ik : Int), .int .i64 0]) (by simp [results, Try.results21, asAddr, go_sem]) rfl ⟨v1, by rw [List.length_drop, ← HL.out, show L - (L - ik) = ik by omega], HOv.out, HB.out⟩
end Go.Proofs.Ytohgdlhijgjdkaa
