/- Layer 13: ArchHeads. -/
import Derived.Test.YtlbplefmpbpchaaArch9
import Derived.Test.YtlbplefmpbpchaaArch12
import Derived.Test.YtlbplefmpbpchaaArch13
namespace Go.Proofs.Ytlbplefmpbpchaa
open Go.RowKit
set_option linter.unusedVariables false
set_option maxRecDepth 100000

theorem u8made (n : Nat) : madeCells #[.int .u8 0] n = (u8s (List.replicate n 0)).toArray := by
  apply Array.ext
  · simp [size_madeCells, u8s]
  · intro j hj1 hj2
    simp [madeCells, u8s, Nat.mod_one]
theorem code_any (x : Int) (w : World) : Calls Try.prog 7 #[.int .i64 x] w fun e w' => e = .returned (.int .i64 x) ∧ w = w' := by
  go_enter Try.func7, Try.ntmps7
  go_wp2_with fail
  go_ret
  exact ⟨rfl, rfl⟩
theorem catP_zero : (catP zHd 24).length = 127 := by decide
set_option maxHeartbeats 8000000 in
theorem live_any (w : World) : Calls Try.prog 4 #[] w fun e w' => e = .returned (.bool true) ∧ Below w.heap.size w w' := by
  obtain ⟨i1, hi1, hy0, hy1, hy2⟩ := info_parts u8info
  have hm1 : (Instr.makeSlice 22 (.int .i64 126) (.int .i64 126)).run Try.prog w = .ok (.slice (some ⟨w.heap.size, 0, none⟩) 126 126) (w.alloc (.cells (u8s (List.replicate 126 0)).toArray 5)) := by
    have := run_make (P := Try.prog) w 22 5 i1 _ Try.underlying22 hi1 hy0 .i64 .i64 (126 : Int) (126 : Int) (by omega) (Int.le_refl _) (by rw [hy2]; omega) (by omega)
    rw [hy1, show (Value.int .u8 0).cells = #[.int .u8 0] from rfl, Nat.mul_one, show (126 : Int).toNat = 126 from rfl, u8made] at this
    exact this
  obtain ⟨l, hl⟩ : ∃ l : List Nat, l = List.replicate 126 0 := ⟨_, rfl⟩
  rw [← hl] at hm1
  have hlen : l.length = 126 := by rw [hl]; simp
  have hlt : ∀ x ∈ l, x < 256 := fun x hx => by rw [hl] at hx; rw [(List.mem_replicate.1 hx).2]; decide
  obtain ⟨X, hX⟩ : ∃ X, X = w.alloc (.cells (u8s l).toArray 5) := ⟨_, rfl⟩
  rw [← hX] at hm1
  have hN : Nums .u8 X X.heap.size (some ⟨w.heap.size, 0, none⟩) l := by
    have h1 : Vals X X.heap.size 1 (some ⟨w.heap.size, 0, none⟩) l.length (u8s l) := by rw [hX]; exact (Vals.of_block (heap_alloc_new w _) (by rw [u8s_length, Nat.mul_one])).more (by simp)
    exact h1.to_nums
  have hB : Below w.heap.size w X := by rw [hX]; exact (Below.refl _ _).alloc (Nat.le_refl _) _
  have hC := head_any (some ⟨w.heap.size, 0, none⟩) 126 l X hN hlt (by omega) (by unfold maxLen; omega) (by omega)
  have hR : headR l = (zHd, 2) := by unfold headR; rw [if_pos (by omega)]
  rw [hR, hlen] at hC
  have HC := Lib.hid hC
  have HB := Lib.hid hB
  have Hcode := Lib.hid code_any
  have HPut := Lib.hid (fun W => putHead_any zHd W)
  rw [catP_zero] at HPut
  clear hX hN hC hR hB hl hlen hlt i1 hi1 hy0 hy1 hy2
  unfold hdV at HC
  go_enter Try.func4, Try.ntmps4
  go_wp2_with fail
  refine HC.out.mono ?_
  rintro e Y ⟨rfl, hb⟩
  have HB1 := Lib.hid (keepBelow hb HB.out)
  have hNw := Lib.hid (heap_alloc_new Y (.cells zHd.cells 29))
  have hB2 := Lib.hid (below_setRow (HB1.out.alloc HB1.out.size (.cells zHd.cells 29)) HB1.out.size zHd.cells)
  clear hb HC HB
  go_upto_region 2 with (refine wpList_store_row rfl 29 (.tmp 1) (.tmp 6) rfl Y.heap.size zHd.cells rfl rfl 29 zHd.cells hNw.out hd_info rfl (hd_all _) ?_)
  obtain ⟨Z, hZ⟩ : ∃ Z, Z = (Y.alloc (.cells zHd.cells 29)).setRow Y.heap.size zHd.cells := ⟨_, rfl⟩
  have hZ2 : (Y.alloc (.cells #[.int .u64 0, .int .u64 0, .int .u64 0, .int .u64 0, .int .u64 0, .int .u64 0, .int .u64 0, .int .u64 0, .int .u64 0, .int .u64 0, .int .u64 0, .bool false, .int .i64 0, .int .i64 0, .int .i64 0, .int .i64 0, .int .i64 0, .int .i64 0, .int .i64 0, .int .i64 0, .int .i64 0, .int .i64 0, .int .i64 0, .int .i64 0] 29)).setRow Y.heap.size zHd.cells = Z := hZ.symm
  rw [hZ2]
  have HB3 : Hid (Below w.heap.size w Z) := by show Below _ _ _; rw [hZ]; exact hB2.out
  clear hZ hZ2 hB2 hNw
  go_wp2_with fail
  refine (Hcode.out 2 _).mono ?_
  rintro e Z2 ⟨rfl, rfl⟩
  go_wp2_with fail
  refine (HPut.out _).mono ?_
  rintro e Z3 ⟨a, c, rfl, hN, hb⟩
  have HB4 := Lib.hid (keepBelow hb HB3.out)
  clear hN hb HB3 HB1
  go_wp2_with fail
  go_ret
  exact ⟨rfl, HB4.out⟩
theorem stepP {w Y Y2 : World} {b : Nat} {h : Hd} {a : Option Addr} {S : ByteArray} (hS : S = strOf (catP h 24)) (hN : Nums .u8 Y2 Y2.heap.size a (catP h 24)) (hb : Below Y.heap.size Y Y2) (c : Nat) (hH : Whole Y b 29 h.cells) (hB : Below w.heap.size w Y) :
    (∀ W, Kp Y2 W → (convert 22 9 (.slice a (catP h 24).length c)).run Try.prog W = .ok (.string S) W) ∧ Whole Y2 b 29 h.cells ∧ Below w.heap.size w Y2 := by
  refine ⟨fun W hW => ?_, hH.below hb hH.lt, keepBelow hb hB⟩
  rw [hS]
  exact str_of_nums W Y2.heap.size 22 9 5 a c _ Try.underlying22 Try.underlying5 Try.underlying9 (hN.below hW) (catP_lt h 24)
set_option maxHeartbeats 32000000 in
theorem archHeads_walk (A : Option Addr) (cap : Nat) (l : List Nat) (h : Hd) (n : Int) (w : World) (hN : Nums .u8 w w.heap.size A l) (hl : ∀ x ∈ l, x < 256) (hcap : l.length ≤ cap) (hcm : cap ≤ maxLen) (hU : HdOK h) (hn : -9223372036854775808 ≤ n ∧ n < 9223372036854775808) :
    Calls Try.prog 3 #[.slice A l.length cap, hdV h, .int .i64 n] w fun e w' => e = .returned (.bool true) ∧ Below w.heap.size w w' := by
  have HL := Lib.hid live_any
  have Hcode := Lib.hid code_any
  obtain ⟨b0, hb0⟩ : ∃ b, b = w.heap.size := ⟨_, rfl⟩
  obtain ⟨X0, hX0⟩ : ∃ X, X = w.alloc (.cells h.cells 29) := ⟨_, rfl⟩
  have hH0 : Whole X0 b0 29 h.cells := by rw [hX0, hb0]; exact Whole.new w _ _
  have hB0 : Below w.heap.size w X0 := by rw [hX0]; exact (Below.refl _ _).alloc (Nat.le_refl _) _
  have hN0 : Nums .u8 X0 X0.heap.size A l := (hN.below hB0).more hB0.size
  have HX0 : Hid (w.alloc (.cells h.cells 29) = X0) := hX0.symm
  have Hb0 := Lib.hid hb0
  have HH0 := Lib.hid hH0
  have HB0 := Lib.hid hB0
  have HN0 := Lib.hid hN0
  have Hl := Lib.hid hl
  have HU := Lib.hid hU
  obtain ⟨L, hL⟩ : ∃ L, L = l.length := ⟨_, rfl⟩
  have HLn := Lib.hid hL
  rw [← hL] at hcap ⊢
  clear hX0 hb0 hH0 hB0 hN0 hN hl hU hL
  obtain ⟨hn1, hn2⟩ := hn
  unfold hdV
  by_cases h3 : 3000 < L
  · have d1 : decide (3000 < (L : Int)) = true := decide_eq_true (by omega)
    go_enter Try.func3, Try.ntmps3
    go_upto_region 1 with (fail)
    rw [HX0.out, ← Hb0.out]
    go_wp2_with fail
    refine (HL.out _).mono ?_
    rintro e Y ⟨rfl, hb⟩
    have HB1 := Lib.hid (keepBelow hb HB0.out)
    clear hb
    go_wp2_with fail
    go_ret
    exact ⟨rfl, HB1.out⟩
  · have d1 : decide (3000 < (L : Int)) = false := decide_eq_false (by omega)
    have HC := head_any A cap l X0 HN0.out Hl.out (by rw [← HLn.out]; exact hcap) hcm (by rw [← HLn.out]; omega)
    have HC2 := fun (Y : World) (hN : Nums .u8 Y Y.heap.size A l) => rhead_any A cap l Y hN Hl.out (by rw [← HLn.out]; exact hcap) hcm (by rw [← HLn.out]; omega)
    obtain ⟨H, hH⟩ : ∃ H, H = (headR l).1 := ⟨_, rfl⟩
    obtain ⟨E, hE⟩ : ∃ E, E = (headR l).2 := ⟨_, rfl⟩
    rw [← hH, ← hE, ← HLn.out] at HC
    simp only [← hH, ← hE, ← HLn.out] at HC2
    unfold hdV at HC HC2
    have Hc1 := Lib.hid HC
    have Hc2 := Lib.hid HC2
    have HPut := Lib.hid (fun W => putHead_any h W)
    have HRut := Lib.hid (fun W => rputHead_any h W HU.out)
    have HRt := Lib.hid (fun W => right_any h n W ⟨hn1, hn2⟩)
    have HRr := Lib.hid (fun W => rright_any h n W ⟨hn1, hn2⟩)
    obtain ⟨rr, hrr⟩ : ∃ r, r = rightD h n := ⟨_, rfl⟩
    rw [← hrr] at HRt HRr
    obtain ⟨S, hS⟩ : ∃ S, S = strOf (catP h 24) := ⟨_, rfl⟩
    have HS := Lib.hid hS
    obtain ⟨cn, hcn⟩ : ∃ c, c = (catP h 24).length := ⟨_, rfl⟩
    unfold hdV at HPut HRut HRt HRr
    clear HC HC2 hH hE hrr hS HU hcn
    go_enter Try.func3, Try.ntmps3
    go_upto_region 1 with (fail)
    rw [HX0.out, ← Hb0.out]
    go_wp2_with fail
    refine Hc1.out.mono ?_
    rintro e Y ⟨rfl, hb⟩
    have HH1 := Lib.hid (HH0.out.below hb HH0.out.lt)
    have HB1 := Lib.hid (keepBelow hb HB0.out)
    have HN1 := Lib.hid ((HN0.out.below hb).more hb.size)
    clear hb HH0 HB0 HN0 Hc1
    have hNw := Lib.hid (heap_alloc_new Y (.cells zHd.cells 29))
    go_upto_region 4 with (refine wpList_store_row rfl 29 (.tmp 7) (.tmp 18) rfl Y.heap.size H.cells rfl rfl 29 zHd.cells hNw.out (hd_infoc _) rfl (hd_all _) ?_)
    obtain ⟨bx, hbx⟩ : ∃ b, b = Y.heap.size := ⟨_, rfl⟩
    obtain ⟨X1, hX1⟩ : ∃ X, X = (Y.alloc (.cells zHd.cells 29)).setRow Y.heap.size H.cells := ⟨_, rfl⟩
    have hXl : (Y.alloc (.cells #[.int .u64 0, .int .u64 0, .int .u64 0, .int .u64 0, .int .u64 0, .int .u64 0, .int .u64 0, .int .u64 0, .int .u64 0, .int .u64 0, .int .u64 0, .bool false, .int .i64 0, .int .i64 0, .int .i64 0, .int .i64 0, .int .i64 0, .int .i64 0, .int .i64 0, .int .i64 0, .int .i64 0, .int .i64 0, .int .i64 0, .int .i64 0] 29)).setRow Y.heap.size H.cells = X1 := hX1.symm
    rw [hXl, ← hbx]
    have hBX : Below Y.heap.size Y X1 := by rw [hX1]; exact below_setRow ((Below.refl _ _).alloc (Nat.le_refl _) _) (Nat.le_refl _) _
    have HXk := Lib.hid (show Whole X1 bx 29 H.cells by rw [hX1, hbx]; exact Whole.row (heap_alloc_new Y _) _)
    have HH2 := Lib.hid (HH1.out.below hBX HH1.out.lt)
    have HB2 := Lib.hid (keepBelow hBX HB1.out)
    have HC2 := Lib.hid (Hc2.out X1 ((HN1.out.below hBX).more hBX.size))
    clear hX1 hXl hbx hBX HH1 HB1 HN1 Hc2 hNw
    go_wp2_with fail
    refine HC2.out.mono ?_
    rintro e Y' ⟨rfl, hb⟩
    have HH3 := Lib.hid (HH2.out.below hb HH2.out.lt)
    have HB3 := Lib.hid (keepBelow hb HB2.out)
    have HXk2 := Lib.hid (HXk.out.below hb HXk.out.lt)
    clear hb HH2 HB2 HC2 HXk
    have hNw := Lib.hid (heap_alloc_new Y' (.cells zHd.cells 29))
    go_upto_region 5 with (refine wpList_store_row rfl 29 (.tmp 9) (.tmp 23) rfl Y'.heap.size H.cells rfl rfl 29 zHd.cells hNw.out (hd_infoc _) rfl (hd_all _) ?_)
    obtain ⟨by_, hby⟩ : ∃ b, b = Y'.heap.size := ⟨_, rfl⟩
    obtain ⟨X2, hX2⟩ : ∃ X, X = (Y'.alloc (.cells zHd.cells 29)).setRow Y'.heap.size H.cells := ⟨_, rfl⟩
    have hXl : (Y'.alloc (.cells #[.int .u64 0, .int .u64 0, .int .u64 0, .int .u64 0, .int .u64 0, .int .u64 0, .int .u64 0, .int .u64 0, .int .u64 0, .int .u64 0, .int .u64 0, .bool false, .int .i64 0, .int .i64 0, .int .i64 0, .int .i64 0, .int .i64 0, .int .i64 0, .int .i64 0, .int .i64 0, .int .i64 0, .int .i64 0, .int .i64 0, .int .i64 0] 29)).setRow Y'.heap.size H.cells = X2 := hX2.symm
    rw [hXl, ← hby]
    have hBX : Below Y'.heap.size Y' X2.drew := by
      have := below_setRow ((Below.refl Y'.heap.size Y').alloc (Nat.le_refl _) (.cells zHd.cells 29)) (Nat.le_refl _) H.cells
      rw [hX2]; exact ⟨this.os, this.tape, this.output, this.size, this.block⟩
    have HYk := Lib.hid (show Whole X2.drew by_ 29 H.cells by rw [hX2, hby]; exact Whole.row (heap_alloc_new Y' _) _)
    have HXk := Lib.hid (HXk2.out.below hBX HXk2.out.lt)
    have HH1 := Lib.hid (HH3.out.below hBX HH3.out.lt)
    have HB1 := Lib.hid (keepBelow hBX HB3.out)
    clear hX2 hXl hby hBX HH3 HB3 HXk2 hNw
    refine held_start (by kernel_rfl) ?_
    refine wpAnyH_take (i := 0) (oi := { dst := some 25, op := Go.Op.load 29 (Go.Operand.tmp 7), type := 29, pos := "law.go:27", after := #[], guard := none }) (v := ?_) rfl (by kernel_rfl) (by kernel_rfl) (by kernel_rfl) (fun _ _ _ h => h) (Or.inl ⟨by rfl, ?_⟩) (Kp.refl _) ?_
    rotate_left 1
    · intro w5 hSw
      refine (exec_load_hd H w5 (by rfl) (by rfl) (HXk.out.below hSw HXk.out.lt)).trans ?_; with_reducible rfl
    try simp only [Act.put, List.setIfInBounds_toArray, List.set_cons_zero, List.set_cons_succ]
    refine wpAnyH_take (i := 1) (oi := { dst := some 26, op := Go.Op.load 29 (Go.Operand.tmp 9), type := 29, pos := "law.go:27", after := #[], guard := none }) (v := ?_) rfl (by kernel_rfl) (by kernel_rfl) (by kernel_rfl) (fun _ _ _ h => h) (Or.inl ⟨by rfl, ?_⟩) (Kp.refl _) ?_
    rotate_left 1
    · intro w5 hSw
      refine (exec_load_hd H w5 (by rfl) (by rfl) (HYk.out.below hSw HYk.out.lt)).trans ?_; with_reducible rfl
    try simp only [Act.put, List.setIfInBounds_toArray, List.set_cons_zero, List.set_cons_succ]
    refine wpAnyH_take (i := 2) (oi := { dst := some 27, op := Go.Op.binOp Go.BinOp.eql 29 (Go.Operand.tmp 25) (Go.Operand.tmp 26) 29, type := 4, pos := "law.go:27", after := #[{ on := 0, ground := Go.Ground.data }, { on := 1, ground := Go.Ground.data }], guard := none }) (v := ?_) rfl (by kernel_rfl) (by kernel_rfl) (by kernel_rfl) (fun _ _ _ h => h) (Or.inl ⟨by rfl, ?_⟩) (Kp.refl _) ?_
    rotate_left 1
    · intro w5 hSw
      refine (exec_eql_hd H w5 (by rfl) (by rfl) (by rfl)).trans ?_; with_reducible rfl
    try simp only [Act.put, List.setIfInBounds_toArray, List.set_cons_zero, List.set_cons_succ]
    refine wpAnyH_take (i := 3) (oi := { dst := some 28, op := Go.Op.move (Go.Operand.tmp 27), type := 4, pos := "law.go:27", after := #[{ on := 2, ground := Go.Ground.data }], guard := none }) (v := ?_) rfl (by kernel_rfl) (by kernel_rfl) (by kernel_rfl) (fun _ _ _ h => h) (Or.inl ⟨by rfl, ?_⟩) (Kp.refl _) ?_
    rotate_left 1
    · intro w5 hSw
      go_simp; all_goals (with_reducible rfl)
    try simp only [Act.put, List.setIfInBounds_toArray, List.set_cons_zero, List.set_cons_succ]
    refine wpAnyH_take (i := 4) (oi := { dst := some 29, op := Go.Op.move (Go.Operand.tmp 8), type := 31, pos := "law.go:27", after := #[{ on := 3, ground := Go.Ground.guard }], guard := some (3, true) }) (v := ?_) rfl (by kernel_rfl) (by kernel_rfl) (by kernel_rfl) (fun _ _ _ h => h) (Or.inl ⟨by rfl, ?_⟩) (Kp.refl _) ?_
    rotate_left 1
    · intro w5 hSw
      go_simp; all_goals (with_reducible rfl)
    try simp only [Act.put, List.setIfInBounds_toArray, List.set_cons_zero, List.set_cons_succ]
    refine wpAnyH_take (i := 6) (oi := { dst := some 31, op := Go.Op.move (Go.Operand.tmp 10), type := 3, pos := "law.go:27", after := #[{ on := 3, ground := Go.Ground.guard }], guard := some (3, true) }) (v := ?_) rfl (by kernel_rfl) (by kernel_rfl) (by kernel_rfl) (fun _ _ _ h => h) (Or.inl ⟨by rfl, ?_⟩) (Kp.refl _) ?_
    rotate_left 1
    · intro w5 hSw
      go_simp; all_goals (with_reducible rfl)
    try simp only [Act.put, List.setIfInBounds_toArray, List.set_cons_zero, List.set_cons_succ]
    refine wpAnyH_ready (rs := [5]) (by kernel_rfl) (by simp) ?_
    refine AllReadyH.cons (o := { dst := some 30, op := Go.Op.call { callee := Go.Callee.value (Go.Operand.func 7), args := #[Go.Operand.tmp 29], argTypes := #[31] }, type := 3, pos := "law.go:27", after := #[{ on := 4, ground := Go.Ground.data }, { on := 3, ground := Go.Ground.chain }, { on := 3, ground := Go.Ground.guard }], guard := some (3, true) }) rfl (fun K hK => ?_) AllReadyH.nil
    go_simp
    refine (Hcode.out E _).mono ?_; rintro e Y1 ⟨rfl, rfl⟩
    go_wp2_with fail
    refine hK.out _ _ (Below.refl _ _) (fun _ => held_more (Below.refl _ _) ?_)
    clear hK K
    try simp only [Act.put, List.setIfInBounds_toArray, List.set_cons_zero, List.set_cons_succ]
    refine wpAnyH_take (i := 7) (oi := { dst := some 32, op := Go.Op.binOp Go.BinOp.eql 3 (Go.Operand.tmp 30) (Go.Operand.tmp 31) 3, type := 4, pos := "law.go:27", after := #[{ on := 5, ground := Go.Ground.data }, { on := 6, ground := Go.Ground.data }, { on := 3, ground := Go.Ground.guard }], guard := some (3, true) }) (v := ?_) rfl (by kernel_rfl) (by kernel_rfl) (by kernel_rfl) (fun _ _ _ h => h) (Or.inl ⟨by rfl, ?_⟩) (Kp.refl _) ?_
    rotate_left 1
    · intro w5 hSw
      go_simp; all_goals (with_reducible rfl)
    try simp only [Act.put, List.setIfInBounds_toArray, List.set_cons_zero, List.set_cons_succ]
    refine wpAnyH_take (i := 8) (oi := { dst := some 33, op := Go.Op.pick (Go.Operand.tmp 28) (Go.Operand.tmp 32) (Go.Operand.const (Go.Value.bool false)), type := 4, pos := "law.go:27", after := #[{ on := 3, ground := Go.Ground.data }, { on := 7, ground := Go.Ground.data }], guard := none }) (v := ?_) rfl (by kernel_rfl) (by kernel_rfl) (by kernel_rfl) (fun _ _ _ h => h) (Or.inl ⟨by rfl, ?_⟩) (Kp.refl _) ?_
    rotate_left 1
    · intro w5 hSw
      go_simp; all_goals (with_reducible rfl)
    try simp only [Act.put, List.setIfInBounds_toArray, List.set_cons_zero, List.set_cons_succ]
    refine wpAnyH_take (i := 9) (oi := { dst := some 34, op := Go.Op.move (Go.Operand.tmp 33), type := 4, pos := "law.go:27", after := #[{ on := 8, ground := Go.Ground.data }, { on := 5, ground := Go.Ground.chain }], guard := none }) (v := ?_) rfl (by kernel_rfl) (by kernel_rfl) (by kernel_rfl) (fun _ _ _ h => h) (Or.inl ⟨by rfl, ?_⟩) (Kp.refl _) ?_
    rotate_left 1
    · intro w5 hSw
      go_simp; all_goals (with_reducible rfl)
    try simp only [Act.put, List.setIfInBounds_toArray, List.set_cons_zero, List.set_cons_succ]
    refine wpAnyH_take (i := 10) (oi := { dst := some 35, op := Go.Op.load 29 (Go.Operand.tmp 4), type := 29, pos := "law.go:27", after := #[{ on := 9, ground := Go.Ground.guard }], guard := some (9, true) }) (v := ?_) rfl (by kernel_rfl) (by kernel_rfl) (by kernel_rfl) (fun _ _ _ h => h) (Or.inl ⟨by rfl, ?_⟩) (Kp.refl _) ?_
    rotate_left 1
    · intro w5 hSw
      refine (exec_load_hd h w5 (by rfl) (by rfl) (HH1.out.below hSw HH1.out.lt)).trans ?_; with_reducible rfl
    try simp only [Act.put, List.setIfInBounds_toArray, List.set_cons_zero, List.set_cons_succ]
    refine wpAnyH_take (i := 13) (oi := { dst := some 38, op := Go.Op.load 29 (Go.Operand.tmp 4), type := 29, pos := "law.go:27", after := #[{ on := 9, ground := Go.Ground.guard }], guard := some (9, true) }) (v := ?_) rfl (by kernel_rfl) (by kernel_rfl) (by kernel_rfl) (fun _ _ _ h => h) (Or.inl ⟨by rfl, ?_⟩) (Kp.refl _) ?_
    rotate_left 1
    · intro w5 hSw
      refine (exec_load_hd h w5 (by rfl) (by rfl) (HH1.out.below hSw HH1.out.lt)).trans ?_; with_reducible rfl
    try simp only [Act.put, List.setIfInBounds_toArray, List.set_cons_zero, List.set_cons_succ]
    refine wpAnyH_ready (rs := [11]) (by kernel_rfl) (by simp) ?_
    refine AllReadyH.cons (o := { dst := some 36, op := Go.Op.call { callee := Go.Callee.value (Go.Operand.func 8), args := #[Go.Operand.tmp 35], argTypes := #[29] }, type := 22, pos := "law.go:27", after := #[{ on := 10, ground := Go.Ground.data }, { on := 9, ground := Go.Ground.chain }, { on := 9, ground := Go.Ground.guard }], guard := some (9, true) }) rfl (fun K hK => ?_) AllReadyH.nil
    go_simp
    refine (HPut.out _).mono ?_; rintro e Y2 ⟨a1, c1, rfl, hN1, hb⟩; have hbb := hb; obtain ⟨hcv1, hHH2, hHB2⟩ := stepP HS.out hN1 hb c1 HH1.out HB1.out; have Hcv1 := Lib.hid hcv1; have HH2 := Lib.hid hHH2; have HB2 := Lib.hid hHB2; clear hN1 hb hcv1 hHH2 hHB2
    go_wp2_with fail
    refine hK.out _ _ (hbb) (fun _ => held_more (hbb) ?_)
    clear hK K
    try simp only [Act.put, List.setIfInBounds_toArray, List.set_cons_zero, List.set_cons_succ]
    refine wpAnyH_take (i := 12) (oi := { dst := some 37, op := Go.Op.convert 22 9 (Go.Operand.tmp 36), type := 9, pos := "law.go:27", after := #[{ on := 11, ground := Go.Ground.data }, { on := 9, ground := Go.Ground.guard }], guard := some (9, true) }) (v := ?_) rfl (by kernel_rfl) (by kernel_rfl) (by kernel_rfl) (fun _ _ _ h => h) (Or.inl ⟨by rfl, ?_⟩) (Kp.refl _) ?_
    rotate_left 1
    · intro w5 hSw
      have hcv := Hcv1.out w5 hSw
      go_simp; all_goals (with_reducible rfl)
    try simp only [Act.put, List.setIfInBounds_toArray, List.set_cons_zero, List.set_cons_succ]
    refine wpAnyH_ready (rs := [14]) (by kernel_rfl) (by simp) ?_
    refine AllReadyH.cons (o := { dst := some 39, op := Go.Op.call { callee := Go.Callee.value (Go.Operand.func 9), args := #[Go.Operand.tmp 38], argTypes := #[29] }, type := 22, pos := "law.go:27", after := #[{ on := 13, ground := Go.Ground.data }, { on := 11, ground := Go.Ground.chain }, { on := 9, ground := Go.Ground.guard }], guard := some (9, true) }) rfl (fun K hK => ?_) AllReadyH.nil
    go_simp
    refine (HRut.out _).mono ?_; rintro e Y3 ⟨a2, c2, rfl, hN2, hb⟩; have hbb := hb; obtain ⟨hcv2, hHH3, hHB3⟩ := stepP HS.out hN2 hb c2 HH2.out HB2.out; have Hcv2 := Lib.hid hcv2; have HH3 := Lib.hid hHH3; have HB3 := Lib.hid hHB3; clear hN2 hb hcv2 hHH3 hHB3
    go_wp2_with fail
    refine hK.out _ _ (hbb) (fun _ => held_more (hbb) ?_)
    clear hK K
    try simp only [Act.put, List.setIfInBounds_toArray, List.set_cons_zero, List.set_cons_succ]
    refine wpAnyH_take (i := 15) (oi := { dst := some 40, op := Go.Op.convert 22 9 (Go.Operand.tmp 39), type := 9, pos := "law.go:27", after := #[{ on := 14, ground := Go.Ground.data }, { on := 9, ground := Go.Ground.guard }], guard := some (9, true) }) (v := ?_) rfl (by kernel_rfl) (by kernel_rfl) (by kernel_rfl) (fun _ _ _ h => h) (Or.inl ⟨by rfl, ?_⟩) (Kp.refl _) ?_
    rotate_left 1
    · intro w5 hSw
      have hcv := Hcv2.out w5 hSw
      go_simp; all_goals (with_reducible rfl)
    try simp only [Act.put, List.setIfInBounds_toArray, List.set_cons_zero, List.set_cons_succ]
    refine wpAnyH_take (i := 16) (oi := { dst := some 41, op := Go.Op.binOp Go.BinOp.eql 9 (Go.Operand.tmp 37) (Go.Operand.tmp 40) 9, type := 4, pos := "law.go:27", after := #[{ on := 12, ground := Go.Ground.data }, { on := 15, ground := Go.Ground.data }, { on := 9, ground := Go.Ground.guard }], guard := some (9, true) }) (v := ?_) rfl (by kernel_rfl) (by kernel_rfl) (by kernel_rfl) (fun _ _ _ h => h) (Or.inl ⟨by rfl, ?_⟩) (Kp.refl _) ?_
    rotate_left 1
    · intro w5 hSw
      go_simp; all_goals (with_reducible rfl)
    try simp only [Act.put, List.setIfInBounds_toArray, List.set_cons_zero, List.set_cons_succ]
    refine wpAnyH_take (i := 17) (oi := { dst := some 42, op := Go.Op.pick (Go.Operand.tmp 34) (Go.Operand.tmp 41) (Go.Operand.const (Go.Value.bool false)), type := 4, pos := "law.go:27", after := #[{ on := 9, ground := Go.Ground.data }, { on := 16, ground := Go.Ground.data }], guard := none }) (v := ?_) rfl (by kernel_rfl) (by kernel_rfl) (by kernel_rfl) (fun _ _ _ h => h) (Or.inl ⟨by rfl, ?_⟩) (Kp.refl _) ?_
    rotate_left 1
    · intro w5 hSw
      go_simp; all_goals (with_reducible rfl)
    try simp only [Act.put, List.setIfInBounds_toArray, List.set_cons_zero, List.set_cons_succ]
    refine wpAnyH_take (i := 18) (oi := { dst := some 43, op := Go.Op.move (Go.Operand.tmp 42), type := 4, pos := "law.go:27", after := #[{ on := 17, ground := Go.Ground.data }, { on := 14, ground := Go.Ground.chain }], guard := none }) (v := ?_) rfl (by kernel_rfl) (by kernel_rfl) (by kernel_rfl) (fun _ _ _ h => h) (Or.inl ⟨by rfl, ?_⟩) (Kp.refl _) ?_
    rotate_left 1
    · intro w5 hSw
      go_simp; all_goals (with_reducible rfl)
    try simp only [Act.put, List.setIfInBounds_toArray, List.set_cons_zero, List.set_cons_succ]
    refine wpAnyH_take (i := 19) (oi := { dst := some 44, op := Go.Op.load 29 (Go.Operand.tmp 4), type := 29, pos := "law.go:27", after := #[{ on := 18, ground := Go.Ground.guard }], guard := some (18, true) }) (v := ?_) rfl (by kernel_rfl) (by kernel_rfl) (by kernel_rfl) (fun _ _ _ h => h) (Or.inl ⟨by rfl, ?_⟩) (Kp.refl _) ?_
    rotate_left 1
    · intro w5 hSw
      refine (exec_load_hd h w5 (by rfl) (by rfl) (HH3.out.below hSw HH3.out.lt)).trans ?_; with_reducible rfl
    try simp only [Act.put, List.setIfInBounds_toArray, List.set_cons_zero, List.set_cons_succ]
    refine wpAnyH_take (i := 20) (oi := { dst := some 45, op := Go.Op.move (Go.Operand.tmp 2), type := 3, pos := "law.go:27", after := #[{ on := 18, ground := Go.Ground.guard }], guard := some (18, true) }) (v := ?_) rfl (by kernel_rfl) (by kernel_rfl) (by kernel_rfl) (fun _ _ _ h => h) (Or.inl ⟨by rfl, ?_⟩) (Kp.refl _) ?_
    rotate_left 1
    · intro w5 hSw
      go_simp; all_goals (with_reducible rfl)
    try simp only [Act.put, List.setIfInBounds_toArray, List.set_cons_zero, List.set_cons_succ]
    refine wpAnyH_take (i := 23) (oi := { dst := some 48, op := Go.Op.load 29 (Go.Operand.tmp 4), type := 29, pos := "law.go:27", after := #[{ on := 18, ground := Go.Ground.guard }], guard := some (18, true) }) (v := ?_) rfl (by kernel_rfl) (by kernel_rfl) (by kernel_rfl) (fun _ _ _ h => h) (Or.inl ⟨by rfl, ?_⟩) (Kp.refl _) ?_
    rotate_left 1
    · intro w5 hSw
      refine (exec_load_hd h w5 (by rfl) (by rfl) (HH3.out.below hSw HH3.out.lt)).trans ?_; with_reducible rfl
    try simp only [Act.put, List.setIfInBounds_toArray, List.set_cons_zero, List.set_cons_succ]
    refine wpAnyH_take (i := 24) (oi := { dst := some 49, op := Go.Op.move (Go.Operand.tmp 2), type := 3, pos := "law.go:27", after := #[{ on := 18, ground := Go.Ground.guard }], guard := some (18, true) }) (v := ?_) rfl (by kernel_rfl) (by kernel_rfl) (by kernel_rfl) (fun _ _ _ h => h) (Or.inl ⟨by rfl, ?_⟩) (Kp.refl _) ?_
    rotate_left 1
    · intro w5 hSw
      go_simp; all_goals (with_reducible rfl)
    try simp only [Act.put, List.setIfInBounds_toArray, List.set_cons_zero, List.set_cons_succ]
    refine wpAnyH_ready (rs := [21]) (by kernel_rfl) (by simp) ?_
    refine AllReadyH.cons (o := { dst := some 46, op := Go.Op.call { callee := Go.Callee.value (Go.Operand.func 10), args := #[Go.Operand.tmp 44, Go.Operand.tmp 45], argTypes := #[29, 3] }, type := 31, pos := "law.go:27", after := #[{ on := 19, ground := Go.Ground.data }, { on := 20, ground := Go.Ground.data }, { on := 18, ground := Go.Ground.chain }, { on := 18, ground := Go.Ground.guard }], guard := some (18, true) }) rfl (fun K hK => ?_) AllReadyH.nil
    go_simp
    refine (HRt.out _).mono ?_; rintro e Y4 ⟨rfl, hb⟩; have hbb := hb; have HH4 := Lib.hid (HH3.out.below hb HH3.out.lt); have HB4 := Lib.hid (keepBelow hb HB3.out); clear hb
    go_wp2_with fail
    refine hK.out _ _ (hbb) (fun _ => held_more (hbb) ?_)
    clear hK K
    try simp only [Act.put, List.setIfInBounds_toArray, List.set_cons_zero, List.set_cons_succ]
    refine wpAnyH_ready (rs := [22]) (by kernel_rfl) (by simp) ?_
    refine AllReadyH.cons (o := { dst := some 47, op := Go.Op.call { callee := Go.Callee.value (Go.Operand.func 7), args := #[Go.Operand.tmp 46], argTypes := #[31] }, type := 3, pos := "law.go:27", after := #[{ on := 21, ground := Go.Ground.data }, { on := 21, ground := Go.Ground.chain }, { on := 18, ground := Go.Ground.guard }], guard := some (18, true) }) rfl (fun K hK => ?_) AllReadyH.nil
    go_simp
    refine (Hcode.out _ _).mono ?_; rintro e Y5 ⟨rfl, rfl⟩
    go_wp2_with fail
    refine hK.out _ _ (Below.refl _ _) (fun _ => held_more (Below.refl _ _) ?_)
    clear hK K
    try simp only [Act.put, List.setIfInBounds_toArray, List.set_cons_zero, List.set_cons_succ]
    refine wpAnyH_ready (rs := [25]) (by kernel_rfl) (by simp) ?_
    refine AllReadyH.cons (o := { dst := some 50, op := Go.Op.call { callee := Go.Callee.value (Go.Operand.func 11), args := #[Go.Operand.tmp 48, Go.Operand.tmp 49], argTypes := #[29, 3] }, type := 3, pos := "law.go:27", after := #[{ on := 23, ground := Go.Ground.data }, { on := 24, ground := Go.Ground.data }, { on := 22, ground := Go.Ground.chain }, { on := 18, ground := Go.Ground.guard }], guard := some (18, true) }) rfl (fun K hK => ?_) AllReadyH.nil
    go_simp
    refine (HRr.out _).mono ?_; rintro e Y6 ⟨rfl, hb⟩; have hbb := hb; have HB5 := Lib.hid (keepBelow hb HB4.out); clear hb
    go_wp2_with fail
    refine hK.out _ _ (hbb) (fun _ => held_more (hbb) ?_)
    clear hK K
    try simp only [Act.put, List.setIfInBounds_toArray, List.set_cons_zero, List.set_cons_succ]
    refine wpAnyH_take (i := 26) (oi := { dst := some 51, op := Go.Op.binOp Go.BinOp.eql 3 (Go.Operand.tmp 47) (Go.Operand.tmp 50) 3, type := 4, pos := "law.go:27", after := #[{ on := 22, ground := Go.Ground.data }, { on := 25, ground := Go.Ground.data }, { on := 18, ground := Go.Ground.guard }], guard := some (18, true) }) (v := ?_) rfl (by kernel_rfl) (by kernel_rfl) (by kernel_rfl) (fun _ _ _ h => h) (Or.inl ⟨by rfl, ?_⟩) (Kp.refl _) ?_
    rotate_left 1
    · intro w5 hSw
      go_simp; all_goals (with_reducible rfl)
    try simp only [Act.put, List.setIfInBounds_toArray, List.set_cons_zero, List.set_cons_succ]
    refine wpAnyH_take (i := 27) (oi := { dst := some 52, op := Go.Op.pick (Go.Operand.tmp 43) (Go.Operand.tmp 51) (Go.Operand.const (Go.Value.bool false)), type := 4, pos := "law.go:27", after := #[{ on := 18, ground := Go.Ground.data }, { on := 26, ground := Go.Ground.data }], guard := none }) (v := ?_) rfl (by kernel_rfl) (by kernel_rfl) (by kernel_rfl) (fun _ _ _ h => h) (Or.inl ⟨by rfl, ?_⟩) (Kp.refl _) ?_
    rotate_left 1
    · intro w5 hSw
      go_simp; all_goals (with_reducible rfl)
    try simp only [Act.put, List.setIfInBounds_toArray, List.set_cons_zero, List.set_cons_succ]
    refine wpAnyH_take (i := 28) (oi := { dst := some 53, op := Go.Op.move (Go.Operand.tmp 52), type := 4, pos := "law.go:27", after := #[{ on := 27, ground := Go.Ground.data }, { on := 25, ground := Go.Ground.chain }], guard := none }) (v := ?_) rfl (by kernel_rfl) (by kernel_rfl) (by kernel_rfl) (fun _ _ _ h => h) (Or.inl ⟨by rfl, ?_⟩) (Kp.refl _) ?_
    rotate_left 1
    · intro w5 hSw
      go_simp; all_goals (with_reducible rfl)
    try simp only [Act.put, List.setIfInBounds_toArray, List.set_cons_zero, List.set_cons_succ]
    refine wpAnyH_ready (rs := [29]) (by kernel_rfl) (by simp) ?_
    refine AllReadyH.cons (o := { dst := some 54, op := Go.Op.call { callee := Go.Callee.value (Go.Operand.func 4), args := #[], argTypes := #[] }, type := 4, pos := "law.go:27", after := #[{ on := 28, ground := Go.Ground.chain }, { on := 28, ground := Go.Ground.guard }], guard := some (28, true) }) rfl (fun K hK => ?_) AllReadyH.nil
    go_simp
    refine (HL.out _).mono ?_; rintro e Y7 ⟨rfl, hb⟩; have hbb := hb; have HB6 := Lib.hid (keepBelow hb HB5.out); clear hb
    go_wp2_with fail
    refine hK.out _ _ (hbb) (fun _ => held_more (hbb) ?_)
    clear hK K
    try simp only [Act.put, List.setIfInBounds_toArray, List.set_cons_zero, List.set_cons_succ]
    refine wpAnyH_take (i := 30) (oi := { dst := some 55, op := Go.Op.pick (Go.Operand.tmp 53) (Go.Operand.tmp 54) (Go.Operand.const (Go.Value.bool false)), type := 4, pos := "law.go:27", after := #[{ on := 28, ground := Go.Ground.data }, { on := 29, ground := Go.Ground.data }], guard := none }) (v := ?_) rfl (by kernel_rfl) (by kernel_rfl) (by kernel_rfl) (fun _ _ _ h => h) (Or.inl ⟨by rfl, ?_⟩) (Kp.refl _) ?_
    rotate_left 1
    · intro w5 hSw
      go_simp; all_goals (with_reducible rfl)
    try simp only [Act.put, List.setIfInBounds_toArray, List.set_cons_zero, List.set_cons_succ]
    refine wpAnyH_take (i := 31) (oi := { dst := some 6, op := Go.Op.assign (Go.Operand.tmp 55), type := 4, pos := "law.go:27", after := #[{ on := 30, ground := Go.Ground.data }, { on := 29, ground := Go.Ground.chain }, { on := 0, ground := Go.Ground.phase }, { on := 1, ground := Go.Ground.phase }, { on := 2, ground := Go.Ground.phase }, { on := 3, ground := Go.Ground.phase }, { on := 4, ground := Go.Ground.phase }, { on := 5, ground := Go.Ground.phase }, { on := 6, ground := Go.Ground.phase }, { on := 7, ground := Go.Ground.phase }, { on := 8, ground := Go.Ground.phase }, { on := 9, ground := Go.Ground.phase }, { on := 10, ground := Go.Ground.phase }, { on := 11, ground := Go.Ground.phase }, { on := 12, ground := Go.Ground.phase }, { on := 13, ground := Go.Ground.phase }, { on := 14, ground := Go.Ground.phase }, { on := 15, ground := Go.Ground.phase }, { on := 16, ground := Go.Ground.phase }, { on := 17, ground := Go.Ground.phase }, { on := 18, ground := Go.Ground.phase }, { on := 19, ground := Go.Ground.phase }, { on := 20, ground := Go.Ground.phase }, { on := 21, ground := Go.Ground.phase }, { on := 22, ground := Go.Ground.phase }, { on := 23, ground := Go.Ground.phase }, { on := 24, ground := Go.Ground.phase }, { on := 25, ground := Go.Ground.phase }, { on := 26, ground := Go.Ground.phase }, { on := 27, ground := Go.Ground.phase }, { on := 28, ground := Go.Ground.phase }, { on := 29, ground := Go.Ground.phase }, { on := 30, ground := Go.Ground.phase }], guard := none }) (v := ?_) rfl (by kernel_rfl) (by kernel_rfl) (by kernel_rfl) (fun _ _ _ h => h) (Or.inl ⟨by rfl, ?_⟩) (Kp.refl _) ?_
    rotate_left 1
    · intro w5 hSw
      go_simp; all_goals (with_reducible rfl)
    try simp only [Act.put, List.setIfInBounds_toArray, List.set_cons_zero, List.set_cons_succ]
    refine wpAnyH_done (by kernel_rfl) ?_ _
    go_wp2_with fail
    go_ret
    exact ⟨rfl, HB6.out⟩
end Go.Proofs.Ytlbplefmpbpchaa
