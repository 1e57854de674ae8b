/- Layer 23: the walk over the statement FracCrosses. -/
import Derived.Test.YtcfkhgpcamfecaaCrossesNo
import Derived.Test.YtcfkhgpcamfecaaAt
import Derived.Deep.DeepCutAuto
import Derived.Deep.RegionHeld3
namespace Go.Proofs.Ytcfkhgpcamfecaa
open Go.RowKit Big
set_option linter.unusedVariables false
set_option maxRecDepth 100000

set_option maxHeartbeats 16000000 in
theorem fracCrosses_some (px py qx qy c : Int) (up : Bool) (w : World) (hall : okAll px py qx qy c = true) (a b e f : Int) (hup1 : up = true → a = py ∧ b = px ∧ e = qy ∧ f = qx) (hup0 : up = false → a = px ∧ b = py ∧ e = qx ∧ f = qy) (hn : ¬ (a = e ∨ (c < a ∧ c < e) ∨ (a < c ∧ e < c))) (Q : Int) (R D : Nat) (hcs : crossS a b e f c = .tuple #[.agg #[.int .i64 Q, .int .u64 (R : Int), .int .u64 (D : Int)], .int .i64 0]) (hok : okF Q R D = true)
    (N' D' : Int) (hNn : 1 * (e - a) < 0 → N' = -((c - a) * (f - b) * 1) ∧ D' = -(1 * (e - a))) (hNp : ¬ 1 * (e - a) < 0 → N' = (c - a) * (f - b) * 1 ∧ D' = 1 * (e - a)) (hid : (Q * (D : Int) + (R : Int)) * (1 * D') - (b * D' + N' * 1) * (D : Int) = 0) (hca : c = a → Q = b ∧ R = 0 ∧ D = 1) (hRl : R < 18446744073709551616) (hDl : D < 18446744073709551616) :
    Calls Try.prog 8 #[.agg #[.int .i64 px, .int .i64 py], .agg #[.int .i64 qx, .int .i64 qy], .int .i64 c, .bool up] w fun e' w' => e' = .returned (.bool true) ∧ Below w.heap.size w w' := by
  have hk : okQ px = true ∧ okQ py = true ∧ okQ qx = true ∧ okQ qy = true ∧ okQ c = true := by
    simp only [okAll, Bool.and_eq_true] at hall
    obtain ⟨⟨⟨⟨h1, h2⟩, h3⟩, h4⟩, h5⟩ := hall
    exact ⟨h1, h2, h3, h4, h5⟩
  have hvs : crossV px py qx qy c up = crossS a b e f c := by
    rw [crossV, if_pos hall]
    cases up
    · obtain ⟨rfl, rfl, rfl, rfl⟩ := hup0 rfl; rfl
    · obtain ⟨rfl, rfl, rfl, rfl⟩ := hup1 rfl; rfl
  have H1 := Lib.hid fun W => cross_any px py qx qy c up W
  have H2 := Lib.hid fun W => cross_any qx qy px py c up W
  rw [crossV_sym px py qx qy c up] at H2
  have hV : crossV px py qx qy c up = .tuple #[.agg #[.int .i64 Q, .int .u64 (R : Int), .int .u64 (D : Int)], .int .i64 0] := by rw [hvs]; exact hcs
  rw [hV] at H1 H2
  have Hup1 := Lib.hid hup1
  have Hup0 := Lib.hid hup0
  obtain ⟨k1, k2, k3, k4, k5⟩ := hk
  have hbd := okAll_bd hall
  have hab : (-4503599627370496 ≤ a ∧ a ≤ 4503599627370496) ∧ (-4503599627370496 ≤ b ∧ b ≤ 4503599627370496) ∧ (-4503599627370496 ≤ e ∧ e ≤ 4503599627370496) ∧ (-4503599627370496 ≤ f ∧ f ≤ 4503599627370496) := by
    cases up
    · obtain ⟨rfl, rfl, rfl, rfl⟩ := hup0 rfl; exact ⟨hbd.1, hbd.2.1, hbd.2.2.1, hbd.2.2.2.1⟩
    · obtain ⟨rfl, rfl, rfl, rfl⟩ := hup1 rfl; exact ⟨hbd.2.1, hbd.1, hbd.2.2.2.1, hbd.2.2.1⟩
  have Hat := Lib.hid fun W => at_any a b e f c N' D' W (by omega) (by omega) (by omega) (by omega) (by omega) hNn hNp
  have hQb : -4503599627370496 ≤ Q ∧ Q ≤ 4503599627370496 := by
    simp only [okF, Bool.and_eq_true] at hok
    exact okQ_bd hok.1
  have His := Lib.hid fun X v (hv : IsRat X X.heap.size v (b * D' + N' * 1) (1 * D') 24) => is_true Q R D v _ _ X (by omega) hRl hDl hv hok hid
  have Hof := Lib.hid fun W => of_any b W
  have hsp : (a ≠ e ∧ c = a ∧ ¬ c < a ∧ ¬ a < c) ∨ (a ≠ e ∧ c ≠ a ∧ c < a ∧ ¬ c < e ∧ ¬ a < c) ∨ (a ≠ e ∧ c ≠ a ∧ ¬ c < a ∧ a < c ∧ ¬ e < c) := by omega
  have Hsp := Lib.hid hsp
  have Hca := Lib.hid hca
  clear hsp hn hV hvs hall hup0 hup1 hcs hok hNn hNp hid hca hRl hDl hbd hab hQb
  have hneq := neq_frac Q (R : Int) (D : Int)
  have hlv := Lib.hid fun W => flive_any W
  go_enter Try.func8, Try.ntmps8
  go_wp2_with fail
  refine (H1.out _).mono ?_
  rintro e' W1 ⟨rfl, hb1⟩
  obtain ⟨hA, hB, hbw, hsz⟩ := two_kept hb1
  have HA := Lib.hid (hA.alloc (.cells #[.int .i64 Q, .int .u64 (R : Int), .int .u64 (D : Int)] 46))
  have HB := Lib.hid (hB.alloc (.cells #[.int .i64 Q, .int .u64 (R : Int), .int .u64 (D : Int)] 46))
  have HM := Lib.hid (Whole.new W1 46 #[.int .i64 Q, .int .u64 (R : Int), .int .u64 (D : Int)])
  have HW := Lib.hid (hbw.alloc hbw.size (.cells #[.int .i64 Q, .int .u64 (R : Int), .int .u64 (D : Int)] 46))
  have hsz0 : w.heap.size + 1 < W1.heap.size := hsz
  have Hsz := Lib.hid hsz0
  obtain ⟨X1, hX1⟩ : ∃ X1, X1 = W1.alloc (.cells #[.int .i64 Q, .int .u64 (R : Int), .int .u64 (D : Int)] 46) := ⟨_, rfl⟩
  obtain ⟨m, hm⟩ : ∃ m, m = W1.heap.size := ⟨_, rfl⟩
  obtain ⟨g, hg⟩ : ∃ g, g = w.heap.size := ⟨_, rfl⟩
  have HX1 := Lib.hid hX1
  have Hm := Lib.hid hm
  have Hg := Lib.hid hg
  clear hb1 hA hB hbw hsz hsz0 hX1 hm hg
  go_upto_region 2 with (fail)
  rw [← HX1.out, ← Hm.out, ← Hg.out]
  rw [← HX1.out] at HA HB HM HW
  rw [← Hg.out] at HA HB Hsz
  rw [← Hm.out] at HM Hsz
  have ca := HA.out.cell 0
  have cb := HA.out.cell 1
  have ce := HB.out.cell 0
  have cf := HB.out.cell 1
  simp only [List.getElem?_toArray, List.getElem?_cons_zero, List.getElem?_cons_succ] at ca cb ce cf
  clear HX1 Hm
  go_wp2_with fail
  refine (H2.out _).mono ?_
  rintro e' W2 ⟨rfl, hb2⟩
  have hst : LawSt w (W2.alloc (.cells #[.int .i64 Q, .int .u64 (R : Int), .int .u64 (D : Int)] 46)) g m W2.heap.size px py qx qy Q (R : Int) (D : Int) := by
    have hb3 := below_then HW.out hb2 HW.out.size
    refine ⟨(HA.out.below hb2 HA.out.lt).alloc _, (HB.out.below hb2 HB.out.lt).alloc _, (HM.out.below hb2 HM.out.lt).alloc _, Whole.new _ _ _, hb3.alloc hb3.size _, Nat.le_of_eq Hg.out.symm, Hsz.out, ?_⟩
    have h1 := (HB.out.below hb2 HB.out.lt).lt
    exact h1
  obtain ⟨X2, hX2⟩ : ∃ X2, X2 = W2.alloc (.cells #[.int .i64 Q, .int .u64 (R : Int), .int .u64 (D : Int)] 46) := ⟨_, rfl⟩
  obtain ⟨n, hn⟩ : ∃ n, n = W2.heap.size := ⟨_, rfl⟩
  go_upto_region 3 with (fail)
  rw [← hX2, ← hn] at hst ⊢
  have HS := Lib.hid hst
  clear hst hX2 hn hb2 HA HB HM HW ca cb ce cf H1 H2 Hsz
  obtain ⟨ca, cb, ce, cf, m0, m1, m2⟩ := HS.out.cells
  obtain ⟨n0, n1, n2, f0, f1, f2, f3⟩ := HS.out.others
  go_upto_if 72 with (first | (go_at_call 39; refine (lout_any _ _).mono ?_; rintro e' w' ⟨rfl, rfl⟩) | (go_at_call 30; refine (lcode_any _ _).mono ?_; rintro e' w' ⟨rfl, rfl⟩))
  go_cut [] (fun W => LawSt w W g m n a b e f Q (R : Int) (D : Int))
  case first =>
    cases up
    · go_wp2_with fail
      go_meet
      case rel =>
        obtain ⟨rfl, rfl, rfl, rfl⟩ := Hup0.out (by trivial)
        exact HS.out
    · have hfin := Lib.hid (HS.out.drew.points py px qy qx)
      go_wp2_with fail
      go_region
      all_goals
        go_wp2_with fail
        go_meet
        case rel =>
          obtain ⟨rfl, rfl, rfl, rfl⟩ := Hup1.out (by trivial)
          exact hfin.out
  case rest =>
    clear HS Hup1 Hup0 ca cb ce cf m0 m1 m2 n0 n1 n2 f0 f1 f2 f3 k1 k2 k3 k4 k5
    have HS := Lib.hid hcut
    clear hcut
    obtain ⟨ca, cb, ce, cf, m0, m1, m2⟩ := HS.out.cells
    clear hneq
    rcases Hsp.out with ⟨h, h0, h1, h2⟩ | ⟨h, h0, h1, h2, h3⟩ | ⟨h, h0, h1, h2, h3⟩
    · obtain ⟨q1, q2, q3⟩ := Hca.out h0
      subst h0
      have hb : (c == e) = false := by simpa using h
      have heq := eq_frac Q (R : Int) (D : Int) b 0 1
      rw [show (Q == b && ((R : Int) == 0 && (D : Int) == 1)) = true by subst q1 q2 q3; simp] at heq
      clear h h1 h2 q1 q2 q3 Hca Hsp
      go_wp2_with fail
      have H0 := Lib.hid HS.out.drew
      go_region_held3 (fun W => W.cell? ⟨g, 0, none⟩ = some (.int .i64 c) ∧ W.cell? ⟨g, 1, none⟩ = some (.int .i64 b) ∧ W.cell? ⟨g + 1, 0, none⟩ = some (.int .i64 e) ∧ W.cell? ⟨g + 1, 1, none⟩ = some (.int .i64 f) ∧ W.cell? ⟨m, 0, none⟩ = some (.int .i64 Q) ∧ W.cell? ⟨m, 1, none⟩ = some (.int .u64 (R : Int)) ∧ W.cell? ⟨m, 2, none⟩ = some (.int .u64 (D : Int)))
        (first | exact H0.out.cells | exact H1.out.cells | exact H2.out.cells | exact H3.out.cells | exact H4.out.cells)
        (first
          | (go_at_call 30; refine (lcode_any _ _).mono ?_; rintro e' w' ⟨rfl, rfl⟩)
          | (go_at_call 41; (with_reducible refine (Hat.out _).mono ?_); rintro e' Z1 ⟨z1, rfl, hz1, hx1⟩; (have H1 := Lib.hid (H0.out.keep hx1)); (have HZ := Lib.hid hz1); clear hz1 hx1)
          | (go_at_call 40; (with_reducible refine (His.out _ _ HZ.out).mono ?_); rintro e' Z2 ⟨rfl, hx2⟩; (have H2 := Lib.hid (H1.out.keep hx2)); clear hx2)
          | (go_at_call 29; (with_reducible refine (Hof.out _).mono ?_); rintro e' Z3 ⟨rfl, hx3⟩; (have H3 := Lib.hid (H2.out.keep hx3)); clear hx3)
          | (go_at_call 31; refine (hlv.out _).mono ?_; rintro e' Z4 ⟨rfl, hx4⟩; (have H4 := Lib.hid (H3.out.keep hx4)); clear hx4))
      go_wp2_with fail
      go_ret
      exact ⟨rfl, H4.out.2.2.2.2.1⟩
    · have hb : (a == e) = false := by simpa using h
      have hb1 : (c == a) = false := by simpa using h0
      have hb2 : (c != a) = true := by simpa using h0
      clear h h0 Hca Hsp Hof
      go_wp2_with fail
      have H0 := Lib.hid HS.out.drew
      refine wp_region_held_drew (S := (fun W => W.cell? ⟨g, 0, none⟩ = some (.int .i64 a) ∧ W.cell? ⟨g, 1, none⟩ = some (.int .i64 b) ∧ W.cell? ⟨g + 1, 0, none⟩ = some (.int .i64 e) ∧ W.cell? ⟨g + 1, 1, none⟩ = some (.int .i64 f) ∧ W.cell? ⟨m, 0, none⟩ = some (.int .i64 Q) ∧ W.cell? ⟨m, 1, none⟩ = some (.int .u64 (R : Int)) ∧ W.cell? ⟨m, 2, none⟩ = some (.int .u64 (D : Int)))) (by kernel_rfl) H0.out.cells (fun hHeld => ?_)
      refine wpAnyH_take (i := 0) (oi := { dst := some 123, op := Go.Op.move (Go.Operand.tmp 10), type := 39, pos := "law.go:61", after := #[], guard := none }) (v := ?_) rfl (by kernel_rfl) (by kernel_rfl) (by kernel_rfl) (fun _ _ _ h => h) (Or.inl ⟨by rfl, ?_⟩) (by assumption) ?_
      rotate_left 1
      · intro w5 hSw; (try dsimp only at hSw); go_simp; all_goals (with_reducible rfl)
      try simp only [Act.put, List.setIfInBounds_toArray, List.set_cons_zero, List.set_cons_succ]
      refine wpAnyH_ready (rs := [1]) (by kernel_rfl) (by simp) ?_
      refine AllReadyH.cons (o := { dst := some 124, op := Go.Op.call { callee := Go.Callee.value (Go.Operand.func 30), args := #[Go.Operand.tmp 123], argTypes := #[39] }, type := 3, pos := "law.go:61", after := #[{ on := 0, ground := Go.Ground.data }], guard := none }) rfl (fun K hK => ?_) AllReadyH.nil
      go_simp
      refine (lcode_any _ _).mono ?_; rintro e' w' ⟨rfl, rfl⟩
      go_wp2_with fail
      refine hK.out _ _ ?_ (fun hHeld2 => ?_)
      · exact H0.out.cells
      clear hK K
      try simp only [Act.put, List.setIfInBounds_toArray, List.set_cons_zero, List.set_cons_succ]
      refine wpAnyH_take (i := 2) (oi := { dst := some 125, op := Go.Op.binOp Go.BinOp.eql 3 (Go.Operand.tmp 124) (Go.Operand.const (Go.Value.int Go.IntKind.i64 0)) 3, type := 4, pos := "law.go:61", after := #[{ on := 1, ground := Go.Ground.data }], guard := none }) (v := ?_) rfl (by kernel_rfl) (by kernel_rfl) (by kernel_rfl) (fun _ _ _ h => h) (Or.inl ⟨by rfl, ?_⟩) (by assumption) ?_
      rotate_left 1
      · intro w5 hSw; (try dsimp only at hSw); go_simp; all_goals (with_reducible rfl)
      try simp only [Act.put, List.setIfInBounds_toArray, List.set_cons_zero, List.set_cons_succ]
      refine wpAnyH_take (i := 3) (oi := { dst := some 126, op := Go.Op.move (Go.Operand.tmp 125), type := 4, pos := "law.go:61", after := #[{ on := 2, ground := Go.Ground.data }, { on := 1, ground := Go.Ground.chain }], guard := none }) (v := ?_) rfl (by kernel_rfl) (by kernel_rfl) (by kernel_rfl) (fun _ _ _ h => h) (Or.inl ⟨by rfl, ?_⟩) (by assumption) ?_
      rotate_left 1
      · intro w5 hSw; (try dsimp only at hSw); go_simp; all_goals (with_reducible rfl)
      try simp only [Act.put, List.setIfInBounds_toArray, List.set_cons_zero, List.set_cons_succ]
      refine wpAnyH_take (i := 4) (oi := { dst := some 127, op := Go.Op.load 46 (Go.Operand.tmp 9), type := 46, pos := "law.go:61", after := #[{ on := 3, ground := Go.Ground.guard }], guard := some (3, true) }) (v := ?_) rfl (by kernel_rfl) (by kernel_rfl) (by kernel_rfl) (fun _ _ _ h => h) (Or.inl ⟨by rfl, ?_⟩) (by assumption) ?_
      rotate_left 1
      · intro w5 hSw; (try dsimp only at hSw); go_simp; all_goals (with_reducible rfl)
      try simp only [Act.put, List.setIfInBounds_toArray, List.set_cons_zero, List.set_cons_succ]
      refine wpAnyH_take (i := 5) (oi := { dst := some 128, op := Go.Op.load 63 (Go.Operand.tmp 4), type := 63, pos := "law.go:61", after := #[{ on := 3, ground := Go.Ground.guard }], guard := some (3, true) }) (v := ?_) rfl (by kernel_rfl) (by kernel_rfl) (by kernel_rfl) (fun _ _ _ h => h) (Or.inl ⟨by rfl, ?_⟩) (by assumption) ?_
      rotate_left 1
      · intro w5 hSw; (try dsimp only at hSw); go_simp; all_goals (with_reducible rfl)
      try simp only [Act.put, List.setIfInBounds_toArray, List.set_cons_zero, List.set_cons_succ]
      refine wpAnyH_take (i := 6) (oi := { dst := some 129, op := Go.Op.load 63 (Go.Operand.tmp 5), type := 63, pos := "law.go:61", after := #[{ on := 3, ground := Go.Ground.guard }], guard := some (3, true) }) (v := ?_) rfl (by kernel_rfl) (by kernel_rfl) (by kernel_rfl) (fun _ _ _ h => h) (Or.inl ⟨by rfl, ?_⟩) (by assumption) ?_
      rotate_left 1
      · intro w5 hSw; (try dsimp only at hSw); go_simp; all_goals (with_reducible rfl)
      try simp only [Act.put, List.setIfInBounds_toArray, List.set_cons_zero, List.set_cons_succ]
      refine wpAnyH_take (i := 7) (oi := { dst := some 130, op := Go.Op.move (Go.Operand.tmp 2), type := 3, pos := "law.go:61", after := #[{ on := 3, ground := Go.Ground.guard }], guard := some (3, true) }) (v := ?_) rfl (by kernel_rfl) (by kernel_rfl) (by kernel_rfl) (fun _ _ _ h => h) (Or.inl ⟨by rfl, ?_⟩) (by assumption) ?_
      rotate_left 1
      · intro w5 hSw; (try dsimp only at hSw); go_simp; all_goals (with_reducible rfl)
      try simp only [Act.put, List.setIfInBounds_toArray, List.set_cons_zero, List.set_cons_succ]
      refine wpAnyH_ready (rs := [8]) (by kernel_rfl) (by simp) ?_
      refine AllReadyH.cons (o := { dst := some 131, op := Go.Op.call { callee := Go.Callee.value (Go.Operand.func 41), args := #[Go.Operand.tmp 128, Go.Operand.tmp 129, Go.Operand.tmp 130], argTypes := #[63, 63, 3] }, type := 56, pos := "law.go:61", after := #[{ on := 5, ground := Go.Ground.data }, { on := 6, ground := Go.Ground.data }, { on := 7, ground := Go.Ground.data }, { on := 3, ground := Go.Ground.chain }, { on := 3, ground := Go.Ground.guard }], guard := some (3, true) }) rfl (fun K hK => ?_) AllReadyH.nil
      go_simp
      (with_reducible refine (Hat.out _).mono ?_); rintro e' Z1 ⟨z1, rfl, hz1, hx1⟩; (have H1 := Lib.hid (H0.out.keep hx1)); (have HZ := Lib.hid hz1); clear hz1 hx1
      go_wp2_with fail
      refine hK.out _ _ ?_ (fun hHeld2 => ?_)
      · exact H1.out.cells
      clear hK K
      try simp only [Act.put, List.setIfInBounds_toArray, List.set_cons_zero, List.set_cons_succ]
      refine wpAnyH_ready (rs := [9]) (by kernel_rfl) (by simp) ?_
      refine AllReadyH.cons (o := { dst := some 132, op := Go.Op.call { callee := Go.Callee.value (Go.Operand.func 40), args := #[Go.Operand.tmp 127, Go.Operand.tmp 131], argTypes := #[46, 56] }, type := 4, pos := "law.go:61", after := #[{ on := 4, ground := Go.Ground.data }, { on := 8, ground := Go.Ground.data }, { on := 8, ground := Go.Ground.chain }, { on := 3, ground := Go.Ground.guard }], guard := some (3, true) }) rfl (fun K hK => ?_) AllReadyH.nil
      go_simp
      (with_reducible refine (His.out _ _ HZ.out).mono ?_); rintro e' Z2 ⟨rfl, hx2⟩; (have H2 := Lib.hid (H1.out.keep hx2)); clear hx2
      go_wp2_with fail
      refine hK.out _ _ ?_ (fun hHeld2 => ?_)
      · exact H2.out.cells
      clear hK K
      try simp only [Act.put, List.setIfInBounds_toArray, List.set_cons_zero, List.set_cons_succ]
      refine wpAnyH_take (i := 10) (oi := { dst := some 133, op := Go.Op.pick (Go.Operand.tmp 126) (Go.Operand.tmp 132) (Go.Operand.const (Go.Value.bool false)), type := 4, pos := "law.go:61", after := #[{ on := 3, ground := Go.Ground.data }, { on := 9, ground := Go.Ground.data }], guard := none }) (v := ?_) rfl (by kernel_rfl) (by kernel_rfl) (by kernel_rfl) (fun _ _ _ h => h) (Or.inl ⟨by rfl, ?_⟩) (by assumption) ?_
      rotate_left 1
      · intro w5 hSw; (try dsimp only at hSw); go_simp; all_goals (with_reducible rfl)
      try simp only [Act.put, List.setIfInBounds_toArray, List.set_cons_zero, List.set_cons_succ]
      refine wpAnyH_take (i := 11) (oi := { dst := some 134, op := Go.Op.move (Go.Operand.tmp 133), type := 4, pos := "law.go:61", after := #[{ on := 10, ground := Go.Ground.data }, { on := 9, ground := Go.Ground.chain }], guard := none }) (v := ?_) rfl (by kernel_rfl) (by kernel_rfl) (by kernel_rfl) (fun _ _ _ h => h) (Or.inl ⟨by rfl, ?_⟩) (by assumption) ?_
      rotate_left 1
      · intro w5 hSw; (try dsimp only at hSw); go_simp; all_goals (with_reducible rfl)
      try simp only [Act.put, List.setIfInBounds_toArray, List.set_cons_zero, List.set_cons_succ]
      refine wpAnyH_take (i := 12) (oi := { dst := some 135, op := Go.Op.move (Go.Operand.tmp 2), type := 3, pos := "law.go:61", after := #[{ on := 11, ground := Go.Ground.guard }], guard := some (11, true) }) (v := ?_) rfl (by kernel_rfl) (by kernel_rfl) (by kernel_rfl) (fun _ _ _ h => h) (Or.inl ⟨by rfl, ?_⟩) (by assumption) ?_
      rotate_left 1
      · intro w5 hSw; (try dsimp only at hSw); go_simp; all_goals (with_reducible rfl)
      try simp only [Act.put, List.setIfInBounds_toArray, List.set_cons_zero, List.set_cons_succ]
      refine wpAnyH_take (i := 13) (oi := { dst := some 136, op := Go.Op.fieldAddr 63 (Go.Operand.tmp 4) 0, type := 0, pos := "law.go:61", after := #[{ on := 11, ground := Go.Ground.guard }], guard := some (11, true) }) (v := ?_) rfl (by kernel_rfl) (by kernel_rfl) (by kernel_rfl) (fun _ _ _ h => h) (Or.inl ⟨by rfl, ?_⟩) (by assumption) ?_
      rotate_left 1
      · intro w5 hSw; (try dsimp only at hSw); go_simp; all_goals (with_reducible rfl)
      try simp only [Act.put, List.setIfInBounds_toArray, List.set_cons_zero, List.set_cons_succ]
      refine wpAnyH_take (i := 14) (oi := { dst := some 137, op := Go.Op.load 3 (Go.Operand.tmp 136), type := 3, pos := "law.go:61", after := #[{ on := 13, ground := Go.Ground.data }, { on := 11, ground := Go.Ground.guard }], guard := some (11, true) }) (v := ?_) rfl (by kernel_rfl) (by kernel_rfl) (by kernel_rfl) (fun _ _ _ h => h) (Or.inl ⟨by rfl, ?_⟩) (by assumption) ?_
      rotate_left 1
      · intro w5 hSw; (try dsimp only at hSw); go_simp; all_goals (with_reducible rfl)
      try simp only [Act.put, List.setIfInBounds_toArray, List.set_cons_zero, List.set_cons_succ]
      refine wpAnyH_take (i := 15) (oi := { dst := some 138, op := Go.Op.binOp Go.BinOp.neq 3 (Go.Operand.tmp 135) (Go.Operand.tmp 137) 3, type := 4, pos := "law.go:61", after := #[{ on := 12, ground := Go.Ground.data }, { on := 14, ground := Go.Ground.data }, { on := 11, ground := Go.Ground.guard }], guard := some (11, true) }) (v := ?_) rfl (by kernel_rfl) (by kernel_rfl) (by kernel_rfl) (fun _ _ _ h => h) (Or.inl ⟨by rfl, ?_⟩) (by assumption) ?_
      rotate_left 1
      · intro w5 hSw; (try dsimp only at hSw); go_simp; all_goals (with_reducible rfl)
      try simp only [Act.put, List.setIfInBounds_toArray, List.set_cons_zero, List.set_cons_succ]
      refine wpAnyH_take (i := 16) (oi := { dst := some 139, op := Go.Op.move (Go.Operand.tmp 138), type := 4, pos := "law.go:61", after := #[{ on := 15, ground := Go.Ground.data }, { on := 11, ground := Go.Ground.chain }, { on := 11, ground := Go.Ground.guard }], guard := some (11, true) }) (v := ?_) rfl (by kernel_rfl) (by kernel_rfl) (by kernel_rfl) (fun _ _ _ h => h) (Or.inl ⟨by rfl, ?_⟩) (by assumption) ?_
      rotate_left 1
      · intro w5 hSw; (try dsimp only at hSw); go_simp; all_goals (with_reducible rfl)
      try simp only [Act.put, List.setIfInBounds_toArray, List.set_cons_zero, List.set_cons_succ]
      refine wpAnyH_take (i := 17) (oi := { dst := some 140, op := Go.Op.load 46 (Go.Operand.tmp 9), type := 46, pos := "law.go:61", after := #[{ on := 16, ground := Go.Ground.guard }], guard := some (16, false) }) (v := undef) rfl (by kernel_rfl) (by kernel_rfl) (by kernel_rfl) (fun _ _ _ h => h) (Or.inr ⟨by rfl, rfl⟩) (by assumption) ?_
      try simp only [Act.put, List.setIfInBounds_toArray, List.set_cons_zero, List.set_cons_succ]
      refine wpAnyH_take (i := 18) (oi := { dst := some 141, op := Go.Op.fieldAddr 63 (Go.Operand.tmp 4) 1, type := 0, pos := "law.go:61", after := #[{ on := 16, ground := Go.Ground.guard }], guard := some (16, false) }) (v := undef) rfl (by kernel_rfl) (by kernel_rfl) (by kernel_rfl) (fun _ _ _ h => h) (Or.inr ⟨by rfl, rfl⟩) (by assumption) ?_
      try simp only [Act.put, List.setIfInBounds_toArray, List.set_cons_zero, List.set_cons_succ]
      refine wpAnyH_take (i := 19) (oi := { dst := some 142, op := Go.Op.load 3 (Go.Operand.tmp 141), type := 3, pos := "law.go:61", after := #[{ on := 18, ground := Go.Ground.data }, { on := 16, ground := Go.Ground.guard }], guard := some (16, false) }) (v := undef) rfl (by kernel_rfl) (by kernel_rfl) (by kernel_rfl) (fun _ _ _ h => h) (Or.inr ⟨by rfl, rfl⟩) (by assumption) ?_
      try simp only [Act.put, List.setIfInBounds_toArray, List.set_cons_zero, List.set_cons_succ]
      refine wpAnyH_take (i := 20) (oi := { dst := some 143, op := Go.Op.call { callee := Go.Callee.value (Go.Operand.func 29), args := #[Go.Operand.tmp 142], argTypes := #[3] }, type := 46, pos := "law.go:61", after := #[{ on := 19, ground := Go.Ground.data }, { on := 16, ground := Go.Ground.chain }, { on := 16, ground := Go.Ground.guard }], guard := some (16, false) }) (v := undef) rfl (by kernel_rfl) (by kernel_rfl) (by kernel_rfl) (fun _ _ _ h => h) (Or.inr ⟨by rfl, rfl⟩) (by assumption) ?_
      try simp only [Act.put, List.setIfInBounds_toArray, List.set_cons_zero, List.set_cons_succ]
      refine wpAnyH_take (i := 21) (oi := { dst := some 144, op := Go.Op.binOp Go.BinOp.eql 46 (Go.Operand.tmp 140) (Go.Operand.tmp 143) 46, type := 4, pos := "law.go:61", after := #[{ on := 17, ground := Go.Ground.data }, { on := 20, ground := Go.Ground.data }, { on := 16, ground := Go.Ground.guard }], guard := some (16, false) }) (v := undef) rfl (by kernel_rfl) (by kernel_rfl) (by kernel_rfl) (fun _ _ _ h => h) (Or.inr ⟨by rfl, rfl⟩) (by assumption) ?_
      try simp only [Act.put, List.setIfInBounds_toArray, List.set_cons_zero, List.set_cons_succ]
      refine wpAnyH_take (i := 22) (oi := { dst := some 145, op := Go.Op.pick (Go.Operand.tmp 139) (Go.Operand.const (Go.Value.bool true)) (Go.Operand.tmp 144), type := 4, pos := "law.go:61", after := #[{ on := 16, ground := Go.Ground.data }, { on := 21, ground := Go.Ground.data }, { on := 11, ground := Go.Ground.guard }], guard := some (11, true) }) (v := ?_) rfl (by kernel_rfl) (by kernel_rfl) (by kernel_rfl) (fun _ _ _ h => h) (Or.inl ⟨by rfl, ?_⟩) (by assumption) ?_
      rotate_left 1
      · intro w5 hSw; (try dsimp only at hSw); go_simp; all_goals (with_reducible rfl)
      try simp only [Act.put, List.setIfInBounds_toArray, List.set_cons_zero, List.set_cons_succ]
      refine wpAnyH_take (i := 23) (oi := { dst := some 146, op := Go.Op.pick (Go.Operand.tmp 134) (Go.Operand.tmp 145) (Go.Operand.const (Go.Value.bool false)), type := 4, pos := "law.go:61", after := #[{ on := 11, ground := Go.Ground.data }, { on := 22, ground := Go.Ground.data }], guard := none }) (v := ?_) rfl (by kernel_rfl) (by kernel_rfl) (by kernel_rfl) (fun _ _ _ h => h) (Or.inl ⟨by rfl, ?_⟩) (by assumption) ?_
      rotate_left 1
      · intro w5 hSw; (try dsimp only at hSw); go_simp; all_goals (with_reducible rfl)
      try simp only [Act.put, List.setIfInBounds_toArray, List.set_cons_zero, List.set_cons_succ]
      refine wpAnyH_take (i := 24) (oi := { dst := some 147, op := Go.Op.move (Go.Operand.tmp 146), type := 4, pos := "law.go:61", after := #[{ on := 23, ground := Go.Ground.data }, { on := 20, ground := Go.Ground.chain }], guard := none }) (v := ?_) rfl (by kernel_rfl) (by kernel_rfl) (by kernel_rfl) (fun _ _ _ h => h) (Or.inl ⟨by rfl, ?_⟩) (by assumption) ?_
      rotate_left 1
      · intro w5 hSw; (try dsimp only at hSw); go_simp; all_goals (with_reducible rfl)
      try simp only [Act.put, List.setIfInBounds_toArray, List.set_cons_zero, List.set_cons_succ]
      refine wpAnyH_ready (rs := [25]) (by kernel_rfl) (by simp) ?_
      refine AllReadyH.cons (o := { dst := some 148, op := Go.Op.call { callee := Go.Callee.value (Go.Operand.func 31), args := #[], argTypes := #[] }, type := 4, pos := "law.go:61", after := #[{ on := 24, ground := Go.Ground.chain }, { on := 24, ground := Go.Ground.guard }], guard := some (24, true) }) rfl (fun K hK => ?_) AllReadyH.nil
      go_simp
      refine (hlv.out _).mono ?_; rintro e' Z4 ⟨rfl, hx4⟩; (have H4 := Lib.hid (H2.out.keep hx4)); clear hx4
      go_wp2_with fail
      refine hK.out _ _ ?_ (fun hHeld2 => ?_)
      · exact H4.out.cells
      clear hK K
      try simp only [Act.put, List.setIfInBounds_toArray, List.set_cons_zero, List.set_cons_succ]
      refine wpAnyH_take (i := 26) (oi := { dst := some 149, op := Go.Op.pick (Go.Operand.tmp 147) (Go.Operand.tmp 148) (Go.Operand.const (Go.Value.bool false)), type := 4, pos := "law.go:61", after := #[{ on := 24, ground := Go.Ground.data }, { on := 25, ground := Go.Ground.data }], guard := none }) (v := ?_) rfl (by kernel_rfl) (by kernel_rfl) (by kernel_rfl) (fun _ _ _ h => h) (Or.inl ⟨by rfl, ?_⟩) (by assumption) ?_
      rotate_left 1
      · intro w5 hSw; (try dsimp only at hSw); go_simp; all_goals (with_reducible rfl)
      try simp only [Act.put, List.setIfInBounds_toArray, List.set_cons_zero, List.set_cons_succ]
      refine wpAnyH_take (i := 27) (oi := { dst := some 8, op := Go.Op.assign (Go.Operand.tmp 149), type := 4, pos := "law.go:61", after := #[{ on := 26, ground := Go.Ground.data }, { on := 25, ground := Go.Ground.chain }, { on := 0, ground := Go.Ground.phase }, { on := 1, ground := Go.Ground.phase }, { on := 2, ground := Go.Ground.phase }, { on := 3, ground := Go.Ground.phase }, { on := 4, ground := Go.Ground.phase }, { on := 5, ground := Go.Ground.phase }, { on := 6, ground := Go.Ground.phase }, { on := 7, ground := Go.Ground.phase }, { on := 8, ground := Go.Ground.phase }, { on := 9, ground := Go.Ground.phase }, { on := 10, ground := Go.Ground.phase }, { on := 11, ground := Go.Ground.phase }, { on := 12, ground := Go.Ground.phase }, { on := 13, ground := Go.Ground.phase }, { on := 14, ground := Go.Ground.phase }, { on := 15, ground := Go.Ground.phase }, { on := 16, ground := Go.Ground.phase }, { on := 17, ground := Go.Ground.phase }, { on := 18, ground := Go.Ground.phase }, { on := 19, ground := Go.Ground.phase }, { on := 20, ground := Go.Ground.phase }, { on := 21, ground := Go.Ground.phase }, { on := 22, ground := Go.Ground.phase }, { on := 23, ground := Go.Ground.phase }, { on := 24, ground := Go.Ground.phase }, { on := 25, ground := Go.Ground.phase }, { on := 26, ground := Go.Ground.phase }], guard := none }) (v := ?_) rfl (by kernel_rfl) (by kernel_rfl) (by kernel_rfl) (fun _ _ _ h => h) (Or.inl ⟨by rfl, ?_⟩) (by assumption) ?_
      rotate_left 1
      · intro w5 hSw; (try dsimp only at hSw); go_simp; all_goals (with_reducible rfl)
      try simp only [Act.put, List.setIfInBounds_toArray, List.set_cons_zero, List.set_cons_succ]
      refine wpAnyH_done (by kernel_rfl) ?_ _
      go_wp2_with fail
      go_ret
      exact ⟨rfl, H4.out.2.2.2.2.1⟩
    · have hb : (a == e) = false := by simpa using h
      have hb1 : (c == a) = false := by simpa using h0
      have hb2 : (c != a) = true := by simpa using h0
      clear h h0 Hca Hsp Hof
      go_wp2_with fail
      have H0 := Lib.hid HS.out.drew
      refine wp_region_held_drew (S := (fun W => W.cell? ⟨g, 0, none⟩ = some (.int .i64 a) ∧ W.cell? ⟨g, 1, none⟩ = some (.int .i64 b) ∧ W.cell? ⟨g + 1, 0, none⟩ = some (.int .i64 e) ∧ W.cell? ⟨g + 1, 1, none⟩ = some (.int .i64 f) ∧ W.cell? ⟨m, 0, none⟩ = some (.int .i64 Q) ∧ W.cell? ⟨m, 1, none⟩ = some (.int .u64 (R : Int)) ∧ W.cell? ⟨m, 2, none⟩ = some (.int .u64 (D : Int)))) (by kernel_rfl) H0.out.cells (fun hHeld => ?_)
      refine wpAnyH_take (i := 0) (oi := { dst := some 123, op := Go.Op.move (Go.Operand.tmp 10), type := 39, pos := "law.go:61", after := #[], guard := none }) (v := ?_) rfl (by kernel_rfl) (by kernel_rfl) (by kernel_rfl) (fun _ _ _ h => h) (Or.inl ⟨by rfl, ?_⟩) (by assumption) ?_
      rotate_left 1
      · intro w5 hSw; (try dsimp only at hSw); go_simp; all_goals (with_reducible rfl)
      try simp only [Act.put, List.setIfInBounds_toArray, List.set_cons_zero, List.set_cons_succ]
      refine wpAnyH_ready (rs := [1]) (by kernel_rfl) (by simp) ?_
      refine AllReadyH.cons (o := { dst := some 124, op := Go.Op.call { callee := Go.Callee.value (Go.Operand.func 30), args := #[Go.Operand.tmp 123], argTypes := #[39] }, type := 3, pos := "law.go:61", after := #[{ on := 0, ground := Go.Ground.data }], guard := none }) rfl (fun K hK => ?_) AllReadyH.nil
      go_simp
      refine (lcode_any _ _).mono ?_; rintro e' w' ⟨rfl, rfl⟩
      go_wp2_with fail
      refine hK.out _ _ ?_ (fun hHeld2 => ?_)
      · exact H0.out.cells
      clear hK K
      try simp only [Act.put, List.setIfInBounds_toArray, List.set_cons_zero, List.set_cons_succ]
      refine wpAnyH_take (i := 2) (oi := { dst := some 125, op := Go.Op.binOp Go.BinOp.eql 3 (Go.Operand.tmp 124) (Go.Operand.const (Go.Value.int Go.IntKind.i64 0)) 3, type := 4, pos := "law.go:61", after := #[{ on := 1, ground := Go.Ground.data }], guard := none }) (v := ?_) rfl (by kernel_rfl) (by kernel_rfl) (by kernel_rfl) (fun _ _ _ h => h) (Or.inl ⟨by rfl, ?_⟩) (by assumption) ?_
      rotate_left 1
      · intro w5 hSw; (try dsimp only at hSw); go_simp; all_goals (with_reducible rfl)
      try simp only [Act.put, List.setIfInBounds_toArray, List.set_cons_zero, List.set_cons_succ]
      refine wpAnyH_take (i := 3) (oi := { dst := some 126, op := Go.Op.move (Go.Operand.tmp 125), type := 4, pos := "law.go:61", after := #[{ on := 2, ground := Go.Ground.data }, { on := 1, ground := Go.Ground.chain }], guard := none }) (v := ?_) rfl (by kernel_rfl) (by kernel_rfl) (by kernel_rfl) (fun _ _ _ h => h) (Or.inl ⟨by rfl, ?_⟩) (by assumption) ?_
      rotate_left 1
      · intro w5 hSw; (try dsimp only at hSw); go_simp; all_goals (with_reducible rfl)
      try simp only [Act.put, List.setIfInBounds_toArray, List.set_cons_zero, List.set_cons_succ]
      refine wpAnyH_take (i := 4) (oi := { dst := some 127, op := Go.Op.load 46 (Go.Operand.tmp 9), type := 46, pos := "law.go:61", after := #[{ on := 3, ground := Go.Ground.guard }], guard := some (3, true) }) (v := ?_) rfl (by kernel_rfl) (by kernel_rfl) (by kernel_rfl) (fun _ _ _ h => h) (Or.inl ⟨by rfl, ?_⟩) (by assumption) ?_
      rotate_left 1
      · intro w5 hSw; (try dsimp only at hSw); go_simp; all_goals (with_reducible rfl)
      try simp only [Act.put, List.setIfInBounds_toArray, List.set_cons_zero, List.set_cons_succ]
      refine wpAnyH_take (i := 5) (oi := { dst := some 128, op := Go.Op.load 63 (Go.Operand.tmp 4), type := 63, pos := "law.go:61", after := #[{ on := 3, ground := Go.Ground.guard }], guard := some (3, true) }) (v := ?_) rfl (by kernel_rfl) (by kernel_rfl) (by kernel_rfl) (fun _ _ _ h => h) (Or.inl ⟨by rfl, ?_⟩) (by assumption) ?_
      rotate_left 1
      · intro w5 hSw; (try dsimp only at hSw); go_simp; all_goals (with_reducible rfl)
      try simp only [Act.put, List.setIfInBounds_toArray, List.set_cons_zero, List.set_cons_succ]
      refine wpAnyH_take (i := 6) (oi := { dst := some 129, op := Go.Op.load 63 (Go.Operand.tmp 5), type := 63, pos := "law.go:61", after := #[{ on := 3, ground := Go.Ground.guard }], guard := some (3, true) }) (v := ?_) rfl (by kernel_rfl) (by kernel_rfl) (by kernel_rfl) (fun _ _ _ h => h) (Or.inl ⟨by rfl, ?_⟩) (by assumption) ?_
      rotate_left 1
      · intro w5 hSw; (try dsimp only at hSw); go_simp; all_goals (with_reducible rfl)
      try simp only [Act.put, List.setIfInBounds_toArray, List.set_cons_zero, List.set_cons_succ]
      refine wpAnyH_take (i := 7) (oi := { dst := some 130, op := Go.Op.move (Go.Operand.tmp 2), type := 3, pos := "law.go:61", after := #[{ on := 3, ground := Go.Ground.guard }], guard := some (3, true) }) (v := ?_) rfl (by kernel_rfl) (by kernel_rfl) (by kernel_rfl) (fun _ _ _ h => h) (Or.inl ⟨by rfl, ?_⟩) (by assumption) ?_
      rotate_left 1
      · intro w5 hSw; (try dsimp only at hSw); go_simp; all_goals (with_reducible rfl)
      try simp only [Act.put, List.setIfInBounds_toArray, List.set_cons_zero, List.set_cons_succ]
      refine wpAnyH_ready (rs := [8]) (by kernel_rfl) (by simp) ?_
      refine AllReadyH.cons (o := { dst := some 131, op := Go.Op.call { callee := Go.Callee.value (Go.Operand.func 41), args := #[Go.Operand.tmp 128, Go.Operand.tmp 129, Go.Operand.tmp 130], argTypes := #[63, 63, 3] }, type := 56, pos := "law.go:61", after := #[{ on := 5, ground := Go.Ground.data }, { on := 6, ground := Go.Ground.data }, { on := 7, ground := Go.Ground.data }, { on := 3, ground := Go.Ground.chain }, { on := 3, ground := Go.Ground.guard }], guard := some (3, true) }) rfl (fun K hK => ?_) AllReadyH.nil
      go_simp
      (with_reducible refine (Hat.out _).mono ?_); rintro e' Z1 ⟨z1, rfl, hz1, hx1⟩; (have H1 := Lib.hid (H0.out.keep hx1)); (have HZ := Lib.hid hz1); clear hz1 hx1
      go_wp2_with fail
      refine hK.out _ _ ?_ (fun hHeld2 => ?_)
      · exact H1.out.cells
      clear hK K
      try simp only [Act.put, List.setIfInBounds_toArray, List.set_cons_zero, List.set_cons_succ]
      refine wpAnyH_ready (rs := [9]) (by kernel_rfl) (by simp) ?_
      refine AllReadyH.cons (o := { dst := some 132, op := Go.Op.call { callee := Go.Callee.value (Go.Operand.func 40), args := #[Go.Operand.tmp 127, Go.Operand.tmp 131], argTypes := #[46, 56] }, type := 4, pos := "law.go:61", after := #[{ on := 4, ground := Go.Ground.data }, { on := 8, ground := Go.Ground.data }, { on := 8, ground := Go.Ground.chain }, { on := 3, ground := Go.Ground.guard }], guard := some (3, true) }) rfl (fun K hK => ?_) AllReadyH.nil
      go_simp
      (with_reducible refine (His.out _ _ HZ.out).mono ?_); rintro e' Z2 ⟨rfl, hx2⟩; (have H2 := Lib.hid (H1.out.keep hx2)); clear hx2
      go_wp2_with fail
      refine hK.out _ _ ?_ (fun hHeld2 => ?_)
      · exact H2.out.cells
      clear hK K
      try simp only [Act.put, List.setIfInBounds_toArray, List.set_cons_zero, List.set_cons_succ]
      refine wpAnyH_take (i := 10) (oi := { dst := some 133, op := Go.Op.pick (Go.Operand.tmp 126) (Go.Operand.tmp 132) (Go.Operand.const (Go.Value.bool false)), type := 4, pos := "law.go:61", after := #[{ on := 3, ground := Go.Ground.data }, { on := 9, ground := Go.Ground.data }], guard := none }) (v := ?_) rfl (by kernel_rfl) (by kernel_rfl) (by kernel_rfl) (fun _ _ _ h => h) (Or.inl ⟨by rfl, ?_⟩) (by assumption) ?_
      rotate_left 1
      · intro w5 hSw; (try dsimp only at hSw); go_simp; all_goals (with_reducible rfl)
      try simp only [Act.put, List.setIfInBounds_toArray, List.set_cons_zero, List.set_cons_succ]
      refine wpAnyH_take (i := 11) (oi := { dst := some 134, op := Go.Op.move (Go.Operand.tmp 133), type := 4, pos := "law.go:61", after := #[{ on := 10, ground := Go.Ground.data }, { on := 9, ground := Go.Ground.chain }], guard := none }) (v := ?_) rfl (by kernel_rfl) (by kernel_rfl) (by kernel_rfl) (fun _ _ _ h => h) (Or.inl ⟨by rfl, ?_⟩) (by assumption) ?_
      rotate_left 1
      · intro w5 hSw; (try dsimp only at hSw); go_simp; all_goals (with_reducible rfl)
      try simp only [Act.put, List.setIfInBounds_toArray, List.set_cons_zero, List.set_cons_succ]
      refine wpAnyH_take (i := 12) (oi := { dst := some 135, op := Go.Op.move (Go.Operand.tmp 2), type := 3, pos := "law.go:61", after := #[{ on := 11, ground := Go.Ground.guard }], guard := some (11, true) }) (v := ?_) rfl (by kernel_rfl) (by kernel_rfl) (by kernel_rfl) (fun _ _ _ h => h) (Or.inl ⟨by rfl, ?_⟩) (by assumption) ?_
      rotate_left 1
      · intro w5 hSw; (try dsimp only at hSw); go_simp; all_goals (with_reducible rfl)
      try simp only [Act.put, List.setIfInBounds_toArray, List.set_cons_zero, List.set_cons_succ]
      refine wpAnyH_take (i := 13) (oi := { dst := some 136, op := Go.Op.fieldAddr 63 (Go.Operand.tmp 4) 0, type := 0, pos := "law.go:61", after := #[{ on := 11, ground := Go.Ground.guard }], guard := some (11, true) }) (v := ?_) rfl (by kernel_rfl) (by kernel_rfl) (by kernel_rfl) (fun _ _ _ h => h) (Or.inl ⟨by rfl, ?_⟩) (by assumption) ?_
      rotate_left 1
      · intro w5 hSw; (try dsimp only at hSw); go_simp; all_goals (with_reducible rfl)
      try simp only [Act.put, List.setIfInBounds_toArray, List.set_cons_zero, List.set_cons_succ]
      refine wpAnyH_take (i := 14) (oi := { dst := some 137, op := Go.Op.load 3 (Go.Operand.tmp 136), type := 3, pos := "law.go:61", after := #[{ on := 13, ground := Go.Ground.data }, { on := 11, ground := Go.Ground.guard }], guard := some (11, true) }) (v := ?_) rfl (by kernel_rfl) (by kernel_rfl) (by kernel_rfl) (fun _ _ _ h => h) (Or.inl ⟨by rfl, ?_⟩) (by assumption) ?_
      rotate_left 1
      · intro w5 hSw; (try dsimp only at hSw); go_simp; all_goals (with_reducible rfl)
      try simp only [Act.put, List.setIfInBounds_toArray, List.set_cons_zero, List.set_cons_succ]
      refine wpAnyH_take (i := 15) (oi := { dst := some 138, op := Go.Op.binOp Go.BinOp.neq 3 (Go.Operand.tmp 135) (Go.Operand.tmp 137) 3, type := 4, pos := "law.go:61", after := #[{ on := 12, ground := Go.Ground.data }, { on := 14, ground := Go.Ground.data }, { on := 11, ground := Go.Ground.guard }], guard := some (11, true) }) (v := ?_) rfl (by kernel_rfl) (by kernel_rfl) (by kernel_rfl) (fun _ _ _ h => h) (Or.inl ⟨by rfl, ?_⟩) (by assumption) ?_
      rotate_left 1
      · intro w5 hSw; (try dsimp only at hSw); go_simp; all_goals (with_reducible rfl)
      try simp only [Act.put, List.setIfInBounds_toArray, List.set_cons_zero, List.set_cons_succ]
      refine wpAnyH_take (i := 16) (oi := { dst := some 139, op := Go.Op.move (Go.Operand.tmp 138), type := 4, pos := "law.go:61", after := #[{ on := 15, ground := Go.Ground.data }, { on := 11, ground := Go.Ground.chain }, { on := 11, ground := Go.Ground.guard }], guard := some (11, true) }) (v := ?_) rfl (by kernel_rfl) (by kernel_rfl) (by kernel_rfl) (fun _ _ _ h => h) (Or.inl ⟨by rfl, ?_⟩) (by assumption) ?_
      rotate_left 1
      · intro w5 hSw; (try dsimp only at hSw); go_simp; all_goals (with_reducible rfl)
      try simp only [Act.put, List.setIfInBounds_toArray, List.set_cons_zero, List.set_cons_succ]
      refine wpAnyH_take (i := 17) (oi := { dst := some 140, op := Go.Op.load 46 (Go.Operand.tmp 9), type := 46, pos := "law.go:61", after := #[{ on := 16, ground := Go.Ground.guard }], guard := some (16, false) }) (v := undef) rfl (by kernel_rfl) (by kernel_rfl) (by kernel_rfl) (fun _ _ _ h => h) (Or.inr ⟨by rfl, rfl⟩) (by assumption) ?_
      try simp only [Act.put, List.setIfInBounds_toArray, List.set_cons_zero, List.set_cons_succ]
      refine wpAnyH_take (i := 18) (oi := { dst := some 141, op := Go.Op.fieldAddr 63 (Go.Operand.tmp 4) 1, type := 0, pos := "law.go:61", after := #[{ on := 16, ground := Go.Ground.guard }], guard := some (16, false) }) (v := undef) rfl (by kernel_rfl) (by kernel_rfl) (by kernel_rfl) (fun _ _ _ h => h) (Or.inr ⟨by rfl, rfl⟩) (by assumption) ?_
      try simp only [Act.put, List.setIfInBounds_toArray, List.set_cons_zero, List.set_cons_succ]
      refine wpAnyH_take (i := 19) (oi := { dst := some 142, op := Go.Op.load 3 (Go.Operand.tmp 141), type := 3, pos := "law.go:61", after := #[{ on := 18, ground := Go.Ground.data }, { on := 16, ground := Go.Ground.guard }], guard := some (16, false) }) (v := undef) rfl (by kernel_rfl) (by kernel_rfl) (by kernel_rfl) (fun _ _ _ h => h) (Or.inr ⟨by rfl, rfl⟩) (by assumption) ?_
      try simp only [Act.put, List.setIfInBounds_toArray, List.set_cons_zero, List.set_cons_succ]
      refine wpAnyH_take (i := 20) (oi := { dst := some 143, op := Go.Op.call { callee := Go.Callee.value (Go.Operand.func 29), args := #[Go.Operand.tmp 142], argTypes := #[3] }, type := 46, pos := "law.go:61", after := #[{ on := 19, ground := Go.Ground.data }, { on := 16, ground := Go.Ground.chain }, { on := 16, ground := Go.Ground.guard }], guard := some (16, false) }) (v := undef) rfl (by kernel_rfl) (by kernel_rfl) (by kernel_rfl) (fun _ _ _ h => h) (Or.inr ⟨by rfl, rfl⟩) (by assumption) ?_
      try simp only [Act.put, List.setIfInBounds_toArray, List.set_cons_zero, List.set_cons_succ]
      refine wpAnyH_take (i := 21) (oi := { dst := some 144, op := Go.Op.binOp Go.BinOp.eql 46 (Go.Operand.tmp 140) (Go.Operand.tmp 143) 46, type := 4, pos := "law.go:61", after := #[{ on := 17, ground := Go.Ground.data }, { on := 20, ground := Go.Ground.data }, { on := 16, ground := Go.Ground.guard }], guard := some (16, false) }) (v := undef) rfl (by kernel_rfl) (by kernel_rfl) (by kernel_rfl) (fun _ _ _ h => h) (Or.inr ⟨by rfl, rfl⟩) (by assumption) ?_
      try simp only [Act.put, List.setIfInBounds_toArray, List.set_cons_zero, List.set_cons_succ]
      refine wpAnyH_take (i := 22) (oi := { dst := some 145, op := Go.Op.pick (Go.Operand.tmp 139) (Go.Operand.const (Go.Value.bool true)) (Go.Operand.tmp 144), type := 4, pos := "law.go:61", after := #[{ on := 16, ground := Go.Ground.data }, { on := 21, ground := Go.Ground.data }, { on := 11, ground := Go.Ground.guard }], guard := some (11, true) }) (v := ?_) rfl (by kernel_rfl) (by kernel_rfl) (by kernel_rfl) (fun _ _ _ h => h) (Or.inl ⟨by rfl, ?_⟩) (by assumption) ?_
      rotate_left 1
      · intro w5 hSw; (try dsimp only at hSw); go_simp; all_goals (with_reducible rfl)
      try simp only [Act.put, List.setIfInBounds_toArray, List.set_cons_zero, List.set_cons_succ]
      refine wpAnyH_take (i := 23) (oi := { dst := some 146, op := Go.Op.pick (Go.Operand.tmp 134) (Go.Operand.tmp 145) (Go.Operand.const (Go.Value.bool false)), type := 4, pos := "law.go:61", after := #[{ on := 11, ground := Go.Ground.data }, { on := 22, ground := Go.Ground.data }], guard := none }) (v := ?_) rfl (by kernel_rfl) (by kernel_rfl) (by kernel_rfl) (fun _ _ _ h => h) (Or.inl ⟨by rfl, ?_⟩) (by assumption) ?_
      rotate_left 1
      · intro w5 hSw; (try dsimp only at hSw); go_simp; all_goals (with_reducible rfl)
      try simp only [Act.put, List.setIfInBounds_toArray, List.set_cons_zero, List.set_cons_succ]
      refine wpAnyH_take (i := 24) (oi := { dst := some 147, op := Go.Op.move (Go.Operand.tmp 146), type := 4, pos := "law.go:61", after := #[{ on := 23, ground := Go.Ground.data }, { on := 20, ground := Go.Ground.chain }], guard := none }) (v := ?_) rfl (by kernel_rfl) (by kernel_rfl) (by kernel_rfl) (fun _ _ _ h => h) (Or.inl ⟨by rfl, ?_⟩) (by assumption) ?_
      rotate_left 1
      · intro w5 hSw; (try dsimp only at hSw); go_simp; all_goals (with_reducible rfl)
      try simp only [Act.put, List.setIfInBounds_toArray, List.set_cons_zero, List.set_cons_succ]
      refine wpAnyH_ready (rs := [25]) (by kernel_rfl) (by simp) ?_
      refine AllReadyH.cons (o := { dst := some 148, op := Go.Op.call { callee := Go.Callee.value (Go.Operand.func 31), args := #[], argTypes := #[] }, type := 4, pos := "law.go:61", after := #[{ on := 24, ground := Go.Ground.chain }, { on := 24, ground := Go.Ground.guard }], guard := some (24, true) }) rfl (fun K hK => ?_) AllReadyH.nil
      go_simp
      refine (hlv.out _).mono ?_; rintro e' Z4 ⟨rfl, hx4⟩; (have H4 := Lib.hid (H2.out.keep hx4)); clear hx4
      go_wp2_with fail
      refine hK.out _ _ ?_ (fun hHeld2 => ?_)
      · exact H4.out.cells
      clear hK K
      try simp only [Act.put, List.setIfInBounds_toArray, List.set_cons_zero, List.set_cons_succ]
      refine wpAnyH_take (i := 26) (oi := { dst := some 149, op := Go.Op.pick (Go.Operand.tmp 147) (Go.Operand.tmp 148) (Go.Operand.const (Go.Value.bool false)), type := 4, pos := "law.go:61", after := #[{ on := 24, ground := Go.Ground.data }, { on := 25, ground := Go.Ground.data }], guard := none }) (v := ?_) rfl (by kernel_rfl) (by kernel_rfl) (by kernel_rfl) (fun _ _ _ h => h) (Or.inl ⟨by rfl, ?_⟩) (by assumption) ?_
      rotate_left 1
      · intro w5 hSw; (try dsimp only at hSw); go_simp; all_goals (with_reducible rfl)
      try simp only [Act.put, List.setIfInBounds_toArray, List.set_cons_zero, List.set_cons_succ]
      refine wpAnyH_take (i := 27) (oi := { dst := some 8, op := Go.Op.assign (Go.Operand.tmp 149), type := 4, pos := "law.go:61", after := #[{ on := 26, ground := Go.Ground.data }, { on := 25, ground := Go.Ground.chain }, { on := 0, ground := Go.Ground.phase }, { on := 1, ground := Go.Ground.phase }, { on := 2, ground := Go.Ground.phase }, { on := 3, ground := Go.Ground.phase }, { on := 4, ground := Go.Ground.phase }, { on := 5, ground := Go.Ground.phase }, { on := 6, ground := Go.Ground.phase }, { on := 7, ground := Go.Ground.phase }, { on := 8, ground := Go.Ground.phase }, { on := 9, ground := Go.Ground.phase }, { on := 10, ground := Go.Ground.phase }, { on := 11, ground := Go.Ground.phase }, { on := 12, ground := Go.Ground.phase }, { on := 13, ground := Go.Ground.phase }, { on := 14, ground := Go.Ground.phase }, { on := 15, ground := Go.Ground.phase }, { on := 16, ground := Go.Ground.phase }, { on := 17, ground := Go.Ground.phase }, { on := 18, ground := Go.Ground.phase }, { on := 19, ground := Go.Ground.phase }, { on := 20, ground := Go.Ground.phase }, { on := 21, ground := Go.Ground.phase }, { on := 22, ground := Go.Ground.phase }, { on := 23, ground := Go.Ground.phase }, { on := 24, ground := Go.Ground.phase }, { on := 25, ground := Go.Ground.phase }, { on := 26, ground := Go.Ground.phase }], guard := none }) (v := ?_) rfl (by kernel_rfl) (by kernel_rfl) (by kernel_rfl) (fun _ _ _ h => h) (Or.inl ⟨by rfl, ?_⟩) (by assumption) ?_
      rotate_left 1
      · intro w5 hSw; (try dsimp only at hSw); go_simp; all_goals (with_reducible rfl)
      try simp only [Act.put, List.setIfInBounds_toArray, List.set_cons_zero, List.set_cons_succ]
      refine wpAnyH_done (by kernel_rfl) ?_ _
      go_wp2_with fail
      go_ret
      exact ⟨rfl, H4.out.2.2.2.2.1⟩

theorem fracCrosses_row (px py qx qy c : Int) (up : Bool) (w : World) (hp : (-9223372036854775808 ≤ px ∧ px < 9223372036854775808) ∧ (-9223372036854775808 ≤ py ∧ py < 9223372036854775808)) (hq : (-9223372036854775808 ≤ qx ∧ qx < 9223372036854775808) ∧ (-9223372036854775808 ≤ qy ∧ qy < 9223372036854775808)) (hc : -9223372036854775808 ≤ c ∧ c < 9223372036854775808) :
    Calls Try.prog 8 #[.agg #[.int .i64 px, .int .i64 py], .agg #[.int .i64 qx, .int .i64 qy], .int .i64 c, .bool up] w fun e w' => e = .returned (.bool true) ∧ Below w.heap.size w w' := by
  cases hall : okAll px py qx qy c
  · exact fracCrosses_out px py qx qy c up w hall
  · obtain ⟨a, b, e, f, h1, h0, hall2⟩ : ∃ a b e f : Int, (up = true → a = py ∧ b = px ∧ e = qy ∧ f = qx) ∧ (up = false → a = px ∧ b = py ∧ e = qx ∧ f = qy) ∧ okAll a b e f c = true := by
      cases up
      · exact ⟨px, py, qx, qy, fun h => (by cases h), fun _ => ⟨rfl, rfl, rfl, rfl⟩, hall⟩
      · exact ⟨py, px, qy, qx, fun _ => ⟨rfl, rfl, rfl, rfl⟩, fun h => (by cases h), (okAll_turn hall).1⟩
    by_cases hn : a = e ∨ (c < a ∧ c < e) ∨ (a < c ∧ e < c)
    · exact fracCrosses_none px py qx qy c up w hall a b e f h1 h0 hn
    · obtain ⟨Q, R, D, e1, e2, e3, e4, e5, e6⟩ := cross_some a b e f c hall2 hn
      by_cases hs : 1 * (e - a) < 0
      · exact fracCrosses_some px py qx qy c up w hall a b e f h1 h0 hn Q R D e1 e2 _ _ (fun _ => ⟨rfl, rfl⟩) (fun h => absurd hs h) (e3 _ _ (fun _ => ⟨rfl, rfl⟩) (fun h => absurd hs h)) e4 e5 e6
      · exact fracCrosses_some px py qx qy c up w hall a b e f h1 h0 hn Q R D e1 e2 _ _ (fun h => absurd h hs) (fun _ => ⟨rfl, rfl⟩) (e3 _ _ (fun h => absurd h hs) (fun _ => ⟨rfl, rfl⟩)) e4 e5 e6
end Go.Proofs.Ytcfkhgpcamfecaa
