/- Inf5 -/
import Derived.Test.YtngnhkghpnamoaaInf4
import Derived.Test.YtngnhkghpnamoaaHuff3
namespace Go.Proofs.Ytngnhkghpnamoaa
open Go.RowKit Huff Bit
set_option linter.unusedVariables false
set_option maxRecDepth 100000

theorem nats_cast (l : List Nat) : nats (l.map fun n : Nat => (n : Int)) = l := by
  unfold nats
  rw [List.map_map]
  conv => rhs; rw [← List.map_id l]
  apply List.map_congr_left
  intro a _
  simp
def CodeYes (w : World) (l : List Nat) (e : Ending) (w' : World) : Prop := ∃ g, e = .returned (.pointer (some ⟨g, 0, none⟩)) ∧ CodeK g l w' ∧ Below w.heap.size w w'
theorem icode_yes (A : Option Addr) (c : Nat) (l : List Nat) (short : Bool) (w : World) (hN : Nums .i64 w w.heap.size A l) (hl : l.length ≤ 1000000) (he : Inf.codeB l short = true) :
    Calls Try.prog 94 #[.slice A l.length c, .bool short] w (CodeYes w l) := by
  unfold Inf.codeB at he
  have he2 : errOf (l.map fun n : Nat => (n : Int)) short = 0 := by simpa using he
  have hok : okL (l.map fun n : Nat => (n : Int)) = true := by
    unfold errOf at he2
    by_cases h : okL (l.map fun n : Nat => (n : Int)) = false
    · rw [if_pos h] at he2; omega
    · simpa using h
  have Hlen : Hid (l.length ≤ 288) := by show _ ≤ _; have := (okL_bounds hok).1; simpa using this
  have Hn := Lib.hid (new_yes A c (l.map fun n : Nat => (n : Int)) short w (Ints.of_nums hN) (by simpa using hl) he2)
  rw [List.length_map, nats_cast] at Hn
  have Hdy := Lib.hid idemand_yes
  obtain ⟨L, hL⟩ : ∃ L, l.length = L := ⟨_, rfl⟩
  rw [hL] at Hn ⊢
  clear he he2 hok hN hl hL
  go_enter Try.func94, Try.ntmps94
  go_wp2_with fail
  refine Hn.out.mono ?_
  rintro e W ⟨g, rfl, h1, h2⟩
  have H1 := Lib.hid h1
  have H2 := Lib.hid h2
  clear h1 h2
  go_wp2_with fail
  refine (Hdy.out _).mono ?_
  rintro e W9 ⟨rfl, rfl⟩
  go_wp2_with fail
  go_ret
  exact ⟨g, rfl, ⟨H1.out, Hlen.out⟩, H2.out⟩
theorem icode_no (A : Option Addr) (c : Nat) (l : List Nat) (short : Bool) (w : World) (hN : Nums .i64 w w.heap.size A l) (hl : l.length ≤ 1000000) (he : Inf.codeB l short = false) :
    Calls Try.prog 94 #[.slice A l.length c, .bool short] w fun e w' => e = .panicked (pan 3) ∧ w = w' := by
  unfold Inf.codeB at he
  have he2 : errOf (l.map fun n : Nat => (n : Int)) short ≠ 0 := by simpa using he
  have Hn := Lib.hid (new_no A c (l.map fun n : Nat => (n : Int)) short w (Ints.of_nums hN) (by simpa using hl) he2)
  rw [List.length_map] at Hn
  unfold NewNo at Hn
  generalize errOf (l.map fun n : Nat => (n : Int)) short = E at *
  have d1 : ((E : Int) == 0) = false := by simp; omega
  have Hdn := Lib.hid idemand_no
  obtain ⟨L, hL⟩ : ∃ L, l.length = L := ⟨_, rfl⟩
  rw [hL] at Hn ⊢
  clear he he2 hN hl hL
  go_enter Try.func94, Try.ntmps94
  go_wp2_with fail
  refine Hn.out.mono ?_
  rintro e W ⟨rfl, rfl⟩
  go_wp2_with fail
  refine (Hdn.out _).mono ?_
  rintro e W9 ⟨rfl, rfl⟩
  go_wp2_with fail
  exact ⟨rfl, rfl, rfl⟩
theorem Own64.cells {a : Option Addr} {m cc : Nat} {l : List Nat} {w : World} {base : Nat} (h : Own64 w base (.slice a m cc) l) (hl : 0 < l.length) :
    ∃ b off, a = some ⟨b, off, none⟩ ∧ ∀ W base', Own64 W base' (.slice a m cc) l → ∀ i, i < l.length → W.cell? ⟨b, off + i, none⟩ = some (.int .i64 (l.getD i 0 : Nat)) := by
  obtain ⟨a', c', e, _, _, _, hN⟩ := h.nums
  injection e with e1 e2 e3
  subst e1
  obtain ⟨b, off, rfl, _, _⟩ := hN hl
  refine ⟨b, off, rfl, fun W base' hW i hi => ?_⟩
  obtain ⟨a', c', e, _, _, _, hN'⟩ := hW.nums
  injection e with e1 e2 e3
  subst e1
  obtain ⟨b', off', e, _, hc⟩ := hN' hl
  injection e with e
  injection e with e4 e5
  subst e4; subst e5
  exact hc i hi
section
variable {X : Cx} {F : Option Addr × Option Addr} {out : List Nat} {p : Nat} {w : World}
set_option maxHeartbeats 4000000 in
theorem drun_any (hX : X.Ok) (h : Dec X F out p w) (g base : Nat) (c l : List Nat) (v : Value) (hC : CodeK g c w) (hO : Own64 w base v l) (hll : l.length ≤ 1000) :
    Calls Try.prog 100 #[.pointer (some ⟨X.d, 0, none⟩), .pointer (some ⟨g, 0, none⟩), v] w (DPost X w (X.run (Inf.runP c l) p) (fun r => .tuple #[.int .i64 (r.1 : Int), .int .i64 (r.2 : Int)]) F (fun _ => out)) := by
  obtain ⟨a, cc, rfl, _, _, _, hN⟩ := hO.nums
  obtain ⟨R, hR⟩ : ∃ R, X.run (Inf.runP c l) p = R := ⟨_, rfl⟩
  rw [hR]
  have HX := Lib.hid hX
  have Hsy := dsym_any hX h g c hC
  have hlen := hX.len
  unfold Inf.runP at hR
  have Hdy := Lib.hid idemand_yes
  have Hdn := Lib.hid idemand_no
  have HO := Lib.hid hO
  obtain ⟨L, hL⟩ : ∃ L, l.length = L := ⟨_, rfl⟩
  have HL := Lib.hid hL
  rw [hL] at hR hll ⊢
  cases hR1 : X.run (Inf.symP c) p with
  | error E =>
    rw [run_err hR1] at hR
    subst hR
    rw [hR1] at Hsy
    have HB := Lib.hid Hsy
    clear Hsy hR1 h hX hC hO hN hlen hL hll
    go_enter Try.func100, Try.ntmps100
    go_wp2_with fail
    refine HB.out.mono ?_
    rintro e W ⟨rfl, hB⟩
    have HB := Lib.hid hB
    clear hB
    go_wp2_with fail
    exact ⟨rfl, rfl, HB.out⟩
  | ok x =>
    obtain ⟨s, q1⟩ := x
    rw [run_ok hR1] at hR
    rw [hR1] at Hsy
    have HB := Lib.hid Hsy
    have HR := Lib.hid hR
    clear Hsy hR1 h hX hC hO hN hlen hL hR
    go_enter Try.func100, Try.ntmps100
    go_wp2_with fail
    refine HB.out.mono ?_
    rintro e W1 ⟨rfl, hD1, hK1⟩
    have HD1 := Lib.hid hD1
    have HK1 := Lib.hid hK1
    have hE := HR.out
    clear hD1 hK1 HB HR
    by_cases h16 : s = 16
    · rw [if_pos h16] at hE
      subst h16
      by_cases h0 : 0 < L
      · have d1 : decide ((0 : Int) < (L : Int)) = true := decide_eq_true (by omega)
        have d2 : decide (0 < L) = true := decide_eq_true h0
        rw [run_ok (run_need d2)] at hE
        have Hb := dbits_any HX.out HD1.out.drew 2 (by omega)
        obtain ⟨b, off, rfl, hcell⟩ := HO.out.cells (by have := HL.out; omega)
        have Hcell := Lib.hid fun W (h : DK X.B w W) => hcell W base (HO.out.dk h) (L - 1) (by have := HL.out; omega)
        obtain ⟨j, hj⟩ : ∃ j, L - 1 = j := ⟨_, rfl⟩
        rw [hj] at Hcell hE
        generalize l.getD j 0 = V at *
        have q1' := Hcell.out W1 HK1.out
        have q1d : W1.drew.cell? ⟨b, off + j, none⟩ = some (.int .i64 (V : Int)) := q1'
        have w1 : IntKind.i64.wrap ((L : Int) - 1) = (j : Int) := by rw [IntWalk.i64_in _ ⟨by omega, by omega⟩]; omega
        have j0 : (0 : Int) ≤ (j : Int) := by omega
        have j1 : (j : Int) < (L : Int) := by omega
        clear hcell hj h0
        cases hR1 : X.run (Inf.bitsP 2) q1 with
        | error E =>
          rw [run_err hR1] at hE
          subst hE
          rw [hR1] at Hb
          have HB := Lib.hid Hb
          clear Hb hR1
          go_wp2_with fail
          refine (Hdy.out _).mono ?_
          rintro e W9 ⟨rfl, rfl⟩
          go_wp2_with fail
          refine held_start (by kernel_rfl) ?_
          refine wpAnyH_take (i := 0) (oi := { dst := some 20, op := Go.Op.move (Go.Operand.tmp 2), type := 57, pos := "inflate.go:175", after := #[], guard := none }) (v := ?_) rfl (by kernel_rfl) (by kernel_rfl) (by kernel_rfl) (fun _ _ _ h => h) (Or.inl ⟨by rfl, ?_⟩) (Kp.refl _) ?_
          rotate_left 1
          · intro w5 hSw
            go_simp; all_goals (with_reducible rfl)
          try simp only [Act.put, List.setIfInBounds_toArray, List.set_cons_zero, List.set_cons_succ]
          refine wpAnyH_take (i := 1) (oi := { dst := some 21, op := Go.Op.move (Go.Operand.tmp 2), type := 57, pos := "inflate.go:175", after := #[], guard := none }) (v := ?_) rfl (by kernel_rfl) (by kernel_rfl) (by kernel_rfl) (fun _ _ _ h => h) (Or.inl ⟨by rfl, ?_⟩) (Kp.refl _) ?_
          rotate_left 1
          · intro w5 hSw
            go_simp; all_goals (with_reducible rfl)
          try simp only [Act.put, List.setIfInBounds_toArray, List.set_cons_zero, List.set_cons_succ]
          refine wpAnyH_take (i := 2) (oi := { dst := some 22, op := Go.Op.call { callee := Go.Callee.builtin Go.Builtin.len, args := #[Go.Operand.tmp 21], argTypes := #[57] }, type := 3, pos := "inflate.go:175", after := #[{ on := 1, ground := Go.Ground.data }], guard := none }) (v := ?_) rfl (by kernel_rfl) (by kernel_rfl) (by kernel_rfl) (fun _ _ _ h => h) (Or.inl ⟨by rfl, ?_⟩) (Kp.refl _) ?_
          rotate_left 1
          · intro w5 hSw
            go_simp; all_goals (with_reducible rfl)
          try simp only [Act.put, List.setIfInBounds_toArray, List.set_cons_zero, List.set_cons_succ]
          refine wpAnyH_take (i := 3) (oi := { dst := some 23, op := Go.Op.binOp Go.BinOp.sub 3 (Go.Operand.tmp 22) (Go.Operand.const (Go.Value.int Go.IntKind.i64 1)) 3, type := 3, pos := "inflate.go:175", after := #[{ on := 2, ground := Go.Ground.data }], guard := none }) (v := ?_) rfl (by kernel_rfl) (by kernel_rfl) (by kernel_rfl) (fun _ _ _ h => h) (Or.inl ⟨by rfl, ?_⟩) (Kp.refl _) ?_
          rotate_left 1
          · intro w5 hSw
            go_simp; all_goals (with_reducible rfl)
          try simp only [Act.put, List.setIfInBounds_toArray, List.set_cons_zero, List.set_cons_succ]
          refine wpAnyH_take (i := 4) (oi := { dst := some 24, op := Go.Op.indexAddr 57 (Go.Operand.tmp 20) (Go.Operand.tmp 23), type := 0, pos := "inflate.go:175", after := #[{ on := 0, ground := Go.Ground.data }, { on := 3, ground := Go.Ground.data }], guard := none }) (v := ?_) rfl (by kernel_rfl) (by kernel_rfl) (by kernel_rfl) (fun _ _ _ h => h) (Or.inl ⟨by rfl, ?_⟩) (Kp.refl _) ?_
          rotate_left 1
          · intro w5 hSw
            go_simp; all_goals (with_reducible rfl)
          try simp only [Act.put, List.setIfInBounds_toArray, List.set_cons_zero, List.set_cons_succ]
          refine wpAnyH_take (i := 5) (oi := { dst := some 25, op := Go.Op.load 3 (Go.Operand.tmp 24), type := 3, pos := "inflate.go:175", after := #[{ on := 4, ground := Go.Ground.data }], guard := none }) (v := ?_) rfl (by kernel_rfl) (by kernel_rfl) (by kernel_rfl) (fun _ _ _ h => h) (Or.inl ⟨by rfl, ?_⟩) (Kp.refl _) ?_
          rotate_left 1
          · intro w5 hSw
            have q5 := Hcell.out w5 (HK1.out.trans (DK.of_below (below_undrew hSw) (HD1.out.le HX.out)))
            go_simp; all_goals (with_reducible rfl)
          try simp only [Act.put, List.setIfInBounds_toArray, List.set_cons_zero, List.set_cons_succ]
          refine wpAnyH_take (i := 6) (oi := { dst := some 26, op := Go.Op.move (Go.Operand.tmp 0), type := 106, pos := "inflate.go:175", after := #[], guard := none }) (v := ?_) rfl (by kernel_rfl) (by kernel_rfl) (by kernel_rfl) (fun _ _ _ h => h) (Or.inl ⟨by rfl, ?_⟩) (Kp.refl _) ?_
          rotate_left 1
          · intro w5 hSw
            go_simp; all_goals (with_reducible rfl)
          try simp only [Act.put, List.setIfInBounds_toArray, List.set_cons_zero, List.set_cons_succ]
          refine wpAnyH_ready (rs := [7]) (by kernel_rfl) (by simp) ?_
          refine AllReadyH.cons (o := { dst := some 27, op := Go.Op.call { callee := Go.Callee.value (Go.Operand.func 81), args := #[Go.Operand.tmp 26, Go.Operand.const (Go.Value.int Go.IntKind.i64 2)], argTypes := #[106, 3] }, type := 3, pos := "inflate.go:175", after := #[{ on := 6, ground := Go.Ground.data }], guard := none }) rfl (fun K hK => ?_) AllReadyH.nil
          go_simp
          refine HB.out.mono ?_
          rintro e W2 ⟨rfl, hB⟩
          exact ⟨rfl, rfl, HK1.out.below.trans (below_undrew hB)⟩
        | ok x =>
          obtain ⟨K, q2⟩ := x
          rw [run_ok hR1] at hE
          have hk := run_bits_lt hR1
          simp only at hk
          have hE2 : Except.ok ((V, 3 + K), q2) = R := hE
          subst hE2
          have w4 : IntKind.i64.wrap (3 + (K : Int)) = 3 + (K : Int) := IntWalk.i64_in _ ⟨by omega, by omega⟩
          have w3 : Hid (3 + (K : Int) = ((3 + K : Nat) : Int)) := by show _ = _; omega
          rw [hR1] at Hb
          have HB := Lib.hid Hb
          clear Hb hR1 hk hE
          go_wp2_with fail
          refine (Hdy.out _).mono ?_
          rintro e W9 ⟨rfl, rfl⟩
          go_wp2_with fail
          go_region_with (first | (go_at_call 81; refine HB.out.mono ?_; rintro e W2 ⟨rfl, hD2, hK2⟩; have HD2 := Lib.hid hD2; have HK2 := Lib.hid (HK1.out.trans hK2.undrew); have q2' := Hcell.out W2 HK2.out; clear hD2 hK2))
          all_goals
            go_wp2_with fail
            go_ret2
            exact ⟨ret_ints rfl w3.out, HD2.out, HK2.out⟩
      · have d1 : decide ((0 : Int) < (L : Int)) = false := decide_eq_false (by omega)
        have d2 : decide (0 < L) = false := decide_eq_false h0
        rw [run_err (run_need_no d2)] at hE
        subst hE
        clear h0 hll
        go_wp2_with fail
        refine (Hdn.out _).mono ?_
        rintro e W9 ⟨rfl, rfl⟩
        go_wp2_with fail
        exact ⟨rfl, rfl, HK1.out.below⟩
    · rw [if_neg h16] at hE
      have d1 : ((s : Int) == 16) = false := by simp; omega
      by_cases h17 : s = 17
      · rw [if_pos h17] at hE
        subst h17
        have Hb := dbits_any HX.out HD1.out 3 (by omega)
        cases hR1 : X.run (Inf.bitsP 3) q1 with
        | error E =>
          rw [run_err hR1] at hE
          subst hE
          rw [hR1] at Hb
          have HB := Lib.hid Hb
          clear Hb hR1 h16
          go_wp2_with fail
          refine HB.out.mono ?_
          rintro e W ⟨rfl, hB⟩
          have HB := Lib.hid (HK1.out.below.trans hB)
          clear hB
          go_wp2_with fail
          exact ⟨rfl, rfl, HB.out⟩
        | ok x =>
          obtain ⟨K, q2⟩ := x
          rw [run_ok hR1] at hE
          have hk := run_bits_lt hR1
          simp only at hk
          have hE2 : Except.ok ((0, 3 + K), q2) = R := hE
          subst hE2
          have w1 : IntKind.i64.wrap (3 + (K : Int)) = 3 + (K : Int) := IntWalk.i64_in _ ⟨by omega, by omega⟩
          have w3 : Hid (3 + (K : Int) = ((3 + K : Nat) : Int)) := by show _ = _; omega
          rw [hR1] at Hb
          have HB := Lib.hid Hb
          clear Hb hR1 hk h16 hE
          go_wp2_with fail
          refine HB.out.mono ?_
          rintro e W2 ⟨rfl, hD2, hK2⟩
          have HD2 := Lib.hid hD2
          have HK2 := Lib.hid (HK1.out.trans hK2)
          clear hD2 hK2
          go_wp2_with fail
          go_ret2
          exact ⟨ret_ints rfl w3.out, HD2.out, HK2.out⟩
      · rw [if_neg h17] at hE
        have d2 : ((s : Int) == 17) = false := by simp; omega
        by_cases h18 : s = 18
        · rw [if_pos h18] at hE
          subst h18
          have Hb := dbits_any HX.out HD1.out 7 (by omega)
          cases hR1 : X.run (Inf.bitsP 7) q1 with
          | error E =>
            rw [run_err hR1] at hE
            subst hE
            rw [hR1] at Hb
            have HB := Lib.hid Hb
            clear Hb hR1 h16 h17
            go_wp2_with fail
            refine HB.out.mono ?_
            rintro e W ⟨rfl, hB⟩
            have HB := Lib.hid (HK1.out.below.trans hB)
            clear hB
            go_wp2_with fail
            exact ⟨rfl, rfl, HB.out⟩
          | ok x =>
            obtain ⟨K, q2⟩ := x
            rw [run_ok hR1] at hE
            have hk := run_bits_lt hR1
            simp only at hk
            have hE2 : Except.ok ((0, 11 + K), q2) = R := hE
            subst hE2
            have w1 : IntKind.i64.wrap (11 + (K : Int)) = 11 + (K : Int) := IntWalk.i64_in _ ⟨by omega, by omega⟩
            have w3 : Hid (11 + (K : Int) = ((11 + K : Nat) : Int)) := by show _ = _; omega
            rw [hR1] at Hb
            have HB := Lib.hid Hb
            clear Hb hR1 hk h16 h17 hE
            go_wp2_with fail
            refine HB.out.mono ?_
            rintro e W2 ⟨rfl, hD2, hK2⟩
            have HD2 := Lib.hid hD2
            have HK2 := Lib.hid (HK1.out.trans hK2)
            clear hD2 hK2
            go_wp2_with fail
            go_ret2
            exact ⟨ret_ints rfl w3.out, HD2.out, HK2.out⟩
        · rw [if_neg h18] at hE
          have d3 : ((s : Int) == 18) = false := by simp; omega
          have hE2 : Except.ok ((s, 1), q1) = R := hE
          subst hE2
          clear h16 h17 h18 hE
          go_wp2_with fail
          go_ret2
          exact ⟨rfl, HD1.out, HK1.out⟩
end
end Go.Proofs.Ytngnhkghpnamoaa
