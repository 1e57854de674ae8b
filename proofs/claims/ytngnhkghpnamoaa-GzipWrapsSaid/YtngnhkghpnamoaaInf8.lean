/- Inf8 -/
import Derived.Test.YtngnhkghpnamoaaInf7
import Derived.Test.YtngnhkghpnamoaaGc02
namespace Go.Proofs.Ytngnhkghpnamoaa
open Go.RowKit Huff Bit
set_option linter.unusedVariables false
set_option maxRecDepth 100000

section
variable {X : Cx} {F : Option Addr × Option Addr} {out : List Nat} {p : Nat} {w : World}
theorem run_lens_len {c : List Nat} {n : Nat} : ∀ {f : Nat} {l : List Nat} {q : Nat} {x : List Nat × Nat}, l.length ≤ n → X.run (Inf.lensP c n f l) q = .ok x → x.1.length = n
  | 0, l, q, x, _, h => by cases h
  | f + 1, l, q, x, hl, h => by
    unfold Inf.lensP at h
    split at h
    · injection h with h
      rw [← h]
      show l.length = n
      omega
    · cases hR1 : X.run (Inf.runP c l) q with
      | error E => rw [run_err hR1] at h; cases h
      | ok y =>
        obtain ⟨r, q1⟩ := y
        rw [run_ok hR1] at h
        by_cases hn : l.length + r.2 ≤ n
        · rw [run_ok (run_need (decide_eq_true hn))] at h
          exact run_lens_len (by rw [List.length_append, List.length_replicate]; exact hn) h
        · rw [run_err (run_need_no (decide_eq_false hn))] at h; cases h
def PPost (X : Cx) (w : World) (R : Except Nat ((List Nat × List Nat) × Nat)) (F : Option Addr × Option Addr) (out : List Nat) (e : Ending) (w' : World) : Prop :=
  match R with
  | .ok a => ∃ gl gf, e = .returned (.agg #[.pointer (some ⟨gl, 0, none⟩), .pointer (some ⟨gf, 0, none⟩)]) ∧ CodeK gl a.1.1 w' ∧ CodeK gf a.1.2 w' ∧ Dec X F out a.2 w' ∧ DK X.B w w'
  | .error n => e = .panicked (pan n) ∧ Below X.B w w'
theorem Nums.takeI {k : IntKind} {B : Nat} {a : Option Addr} {l : List Nat} {W : World} (h : Nums k W B a l) (n : Nat) : Nums k W B a (l.take n) := fun hl => by
  rw [List.length_take] at hl
  obtain ⟨b, off, rfl, hb, hc⟩ := h (by omega)
  refine ⟨b, off, rfl, hb, fun i hi => ?_⟩
  rw [List.length_take] at hi
  rw [hc i (by omega)]
  simp [List.getElem?_take, show i < n by omega]
theorem Nums.dropI {k : IntKind} {B b off : Nat} {l : List Nat} {W : World} (h : Nums k W B (some ⟨b, off, none⟩) l) (n : Nat) : Nums k W B (some ⟨b, off + n, none⟩) (l.drop n) := fun hl => by
  rw [List.length_drop] at hl
  obtain ⟨b', off', e, hb, hc⟩ := h (by omega)
  injection e with e
  injection e with e1 e2
  subst e1; subst e2
  refine ⟨_, _, rfl, hb, fun i hi => ?_⟩
  rw [List.length_drop] at hi
  rw [Nat.add_assoc, hc (n + i) (by omega)]
  simp [List.getElem?_drop]
theorem below_drew {B : Nat} {W W' : World} (h : Below B W W') : Below B W W'.drew := ⟨h.os, h.tape, h.output, h.size, h.block⟩
theorem CodeK.below {g : Nat} {l : List Nat} {W W' : World} (h : CodeK g l W) (hb : Below W.heap.size W W') : CodeK g l W' := ⟨h.code.below hb, h.len⟩
set_option maxHeartbeats 8000000 in
theorem ddyn_any (hX : X.Ok) (h : Dec X F out p w) :
    Calls Try.prog 85 #[.pointer (some ⟨X.d, 0, none⟩)] w (PPost X w (X.run Inf.dynP p) F out) := by
  obtain ⟨R, hR⟩ : ∃ R, X.run Inf.dynP p = R := ⟨_, rfl⟩
  rw [hR]
  have HX := Lib.hid hX
  have Hle := Lib.hid (h.le hX)
  have Hnn := Lib.hid h.size
  have Hdy := Lib.hid idemand_yes
  have Hdn := Lib.hid idemand_no
  obtain ⟨X1, hX1⟩ : ∃ X, X = w.alloc (.cells #[.pointer none, .pointer none] 110) := ⟨_, rfl⟩
  have hB0 : Below w.heap.size w X1 := by rw [hX1]; exact (Below.refl _ _).alloc (Nat.le_refl _) _
  have HW1 : Hid (Whole X1 w.heap.size 110 #[.pointer none, .pointer none]) := by rw [hX1]; exact Whole.new w _ _
  have HD1 := Lib.hid (h.below hX hB0)
  have HK1 : Hid (DK X.B w X1) := DK.of_below hB0 (h.le hX)
  have Hb := dbits_any hX (h.below hX hB0) 5 (by omega)
  unfold Inf.dynP at hR
  clear h hX hB0
  cases hR1 : X.run (Inf.bitsP 5) p with
  | error E =>
    rw [run_err hR1] at hR
    subst hR
    rw [hR1] at Hb
    have HB := Lib.hid Hb
    clear Hb hR1
    go_enter Try.func85, Try.ntmps85
    go_wp2_with fail
    rw [← hX1]
    refine HB.out.mono ?_
    rintro e W ⟨rfl, hB⟩
    have HB := Lib.hid (HK1.out.below.trans hB)
    clear hB
    go_wp2_with fail
    exact ⟨rfl, rfl, HB.out⟩
  | ok x =>
    obtain ⟨a, q1⟩ := x
    rw [run_ok hR1] at hR
    have ha := run_bits_lt hR1
    simp only at ha
    rw [hR1] at Hb
    have HB := Lib.hid Hb
    have w1 : IntKind.i64.wrap ((a : Int) + 257) = (a : Int) + 257 := IntWalk.i64_in _ ⟨by omega, by omega⟩
    clear Hb hR1
    go_enter Try.func85, Try.ntmps85
    go_wp2_with fail
    rw [← hX1]
    refine HB.out.mono ?_
    rintro e W2 ⟨rfl, hD2, hK2⟩
    have HK2 := Lib.hid (HK1.out.trans hK2)
    have HW2 := Lib.hid (HW1.out.dk hK2 (by decide) (by decide) (by decide))
    have Hb := dbits_any HX.out hD2 5 (by omega)
    clear hD2 hK2 hX1 HB HW1 HK1 HD1
    cases hR1 : X.run (Inf.bitsP 5) q1 with
    | error E =>
      rw [run_err hR1] at hR
      subst hR
      rw [hR1] at Hb
      have HB := Lib.hid Hb
      clear Hb hR1
      go_wp2_with fail
      refine HB.out.mono ?_
      rintro e W ⟨rfl, hB⟩
      have HB := Lib.hid (HK2.out.below.trans hB)
      clear hB
      go_wp2_with fail
      exact ⟨rfl, rfl, HB.out⟩
    | ok x =>
      obtain ⟨b, q2⟩ := x
      rw [run_ok hR1] at hR
      have hb := run_bits_lt hR1
      simp only at hb
      rw [hR1] at Hb
      have HB := Lib.hid Hb
      obtain ⟨Li, hLi⟩ : ∃ Li, a + 257 = Li := ⟨_, rfl⟩
      obtain ⟨Fa, hFa⟩ : ∃ Fa, b + 1 = Fa := ⟨_, rfl⟩
      rw [hLi, hFa] at hR
      have e1 : (a : Int) + 257 = (Li : Int) := by omega
      have w2 : IntKind.i64.wrap ((b : Int) + 1) = (Fa : Int) := by rw [IntWalk.i64_in _ ⟨by omega, by omega⟩]; omega
      rw [e1] at w1
      clear Hb hR1
      by_cases hok : Li ≤ 286 ∧ Fa ≤ 30
      · have d1 : decide ((a : Int) + 257 ≤ 286) = true := decide_eq_true (by omega)
        have d2 : decide ((Fa : Int) ≤ 30) = true := decide_eq_true (by omega)
        have d3 : decide ((Li : Int) ≤ 286) = true := decide_eq_true (by omega)
        rw [run_ok (run_need (by rw [decide_eq_true hok.1, decide_eq_true hok.2]; rfl))] at hR
        have HR := Lib.hid hR
        have hLi2 : 257 ≤ Li := by omega
        have hFa2 : 1 ≤ Fa := by omega
        obtain ⟨hok1, hok2⟩ := hok
        obtain ⟨N2, hN2⟩ : ∃ N2, Li + Fa = N2 := ⟨_, rfl⟩
        have w3 : IntKind.i64.wrap ((Li : Int) + (Fa : Int)) = (N2 : Int) := by rw [IntWalk.i64_in _ ⟨by omega, by omega⟩]; omega
        rw [hN2] at HR
        have HN2 := Lib.hid hN2
        have hN399 : N2 ≤ 399 := by omega
        clear hR ha hb hLi hFa hN2
        go_wp2_with fail
        refine HB.out.mono ?_
        rintro e W3 ⟨rfl, hD3, hK3⟩
        have HD3 := Lib.hid hD3
        have HK3 := Lib.hid (HK2.out.trans hK3)
        have HW3 := Lib.hid (HW2.out.dk hK3 (by decide) (by decide) (by decide))
        clear hD3 hK3 HB HW2 HK2
        go_wp2_with fail
        refine (Hdy.out _).mono ?_
        rintro e W9 ⟨rfl, rfl⟩
        go_wp2_with fail
        have Hlc := dlc_any HX.out HD3.out
        have hR := HR.out
        clear HR d1 d2 d3 e1 w1 w2
        cases hR1 : X.run Inf.lengthCodeP q2 with
        | error E =>
          rw [run_err hR1] at hR
          subst hR
          rw [hR1] at Hlc
          have HB := Lib.hid Hlc
          clear Hlc hR1
          refine HB.out.mono ?_
          rintro e W ⟨rfl, hB⟩
          have HB := Lib.hid (HK3.out.below.trans hB)
          clear hB
          go_wp2_with fail
          exact ⟨rfl, rfl, HB.out⟩
        | ok x =>
          obtain ⟨c, q3⟩ := x
          rw [run_ok hR1] at hR
          rw [hR1] at Hlc
          have HB := Lib.hid Hlc
          have HR := Lib.hid hR
          clear Hlc hR1 hR
          refine HB.out.mono ?_
          rintro e W4 ⟨gc, rfl, hC4, hD4, hK4⟩
          have HK4 := Lib.hid (HK3.out.trans hK4)
          have HW4 := Lib.hid (HW3.out.dk hK4 (by decide) (by decide) (by decide))
          have Hln := dlengths_any HX.out hD4 gc N2 c hC4 hN399
          have hR := HR.out
          clear hD4 hK4 hC4 HB HW3 HK3 HD3 HR
          cases hR1 : X.run (Inf.lensP c N2 400 []) q3 with
          | error E =>
            rw [run_err hR1] at hR
            subst hR
            rw [hR1] at Hln
            have HB := Lib.hid Hln
            clear Hln hR1
            go_wp2_with fail
            refine HB.out.mono ?_
            rintro e W ⟨rfl, hB⟩
            have HB := Lib.hid (HK4.out.below.trans hB)
            clear hB
            go_wp2_with fail
            exact ⟨rfl, rfl, HB.out⟩
          | ok x =>
            obtain ⟨l, q4⟩ := x
            have hll := run_lens_len (Nat.zero_le _) hR1
            simp only at hll
            rw [run_ok hR1] at hR
            rw [hR1] at Hln
            have HB := Lib.hid Hln
            have HR := Lib.hid hR
            clear Hln hR1 hR
            go_wp2_with fail
            refine HB.out.mono ?_
            rintro e W5 ⟨v, rfl, hO5, hD5, hK5⟩
            change Own64 W5 W4.heap.size v l at hO5
            obtain ⟨A, cc, rfl, hcc, hmx, _, hN5⟩ := hO5.nums
            rw [hll] at hcc ⊢
            obtain ⟨gb, off, rfl, hlt, hcell⟩ := hN5 (by have := HN2.out; omega)
            have HNs := Lib.hid fun W (hb : Below W5.heap.size W5 W) => (hN5.below hb).more hb.size
            have HD5 := Lib.hid hD5
            have HK5 := Lib.hid (HK4.out.trans hK5)
            have HW5 := Lib.hid (HW4.out.dk hK5 (by decide) (by decide) (by decide))
            have p0 := hcell 256 (by have := HN2.out; omega)
            have i0 : (256 : Int) < (N2 : Int) := by have := HN2.out; omega
            have hR := HR.out
            have Hl := Lib.hid hll
            clear hD5 hK5 hcell hN5 HW4 HK4 HB HR hO5
            generalize l.getD 256 0 = V at *
            by_cases hV : 0 < V
            · have d1 : decide ((0 : Int) < (V : Int)) = true := decide_eq_true (by omega)
              have d2 : decide (0 < V) = true := decide_eq_true hV
              rw [run_ok (run_need d2)] at hR
              have HR := Lib.hid hR
              clear hR hV
              go_wp2_with fail
              refine (Hdy.out _).mono ?_
              rintro e W9 ⟨rfl, rfl⟩
              go_wp2_with fail
              have hc2 : N2 ≤ cc := hcc
              have l0 : (0 : Int) ≤ (Li : Int) := by omega
              have l1 : (Li : Int) ≤ (cc : Int) := by have := HN2.out; omega
              have l2 : (Li : Int) ≤ (N2 : Int) := by have := HN2.out; omega
              have l3 : (N2 : Int) ≤ (cc : Int) := by omega
              have l4 : ¬ (cc - Li = 0) := by have := HN2.out; omega
              have HT := Lib.hid fun W (hb : Below W5.heap.size W5 W) => (HNs.out W hb).takeI Li
              have HDr := Lib.hid fun W (hb : Below W5.heap.size W5 W) => (HNs.out W hb).dropI Li
              have ht : (l.take Li).length = Li := by rw [List.length_take]; have := HN2.out; have := Hl.out; omega
              have hdl : (l.drop Li).length = N2 - Li := by rw [List.length_drop, Hl.out]
              have hR := HR.out
              clear HR HNs p0 d1 d2 i0
              cases hc1 : Inf.codeB (l.take Li) false with
              | false =>
                rw [run_err (run_need_no hc1)] at hR
                subst hR
                have hC1 := icode_no (some ⟨gb, off, none⟩) cc (l.take Li) false W5.drew (HT.out _ ((Below.refl _ _).drew)) (by omega) hc1
                rw [ht] at hC1
                have HC1 := Lib.hid hC1
                clear hC1
                refine held_start (by kernel_rfl) ?_
                refine wpAnyH_take (i := 0) (oi := { dst := some 31, op := Go.Op.move (Go.Operand.tmp 5), type := 57, pos := "inflate.go:139", after := #[], guard := none }) (v := ?_) rfl (by kernel_rfl) (by kernel_rfl) (by kernel_rfl) (fun _ _ _ h => h) (Or.inl ⟨by rfl, ?_⟩) (Kp.refl _) ?_
                rotate_left 1
                · intro w5 hSw
                  go_simp; all_goals (with_reducible rfl)
                try simp only [Act.put, List.setIfInBounds_toArray, List.set_cons_zero, List.set_cons_succ]
                refine wpAnyH_take (i := 1) (oi := { dst := some 32, op := Go.Op.move (Go.Operand.tmp 3), type := 3, pos := "inflate.go:139", after := #[], guard := none }) (v := ?_) rfl (by kernel_rfl) (by kernel_rfl) (by kernel_rfl) (fun _ _ _ h => h) (Or.inl ⟨by rfl, ?_⟩) (Kp.refl _) ?_
                rotate_left 1
                · intro w5 hSw
                  go_simp; all_goals (with_reducible rfl)
                try simp only [Act.put, List.setIfInBounds_toArray, List.set_cons_zero, List.set_cons_succ]
                refine wpAnyH_take (i := 2) (oi := { dst := some 33, op := Go.Op.slice 57 (Go.Operand.tmp 31) none (some (Go.Operand.tmp 32)) none, type := 57, pos := "inflate.go:139", after := #[{ on := 0, ground := Go.Ground.data }, { on := 1, ground := Go.Ground.data }], guard := none }) (v := ?_) rfl (by kernel_rfl) (by kernel_rfl) (by kernel_rfl) (fun _ _ _ h => h) (Or.inl ⟨by rfl, ?_⟩) (Kp.refl _) ?_
                rotate_left 1
                · intro w5 hSw
                  go_simp; all_goals (with_reducible rfl)
                try simp only [Act.put, List.setIfInBounds_toArray, List.set_cons_zero, List.set_cons_succ]
                refine wpAnyH_take (i := 4) (oi := { dst := some 35, op := Go.Op.move (Go.Operand.tmp 5), type := 57, pos := "inflate.go:139", after := #[], guard := none }) (v := ?_) rfl (by kernel_rfl) (by kernel_rfl) (by kernel_rfl) (fun _ _ _ h => h) (Or.inl ⟨by rfl, ?_⟩) (Kp.refl _) ?_
                rotate_left 1
                · intro w5 hSw
                  go_simp; all_goals (with_reducible rfl)
                try simp only [Act.put, List.setIfInBounds_toArray, List.set_cons_zero, List.set_cons_succ]
                refine wpAnyH_take (i := 5) (oi := { dst := some 36, op := Go.Op.move (Go.Operand.tmp 3), type := 3, pos := "inflate.go:139", after := #[], guard := none }) (v := ?_) rfl (by kernel_rfl) (by kernel_rfl) (by kernel_rfl) (fun _ _ _ h => h) (Or.inl ⟨by rfl, ?_⟩) (Kp.refl _) ?_
                rotate_left 1
                · intro w5 hSw
                  go_simp; all_goals (with_reducible rfl)
                try simp only [Act.put, List.setIfInBounds_toArray, List.set_cons_zero, List.set_cons_succ]
                refine wpAnyH_take (i := 6) (oi := { dst := some 37, op := Go.Op.slice 57 (Go.Operand.tmp 35) (some (Go.Operand.tmp 36)) none none, type := 57, pos := "inflate.go:139", after := #[{ on := 4, ground := Go.Ground.data }, { on := 5, ground := Go.Ground.data }], guard := none }) (v := ?_) rfl (by kernel_rfl) (by kernel_rfl) (by kernel_rfl) (fun _ _ _ h => h) (Or.inl ⟨by rfl, ?_⟩) (Kp.refl _) ?_
                rotate_left 1
                · intro w5 hSw
                  go_simp; all_goals (with_reducible rfl)
                try simp only [Act.put, List.setIfInBounds_toArray, List.set_cons_zero, List.set_cons_succ]
                refine wpAnyH_ready (rs := [3]) (by kernel_rfl) (by simp) ?_
                refine AllReadyH.cons (o := { dst := some 34, op := Go.Op.call { callee := Go.Callee.value (Go.Operand.func 94), args := #[Go.Operand.tmp 33, Go.Operand.const (Go.Value.bool false)], argTypes := #[57, 4] }, type := 77, pos := "inflate.go:139", after := #[{ on := 2, ground := Go.Ground.data }], guard := none }) rfl (fun K hK => ?_) AllReadyH.nil
                go_simp
                refine HC1.out.mono ?_
                rintro e Y1 ⟨rfl, rfl⟩
                exact ⟨rfl, rfl, below_drew HK5.out.below⟩
              | true =>
                rw [run_ok (run_need hc1)] at hR
                have hC1 := icode_yes (some ⟨gb, off, none⟩) cc (l.take Li) false W5.drew (HT.out _ ((Below.refl _ _).drew)) (by omega) hc1
                rw [ht] at hC1
                have HC1 := Lib.hid hC1
                clear hC1
                cases hc3 : Inf.codeB (l.drop Li) true with
                | false =>
                  rw [run_err (run_need_no hc3)] at hR
                  subst hR
                  have HC2 := Lib.hid fun W (hb : Below W5.heap.size W5 W) => by
                    have := icode_no (some ⟨gb, off + Li, none⟩) (cc - Li) (l.drop Li) true W (HDr.out W hb) (by omega) hc3
                    rw [hdl] at this
                    exact this
                  refine held_start (by kernel_rfl) ?_
                  refine wpAnyH_take (i := 0) (oi := { dst := some 31, op := Go.Op.move (Go.Operand.tmp 5), type := 57, pos := "inflate.go:139", after := #[], guard := none }) (v := ?_) rfl (by kernel_rfl) (by kernel_rfl) (by kernel_rfl) (fun _ _ _ h => h) (Or.inl ⟨by rfl, ?_⟩) (Kp.refl _) ?_
                  rotate_left 1
                  · intro w5 hSw
                    go_simp; all_goals (with_reducible rfl)
                  try simp only [Act.put, List.setIfInBounds_toArray, List.set_cons_zero, List.set_cons_succ]
                  refine wpAnyH_take (i := 1) (oi := { dst := some 32, op := Go.Op.move (Go.Operand.tmp 3), type := 3, pos := "inflate.go:139", after := #[], guard := none }) (v := ?_) rfl (by kernel_rfl) (by kernel_rfl) (by kernel_rfl) (fun _ _ _ h => h) (Or.inl ⟨by rfl, ?_⟩) (Kp.refl _) ?_
                  rotate_left 1
                  · intro w5 hSw
                    go_simp; all_goals (with_reducible rfl)
                  try simp only [Act.put, List.setIfInBounds_toArray, List.set_cons_zero, List.set_cons_succ]
                  refine wpAnyH_take (i := 2) (oi := { dst := some 33, op := Go.Op.slice 57 (Go.Operand.tmp 31) none (some (Go.Operand.tmp 32)) none, type := 57, pos := "inflate.go:139", after := #[{ on := 0, ground := Go.Ground.data }, { on := 1, ground := Go.Ground.data }], guard := none }) (v := ?_) rfl (by kernel_rfl) (by kernel_rfl) (by kernel_rfl) (fun _ _ _ h => h) (Or.inl ⟨by rfl, ?_⟩) (Kp.refl _) ?_
                  rotate_left 1
                  · intro w5 hSw
                    go_simp; all_goals (with_reducible rfl)
                  try simp only [Act.put, List.setIfInBounds_toArray, List.set_cons_zero, List.set_cons_succ]
                  refine wpAnyH_take (i := 4) (oi := { dst := some 35, op := Go.Op.move (Go.Operand.tmp 5), type := 57, pos := "inflate.go:139", after := #[], guard := none }) (v := ?_) rfl (by kernel_rfl) (by kernel_rfl) (by kernel_rfl) (fun _ _ _ h => h) (Or.inl ⟨by rfl, ?_⟩) (Kp.refl _) ?_
                  rotate_left 1
                  · intro w5 hSw
                    go_simp; all_goals (with_reducible rfl)
                  try simp only [Act.put, List.setIfInBounds_toArray, List.set_cons_zero, List.set_cons_succ]
                  refine wpAnyH_take (i := 5) (oi := { dst := some 36, op := Go.Op.move (Go.Operand.tmp 3), type := 3, pos := "inflate.go:139", after := #[], guard := none }) (v := ?_) rfl (by kernel_rfl) (by kernel_rfl) (by kernel_rfl) (fun _ _ _ h => h) (Or.inl ⟨by rfl, ?_⟩) (Kp.refl _) ?_
                  rotate_left 1
                  · intro w5 hSw
                    go_simp; all_goals (with_reducible rfl)
                  try simp only [Act.put, List.setIfInBounds_toArray, List.set_cons_zero, List.set_cons_succ]
                  refine wpAnyH_take (i := 6) (oi := { dst := some 37, op := Go.Op.slice 57 (Go.Operand.tmp 35) (some (Go.Operand.tmp 36)) none none, type := 57, pos := "inflate.go:139", after := #[{ on := 4, ground := Go.Ground.data }, { on := 5, ground := Go.Ground.data }], guard := none }) (v := ?_) rfl (by kernel_rfl) (by kernel_rfl) (by kernel_rfl) (fun _ _ _ h => h) (Or.inl ⟨by rfl, ?_⟩) (Kp.refl _) ?_
                  rotate_left 1
                  · intro w5 hSw
                    go_simp; all_goals (with_reducible rfl)
                  try simp only [Act.put, List.setIfInBounds_toArray, List.set_cons_zero, List.set_cons_succ]
                  refine wpAnyH_ready (rs := [3]) (by kernel_rfl) (by simp) ?_
                  refine AllReadyH.cons (o := { dst := some 34, op := Go.Op.call { callee := Go.Callee.value (Go.Operand.func 94), args := #[Go.Operand.tmp 33, Go.Operand.const (Go.Value.bool false)], argTypes := #[57, 4] }, type := 77, pos := "inflate.go:139", after := #[{ on := 2, ground := Go.Ground.data }], guard := none }) rfl (fun K hK => ?_) AllReadyH.nil
                  go_simp
                  refine HC1.out.mono ?_
                  rintro e Y1 ⟨gl, rfl, hk1, hb1⟩
                  have HB1 := Lib.hid hb1
                  clear hk1 hb1
                  go_wp2_with fail
                  refine hK.out _ _ (HB1.out) (fun _ => held_more (HB1.out) ?_)
                  clear hK K
                  try simp only [Act.put, List.setIfInBounds_toArray, List.set_cons_zero, List.set_cons_succ]
                  refine wpAnyH_ready (rs := [7]) (by kernel_rfl) (by simp) ?_
                  refine AllReadyH.cons (o := { dst := some 38, op := Go.Op.call { callee := Go.Callee.value (Go.Operand.func 94), args := #[Go.Operand.tmp 37, Go.Operand.const (Go.Value.bool true)], argTypes := #[57, 4] }, type := 77, pos := "inflate.go:139", after := #[{ on := 6, ground := Go.Ground.data }, { on := 3, ground := Go.Ground.chain }], guard := none }) rfl (fun K hK => ?_) AllReadyH.nil
                  go_simp
                  refine (HC2.out _ (below_undrew HB1.out)).mono ?_
                  rintro e Y2 ⟨rfl, rfl⟩
                  exact ⟨rfl, rfl, HK5.out.below.trans ((show Below W5.heap.size W5 Y1 from below_undrew HB1.out).mono (HD5.out.le HX.out))⟩
                | true =>
                  rw [run_ok (run_need hc3)] at hR
                  have hE2 : Except.ok ((l.take Li, l.drop Li), q4) = R := hR
                  subst hE2
                  have HC2 := Lib.hid fun W (hb : Below W5.heap.size W5 W) => by
                    have := icode_yes (some ⟨gb, off + Li, none⟩) (cc - Li) (l.drop Li) true W (HDr.out W hb) (by omega) hc3
                    rw [hdl] at this
                    exact this
                  clear hR hc1 hc3
                  refine wp_region_held (S := fun _ => True) (by kernel_rfl) ?_
                  refine wpAnyH_take (i := 0) (oi := { dst := some 31, op := Go.Op.move (Go.Operand.tmp 5), type := 57, pos := "inflate.go:139", after := #[], guard := none }) (v := ?_) rfl (by kernel_rfl) (by kernel_rfl) (by kernel_rfl) (fun _ _ _ h => h) (Or.inl ⟨by rfl, ?_⟩) (trivial) ?_
                  rotate_left 1
                  · intro w5 hSw
                    go_simp; all_goals (with_reducible rfl)
                  try simp only [Act.put, List.setIfInBounds_toArray, List.set_cons_zero, List.set_cons_succ]
                  refine wpAnyH_take (i := 1) (oi := { dst := some 32, op := Go.Op.move (Go.Operand.tmp 3), type := 3, pos := "inflate.go:139", after := #[], guard := none }) (v := ?_) rfl (by kernel_rfl) (by kernel_rfl) (by kernel_rfl) (fun _ _ _ h => h) (Or.inl ⟨by rfl, ?_⟩) (trivial) ?_
                  rotate_left 1
                  · intro w5 hSw
                    go_simp; all_goals (with_reducible rfl)
                  try simp only [Act.put, List.setIfInBounds_toArray, List.set_cons_zero, List.set_cons_succ]
                  refine wpAnyH_take (i := 2) (oi := { dst := some 33, op := Go.Op.slice 57 (Go.Operand.tmp 31) none (some (Go.Operand.tmp 32)) none, type := 57, pos := "inflate.go:139", after := #[{ on := 0, ground := Go.Ground.data }, { on := 1, ground := Go.Ground.data }], guard := none }) (v := ?_) rfl (by kernel_rfl) (by kernel_rfl) (by kernel_rfl) (fun _ _ _ h => h) (Or.inl ⟨by rfl, ?_⟩) (trivial) ?_
                  rotate_left 1
                  · intro w5 hSw
                    go_simp; all_goals (with_reducible rfl)
                  try simp only [Act.put, List.setIfInBounds_toArray, List.set_cons_zero, List.set_cons_succ]
                  refine wpAnyH_take (i := 4) (oi := { dst := some 35, op := Go.Op.move (Go.Operand.tmp 5), type := 57, pos := "inflate.go:139", after := #[], guard := none }) (v := ?_) rfl (by kernel_rfl) (by kernel_rfl) (by kernel_rfl) (fun _ _ _ h => h) (Or.inl ⟨by rfl, ?_⟩) (trivial) ?_
                  rotate_left 1
                  · intro w5 hSw
                    go_simp; all_goals (with_reducible rfl)
                  try simp only [Act.put, List.setIfInBounds_toArray, List.set_cons_zero, List.set_cons_succ]
                  refine wpAnyH_take (i := 5) (oi := { dst := some 36, op := Go.Op.move (Go.Operand.tmp 3), type := 3, pos := "inflate.go:139", after := #[], guard := none }) (v := ?_) rfl (by kernel_rfl) (by kernel_rfl) (by kernel_rfl) (fun _ _ _ h => h) (Or.inl ⟨by rfl, ?_⟩) (trivial) ?_
                  rotate_left 1
                  · intro w5 hSw
                    go_simp; all_goals (with_reducible rfl)
                  try simp only [Act.put, List.setIfInBounds_toArray, List.set_cons_zero, List.set_cons_succ]
                  refine wpAnyH_take (i := 6) (oi := { dst := some 37, op := Go.Op.slice 57 (Go.Operand.tmp 35) (some (Go.Operand.tmp 36)) none none, type := 57, pos := "inflate.go:139", after := #[{ on := 4, ground := Go.Ground.data }, { on := 5, ground := Go.Ground.data }], guard := none }) (v := ?_) rfl (by kernel_rfl) (by kernel_rfl) (by kernel_rfl) (fun _ _ _ h => h) (Or.inl ⟨by rfl, ?_⟩) (trivial) ?_
                  rotate_left 1
                  · intro w5 hSw
                    go_simp; all_goals (with_reducible rfl)
                  try simp only [Act.put, List.setIfInBounds_toArray, List.set_cons_zero, List.set_cons_succ]
                  refine wpAnyH_ready (rs := [3]) (by kernel_rfl) (by simp) ?_
                  refine (AllReadyH.cons (o := { dst := some 34, op := Go.Op.call { callee := Go.Callee.value (Go.Operand.func 94), args := #[Go.Operand.tmp 33, Go.Operand.const (Go.Value.bool false)], argTypes := #[57, 4] }, type := 77, pos := "inflate.go:139", after := #[{ on := 2, ground := Go.Ground.data }], guard := none }) rfl (fun K hK => ?_) AllReadyH.nil)
                  go_simp
                  refine HC1.out.mono ?_
                  rintro e Y1 ⟨gl, rfl, hk1, hb1⟩
                  have HK1 := Lib.hid hk1
                  have HB1 : Hid (Below W5.heap.size W5 Y1) := below_undrew hb1
                  have HC3 := Lib.hid (HC2.out Y1 (below_undrew hb1))
                  clear hk1 hb1
                  go_wp2_with fail
                  refine hK.out _ _ (trivial) (fun _ => ?_)
                  clear hK K
                  try simp only [Act.put, List.setIfInBounds_toArray, List.set_cons_zero, List.set_cons_succ]
                  refine wpAnyH_ready (rs := [7]) (by kernel_rfl) (by simp) ?_
                  refine (AllReadyH.cons (o := { dst := some 38, op := Go.Op.call { callee := Go.Callee.value (Go.Operand.func 94), args := #[Go.Operand.tmp 37, Go.Operand.const (Go.Value.bool true)], argTypes := #[57, 4] }, type := 77, pos := "inflate.go:139", after := #[{ on := 6, ground := Go.Ground.data }, { on := 3, ground := Go.Ground.chain }], guard := none }) rfl (fun K hK => ?_) AllReadyH.nil)
                  go_simp
                  refine HC3.out.mono ?_
                  rintro e Y2 ⟨gf, rfl, hk2, hb2⟩
                  have HK2 := Lib.hid hk2
                  have HB2 := Lib.hid (keepBelow hb2 HB1.out)
                  have HK1' := Lib.hid (HK1.out.below hb2)
                  have HWY := Lib.hid (HW5.out.below (keepBelow hb2 HB1.out) HW5.out.lt)
                  have y0 : Y2.cell? ⟨w.heap.size, 0, none⟩ = some (.pointer none) := HWY.out.cell 0
                  have y1 : Y2.cell? ⟨w.heap.size, 1, none⟩ = some (.pointer none) := HWY.out.cell 1
                  have yf0 := HWY.out.frozen 0
                  have yf1 := HWY.out.frozen 1
                  clear hk2 hb2
                  go_wp2_with fail
                  refine hK.out _ _ (trivial) (fun _ => ?_)
                  clear hK K
                  try simp only [Act.put, List.setIfInBounds_toArray, List.set_cons_zero, List.set_cons_succ]
                  refine wpAnyH_take (i := 8) (oi := { dst := some 39, op := Go.Op.build 110 #[(0, Go.Operand.tmp 34), (1, Go.Operand.tmp 38)], type := 110, pos := "inflate.go:139", after := #[{ on := 3, ground := Go.Ground.data }, { on := 7, ground := Go.Ground.data }], guard := none }) (v := ?_) rfl (by kernel_rfl) (by kernel_rfl) (by kernel_rfl) (fun _ _ _ h => h) (Or.inl ⟨by rfl, ?_⟩) (trivial) ?_
                  rotate_left 1
                  · intro w5 hSw
                    go_simp; all_goals (with_reducible rfl)
                  try simp only [Act.put, List.setIfInBounds_toArray, List.set_cons_zero, List.set_cons_succ]
                  refine wpAnyH_ready (rs := [9]) (by kernel_rfl) (by simp) ?_
                  refine (AllReadyH.cons (o := { dst := none, op := Go.Op.store 110 (Go.Operand.tmp 2) (Go.Operand.tmp 39), type := 0, pos := "inflate.go:139", after := #[{ on := 8, ground := Go.Ground.data }, { on := 7, ground := Go.Ground.chain }, { on := 0, ground := Go.Ground.phase }, { on := 1, ground := Go.Ground.phase }, { on := 2, ground := Go.Ground.phase }, { on := 3, ground := Go.Ground.phase }, { on := 4, ground := Go.Ground.phase }, { on := 5, ground := Go.Ground.phase }, { on := 6, ground := Go.Ground.phase }, { on := 7, ground := Go.Ground.phase }, { on := 8, ground := Go.Ground.phase }], guard := none }) rfl (fun K hK => ?_) AllReadyH.nil)
                  go_simp
                  refine hK.out _ _ (trivial) (fun _ => ?_)
                  clear hK K
                  try simp only [Act.put, List.setIfInBounds_toArray, List.set_cons_zero, List.set_cons_succ]
                  refine wpAnyH_done (by kernel_rfl) ?_ _
                  have HZ := HWY.out.set 0 (.pointer (some ⟨gl, 0, none⟩))
                  have HZ2 : Whole ((Y2.setCell ⟨w.heap.size, 0, none⟩ (.pointer (some ⟨gl, 0, none⟩))).setCell ⟨w.heap.size, 1, none⟩ (.pointer (some ⟨gf, 0, none⟩))) w.heap.size 110 #[.pointer (some ⟨gl, 0, none⟩), .pointer (some ⟨gf, 0, none⟩)] := by simpa using HZ.set 1 (.pointer (some ⟨gf, 0, none⟩))
                  have hO : Only (fun b => b = w.heap.size) Y2 ((Y2.setCell ⟨w.heap.size, 0, none⟩ (.pointer (some ⟨gl, 0, none⟩))).setCell ⟨w.heap.size, 1, none⟩ (.pointer (some ⟨gf, 0, none⟩))) := (setCell_only (W := Y2) (g := w.heap.size)).trans setCell_only (fun _ _ h => h)
                  have hS : ∀ k, k = w.heap.size → ∃ cs e fz, Y2.heap[k]? = some (Obj.cells cs e fz) ∧ e = 110 := fun k e => by subst e; exact ⟨_, _, _, HWY.out, rfl⟩
                  have HDY : Dec X F out q4 Y2 := HD5.out.below HX.out HB2.out
                  have HKY : DK X.B w Y2 := HK5.out.trans (DK.of_below HB2.out (HD5.out.le HX.out))
                  have HA1 := HK1'.out.other hO (fun k hk => by obtain ⟨cs, e, fz, h1, h2⟩ := hS k hk; subst h2; exact ⟨cs, _, fz, h1, by decide, by decide, by decide⟩)
                  have HA2 := HK2.out.other hO (fun k hk => by obtain ⟨cs, e, fz, h1, h2⟩ := hS k hk; subst h2; exact ⟨cs, _, fz, h1, by decide, by decide, by decide⟩)
                  have HA3 := HDY.other hO (fun k hk => by obtain ⟨cs, e, fz, h1, h2⟩ := hS k hk; subst h2; exact ⟨by subst hk; exact Hnn.out, cs, _, fz, h1, by decide⟩) HX.out
                  have HA4 := HKY.grow hO (fun k hk => by subst hk; exact Nat.le_refl _) Hle.out
                  have z0 := HZ2.cell 0
                  have z1 := HZ2.cell 1
                  generalize (Y2.setCell ⟨w.heap.size, 0, none⟩ (.pointer (some ⟨gl, 0, none⟩))).setCell ⟨w.heap.size, 1, none⟩ (.pointer (some ⟨gf, 0, none⟩)) = Z at *
                  have z0 : Z.cell? ⟨w.heap.size, 0, none⟩ = some (.pointer (some ⟨gl, 0, none⟩)) := z0
                  have z1 : Z.cell? ⟨w.heap.size, 1, none⟩ = some (.pointer (some ⟨gf, 0, none⟩)) := z1
                  have HF := Lib.hid (show PPost X w (Except.ok ((List.take Li l, List.drop Li l), q4)) F out (.returned (.agg #[.pointer (some ⟨gl, 0, none⟩), .pointer (some ⟨gf, 0, none⟩)])) Z from ⟨gl, gf, rfl, HA1, HA2, HA3, HA4⟩)
                  clear HZ HZ2 hO hS HDY HKY HA1 HA2 HA3 HA4 y0 y1 yf0 yf1
                  go_wp2_with fail
                  exact bodyPost_ret (v := .agg #[.pointer (some ⟨gl, 0, none⟩), .pointer (some ⟨gf, 0, none⟩)]) (by simp [results, Try.results85, asAddr, z0, z1, go_sem]) rfl HF.out
            · have d1 : decide ((0 : Int) < (V : Int)) = false := decide_eq_false (by omega)
              have d2 : decide (0 < V) = false := decide_eq_false hV
              rw [run_err (run_need_no d2)] at hR
              subst hR
              clear hV
              go_wp2_with fail
              refine (Hdn.out _).mono ?_
              rintro e W9 ⟨rfl, rfl⟩
              go_wp2_with fail
              exact ⟨rfl, rfl, HK5.out.below⟩
      · have hno : (decide (Li ≤ 286) && decide (Fa ≤ 30)) = false := by
          by_cases h1 : Li ≤ 286
          · rw [decide_eq_true h1, decide_eq_false (by omega)]; rfl
          · rw [decide_eq_false h1]; rfl
        rw [run_err (run_need_no hno)] at hR
        subst hR
        by_cases h1 : Li ≤ 286
        · have d1 : decide ((a : Int) + 257 ≤ 286) = true := decide_eq_true (by omega)
          have d2 : decide ((Fa : Int) ≤ 30) = false := decide_eq_false (by omega)
          have d3 : decide ((Li : Int) ≤ 286) = true := decide_eq_true (by omega)
          clear ha hb hLi hFa hok h1 hno
          go_wp2_with fail
          refine HB.out.mono ?_
          rintro e W3 ⟨rfl, hD3, hK3⟩
          have HK3 := Lib.hid (HK2.out.trans hK3)
          clear hD3 hK3 HB HW2 HK2
          go_wp2_with fail
          refine (Hdn.out _).mono ?_
          rintro e W9 ⟨rfl, rfl⟩
          go_wp2_with fail
          exact ⟨rfl, rfl, HK3.out.below⟩
        · have d3 : decide ((Li : Int) ≤ 286) = false := decide_eq_false (by omega)
          clear ha hb hLi hFa hok h1 hno
          go_wp2_with fail
          refine HB.out.mono ?_
          rintro e W3 ⟨rfl, hD3, hK3⟩
          have HK3 := Lib.hid (HK2.out.trans hK3)
          clear hD3 hK3 HB HW2 HK2
          go_wp2_with fail
          refine (Hdn.out _).mono ?_
          rintro e W9 ⟨rfl, rfl⟩
          go_wp2_with fail
          exact ⟨rfl, rfl, HK3.out.below⟩
end
end Go.Proofs.Ytngnhkghpnamoaa
