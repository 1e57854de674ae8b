/- Layer 33: the reference's Quality. -/
import Derived.Test.YtkmdimepbghpcaaDoorReqLib
namespace Go.Proofs.YtkmdimepbghpcaaDoor
open Go.RowKit Go.Shelf Go.Lib
set_option linter.unusedVariables false
set_option maxRecDepth 100000

set_option maxHeartbeats 16000000 in
theorem rquality_any (s : ByteArray) (w : World) (hs : s.size ≤ 1000) :
    Calls Tryd.prog 6 #[.string s] w fun e w' => e = .returned (.tuple #[.int .i64 (refQ (bs s)).1, .bool (refQ (bs s)).2]) ∧ Below w.heap.size w w' := by
  obtain ⟨Q, hQ⟩ : ∃ Q, Q = refQ (bs s) := ⟨_, rfl⟩
  rw [← hQ]
  unfold refQ at hQ
  have HQ := Lib.hid hQ
  clear hQ
  by_cases h0 : s.size < 1
  · have e1 : decide ((s.size : Int) < 1) = true := decide_eq_true (by omega)
    have hQ2 : Hid (Q = (0, false)) := by show _ = _; rw [HQ.out]; unfold okQ; rw [decide_eq_false (by rw [bs_length]; omega)]; rfl
    clear HQ
    go_enter Tryd.func6, Tryd.ntmps6
    go_wp2_with fail
    exact bodyPost_ret (v := .tuple #[.int .i64 0, .bool false]) (by simp [results, Tryd.results6, go_sem]) rfl ⟨by rw [hQ2.out], Below.refl _ _⟩
  · have e1 : decide ((s.size : Int) < 1) = false := decide_eq_false (by omega)
    by_cases h5 : 5 < s.size
    · have e2 : decide (5 < (s.size : Int)) = true := decide_eq_true (by omega)
      have hQ2 : Hid (Q = (0, false)) := by show _ = _; rw [HQ.out]; unfold okQ; rw [decide_eq_false (by rw [bs_length]; omega)]; rfl
      clear HQ
      go_enter Tryd.func6, Tryd.ntmps6
      go_wp2_with fail
      exact bodyPost_ret (v := .tuple #[.int .i64 0, .bool false]) (by simp [results, Tryd.results6, go_sem]) rfl ⟨by rw [hQ2.out], Below.refl _ _⟩
    · have e2 : decide (5 < (s.size : Int)) = false := decide_eq_false (by omega)
      have hlt0 : 0 < s.size := by omega
      have k0 : (0 : Int) < (s.size : Int) := by omega
      obtain ⟨a, ha⟩ : ∃ a, (s[0]'hlt0).toNat = a := ⟨_, rfl⟩
      have hag : (bs s).getD 0 0 = a := by rw [← ha, bs_get s 0 hlt0]
      by_cases ha48 : a = 48 ∨ a = 49
      · have HQ2 : Hid (Q = goQ (bs s) 5 1 (1000 * ((a : Int) - 48))) := by
          show _ = _
          rw [HQ.out]; unfold okQ; rw [decide_eq_true (by rw [bs_length, hag]; exact ⟨by omega, by omega, ha48⟩), hag]; rfl
        have hab : 48 ≤ a ∧ a ≤ 49 := by omega
        clear HQ hag
        obtain ⟨hab1, hab2⟩ := hab
        have hn1 : ((a : Int) != 48) = !(decide (a = 48)) := by rcases ha48 with rfl | rfl <;> rfl
        have hn2 : ((a : Int) != 49) = !(decide (a = 49)) := by rcases ha48 with rfl | rfl <;> rfl
        rcases ha48 with rfl | rfl
        · go_enter Tryd.func6, Tryd.ntmps6
          go_upto_region 6 with (fail)
          obtain ⟨g, hg⟩ : ∃ g, g = w.heap.size := ⟨_, rfl⟩
          obtain ⟨X, hX⟩ : ∃ X, X = w.alloc (.cells #[.int .i64 0, .int .i64 0, .int .i64 100, .int .i64 10, .int .i64 1] 3) := ⟨_, rfl⟩
          have HU0 : Hid (Whole X g 3 #[.int .i64 0, .int .i64 0, .int .i64 100, .int .i64 10, .int .i64 1]) := by show Whole _ _ _ _; rw [hX, hg]; exact Whole.new w _ _
          have HB0 : Hid (Below w.heap.size w X) := by show Below _ _ _; rw [hX]; exact (Below.refl _ _).alloc (Nat.le_refl _) _
          rw [← hX, ← hg]
          clear hX hg
          go_loopw [4, 6] (fun x4 x6 W => ∃ (i : Nat) (n : Int), 1 ≤ i ∧ i ≤ s.size ∧ x6 = .int .i64 (i : Int) ∧ x4 = .int .i64 n ∧ 0 ≤ n ∧ n ≤ 1000 + 900 * ((i : Int) - 1) ∧ Hid (Q = goQ (bs s) (6 - i) i n) ∧ Hid (Whole W g 3 #[.int .i64 0, .int .i64 0, .int .i64 100, .int .i64 10, .int .i64 1]) ∧ Hid (Below w.heap.size w W)) (fun x4 x6 _ => s.size - (RowKit.intOf x6).toNat)
          case atStart => exact ⟨1, 0, by omega, by omega, rfl, rfl, by omega, by omega, HQ2, HU0, HB0⟩
          case round =>
            clear HU0 HB0 HQ2 hn1 hn2
            obtain ⟨i, n, hi1, his, rfl, rfl, hnl, hnh, HQ, HU, HB⟩ := hrel
            have hi5 : i = 1 ∨ i = 2 ∨ i = 3 ∨ i = 4 ∨ i = 5 := by omega
            by_cases hlt : i < s.size
            · obtain ⟨c, hc⟩ : ∃ c, (s[i]'hlt).toNat = c := ⟨_, rfl⟩
              have hc256 : c < 256 := by rw [← hc]; exact (s[i]'hlt).toNat_lt
              have hcg : (bs s).getD i 0 = c := by rw [← hc, bs_get s i hlt]
              have hil : i < (bs s).length := by rw [bs_length]; exact hlt
              rcases hi5 with rfl | rfl | rfl | rfl | rfl
              · by_cases hq : c = 46
                · have n1 : ((c : Int) != 46) = false := by rw [hq]; rfl
                  have n2 : ((c : Int) == 46) = true := by rw [hq]; rfl
                  have HQ3 : Hid (Q = goQ (bs s) (6 - 2) 2 (n + 0 * ((c : Int) - 48))) := by show _ = _; rw [HQ.out]; show goQ (bs s) (4 + 1) 1 n = _; rw [goQ_go hil (by rw [bad_dot (c := c) hcg]; exact decide_eq_false (fun h => h hq)), hcg]; rfl
                  have HsI : Hid ((1 : Int) < (s.size : Int)) := by show _ < _; omega
                  have Hc := Lib.hid hc
                  have Hw1 : Hid (IntKind.i64.wrap (c : Int) = (c : Int)) := IntWalk.i64_in _ ⟨by omega, by omega⟩
                  obtain ⟨d, hd⟩ : ∃ d, d = (c : Int) - 48 := ⟨_, rfl⟩
                  obtain ⟨m, hm⟩ : ∃ m, m = 0 * d := ⟨_, rfl⟩
                  obtain ⟨n2, hn2⟩ : ∃ k, k = n + m := ⟨_, rfl⟩
                  have hb2 : 0 ≤ n2 ∧ n2 ≤ 1000 + 900 * (((2 : Nat) : Int) - 1) := by omega
                  have Hd : Hid (IntKind.i64.wrap ((c : Int) - 48) = d) := by show _ = _; rw [← hd]; exact IntWalk.i64_in _ ⟨by omega, by omega⟩
                  have Hm : Hid (IntKind.i64.wrap (0 * d) = m) := by show _ = _; rw [← hm]; exact IntWalk.i64_in _ ⟨by omega, by omega⟩
                  have Hn2 : Hid (IntKind.i64.wrap (n + m) = n2) := by show _ = _; rw [← hn2]; exact IntWalk.i64_in _ ⟨by omega, by omega⟩
                  rw [← hd, ← hm, ← hn2] at HQ3
                  have Hnn : Hid (IntKind.i64.wrap n = n) := IntWalk.i64_in _ ⟨by omega, by omega⟩
                  have Hn0 : Hid (m = 0 → n2 = n) := fun h => by rw [hn2, h]; omega
                  have Hb2 := Lib.hid hb2
                  have Hm0 : Hid (m = 0) := by show _ = _; rw [hm]; omega
                  have k1 : (1 : Int) < (s.size : Int) := HsI.out
                  have HB2 : Hid (Below w.heap.size w wr.drew) := ⟨HB.out.os, HB.out.tape, HB.out.output, HB.out.size, HB.out.block⟩
                  have HU2 : Hid (Whole wr.drew g 3 #[.int .i64 0, .int .i64 0, .int .i64 100, .int .i64 10, .int .i64 1]) := HU.out
                  clear hd hm hn2 hb2 HQ hcg hil
                  rw [show ((1 : Nat) : Int) = 1 from rfl] at *
                  go_upto_region 10 with (fail)
                  refine held_start (by kernel_rfl) ?_
                  refine wpAnyH_take (i := 0) (oi := { dst := some 61, op := Go.Op.move (Go.Operand.tmp 4), type := 3, pos := "ref.go:65", after := #[], guard := none }) (v := ?_) rfl (by kernel_rfl) (by kernel_rfl) (by kernel_rfl) (fun _ _ _ h => h) (Or.inl ⟨by rfl, ?_⟩) (Kp.refl _) ?_
                  rotate_left 1
                  · intro w5 hSw
                    go_simp; all_goals (with_reducible rfl)
                  try simp only [Act.put, List.setIfInBounds_toArray, List.set_cons_zero, List.set_cons_succ]
                  refine wpAnyH_take (i := 1) (oi := { dst := some 62, op := Go.Op.move (Go.Operand.tmp 5), type := 31, pos := "ref.go:65", after := #[], guard := none }) (v := ?_) rfl (by kernel_rfl) (by kernel_rfl) (by kernel_rfl) (fun _ _ _ h => h) (Or.inl ⟨by rfl, ?_⟩) (Kp.refl _) ?_
                  rotate_left 1
                  · intro w5 hSw
                    go_simp; all_goals (with_reducible rfl)
                  try simp only [Act.put, List.setIfInBounds_toArray, List.set_cons_zero, List.set_cons_succ]
                  refine wpAnyH_take (i := 2) (oi := { dst := some 63, op := Go.Op.move (Go.Operand.tmp 6), type := 3, pos := "ref.go:65", after := #[], guard := none }) (v := ?_) rfl (by kernel_rfl) (by kernel_rfl) (by kernel_rfl) (fun _ _ _ h => h) (Or.inl ⟨by rfl, ?_⟩) (Kp.refl _) ?_
                  rotate_left 1
                  · intro w5 hSw
                    go_simp; all_goals (with_reducible rfl)
                  try simp only [Act.put, List.setIfInBounds_toArray, List.set_cons_zero, List.set_cons_succ]
                  refine wpAnyH_take (i := 3) (oi := { dst := some 64, op := Go.Op.indexAddr 31 (Go.Operand.tmp 62) (Go.Operand.tmp 63), type := 0, pos := "ref.go:65", after := #[{ on := 1, ground := Go.Ground.data }, { on := 2, ground := Go.Ground.data }], guard := none }) (v := ?_) rfl (by kernel_rfl) (by kernel_rfl) (by kernel_rfl) (fun _ _ _ h => h) (Or.inl ⟨by rfl, ?_⟩) (Kp.refl _) ?_
                  rotate_left 1
                  · intro w5 hSw
                    have q5 : (1 : Int) < 5 := by decide
                    go_simp; all_goals (with_reducible rfl)
                  try simp only [Act.put, List.setIfInBounds_toArray, List.set_cons_zero, List.set_cons_succ]
                  refine wpAnyH_take (i := 4) (oi := { dst := some 65, op := Go.Op.load 3 (Go.Operand.tmp 64), type := 3, pos := "ref.go:65", after := #[{ on := 3, ground := Go.Ground.data }], guard := none }) (v := ?_) rfl (by kernel_rfl) (by kernel_rfl) (by kernel_rfl) (fun _ _ _ h => h) (Or.inl ⟨by rfl, ?_⟩) (Kp.refl _) ?_
                  rotate_left 1
                  · intro w5 hSw
                    have q : w5.cell? ⟨g, 1, none⟩ = some (.int .i64 0) := (HU2.out.below hSw HU2.out.lt).cell 1
                    go_simp; all_goals (with_reducible rfl)
                  try simp only [Act.put, List.setIfInBounds_toArray, List.set_cons_zero, List.set_cons_succ]
                  refine wpAnyH_take (i := 5) (oi := { dst := some 66, op := Go.Op.move (Go.Operand.tmp 0), type := 9, pos := "ref.go:65", after := #[], guard := none }) (v := ?_) rfl (by kernel_rfl) (by kernel_rfl) (by kernel_rfl) (fun _ _ _ h => h) (Or.inl ⟨by rfl, ?_⟩) (Kp.refl _) ?_
                  rotate_left 1
                  · intro w5 hSw
                    go_simp; all_goals (with_reducible rfl)
                  try simp only [Act.put, List.setIfInBounds_toArray, List.set_cons_zero, List.set_cons_succ]
                  refine wpAnyH_take (i := 6) (oi := { dst := some 67, op := Go.Op.move (Go.Operand.tmp 6), type := 3, pos := "ref.go:65", after := #[], guard := none }) (v := ?_) rfl (by kernel_rfl) (by kernel_rfl) (by kernel_rfl) (fun _ _ _ h => h) (Or.inl ⟨by rfl, ?_⟩) (Kp.refl _) ?_
                  rotate_left 1
                  · intro w5 hSw
                    go_simp; all_goals (with_reducible rfl)
                  try simp only [Act.put, List.setIfInBounds_toArray, List.set_cons_zero, List.set_cons_succ]
                  refine wpAnyH_take (i := 7) (oi := { dst := some 68, op := Go.Op.index 9 (Go.Operand.tmp 66) (Go.Operand.tmp 67), type := 5, pos := "ref.go:65", after := #[{ on := 5, ground := Go.Ground.data }, { on := 6, ground := Go.Ground.data }], guard := none }) (v := ?_) rfl (by kernel_rfl) (by kernel_rfl) (by kernel_rfl) (fun _ _ _ h => h) (Or.inl ⟨by rfl, ?_⟩) (Kp.refl _) ?_
                  rotate_left 1
                  · intro w5 hSw
                    have gk : (1 : Int) < (s.size : Int) := HsI.out
                    have hg2 := Hc.out
                    go_simp; all_goals (with_reducible rfl)
                  try simp only [Act.put, List.setIfInBounds_toArray, List.set_cons_zero, List.set_cons_succ]
                  refine wpAnyH_take (i := 8) (oi := { dst := some 69, op := Go.Op.convert 5 3 (Go.Operand.tmp 68), type := 3, pos := "ref.go:65", after := #[{ on := 7, ground := Go.Ground.data }], guard := none }) (v := ?_) rfl (by kernel_rfl) (by kernel_rfl) (by kernel_rfl) (fun _ _ _ h => h) (Or.inl ⟨by rfl, ?_⟩) (Kp.refl _) ?_
                  rotate_left 1
                  · intro w5 hSw
                    have hw := Hw1.out
                    go_simp; all_goals (with_reducible rfl)
                  try simp only [Act.put, List.setIfInBounds_toArray, List.set_cons_zero, List.set_cons_succ]
                  refine wpAnyH_take (i := 9) (oi := { dst := some 70, op := Go.Op.binOp Go.BinOp.sub 3 (Go.Operand.tmp 69) (Go.Operand.const (Go.Value.int Go.IntKind.i64 48)) 3, type := 3, pos := "ref.go:65", after := #[{ on := 8, ground := Go.Ground.data }], guard := none }) (v := ?_) rfl (by kernel_rfl) (by kernel_rfl) (by kernel_rfl) (fun _ _ _ h => h) (Or.inl ⟨by rfl, ?_⟩) (Kp.refl _) ?_
                  rotate_left 1
                  · intro w5 hSw
                    have hd := Hd.out
                    go_simp; all_goals (with_reducible rfl)
                  try simp only [Act.put, List.setIfInBounds_toArray, List.set_cons_zero, List.set_cons_succ]
                  refine wpAnyH_take (i := 10) (oi := { dst := some 71, op := Go.Op.binOp Go.BinOp.mul 3 (Go.Operand.tmp 65) (Go.Operand.tmp 70) 3, type := 3, pos := "ref.go:65", after := #[{ on := 4, ground := Go.Ground.data }, { on := 9, ground := Go.Ground.data }], guard := none }) (v := ?_) rfl (by kernel_rfl) (by kernel_rfl) (by kernel_rfl) (fun _ _ _ h => h) (Or.inl ⟨by rfl, ?_⟩) (Kp.refl _) ?_
                  rotate_left 1
                  · intro w5 hSw
                    have hm := Hm.out
                    have hz : IntKind.i64.wrap (0 : Int) = 0 := by decide
                    go_simp; all_goals (with_reducible rfl)
                  try simp only [Act.put, List.setIfInBounds_toArray, List.set_cons_zero, List.set_cons_succ]
                  refine wpAnyH_take (i := 11) (oi := { dst := some 72, op := Go.Op.binOp Go.BinOp.add 3 (Go.Operand.tmp 61) (Go.Operand.tmp 71) 3, type := 3, pos := "ref.go:65", after := #[{ on := 0, ground := Go.Ground.data }, { on := 10, ground := Go.Ground.data }], guard := none }) (v := ?_) rfl (by kernel_rfl) (by kernel_rfl) (by kernel_rfl) (fun _ _ _ h => h) (Or.inl ⟨by rfl, ?_⟩) (Kp.refl _) ?_
                  rotate_left 1
                  · intro w5 hSw
                    have hn := Hn2.out
                    have hz : IntKind.i64.wrap (0 : Int) = 0 := by decide
                    have hnn : IntKind.i64.wrap n = n := Hnn.out
                    go_simp; all_goals (with_reducible rfl)
                  try simp only [Act.put, List.setIfInBounds_toArray, List.set_cons_zero, List.set_cons_succ]
                  refine wpAnyH_take (i := 12) (oi := { dst := some 4, op := Go.Op.assign (Go.Operand.tmp 72), type := 3, pos := "ref.go:65", after := #[{ on := 11, ground := Go.Ground.data }, { on := 0, ground := Go.Ground.phase }, { on := 1, ground := Go.Ground.phase }, { on := 2, ground := Go.Ground.phase }, { on := 3, ground := Go.Ground.phase }, { on := 4, ground := Go.Ground.phase }, { on := 5, ground := Go.Ground.phase }, { on := 6, ground := Go.Ground.phase }, { on := 7, ground := Go.Ground.phase }, { on := 8, ground := Go.Ground.phase }, { on := 9, ground := Go.Ground.phase }, { on := 10, ground := Go.Ground.phase }, { on := 11, ground := Go.Ground.phase }], guard := none }) (v := ?_) rfl (by kernel_rfl) (by kernel_rfl) (by kernel_rfl) (fun _ _ _ h => h) (Or.inl ⟨by rfl, ?_⟩) (Kp.refl _) ?_
                  rotate_left 1
                  · intro w5 hSw
                    go_simp; all_goals (with_reducible rfl)
                  try simp only [Act.put, List.setIfInBounds_toArray, List.set_cons_zero, List.set_cons_succ]
                  refine wpAnyH_done (by kernel_rfl) ?_ _
                  go_wp2_with fail
                  go_roundw
                  case rel => exact ⟨2, n2, by omega, by omega, rfl, by first | rfl | rw [Hn0.out Hm0.out] | simp [Hn0.out Hm0.out], Hb2.out.1, Hb2.out.2, HQ3, HU2, HB2⟩
                  case measure => simp [RowKit.intOf]; omega
                · have n1 : ((c : Int) != 46) = true := bne_iff_ne.mpr (by omega)
                  have n2 : ((c : Int) == 46) = false := beq_eq_false_iff_ne.mpr (by omega)
                  have HQ3 : Hid (Q = (0, false)) := by show _ = _; rw [HQ.out]; show goQ (bs s) (4 + 1) 1 n = _; exact goQ_bad hil (by rw [bad_dot (c := c) hcg]; exact decide_eq_true hq)
                  have k1 : (1 : Int) < (s.size : Int) := by omega
                  clear HQ hcg hil
                  rw [show ((1 : Nat) : Int) = 1 from rfl] at *
                  go_wp2_with fail
                  exact bodyPost_ret (v := .tuple #[.int .i64 0, .bool false]) (by simp [results, Tryd.results6, go_sem]) rfl ⟨by rw [HQ3.out], HB.out⟩
              · by_cases hq1 : c < 48
                · have n1 : decide ((c : Int) < 48) = true := decide_eq_true (by omega)
                  have HQ3 : Hid (Q = (0, false)) := by show _ = _; rw [HQ.out]; show goQ (bs s) (3 + 1) 2 n = _; exact goQ_bad hil (by rw [bad_dig (c := c) (by omega) hcg]; exact decide_eq_true (by omega))
                  have k1 : (2 : Int) < (s.size : Int) := by omega
                  clear HQ hcg hil
                  rw [show ((2 : Nat) : Int) = 2 from rfl] at *
                  go_wp2_with fail
                  exact bodyPost_ret (v := .tuple #[.int .i64 0, .bool false]) (by simp [results, Tryd.results6, go_sem]) rfl ⟨by rw [HQ3.out], HB.out⟩
                · have n1 : decide ((c : Int) < 48) = false := decide_eq_false (by omega)
                  by_cases hq2 : 57 < c
                  · have n2 : decide (57 < (c : Int)) = true := decide_eq_true (by omega)
                    have HQ3 : Hid (Q = (0, false)) := by show _ = _; rw [HQ.out]; show goQ (bs s) (3 + 1) 2 n = _; exact goQ_bad hil (by rw [bad_dig (c := c) (by omega) hcg]; exact decide_eq_true (by omega))
                    have k1 : (2 : Int) < (s.size : Int) := by omega
                    clear HQ hcg hil
                    rw [show ((2 : Nat) : Int) = 2 from rfl] at *
                    go_wp2_with fail
                    exact bodyPost_ret (v := .tuple #[.int .i64 0, .bool false]) (by simp [results, Tryd.results6, go_sem]) rfl ⟨by rw [HQ3.out], HB.out⟩
                  · have n2 : decide (57 < (c : Int)) = false := decide_eq_false (by omega)
                    have HQ3 : Hid (Q = goQ (bs s) (6 - 3) 3 (n + 100 * ((c : Int) - 48))) := by show _ = _; rw [HQ.out]; show goQ (bs s) (3 + 1) 2 n = _; rw [goQ_go hil (by rw [bad_dig (c := c) (by omega) hcg]; exact decide_eq_false (by omega)), hcg]; rfl
                    have HsI : Hid ((2 : Int) < (s.size : Int)) := by show _ < _; omega
                    have Hc := Lib.hid hc
                    have Hw1 : Hid (IntKind.i64.wrap (c : Int) = (c : Int)) := IntWalk.i64_in _ ⟨by omega, by omega⟩
                    obtain ⟨d, hd⟩ : ∃ d, d = (c : Int) - 48 := ⟨_, rfl⟩
                    obtain ⟨m, hm⟩ : ∃ m, m = 100 * d := ⟨_, rfl⟩
                    obtain ⟨n2, hn2⟩ : ∃ k, k = n + m := ⟨_, rfl⟩
                    have hb2 : 0 ≤ n2 ∧ n2 ≤ 1000 + 900 * (((3 : Nat) : Int) - 1) := by omega
                    have Hd : Hid (IntKind.i64.wrap ((c : Int) - 48) = d) := by show _ = _; rw [← hd]; exact IntWalk.i64_in _ ⟨by omega, by omega⟩
                    have Hm : Hid (IntKind.i64.wrap (100 * d) = m) := by show _ = _; rw [← hm]; exact IntWalk.i64_in _ ⟨by omega, by omega⟩
                    have Hn2 : Hid (IntKind.i64.wrap (n + m) = n2) := by show _ = _; rw [← hn2]; exact IntWalk.i64_in _ ⟨by omega, by omega⟩
                    rw [← hd, ← hm, ← hn2] at HQ3
                    have Hnn : Hid (IntKind.i64.wrap n = n) := IntWalk.i64_in _ ⟨by omega, by omega⟩
                    have Hn0 : Hid (m = 0 → n2 = n) := fun h => by rw [hn2, h]; omega
                    have Hb2 := Lib.hid hb2
                    have Hm0 := trivial
                    have k1 : (2 : Int) < (s.size : Int) := HsI.out
                    have HB2 : Hid (Below w.heap.size w wr.drew) := ⟨HB.out.os, HB.out.tape, HB.out.output, HB.out.size, HB.out.block⟩
                    have HU2 : Hid (Whole wr.drew g 3 #[.int .i64 0, .int .i64 0, .int .i64 100, .int .i64 10, .int .i64 1]) := HU.out
                    clear hd hm hn2 hb2 HQ hcg hil
                    rw [show ((2 : Nat) : Int) = 2 from rfl] at *
                    go_upto_region 10 with (fail)
                    refine held_start (by kernel_rfl) ?_
                    refine wpAnyH_take (i := 0) (oi := { dst := some 61, op := Go.Op.move (Go.Operand.tmp 4), type := 3, pos := "ref.go:65", after := #[], guard := none }) (v := ?_) rfl (by kernel_rfl) (by kernel_rfl) (by kernel_rfl) (fun _ _ _ h => h) (Or.inl ⟨by rfl, ?_⟩) (Kp.refl _) ?_
                    rotate_left 1
                    · intro w5 hSw
                      go_simp; all_goals (with_reducible rfl)
                    try simp only [Act.put, List.setIfInBounds_toArray, List.set_cons_zero, List.set_cons_succ]
                    refine wpAnyH_take (i := 1) (oi := { dst := some 62, op := Go.Op.move (Go.Operand.tmp 5), type := 31, pos := "ref.go:65", after := #[], guard := none }) (v := ?_) rfl (by kernel_rfl) (by kernel_rfl) (by kernel_rfl) (fun _ _ _ h => h) (Or.inl ⟨by rfl, ?_⟩) (Kp.refl _) ?_
                    rotate_left 1
                    · intro w5 hSw
                      go_simp; all_goals (with_reducible rfl)
                    try simp only [Act.put, List.setIfInBounds_toArray, List.set_cons_zero, List.set_cons_succ]
                    refine wpAnyH_take (i := 2) (oi := { dst := some 63, op := Go.Op.move (Go.Operand.tmp 6), type := 3, pos := "ref.go:65", after := #[], guard := none }) (v := ?_) rfl (by kernel_rfl) (by kernel_rfl) (by kernel_rfl) (fun _ _ _ h => h) (Or.inl ⟨by rfl, ?_⟩) (Kp.refl _) ?_
                    rotate_left 1
                    · intro w5 hSw
                      go_simp; all_goals (with_reducible rfl)
                    try simp only [Act.put, List.setIfInBounds_toArray, List.set_cons_zero, List.set_cons_succ]
                    refine wpAnyH_take (i := 3) (oi := { dst := some 64, op := Go.Op.indexAddr 31 (Go.Operand.tmp 62) (Go.Operand.tmp 63), type := 0, pos := "ref.go:65", after := #[{ on := 1, ground := Go.Ground.data }, { on := 2, ground := Go.Ground.data }], guard := none }) (v := ?_) rfl (by kernel_rfl) (by kernel_rfl) (by kernel_rfl) (fun _ _ _ h => h) (Or.inl ⟨by rfl, ?_⟩) (Kp.refl _) ?_
                    rotate_left 1
                    · intro w5 hSw
                      have q5 : (2 : Int) < 5 := by decide
                      go_simp; all_goals (with_reducible rfl)
                    try simp only [Act.put, List.setIfInBounds_toArray, List.set_cons_zero, List.set_cons_succ]
                    refine wpAnyH_take (i := 4) (oi := { dst := some 65, op := Go.Op.load 3 (Go.Operand.tmp 64), type := 3, pos := "ref.go:65", after := #[{ on := 3, ground := Go.Ground.data }], guard := none }) (v := ?_) rfl (by kernel_rfl) (by kernel_rfl) (by kernel_rfl) (fun _ _ _ h => h) (Or.inl ⟨by rfl, ?_⟩) (Kp.refl _) ?_
                    rotate_left 1
                    · intro w5 hSw
                      have q : w5.cell? ⟨g, 2, none⟩ = some (.int .i64 100) := (HU2.out.below hSw HU2.out.lt).cell 2
                      go_simp; all_goals (with_reducible rfl)
                    try simp only [Act.put, List.setIfInBounds_toArray, List.set_cons_zero, List.set_cons_succ]
                    refine wpAnyH_take (i := 5) (oi := { dst := some 66, op := Go.Op.move (Go.Operand.tmp 0), type := 9, pos := "ref.go:65", after := #[], guard := none }) (v := ?_) rfl (by kernel_rfl) (by kernel_rfl) (by kernel_rfl) (fun _ _ _ h => h) (Or.inl ⟨by rfl, ?_⟩) (Kp.refl _) ?_
                    rotate_left 1
                    · intro w5 hSw
                      go_simp; all_goals (with_reducible rfl)
                    try simp only [Act.put, List.setIfInBounds_toArray, List.set_cons_zero, List.set_cons_succ]
                    refine wpAnyH_take (i := 6) (oi := { dst := some 67, op := Go.Op.move (Go.Operand.tmp 6), type := 3, pos := "ref.go:65", after := #[], guard := none }) (v := ?_) rfl (by kernel_rfl) (by kernel_rfl) (by kernel_rfl) (fun _ _ _ h => h) (Or.inl ⟨by rfl, ?_⟩) (Kp.refl _) ?_
                    rotate_left 1
                    · intro w5 hSw
                      go_simp; all_goals (with_reducible rfl)
                    try simp only [Act.put, List.setIfInBounds_toArray, List.set_cons_zero, List.set_cons_succ]
                    refine wpAnyH_take (i := 7) (oi := { dst := some 68, op := Go.Op.index 9 (Go.Operand.tmp 66) (Go.Operand.tmp 67), type := 5, pos := "ref.go:65", after := #[{ on := 5, ground := Go.Ground.data }, { on := 6, ground := Go.Ground.data }], guard := none }) (v := ?_) rfl (by kernel_rfl) (by kernel_rfl) (by kernel_rfl) (fun _ _ _ h => h) (Or.inl ⟨by rfl, ?_⟩) (Kp.refl _) ?_
                    rotate_left 1
                    · intro w5 hSw
                      have gk : (2 : Int) < (s.size : Int) := HsI.out
                      have hg2 := Hc.out
                      go_simp; all_goals (with_reducible rfl)
                    try simp only [Act.put, List.setIfInBounds_toArray, List.set_cons_zero, List.set_cons_succ]
                    refine wpAnyH_take (i := 8) (oi := { dst := some 69, op := Go.Op.convert 5 3 (Go.Operand.tmp 68), type := 3, pos := "ref.go:65", after := #[{ on := 7, ground := Go.Ground.data }], guard := none }) (v := ?_) rfl (by kernel_rfl) (by kernel_rfl) (by kernel_rfl) (fun _ _ _ h => h) (Or.inl ⟨by rfl, ?_⟩) (Kp.refl _) ?_
                    rotate_left 1
                    · intro w5 hSw
                      have hw := Hw1.out
                      go_simp; all_goals (with_reducible rfl)
                    try simp only [Act.put, List.setIfInBounds_toArray, List.set_cons_zero, List.set_cons_succ]
                    refine wpAnyH_take (i := 9) (oi := { dst := some 70, op := Go.Op.binOp Go.BinOp.sub 3 (Go.Operand.tmp 69) (Go.Operand.const (Go.Value.int Go.IntKind.i64 48)) 3, type := 3, pos := "ref.go:65", after := #[{ on := 8, ground := Go.Ground.data }], guard := none }) (v := ?_) rfl (by kernel_rfl) (by kernel_rfl) (by kernel_rfl) (fun _ _ _ h => h) (Or.inl ⟨by rfl, ?_⟩) (Kp.refl _) ?_
                    rotate_left 1
                    · intro w5 hSw
                      have hd := Hd.out
                      go_simp; all_goals (with_reducible rfl)
                    try simp only [Act.put, List.setIfInBounds_toArray, List.set_cons_zero, List.set_cons_succ]
                    refine wpAnyH_take (i := 10) (oi := { dst := some 71, op := Go.Op.binOp Go.BinOp.mul 3 (Go.Operand.tmp 65) (Go.Operand.tmp 70) 3, type := 3, pos := "ref.go:65", after := #[{ on := 4, ground := Go.Ground.data }, { on := 9, ground := Go.Ground.data }], guard := none }) (v := ?_) rfl (by kernel_rfl) (by kernel_rfl) (by kernel_rfl) (fun _ _ _ h => h) (Or.inl ⟨by rfl, ?_⟩) (Kp.refl _) ?_
                    rotate_left 1
                    · intro w5 hSw
                      have hm := Hm.out
                      go_simp; all_goals (with_reducible rfl)
                    try simp only [Act.put, List.setIfInBounds_toArray, List.set_cons_zero, List.set_cons_succ]
                    refine wpAnyH_take (i := 11) (oi := { dst := some 72, op := Go.Op.binOp Go.BinOp.add 3 (Go.Operand.tmp 61) (Go.Operand.tmp 71) 3, type := 3, pos := "ref.go:65", after := #[{ on := 0, ground := Go.Ground.data }, { on := 10, ground := Go.Ground.data }], guard := none }) (v := ?_) rfl (by kernel_rfl) (by kernel_rfl) (by kernel_rfl) (fun _ _ _ h => h) (Or.inl ⟨by rfl, ?_⟩) (Kp.refl _) ?_
                    rotate_left 1
                    · intro w5 hSw
                      have hn := Hn2.out
                      go_simp; all_goals (with_reducible rfl)
                    try simp only [Act.put, List.setIfInBounds_toArray, List.set_cons_zero, List.set_cons_succ]
                    refine wpAnyH_take (i := 12) (oi := { dst := some 4, op := Go.Op.assign (Go.Operand.tmp 72), type := 3, pos := "ref.go:65", after := #[{ on := 11, ground := Go.Ground.data }, { on := 0, ground := Go.Ground.phase }, { on := 1, ground := Go.Ground.phase }, { on := 2, ground := Go.Ground.phase }, { on := 3, ground := Go.Ground.phase }, { on := 4, ground := Go.Ground.phase }, { on := 5, ground := Go.Ground.phase }, { on := 6, ground := Go.Ground.phase }, { on := 7, ground := Go.Ground.phase }, { on := 8, ground := Go.Ground.phase }, { on := 9, ground := Go.Ground.phase }, { on := 10, ground := Go.Ground.phase }, { on := 11, ground := Go.Ground.phase }], guard := none }) (v := ?_) rfl (by kernel_rfl) (by kernel_rfl) (by kernel_rfl) (fun _ _ _ h => h) (Or.inl ⟨by rfl, ?_⟩) (Kp.refl _) ?_
                    rotate_left 1
                    · intro w5 hSw
                      go_simp; all_goals (with_reducible rfl)
                    try simp only [Act.put, List.setIfInBounds_toArray, List.set_cons_zero, List.set_cons_succ]
                    refine wpAnyH_done (by kernel_rfl) ?_ _
                    go_wp2_with fail
                    go_roundw
                    case rel => exact ⟨3, n2, by omega, by omega, rfl, rfl, Hb2.out.1, Hb2.out.2, HQ3, HU2, HB2⟩
                    case measure => simp [RowKit.intOf]; omega
              · by_cases hq1 : c < 48
                · have n1 : decide ((c : Int) < 48) = true := decide_eq_true (by omega)
                  have HQ3 : Hid (Q = (0, false)) := by show _ = _; rw [HQ.out]; show goQ (bs s) (2 + 1) 3 n = _; exact goQ_bad hil (by rw [bad_dig (c := c) (by omega) hcg]; exact decide_eq_true (by omega))
                  have k1 : (3 : Int) < (s.size : Int) := by omega
                  clear HQ hcg hil
                  rw [show ((3 : Nat) : Int) = 3 from rfl] at *
                  go_wp2_with fail
                  exact bodyPost_ret (v := .tuple #[.int .i64 0, .bool false]) (by simp [results, Tryd.results6, go_sem]) rfl ⟨by rw [HQ3.out], HB.out⟩
                · have n1 : decide ((c : Int) < 48) = false := decide_eq_false (by omega)
                  by_cases hq2 : 57 < c
                  · have n2 : decide (57 < (c : Int)) = true := decide_eq_true (by omega)
                    have HQ3 : Hid (Q = (0, false)) := by show _ = _; rw [HQ.out]; show goQ (bs s) (2 + 1) 3 n = _; exact goQ_bad hil (by rw [bad_dig (c := c) (by omega) hcg]; exact decide_eq_true (by omega))
                    have k1 : (3 : Int) < (s.size : Int) := by omega
                    clear HQ hcg hil
                    rw [show ((3 : Nat) : Int) = 3 from rfl] at *
                    go_wp2_with fail
                    exact bodyPost_ret (v := .tuple #[.int .i64 0, .bool false]) (by simp [results, Tryd.results6, go_sem]) rfl ⟨by rw [HQ3.out], HB.out⟩
                  · have n2 : decide (57 < (c : Int)) = false := decide_eq_false (by omega)
                    have HQ3 : Hid (Q = goQ (bs s) (6 - 4) 4 (n + 10 * ((c : Int) - 48))) := by show _ = _; rw [HQ.out]; show goQ (bs s) (2 + 1) 3 n = _; rw [goQ_go hil (by rw [bad_dig (c := c) (by omega) hcg]; exact decide_eq_false (by omega)), hcg]; rfl
                    have HsI : Hid ((3 : Int) < (s.size : Int)) := by show _ < _; omega
                    have Hc := Lib.hid hc
                    have Hw1 : Hid (IntKind.i64.wrap (c : Int) = (c : Int)) := IntWalk.i64_in _ ⟨by omega, by omega⟩
                    obtain ⟨d, hd⟩ : ∃ d, d = (c : Int) - 48 := ⟨_, rfl⟩
                    obtain ⟨m, hm⟩ : ∃ m, m = 10 * d := ⟨_, rfl⟩
                    obtain ⟨n2, hn2⟩ : ∃ k, k = n + m := ⟨_, rfl⟩
                    have hb2 : 0 ≤ n2 ∧ n2 ≤ 1000 + 900 * (((4 : Nat) : Int) - 1) := by omega
                    have Hd : Hid (IntKind.i64.wrap ((c : Int) - 48) = d) := by show _ = _; rw [← hd]; exact IntWalk.i64_in _ ⟨by omega, by omega⟩
                    have Hm : Hid (IntKind.i64.wrap (10 * d) = m) := by show _ = _; rw [← hm]; exact IntWalk.i64_in _ ⟨by omega, by omega⟩
                    have Hn2 : Hid (IntKind.i64.wrap (n + m) = n2) := by show _ = _; rw [← hn2]; exact IntWalk.i64_in _ ⟨by omega, by omega⟩
                    rw [← hd, ← hm, ← hn2] at HQ3
                    have Hnn : Hid (IntKind.i64.wrap n = n) := IntWalk.i64_in _ ⟨by omega, by omega⟩
                    have Hn0 : Hid (m = 0 → n2 = n) := fun h => by rw [hn2, h]; omega
                    have Hb2 := Lib.hid hb2
                    have Hm0 := trivial
                    have k1 : (3 : Int) < (s.size : Int) := HsI.out
                    have HB2 : Hid (Below w.heap.size w wr.drew) := ⟨HB.out.os, HB.out.tape, HB.out.output, HB.out.size, HB.out.block⟩
                    have HU2 : Hid (Whole wr.drew g 3 #[.int .i64 0, .int .i64 0, .int .i64 100, .int .i64 10, .int .i64 1]) := HU.out
                    clear hd hm hn2 hb2 HQ hcg hil
                    rw [show ((3 : Nat) : Int) = 3 from rfl] at *
                    go_upto_region 10 with (fail)
                    refine held_start (by kernel_rfl) ?_
                    refine wpAnyH_take (i := 0) (oi := { dst := some 61, op := Go.Op.move (Go.Operand.tmp 4), type := 3, pos := "ref.go:65", after := #[], guard := none }) (v := ?_) rfl (by kernel_rfl) (by kernel_rfl) (by kernel_rfl) (fun _ _ _ h => h) (Or.inl ⟨by rfl, ?_⟩) (Kp.refl _) ?_
                    rotate_left 1
                    · intro w5 hSw
                      go_simp; all_goals (with_reducible rfl)
                    try simp only [Act.put, List.setIfInBounds_toArray, List.set_cons_zero, List.set_cons_succ]
                    refine wpAnyH_take (i := 1) (oi := { dst := some 62, op := Go.Op.move (Go.Operand.tmp 5), type := 31, pos := "ref.go:65", after := #[], guard := none }) (v := ?_) rfl (by kernel_rfl) (by kernel_rfl) (by kernel_rfl) (fun _ _ _ h => h) (Or.inl ⟨by rfl, ?_⟩) (Kp.refl _) ?_
                    rotate_left 1
                    · intro w5 hSw
                      go_simp; all_goals (with_reducible rfl)
                    try simp only [Act.put, List.setIfInBounds_toArray, List.set_cons_zero, List.set_cons_succ]
                    refine wpAnyH_take (i := 2) (oi := { dst := some 63, op := Go.Op.move (Go.Operand.tmp 6), type := 3, pos := "ref.go:65", after := #[], guard := none }) (v := ?_) rfl (by kernel_rfl) (by kernel_rfl) (by kernel_rfl) (fun _ _ _ h => h) (Or.inl ⟨by rfl, ?_⟩) (Kp.refl _) ?_
                    rotate_left 1
                    · intro w5 hSw
                      go_simp; all_goals (with_reducible rfl)
                    try simp only [Act.put, List.setIfInBounds_toArray, List.set_cons_zero, List.set_cons_succ]
                    refine wpAnyH_take (i := 3) (oi := { dst := some 64, op := Go.Op.indexAddr 31 (Go.Operand.tmp 62) (Go.Operand.tmp 63), type := 0, pos := "ref.go:65", after := #[{ on := 1, ground := Go.Ground.data }, { on := 2, ground := Go.Ground.data }], guard := none }) (v := ?_) rfl (by kernel_rfl) (by kernel_rfl) (by kernel_rfl) (fun _ _ _ h => h) (Or.inl ⟨by rfl, ?_⟩) (Kp.refl _) ?_
                    rotate_left 1
                    · intro w5 hSw
                      have q5 : (3 : Int) < 5 := by decide
                      go_simp; all_goals (with_reducible rfl)
                    try simp only [Act.put, List.setIfInBounds_toArray, List.set_cons_zero, List.set_cons_succ]
                    refine wpAnyH_take (i := 4) (oi := { dst := some 65, op := Go.Op.load 3 (Go.Operand.tmp 64), type := 3, pos := "ref.go:65", after := #[{ on := 3, ground := Go.Ground.data }], guard := none }) (v := ?_) rfl (by kernel_rfl) (by kernel_rfl) (by kernel_rfl) (fun _ _ _ h => h) (Or.inl ⟨by rfl, ?_⟩) (Kp.refl _) ?_
                    rotate_left 1
                    · intro w5 hSw
                      have q : w5.cell? ⟨g, 3, none⟩ = some (.int .i64 10) := (HU2.out.below hSw HU2.out.lt).cell 3
                      go_simp; all_goals (with_reducible rfl)
                    try simp only [Act.put, List.setIfInBounds_toArray, List.set_cons_zero, List.set_cons_succ]
                    refine wpAnyH_take (i := 5) (oi := { dst := some 66, op := Go.Op.move (Go.Operand.tmp 0), type := 9, pos := "ref.go:65", after := #[], guard := none }) (v := ?_) rfl (by kernel_rfl) (by kernel_rfl) (by kernel_rfl) (fun _ _ _ h => h) (Or.inl ⟨by rfl, ?_⟩) (Kp.refl _) ?_
                    rotate_left 1
                    · intro w5 hSw
                      go_simp; all_goals (with_reducible rfl)
                    try simp only [Act.put, List.setIfInBounds_toArray, List.set_cons_zero, List.set_cons_succ]
                    refine wpAnyH_take (i := 6) (oi := { dst := some 67, op := Go.Op.move (Go.Operand.tmp 6), type := 3, pos := "ref.go:65", after := #[], guard := none }) (v := ?_) rfl (by kernel_rfl) (by kernel_rfl) (by kernel_rfl) (fun _ _ _ h => h) (Or.inl ⟨by rfl, ?_⟩) (Kp.refl _) ?_
                    rotate_left 1
                    · intro w5 hSw
                      go_simp; all_goals (with_reducible rfl)
                    try simp only [Act.put, List.setIfInBounds_toArray, List.set_cons_zero, List.set_cons_succ]
                    refine wpAnyH_take (i := 7) (oi := { dst := some 68, op := Go.Op.index 9 (Go.Operand.tmp 66) (Go.Operand.tmp 67), type := 5, pos := "ref.go:65", after := #[{ on := 5, ground := Go.Ground.data }, { on := 6, ground := Go.Ground.data }], guard := none }) (v := ?_) rfl (by kernel_rfl) (by kernel_rfl) (by kernel_rfl) (fun _ _ _ h => h) (Or.inl ⟨by rfl, ?_⟩) (Kp.refl _) ?_
                    rotate_left 1
                    · intro w5 hSw
                      have gk : (3 : Int) < (s.size : Int) := HsI.out
                      have hg2 := Hc.out
                      go_simp; all_goals (with_reducible rfl)
                    try simp only [Act.put, List.setIfInBounds_toArray, List.set_cons_zero, List.set_cons_succ]
                    refine wpAnyH_take (i := 8) (oi := { dst := some 69, op := Go.Op.convert 5 3 (Go.Operand.tmp 68), type := 3, pos := "ref.go:65", after := #[{ on := 7, ground := Go.Ground.data }], guard := none }) (v := ?_) rfl (by kernel_rfl) (by kernel_rfl) (by kernel_rfl) (fun _ _ _ h => h) (Or.inl ⟨by rfl, ?_⟩) (Kp.refl _) ?_
                    rotate_left 1
                    · intro w5 hSw
                      have hw := Hw1.out
                      go_simp; all_goals (with_reducible rfl)
                    try simp only [Act.put, List.setIfInBounds_toArray, List.set_cons_zero, List.set_cons_succ]
                    refine wpAnyH_take (i := 9) (oi := { dst := some 70, op := Go.Op.binOp Go.BinOp.sub 3 (Go.Operand.tmp 69) (Go.Operand.const (Go.Value.int Go.IntKind.i64 48)) 3, type := 3, pos := "ref.go:65", after := #[{ on := 8, ground := Go.Ground.data }], guard := none }) (v := ?_) rfl (by kernel_rfl) (by kernel_rfl) (by kernel_rfl) (fun _ _ _ h => h) (Or.inl ⟨by rfl, ?_⟩) (Kp.refl _) ?_
                    rotate_left 1
                    · intro w5 hSw
                      have hd := Hd.out
                      go_simp; all_goals (with_reducible rfl)
                    try simp only [Act.put, List.setIfInBounds_toArray, List.set_cons_zero, List.set_cons_succ]
                    refine wpAnyH_take (i := 10) (oi := { dst := some 71, op := Go.Op.binOp Go.BinOp.mul 3 (Go.Operand.tmp 65) (Go.Operand.tmp 70) 3, type := 3, pos := "ref.go:65", after := #[{ on := 4, ground := Go.Ground.data }, { on := 9, ground := Go.Ground.data }], guard := none }) (v := ?_) rfl (by kernel_rfl) (by kernel_rfl) (by kernel_rfl) (fun _ _ _ h => h) (Or.inl ⟨by rfl, ?_⟩) (Kp.refl _) ?_
                    rotate_left 1
                    · intro w5 hSw
                      have hm := Hm.out
                      go_simp; all_goals (with_reducible rfl)
                    try simp only [Act.put, List.setIfInBounds_toArray, List.set_cons_zero, List.set_cons_succ]
                    refine wpAnyH_take (i := 11) (oi := { dst := some 72, op := Go.Op.binOp Go.BinOp.add 3 (Go.Operand.tmp 61) (Go.Operand.tmp 71) 3, type := 3, pos := "ref.go:65", after := #[{ on := 0, ground := Go.Ground.data }, { on := 10, ground := Go.Ground.data }], guard := none }) (v := ?_) rfl (by kernel_rfl) (by kernel_rfl) (by kernel_rfl) (fun _ _ _ h => h) (Or.inl ⟨by rfl, ?_⟩) (Kp.refl _) ?_
                    rotate_left 1
                    · intro w5 hSw
                      have hn := Hn2.out
                      go_simp; all_goals (with_reducible rfl)
                    try simp only [Act.put, List.setIfInBounds_toArray, List.set_cons_zero, List.set_cons_succ]
                    refine wpAnyH_take (i := 12) (oi := { dst := some 4, op := Go.Op.assign (Go.Operand.tmp 72), type := 3, pos := "ref.go:65", after := #[{ on := 11, ground := Go.Ground.data }, { on := 0, ground := Go.Ground.phase }, { on := 1, ground := Go.Ground.phase }, { on := 2, ground := Go.Ground.phase }, { on := 3, ground := Go.Ground.phase }, { on := 4, ground := Go.Ground.phase }, { on := 5, ground := Go.Ground.phase }, { on := 6, ground := Go.Ground.phase }, { on := 7, ground := Go.Ground.phase }, { on := 8, ground := Go.Ground.phase }, { on := 9, ground := Go.Ground.phase }, { on := 10, ground := Go.Ground.phase }, { on := 11, ground := Go.Ground.phase }], guard := none }) (v := ?_) rfl (by kernel_rfl) (by kernel_rfl) (by kernel_rfl) (fun _ _ _ h => h) (Or.inl ⟨by rfl, ?_⟩) (Kp.refl _) ?_
                    rotate_left 1
                    · intro w5 hSw
                      go_simp; all_goals (with_reducible rfl)
                    try simp only [Act.put, List.setIfInBounds_toArray, List.set_cons_zero, List.set_cons_succ]
                    refine wpAnyH_done (by kernel_rfl) ?_ _
                    go_wp2_with fail
                    go_roundw
                    case rel => exact ⟨4, n2, by omega, by omega, rfl, rfl, Hb2.out.1, Hb2.out.2, HQ3, HU2, HB2⟩
                    case measure => simp [RowKit.intOf]; omega
              · by_cases hq1 : c < 48
                · have n1 : decide ((c : Int) < 48) = true := decide_eq_true (by omega)
                  have HQ3 : Hid (Q = (0, false)) := by show _ = _; rw [HQ.out]; show goQ (bs s) (1 + 1) 4 n = _; exact goQ_bad hil (by rw [bad_dig (c := c) (by omega) hcg]; exact decide_eq_true (by omega))
                  have k1 : (4 : Int) < (s.size : Int) := by omega
                  clear HQ hcg hil
                  rw [show ((4 : Nat) : Int) = 4 from rfl] at *
                  go_wp2_with fail
                  exact bodyPost_ret (v := .tuple #[.int .i64 0, .bool false]) (by simp [results, Tryd.results6, go_sem]) rfl ⟨by rw [HQ3.out], HB.out⟩
                · have n1 : decide ((c : Int) < 48) = false := decide_eq_false (by omega)
                  by_cases hq2 : 57 < c
                  · have n2 : decide (57 < (c : Int)) = true := decide_eq_true (by omega)
                    have HQ3 : Hid (Q = (0, false)) := by show _ = _; rw [HQ.out]; show goQ (bs s) (1 + 1) 4 n = _; exact goQ_bad hil (by rw [bad_dig (c := c) (by omega) hcg]; exact decide_eq_true (by omega))
                    have k1 : (4 : Int) < (s.size : Int) := by omega
                    clear HQ hcg hil
                    rw [show ((4 : Nat) : Int) = 4 from rfl] at *
                    go_wp2_with fail
                    exact bodyPost_ret (v := .tuple #[.int .i64 0, .bool false]) (by simp [results, Tryd.results6, go_sem]) rfl ⟨by rw [HQ3.out], HB.out⟩
                  · have n2 : decide (57 < (c : Int)) = false := decide_eq_false (by omega)
                    have HQ3 : Hid (Q = goQ (bs s) (6 - 5) 5 (n + 1 * ((c : Int) - 48))) := by show _ = _; rw [HQ.out]; show goQ (bs s) (1 + 1) 4 n = _; rw [goQ_go hil (by rw [bad_dig (c := c) (by omega) hcg]; exact decide_eq_false (by omega)), hcg]; rfl
                    have HsI : Hid ((4 : Int) < (s.size : Int)) := by show _ < _; omega
                    have Hc := Lib.hid hc
                    have Hw1 : Hid (IntKind.i64.wrap (c : Int) = (c : Int)) := IntWalk.i64_in _ ⟨by omega, by omega⟩
                    obtain ⟨d, hd⟩ : ∃ d, d = (c : Int) - 48 := ⟨_, rfl⟩
                    obtain ⟨m, hm⟩ : ∃ m, m = 1 * d := ⟨_, rfl⟩
                    obtain ⟨n2, hn2⟩ : ∃ k, k = n + m := ⟨_, rfl⟩
                    have hb2 : 0 ≤ n2 ∧ n2 ≤ 1000 + 900 * (((5 : Nat) : Int) - 1) := by omega
                    have Hd : Hid (IntKind.i64.wrap ((c : Int) - 48) = d) := by show _ = _; rw [← hd]; exact IntWalk.i64_in _ ⟨by omega, by omega⟩
                    have Hm : Hid (IntKind.i64.wrap (1 * d) = m) := by show _ = _; rw [← hm]; exact IntWalk.i64_in _ ⟨by omega, by omega⟩
                    have Hn2 : Hid (IntKind.i64.wrap (n + m) = n2) := by show _ = _; rw [← hn2]; exact IntWalk.i64_in _ ⟨by omega, by omega⟩
                    rw [← hd, ← hm, ← hn2] at HQ3
                    have Hnn : Hid (IntKind.i64.wrap n = n) := IntWalk.i64_in _ ⟨by omega, by omega⟩
                    have Hn0 : Hid (m = 0 → n2 = n) := fun h => by rw [hn2, h]; omega
                    have Hb2 := Lib.hid hb2
                    have Hdd : Hid (IntKind.i64.wrap d = d ∧ IntKind.i64.wrap (n + d) = n2) := ⟨IntWalk.i64_in _ ⟨by omega, by omega⟩, by rw [hn2, hm, Int.one_mul]; exact IntWalk.i64_in _ ⟨by omega, by omega⟩⟩
                    have k1 : (4 : Int) < (s.size : Int) := HsI.out
                    have HB2 : Hid (Below w.heap.size w wr.drew) := ⟨HB.out.os, HB.out.tape, HB.out.output, HB.out.size, HB.out.block⟩
                    have HU2 : Hid (Whole wr.drew g 3 #[.int .i64 0, .int .i64 0, .int .i64 100, .int .i64 10, .int .i64 1]) := HU.out
                    clear hd hm hn2 hb2 HQ hcg hil
                    rw [show ((4 : Nat) : Int) = 4 from rfl] at *
                    go_upto_region 10 with (fail)
                    refine held_start (by kernel_rfl) ?_
                    refine wpAnyH_take (i := 0) (oi := { dst := some 61, op := Go.Op.move (Go.Operand.tmp 4), type := 3, pos := "ref.go:65", after := #[], guard := none }) (v := ?_) rfl (by kernel_rfl) (by kernel_rfl) (by kernel_rfl) (fun _ _ _ h => h) (Or.inl ⟨by rfl, ?_⟩) (Kp.refl _) ?_
                    rotate_left 1
                    · intro w5 hSw
                      go_simp; all_goals (with_reducible rfl)
                    try simp only [Act.put, List.setIfInBounds_toArray, List.set_cons_zero, List.set_cons_succ]
                    refine wpAnyH_take (i := 1) (oi := { dst := some 62, op := Go.Op.move (Go.Operand.tmp 5), type := 31, pos := "ref.go:65", after := #[], guard := none }) (v := ?_) rfl (by kernel_rfl) (by kernel_rfl) (by kernel_rfl) (fun _ _ _ h => h) (Or.inl ⟨by rfl, ?_⟩) (Kp.refl _) ?_
                    rotate_left 1
                    · intro w5 hSw
                      go_simp; all_goals (with_reducible rfl)
                    try simp only [Act.put, List.setIfInBounds_toArray, List.set_cons_zero, List.set_cons_succ]
                    refine wpAnyH_take (i := 2) (oi := { dst := some 63, op := Go.Op.move (Go.Operand.tmp 6), type := 3, pos := "ref.go:65", after := #[], guard := none }) (v := ?_) rfl (by kernel_rfl) (by kernel_rfl) (by kernel_rfl) (fun _ _ _ h => h) (Or.inl ⟨by rfl, ?_⟩) (Kp.refl _) ?_
                    rotate_left 1
                    · intro w5 hSw
                      go_simp; all_goals (with_reducible rfl)
                    try simp only [Act.put, List.setIfInBounds_toArray, List.set_cons_zero, List.set_cons_succ]
                    refine wpAnyH_take (i := 3) (oi := { dst := some 64, op := Go.Op.indexAddr 31 (Go.Operand.tmp 62) (Go.Operand.tmp 63), type := 0, pos := "ref.go:65", after := #[{ on := 1, ground := Go.Ground.data }, { on := 2, ground := Go.Ground.data }], guard := none }) (v := ?_) rfl (by kernel_rfl) (by kernel_rfl) (by kernel_rfl) (fun _ _ _ h => h) (Or.inl ⟨by rfl, ?_⟩) (Kp.refl _) ?_
                    rotate_left 1
                    · intro w5 hSw
                      have q5 : (4 : Int) < 5 := by decide
                      go_simp; all_goals (with_reducible rfl)
                    try simp only [Act.put, List.setIfInBounds_toArray, List.set_cons_zero, List.set_cons_succ]
                    refine wpAnyH_take (i := 4) (oi := { dst := some 65, op := Go.Op.load 3 (Go.Operand.tmp 64), type := 3, pos := "ref.go:65", after := #[{ on := 3, ground := Go.Ground.data }], guard := none }) (v := ?_) rfl (by kernel_rfl) (by kernel_rfl) (by kernel_rfl) (fun _ _ _ h => h) (Or.inl ⟨by rfl, ?_⟩) (Kp.refl _) ?_
                    rotate_left 1
                    · intro w5 hSw
                      have q : w5.cell? ⟨g, 4, none⟩ = some (.int .i64 1) := (HU2.out.below hSw HU2.out.lt).cell 4
                      go_simp; all_goals (with_reducible rfl)
                    try simp only [Act.put, List.setIfInBounds_toArray, List.set_cons_zero, List.set_cons_succ]
                    refine wpAnyH_take (i := 5) (oi := { dst := some 66, op := Go.Op.move (Go.Operand.tmp 0), type := 9, pos := "ref.go:65", after := #[], guard := none }) (v := ?_) rfl (by kernel_rfl) (by kernel_rfl) (by kernel_rfl) (fun _ _ _ h => h) (Or.inl ⟨by rfl, ?_⟩) (Kp.refl _) ?_
                    rotate_left 1
                    · intro w5 hSw
                      go_simp; all_goals (with_reducible rfl)
                    try simp only [Act.put, List.setIfInBounds_toArray, List.set_cons_zero, List.set_cons_succ]
                    refine wpAnyH_take (i := 6) (oi := { dst := some 67, op := Go.Op.move (Go.Operand.tmp 6), type := 3, pos := "ref.go:65", after := #[], guard := none }) (v := ?_) rfl (by kernel_rfl) (by kernel_rfl) (by kernel_rfl) (fun _ _ _ h => h) (Or.inl ⟨by rfl, ?_⟩) (Kp.refl _) ?_
                    rotate_left 1
                    · intro w5 hSw
                      go_simp; all_goals (with_reducible rfl)
                    try simp only [Act.put, List.setIfInBounds_toArray, List.set_cons_zero, List.set_cons_succ]
                    refine wpAnyH_take (i := 7) (oi := { dst := some 68, op := Go.Op.index 9 (Go.Operand.tmp 66) (Go.Operand.tmp 67), type := 5, pos := "ref.go:65", after := #[{ on := 5, ground := Go.Ground.data }, { on := 6, ground := Go.Ground.data }], guard := none }) (v := ?_) rfl (by kernel_rfl) (by kernel_rfl) (by kernel_rfl) (fun _ _ _ h => h) (Or.inl ⟨by rfl, ?_⟩) (Kp.refl _) ?_
                    rotate_left 1
                    · intro w5 hSw
                      have gk : (4 : Int) < (s.size : Int) := HsI.out
                      have hg2 := Hc.out
                      go_simp; all_goals (with_reducible rfl)
                    try simp only [Act.put, List.setIfInBounds_toArray, List.set_cons_zero, List.set_cons_succ]
                    refine wpAnyH_take (i := 8) (oi := { dst := some 69, op := Go.Op.convert 5 3 (Go.Operand.tmp 68), type := 3, pos := "ref.go:65", after := #[{ on := 7, ground := Go.Ground.data }], guard := none }) (v := ?_) rfl (by kernel_rfl) (by kernel_rfl) (by kernel_rfl) (fun _ _ _ h => h) (Or.inl ⟨by rfl, ?_⟩) (Kp.refl _) ?_
                    rotate_left 1
                    · intro w5 hSw
                      have hw := Hw1.out
                      go_simp; all_goals (with_reducible rfl)
                    try simp only [Act.put, List.setIfInBounds_toArray, List.set_cons_zero, List.set_cons_succ]
                    refine wpAnyH_take (i := 9) (oi := { dst := some 70, op := Go.Op.binOp Go.BinOp.sub 3 (Go.Operand.tmp 69) (Go.Operand.const (Go.Value.int Go.IntKind.i64 48)) 3, type := 3, pos := "ref.go:65", after := #[{ on := 8, ground := Go.Ground.data }], guard := none }) (v := ?_) rfl (by kernel_rfl) (by kernel_rfl) (by kernel_rfl) (fun _ _ _ h => h) (Or.inl ⟨by rfl, ?_⟩) (Kp.refl _) ?_
                    rotate_left 1
                    · intro w5 hSw
                      have hd := Hd.out
                      go_simp; all_goals (with_reducible rfl)
                    try simp only [Act.put, List.setIfInBounds_toArray, List.set_cons_zero, List.set_cons_succ]
                    refine wpAnyH_take (i := 10) (oi := { dst := some 71, op := Go.Op.binOp Go.BinOp.mul 3 (Go.Operand.tmp 65) (Go.Operand.tmp 70) 3, type := 3, pos := "ref.go:65", after := #[{ on := 4, ground := Go.Ground.data }, { on := 9, ground := Go.Ground.data }], guard := none }) (v := ?_) rfl (by kernel_rfl) (by kernel_rfl) (by kernel_rfl) (fun _ _ _ h => h) (Or.inl ⟨by rfl, ?_⟩) (Kp.refl _) ?_
                    rotate_left 1
                    · intro w5 hSw
                      have hm := Hm.out
                      go_simp; all_goals (with_reducible rfl)
                    try simp only [Act.put, List.setIfInBounds_toArray, List.set_cons_zero, List.set_cons_succ]
                    refine wpAnyH_take (i := 11) (oi := { dst := some 72, op := Go.Op.binOp Go.BinOp.add 3 (Go.Operand.tmp 61) (Go.Operand.tmp 71) 3, type := 3, pos := "ref.go:65", after := #[{ on := 0, ground := Go.Ground.data }, { on := 10, ground := Go.Ground.data }], guard := none }) (v := ?_) rfl (by kernel_rfl) (by kernel_rfl) (by kernel_rfl) (fun _ _ _ h => h) (Or.inl ⟨by rfl, ?_⟩) (Kp.refl _) ?_
                    rotate_left 1
                    · intro w5 hSw
                      have hn := Hn2.out
                      have hdd : IntKind.i64.wrap d = d := Hdd.out.1
                      have hnd : IntKind.i64.wrap (n + d) = n2 := Hdd.out.2
                      go_simp; all_goals (with_reducible rfl)
                    try simp only [Act.put, List.setIfInBounds_toArray, List.set_cons_zero, List.set_cons_succ]
                    refine wpAnyH_take (i := 12) (oi := { dst := some 4, op := Go.Op.assign (Go.Operand.tmp 72), type := 3, pos := "ref.go:65", after := #[{ on := 11, ground := Go.Ground.data }, { on := 0, ground := Go.Ground.phase }, { on := 1, ground := Go.Ground.phase }, { on := 2, ground := Go.Ground.phase }, { on := 3, ground := Go.Ground.phase }, { on := 4, ground := Go.Ground.phase }, { on := 5, ground := Go.Ground.phase }, { on := 6, ground := Go.Ground.phase }, { on := 7, ground := Go.Ground.phase }, { on := 8, ground := Go.Ground.phase }, { on := 9, ground := Go.Ground.phase }, { on := 10, ground := Go.Ground.phase }, { on := 11, ground := Go.Ground.phase }], guard := none }) (v := ?_) rfl (by kernel_rfl) (by kernel_rfl) (by kernel_rfl) (fun _ _ _ h => h) (Or.inl ⟨by rfl, ?_⟩) (Kp.refl _) ?_
                    rotate_left 1
                    · intro w5 hSw
                      go_simp; all_goals (with_reducible rfl)
                    try simp only [Act.put, List.setIfInBounds_toArray, List.set_cons_zero, List.set_cons_succ]
                    refine wpAnyH_done (by kernel_rfl) ?_ _
                    go_wp2_with fail
                    go_roundw
                    case rel => exact ⟨5, n2, by omega, by omega, rfl, rfl, Hb2.out.1, Hb2.out.2, HQ3, HU2, HB2⟩
                    case measure => simp [RowKit.intOf]; omega
              · omega
            · obtain rfl : i = s.size := by omega
              have e9 : Hid (Q = if 1000 < n then ((0 : Int), false) else (n, true)) := by
                show _ = _
                rw [HQ.out, show 6 - s.size = (5 - s.size) + 1 by omega]
                unfold goQ
                rw [if_neg (by rw [bs_length]; omega)]
              clear HQ hi5
              by_cases hbig : 1000 < n
              · have e1 : decide (1000 < n) = true := decide_eq_true hbig
                have e10 : Hid (Q = (0, false)) := by show _ = _; rw [e9.out, if_pos hbig]
                clear e9
                go_wp2_with fail
                exact bodyPost_ret (v := .tuple #[.int .i64 0, .bool false]) (by simp [results, Tryd.results6, go_sem]) rfl ⟨by rw [e10.out], HB.out⟩
              · have e1 : decide (1000 < n) = false := decide_eq_false hbig
                have e10 : Hid (Q = (n, true)) := by show _ = _; rw [e9.out, if_neg hbig]
                clear e9
                go_wp2_with fail
                exact bodyPost_ret (v := .tuple #[.int .i64 n, .bool true]) (by simp [results, Tryd.results6, go_sem]) rfl ⟨by rw [e10.out], HB.out⟩
        · go_enter Tryd.func6, Tryd.ntmps6
          go_upto_region 6 with (fail)
          obtain ⟨g, hg⟩ : ∃ g, g = w.heap.size := ⟨_, rfl⟩
          obtain ⟨X, hX⟩ : ∃ X, X = w.alloc (.cells #[.int .i64 0, .int .i64 0, .int .i64 100, .int .i64 10, .int .i64 1] 3) := ⟨_, rfl⟩
          have HU0 : Hid (Whole X g 3 #[.int .i64 0, .int .i64 0, .int .i64 100, .int .i64 10, .int .i64 1]) := by show Whole _ _ _ _; rw [hX, hg]; exact Whole.new w _ _
          have HB0 : Hid (Below w.heap.size w X) := by show Below _ _ _; rw [hX]; exact (Below.refl _ _).alloc (Nat.le_refl _) _
          rw [← hX, ← hg]
          clear hX hg
          go_loopw [4, 6] (fun x4 x6 W => ∃ (i : Nat) (n : Int), 1 ≤ i ∧ i ≤ s.size ∧ x6 = .int .i64 (i : Int) ∧ x4 = .int .i64 n ∧ 0 ≤ n ∧ n ≤ 1000 + 900 * ((i : Int) - 1) ∧ Hid (Q = goQ (bs s) (6 - i) i n) ∧ Hid (Whole W g 3 #[.int .i64 0, .int .i64 0, .int .i64 100, .int .i64 10, .int .i64 1]) ∧ Hid (Below w.heap.size w W)) (fun x4 x6 _ => s.size - (RowKit.intOf x6).toNat)
          case atStart => exact ⟨1, 1000, by omega, by omega, rfl, rfl, by omega, by omega, HQ2, HU0, HB0⟩
          case round =>
            clear HU0 HB0 HQ2 hn1 hn2
            obtain ⟨i, n, hi1, his, rfl, rfl, hnl, hnh, HQ, HU, HB⟩ := hrel
            have hi5 : i = 1 ∨ i = 2 ∨ i = 3 ∨ i = 4 ∨ i = 5 := by omega
            by_cases hlt : i < s.size
            · obtain ⟨c, hc⟩ : ∃ c, (s[i]'hlt).toNat = c := ⟨_, rfl⟩
              have hc256 : c < 256 := by rw [← hc]; exact (s[i]'hlt).toNat_lt
              have hcg : (bs s).getD i 0 = c := by rw [← hc, bs_get s i hlt]
              have hil : i < (bs s).length := by rw [bs_length]; exact hlt
              rcases hi5 with rfl | rfl | rfl | rfl | rfl
              · by_cases hq : c = 46
                · have n1 : ((c : Int) != 46) = false := by rw [hq]; rfl
                  have n2 : ((c : Int) == 46) = true := by rw [hq]; rfl
                  have HQ3 : Hid (Q = goQ (bs s) (6 - 2) 2 (n + 0 * ((c : Int) - 48))) := by show _ = _; rw [HQ.out]; show goQ (bs s) (4 + 1) 1 n = _; rw [goQ_go hil (by rw [bad_dot (c := c) hcg]; exact decide_eq_false (fun h => h hq)), hcg]; rfl
                  have HsI : Hid ((1 : Int) < (s.size : Int)) := by show _ < _; omega
                  have Hc := Lib.hid hc
                  have Hw1 : Hid (IntKind.i64.wrap (c : Int) = (c : Int)) := IntWalk.i64_in _ ⟨by omega, by omega⟩
                  obtain ⟨d, hd⟩ : ∃ d, d = (c : Int) - 48 := ⟨_, rfl⟩
                  obtain ⟨m, hm⟩ : ∃ m, m = 0 * d := ⟨_, rfl⟩
                  obtain ⟨n2, hn2⟩ : ∃ k, k = n + m := ⟨_, rfl⟩
                  have hb2 : 0 ≤ n2 ∧ n2 ≤ 1000 + 900 * (((2 : Nat) : Int) - 1) := by omega
                  have Hd : Hid (IntKind.i64.wrap ((c : Int) - 48) = d) := by show _ = _; rw [← hd]; exact IntWalk.i64_in _ ⟨by omega, by omega⟩
                  have Hm : Hid (IntKind.i64.wrap (0 * d) = m) := by show _ = _; rw [← hm]; exact IntWalk.i64_in _ ⟨by omega, by omega⟩
                  have Hn2 : Hid (IntKind.i64.wrap (n + m) = n2) := by show _ = _; rw [← hn2]; exact IntWalk.i64_in _ ⟨by omega, by omega⟩
                  rw [← hd, ← hm, ← hn2] at HQ3
                  have Hnn : Hid (IntKind.i64.wrap n = n) := IntWalk.i64_in _ ⟨by omega, by omega⟩
                  have Hn0 : Hid (m = 0 → n2 = n) := fun h => by rw [hn2, h]; omega
                  have Hb2 := Lib.hid hb2
                  have Hm0 : Hid (m = 0) := by show _ = _; rw [hm]; omega
                  have k1 : (1 : Int) < (s.size : Int) := HsI.out
                  have HB2 : Hid (Below w.heap.size w wr.drew) := ⟨HB.out.os, HB.out.tape, HB.out.output, HB.out.size, HB.out.block⟩
                  have HU2 : Hid (Whole wr.drew g 3 #[.int .i64 0, .int .i64 0, .int .i64 100, .int .i64 10, .int .i64 1]) := HU.out
                  clear hd hm hn2 hb2 HQ hcg hil
                  rw [show ((1 : Nat) : Int) = 1 from rfl] at *
                  go_upto_region 10 with (fail)
                  refine held_start (by kernel_rfl) ?_
                  refine wpAnyH_take (i := 0) (oi := { dst := some 61, op := Go.Op.move (Go.Operand.tmp 4), type := 3, pos := "ref.go:65", after := #[], guard := none }) (v := ?_) rfl (by kernel_rfl) (by kernel_rfl) (by kernel_rfl) (fun _ _ _ h => h) (Or.inl ⟨by rfl, ?_⟩) (Kp.refl _) ?_
                  rotate_left 1
                  · intro w5 hSw
                    go_simp; all_goals (with_reducible rfl)
                  try simp only [Act.put, List.setIfInBounds_toArray, List.set_cons_zero, List.set_cons_succ]
                  refine wpAnyH_take (i := 1) (oi := { dst := some 62, op := Go.Op.move (Go.Operand.tmp 5), type := 31, pos := "ref.go:65", after := #[], guard := none }) (v := ?_) rfl (by kernel_rfl) (by kernel_rfl) (by kernel_rfl) (fun _ _ _ h => h) (Or.inl ⟨by rfl, ?_⟩) (Kp.refl _) ?_
                  rotate_left 1
                  · intro w5 hSw
                    go_simp; all_goals (with_reducible rfl)
                  try simp only [Act.put, List.setIfInBounds_toArray, List.set_cons_zero, List.set_cons_succ]
                  refine wpAnyH_take (i := 2) (oi := { dst := some 63, op := Go.Op.move (Go.Operand.tmp 6), type := 3, pos := "ref.go:65", after := #[], guard := none }) (v := ?_) rfl (by kernel_rfl) (by kernel_rfl) (by kernel_rfl) (fun _ _ _ h => h) (Or.inl ⟨by rfl, ?_⟩) (Kp.refl _) ?_
                  rotate_left 1
                  · intro w5 hSw
                    go_simp; all_goals (with_reducible rfl)
                  try simp only [Act.put, List.setIfInBounds_toArray, List.set_cons_zero, List.set_cons_succ]
                  refine wpAnyH_take (i := 3) (oi := { dst := some 64, op := Go.Op.indexAddr 31 (Go.Operand.tmp 62) (Go.Operand.tmp 63), type := 0, pos := "ref.go:65", after := #[{ on := 1, ground := Go.Ground.data }, { on := 2, ground := Go.Ground.data }], guard := none }) (v := ?_) rfl (by kernel_rfl) (by kernel_rfl) (by kernel_rfl) (fun _ _ _ h => h) (Or.inl ⟨by rfl, ?_⟩) (Kp.refl _) ?_
                  rotate_left 1
                  · intro w5 hSw
                    have q5 : (1 : Int) < 5 := by decide
                    go_simp; all_goals (with_reducible rfl)
                  try simp only [Act.put, List.setIfInBounds_toArray, List.set_cons_zero, List.set_cons_succ]
                  refine wpAnyH_take (i := 4) (oi := { dst := some 65, op := Go.Op.load 3 (Go.Operand.tmp 64), type := 3, pos := "ref.go:65", after := #[{ on := 3, ground := Go.Ground.data }], guard := none }) (v := ?_) rfl (by kernel_rfl) (by kernel_rfl) (by kernel_rfl) (fun _ _ _ h => h) (Or.inl ⟨by rfl, ?_⟩) (Kp.refl _) ?_
                  rotate_left 1
                  · intro w5 hSw
                    have q : w5.cell? ⟨g, 1, none⟩ = some (.int .i64 0) := (HU2.out.below hSw HU2.out.lt).cell 1
                    go_simp; all_goals (with_reducible rfl)
                  try simp only [Act.put, List.setIfInBounds_toArray, List.set_cons_zero, List.set_cons_succ]
                  refine wpAnyH_take (i := 5) (oi := { dst := some 66, op := Go.Op.move (Go.Operand.tmp 0), type := 9, pos := "ref.go:65", after := #[], guard := none }) (v := ?_) rfl (by kernel_rfl) (by kernel_rfl) (by kernel_rfl) (fun _ _ _ h => h) (Or.inl ⟨by rfl, ?_⟩) (Kp.refl _) ?_
                  rotate_left 1
                  · intro w5 hSw
                    go_simp; all_goals (with_reducible rfl)
                  try simp only [Act.put, List.setIfInBounds_toArray, List.set_cons_zero, List.set_cons_succ]
                  refine wpAnyH_take (i := 6) (oi := { dst := some 67, op := Go.Op.move (Go.Operand.tmp 6), type := 3, pos := "ref.go:65", after := #[], guard := none }) (v := ?_) rfl (by kernel_rfl) (by kernel_rfl) (by kernel_rfl) (fun _ _ _ h => h) (Or.inl ⟨by rfl, ?_⟩) (Kp.refl _) ?_
                  rotate_left 1
                  · intro w5 hSw
                    go_simp; all_goals (with_reducible rfl)
                  try simp only [Act.put, List.setIfInBounds_toArray, List.set_cons_zero, List.set_cons_succ]
                  refine wpAnyH_take (i := 7) (oi := { dst := some 68, op := Go.Op.index 9 (Go.Operand.tmp 66) (Go.Operand.tmp 67), type := 5, pos := "ref.go:65", after := #[{ on := 5, ground := Go.Ground.data }, { on := 6, ground := Go.Ground.data }], guard := none }) (v := ?_) rfl (by kernel_rfl) (by kernel_rfl) (by kernel_rfl) (fun _ _ _ h => h) (Or.inl ⟨by rfl, ?_⟩) (Kp.refl _) ?_
                  rotate_left 1
                  · intro w5 hSw
                    have gk : (1 : Int) < (s.size : Int) := HsI.out
                    have hg2 := Hc.out
                    go_simp; all_goals (with_reducible rfl)
                  try simp only [Act.put, List.setIfInBounds_toArray, List.set_cons_zero, List.set_cons_succ]
                  refine wpAnyH_take (i := 8) (oi := { dst := some 69, op := Go.Op.convert 5 3 (Go.Operand.tmp 68), type := 3, pos := "ref.go:65", after := #[{ on := 7, ground := Go.Ground.data }], guard := none }) (v := ?_) rfl (by kernel_rfl) (by kernel_rfl) (by kernel_rfl) (fun _ _ _ h => h) (Or.inl ⟨by rfl, ?_⟩) (Kp.refl _) ?_
                  rotate_left 1
                  · intro w5 hSw
                    have hw := Hw1.out
                    go_simp; all_goals (with_reducible rfl)
                  try simp only [Act.put, List.setIfInBounds_toArray, List.set_cons_zero, List.set_cons_succ]
                  refine wpAnyH_take (i := 9) (oi := { dst := some 70, op := Go.Op.binOp Go.BinOp.sub 3 (Go.Operand.tmp 69) (Go.Operand.const (Go.Value.int Go.IntKind.i64 48)) 3, type := 3, pos := "ref.go:65", after := #[{ on := 8, ground := Go.Ground.data }], guard := none }) (v := ?_) rfl (by kernel_rfl) (by kernel_rfl) (by kernel_rfl) (fun _ _ _ h => h) (Or.inl ⟨by rfl, ?_⟩) (Kp.refl _) ?_
                  rotate_left 1
                  · intro w5 hSw
                    have hd := Hd.out
                    go_simp; all_goals (with_reducible rfl)
                  try simp only [Act.put, List.setIfInBounds_toArray, List.set_cons_zero, List.set_cons_succ]
                  refine wpAnyH_take (i := 10) (oi := { dst := some 71, op := Go.Op.binOp Go.BinOp.mul 3 (Go.Operand.tmp 65) (Go.Operand.tmp 70) 3, type := 3, pos := "ref.go:65", after := #[{ on := 4, ground := Go.Ground.data }, { on := 9, ground := Go.Ground.data }], guard := none }) (v := ?_) rfl (by kernel_rfl) (by kernel_rfl) (by kernel_rfl) (fun _ _ _ h => h) (Or.inl ⟨by rfl, ?_⟩) (Kp.refl _) ?_
                  rotate_left 1
                  · intro w5 hSw
                    have hm := Hm.out
                    have hz : IntKind.i64.wrap (0 : Int) = 0 := by decide
                    go_simp; all_goals (with_reducible rfl)
                  try simp only [Act.put, List.setIfInBounds_toArray, List.set_cons_zero, List.set_cons_succ]
                  refine wpAnyH_take (i := 11) (oi := { dst := some 72, op := Go.Op.binOp Go.BinOp.add 3 (Go.Operand.tmp 61) (Go.Operand.tmp 71) 3, type := 3, pos := "ref.go:65", after := #[{ on := 0, ground := Go.Ground.data }, { on := 10, ground := Go.Ground.data }], guard := none }) (v := ?_) rfl (by kernel_rfl) (by kernel_rfl) (by kernel_rfl) (fun _ _ _ h => h) (Or.inl ⟨by rfl, ?_⟩) (Kp.refl _) ?_
                  rotate_left 1
                  · intro w5 hSw
                    have hn := Hn2.out
                    have hz : IntKind.i64.wrap (0 : Int) = 0 := by decide
                    have hnn : IntKind.i64.wrap n = n := Hnn.out
                    go_simp; all_goals (with_reducible rfl)
                  try simp only [Act.put, List.setIfInBounds_toArray, List.set_cons_zero, List.set_cons_succ]
                  refine wpAnyH_take (i := 12) (oi := { dst := some 4, op := Go.Op.assign (Go.Operand.tmp 72), type := 3, pos := "ref.go:65", after := #[{ on := 11, ground := Go.Ground.data }, { on := 0, ground := Go.Ground.phase }, { on := 1, ground := Go.Ground.phase }, { on := 2, ground := Go.Ground.phase }, { on := 3, ground := Go.Ground.phase }, { on := 4, ground := Go.Ground.phase }, { on := 5, ground := Go.Ground.phase }, { on := 6, ground := Go.Ground.phase }, { on := 7, ground := Go.Ground.phase }, { on := 8, ground := Go.Ground.phase }, { on := 9, ground := Go.Ground.phase }, { on := 10, ground := Go.Ground.phase }, { on := 11, ground := Go.Ground.phase }], guard := none }) (v := ?_) rfl (by kernel_rfl) (by kernel_rfl) (by kernel_rfl) (fun _ _ _ h => h) (Or.inl ⟨by rfl, ?_⟩) (Kp.refl _) ?_
                  rotate_left 1
                  · intro w5 hSw
                    go_simp; all_goals (with_reducible rfl)
                  try simp only [Act.put, List.setIfInBounds_toArray, List.set_cons_zero, List.set_cons_succ]
                  refine wpAnyH_done (by kernel_rfl) ?_ _
                  go_wp2_with fail
                  go_roundw
                  case rel => exact ⟨2, n2, by omega, by omega, rfl, by first | rfl | rw [Hn0.out Hm0.out] | simp [Hn0.out Hm0.out], Hb2.out.1, Hb2.out.2, HQ3, HU2, HB2⟩
                  case measure => simp [RowKit.intOf]; omega
                · have n1 : ((c : Int) != 46) = true := bne_iff_ne.mpr (by omega)
                  have n2 : ((c : Int) == 46) = false := beq_eq_false_iff_ne.mpr (by omega)
                  have HQ3 : Hid (Q = (0, false)) := by show _ = _; rw [HQ.out]; show goQ (bs s) (4 + 1) 1 n = _; exact goQ_bad hil (by rw [bad_dot (c := c) hcg]; exact decide_eq_true hq)
                  have k1 : (1 : Int) < (s.size : Int) := by omega
                  clear HQ hcg hil
                  rw [show ((1 : Nat) : Int) = 1 from rfl] at *
                  go_wp2_with fail
                  exact bodyPost_ret (v := .tuple #[.int .i64 0, .bool false]) (by simp [results, Tryd.results6, go_sem]) rfl ⟨by rw [HQ3.out], HB.out⟩
              · by_cases hq1 : c < 48
                · have n1 : decide ((c : Int) < 48) = true := decide_eq_true (by omega)
                  have HQ3 : Hid (Q = (0, false)) := by show _ = _; rw [HQ.out]; show goQ (bs s) (3 + 1) 2 n = _; exact goQ_bad hil (by rw [bad_dig (c := c) (by omega) hcg]; exact decide_eq_true (by omega))
                  have k1 : (2 : Int) < (s.size : Int) := by omega
                  clear HQ hcg hil
                  rw [show ((2 : Nat) : Int) = 2 from rfl] at *
                  go_wp2_with fail
                  exact bodyPost_ret (v := .tuple #[.int .i64 0, .bool false]) (by simp [results, Tryd.results6, go_sem]) rfl ⟨by rw [HQ3.out], HB.out⟩
                · have n1 : decide ((c : Int) < 48) = false := decide_eq_false (by omega)
                  by_cases hq2 : 57 < c
                  · have n2 : decide (57 < (c : Int)) = true := decide_eq_true (by omega)
                    have HQ3 : Hid (Q = (0, false)) := by show _ = _; rw [HQ.out]; show goQ (bs s) (3 + 1) 2 n = _; exact goQ_bad hil (by rw [bad_dig (c := c) (by omega) hcg]; exact decide_eq_true (by omega))
                    have k1 : (2 : Int) < (s.size : Int) := by omega
                    clear HQ hcg hil
                    rw [show ((2 : Nat) : Int) = 2 from rfl] at *
                    go_wp2_with fail
                    exact bodyPost_ret (v := .tuple #[.int .i64 0, .bool false]) (by simp [results, Tryd.results6, go_sem]) rfl ⟨by rw [HQ3.out], HB.out⟩
                  · have n2 : decide (57 < (c : Int)) = false := decide_eq_false (by omega)
                    have HQ3 : Hid (Q = goQ (bs s) (6 - 3) 3 (n + 100 * ((c : Int) - 48))) := by show _ = _; rw [HQ.out]; show goQ (bs s) (3 + 1) 2 n = _; rw [goQ_go hil (by rw [bad_dig (c := c) (by omega) hcg]; exact decide_eq_false (by omega)), hcg]; rfl
                    have HsI : Hid ((2 : Int) < (s.size : Int)) := by show _ < _; omega
                    have Hc := Lib.hid hc
                    have Hw1 : Hid (IntKind.i64.wrap (c : Int) = (c : Int)) := IntWalk.i64_in _ ⟨by omega, by omega⟩
                    obtain ⟨d, hd⟩ : ∃ d, d = (c : Int) - 48 := ⟨_, rfl⟩
                    obtain ⟨m, hm⟩ : ∃ m, m = 100 * d := ⟨_, rfl⟩
                    obtain ⟨n2, hn2⟩ : ∃ k, k = n + m := ⟨_, rfl⟩
                    have hb2 : 0 ≤ n2 ∧ n2 ≤ 1000 + 900 * (((3 : Nat) : Int) - 1) := by omega
                    have Hd : Hid (IntKind.i64.wrap ((c : Int) - 48) = d) := by show _ = _; rw [← hd]; exact IntWalk.i64_in _ ⟨by omega, by omega⟩
                    have Hm : Hid (IntKind.i64.wrap (100 * d) = m) := by show _ = _; rw [← hm]; exact IntWalk.i64_in _ ⟨by omega, by omega⟩
                    have Hn2 : Hid (IntKind.i64.wrap (n + m) = n2) := by show _ = _; rw [← hn2]; exact IntWalk.i64_in _ ⟨by omega, by omega⟩
                    rw [← hd, ← hm, ← hn2] at HQ3
                    have Hnn : Hid (IntKind.i64.wrap n = n) := IntWalk.i64_in _ ⟨by omega, by omega⟩
                    have Hn0 : Hid (m = 0 → n2 = n) := fun h => by rw [hn2, h]; omega
                    have Hb2 := Lib.hid hb2
                    have Hm0 := trivial
                    have k1 : (2 : Int) < (s.size : Int) := HsI.out
                    have HB2 : Hid (Below w.heap.size w wr.drew) := ⟨HB.out.os, HB.out.tape, HB.out.output, HB.out.size, HB.out.block⟩
                    have HU2 : Hid (Whole wr.drew g 3 #[.int .i64 0, .int .i64 0, .int .i64 100, .int .i64 10, .int .i64 1]) := HU.out
                    clear hd hm hn2 hb2 HQ hcg hil
                    rw [show ((2 : Nat) : Int) = 2 from rfl] at *
                    go_upto_region 10 with (fail)
                    refine held_start (by kernel_rfl) ?_
                    refine wpAnyH_take (i := 0) (oi := { dst := some 61, op := Go.Op.move (Go.Operand.tmp 4), type := 3, pos := "ref.go:65", after := #[], guard := none }) (v := ?_) rfl (by kernel_rfl) (by kernel_rfl) (by kernel_rfl) (fun _ _ _ h => h) (Or.inl ⟨by rfl, ?_⟩) (Kp.refl _) ?_
                    rotate_left 1
                    · intro w5 hSw
                      go_simp; all_goals (with_reducible rfl)
                    try simp only [Act.put, List.setIfInBounds_toArray, List.set_cons_zero, List.set_cons_succ]
                    refine wpAnyH_take (i := 1) (oi := { dst := some 62, op := Go.Op.move (Go.Operand.tmp 5), type := 31, pos := "ref.go:65", after := #[], guard := none }) (v := ?_) rfl (by kernel_rfl) (by kernel_rfl) (by kernel_rfl) (fun _ _ _ h => h) (Or.inl ⟨by rfl, ?_⟩) (Kp.refl _) ?_
                    rotate_left 1
                    · intro w5 hSw
                      go_simp; all_goals (with_reducible rfl)
                    try simp only [Act.put, List.setIfInBounds_toArray, List.set_cons_zero, List.set_cons_succ]
                    refine wpAnyH_take (i := 2) (oi := { dst := some 63, op := Go.Op.move (Go.Operand.tmp 6), type := 3, pos := "ref.go:65", after := #[], guard := none }) (v := ?_) rfl (by kernel_rfl) (by kernel_rfl) (by kernel_rfl) (fun _ _ _ h => h) (Or.inl ⟨by rfl, ?_⟩) (Kp.refl _) ?_
                    rotate_left 1
                    · intro w5 hSw
                      go_simp; all_goals (with_reducible rfl)
                    try simp only [Act.put, List.setIfInBounds_toArray, List.set_cons_zero, List.set_cons_succ]
                    refine wpAnyH_take (i := 3) (oi := { dst := some 64, op := Go.Op.indexAddr 31 (Go.Operand.tmp 62) (Go.Operand.tmp 63), type := 0, pos := "ref.go:65", after := #[{ on := 1, ground := Go.Ground.data }, { on := 2, ground := Go.Ground.data }], guard := none }) (v := ?_) rfl (by kernel_rfl) (by kernel_rfl) (by kernel_rfl) (fun _ _ _ h => h) (Or.inl ⟨by rfl, ?_⟩) (Kp.refl _) ?_
                    rotate_left 1
                    · intro w5 hSw
                      have q5 : (2 : Int) < 5 := by decide
                      go_simp; all_goals (with_reducible rfl)
                    try simp only [Act.put, List.setIfInBounds_toArray, List.set_cons_zero, List.set_cons_succ]
                    refine wpAnyH_take (i := 4) (oi := { dst := some 65, op := Go.Op.load 3 (Go.Operand.tmp 64), type := 3, pos := "ref.go:65", after := #[{ on := 3, ground := Go.Ground.data }], guard := none }) (v := ?_) rfl (by kernel_rfl) (by kernel_rfl) (by kernel_rfl) (fun _ _ _ h => h) (Or.inl ⟨by rfl, ?_⟩) (Kp.refl _) ?_
                    rotate_left 1
                    · intro w5 hSw
                      have q : w5.cell? ⟨g, 2, none⟩ = some (.int .i64 100) := (HU2.out.below hSw HU2.out.lt).cell 2
                      go_simp; all_goals (with_reducible rfl)
                    try simp only [Act.put, List.setIfInBounds_toArray, List.set_cons_zero, List.set_cons_succ]
                    refine wpAnyH_take (i := 5) (oi := { dst := some 66, op := Go.Op.move (Go.Operand.tmp 0), type := 9, pos := "ref.go:65", after := #[], guard := none }) (v := ?_) rfl (by kernel_rfl) (by kernel_rfl) (by kernel_rfl) (fun _ _ _ h => h) (Or.inl ⟨by rfl, ?_⟩) (Kp.refl _) ?_
                    rotate_left 1
                    · intro w5 hSw
                      go_simp; all_goals (with_reducible rfl)
                    try simp only [Act.put, List.setIfInBounds_toArray, List.set_cons_zero, List.set_cons_succ]
                    refine wpAnyH_take (i := 6) (oi := { dst := some 67, op := Go.Op.move (Go.Operand.tmp 6), type := 3, pos := "ref.go:65", after := #[], guard := none }) (v := ?_) rfl (by kernel_rfl) (by kernel_rfl) (by kernel_rfl) (fun _ _ _ h => h) (Or.inl ⟨by rfl, ?_⟩) (Kp.refl _) ?_
                    rotate_left 1
                    · intro w5 hSw
                      go_simp; all_goals (with_reducible rfl)
                    try simp only [Act.put, List.setIfInBounds_toArray, List.set_cons_zero, List.set_cons_succ]
                    refine wpAnyH_take (i := 7) (oi := { dst := some 68, op := Go.Op.index 9 (Go.Operand.tmp 66) (Go.Operand.tmp 67), type := 5, pos := "ref.go:65", after := #[{ on := 5, ground := Go.Ground.data }, { on := 6, ground := Go.Ground.data }], guard := none }) (v := ?_) rfl (by kernel_rfl) (by kernel_rfl) (by kernel_rfl) (fun _ _ _ h => h) (Or.inl ⟨by rfl, ?_⟩) (Kp.refl _) ?_
                    rotate_left 1
                    · intro w5 hSw
                      have gk : (2 : Int) < (s.size : Int) := HsI.out
                      have hg2 := Hc.out
                      go_simp; all_goals (with_reducible rfl)
                    try simp only [Act.put, List.setIfInBounds_toArray, List.set_cons_zero, List.set_cons_succ]
                    refine wpAnyH_take (i := 8) (oi := { dst := some 69, op := Go.Op.convert 5 3 (Go.Operand.tmp 68), type := 3, pos := "ref.go:65", after := #[{ on := 7, ground := Go.Ground.data }], guard := none }) (v := ?_) rfl (by kernel_rfl) (by kernel_rfl) (by kernel_rfl) (fun _ _ _ h => h) (Or.inl ⟨by rfl, ?_⟩) (Kp.refl _) ?_
                    rotate_left 1
                    · intro w5 hSw
                      have hw := Hw1.out
                      go_simp; all_goals (with_reducible rfl)
                    try simp only [Act.put, List.setIfInBounds_toArray, List.set_cons_zero, List.set_cons_succ]
                    refine wpAnyH_take (i := 9) (oi := { dst := some 70, op := Go.Op.binOp Go.BinOp.sub 3 (Go.Operand.tmp 69) (Go.Operand.const (Go.Value.int Go.IntKind.i64 48)) 3, type := 3, pos := "ref.go:65", after := #[{ on := 8, ground := Go.Ground.data }], guard := none }) (v := ?_) rfl (by kernel_rfl) (by kernel_rfl) (by kernel_rfl) (fun _ _ _ h => h) (Or.inl ⟨by rfl, ?_⟩) (Kp.refl _) ?_
                    rotate_left 1
                    · intro w5 hSw
                      have hd := Hd.out
                      go_simp; all_goals (with_reducible rfl)
                    try simp only [Act.put, List.setIfInBounds_toArray, List.set_cons_zero, List.set_cons_succ]
                    refine wpAnyH_take (i := 10) (oi := { dst := some 71, op := Go.Op.binOp Go.BinOp.mul 3 (Go.Operand.tmp 65) (Go.Operand.tmp 70) 3, type := 3, pos := "ref.go:65", after := #[{ on := 4, ground := Go.Ground.data }, { on := 9, ground := Go.Ground.data }], guard := none }) (v := ?_) rfl (by kernel_rfl) (by kernel_rfl) (by kernel_rfl) (fun _ _ _ h => h) (Or.inl ⟨by rfl, ?_⟩) (Kp.refl _) ?_
                    rotate_left 1
                    · intro w5 hSw
                      have hm := Hm.out
                      go_simp; all_goals (with_reducible rfl)
                    try simp only [Act.put, List.setIfInBounds_toArray, List.set_cons_zero, List.set_cons_succ]
                    refine wpAnyH_take (i := 11) (oi := { dst := some 72, op := Go.Op.binOp Go.BinOp.add 3 (Go.Operand.tmp 61) (Go.Operand.tmp 71) 3, type := 3, pos := "ref.go:65", after := #[{ on := 0, ground := Go.Ground.data }, { on := 10, ground := Go.Ground.data }], guard := none }) (v := ?_) rfl (by kernel_rfl) (by kernel_rfl) (by kernel_rfl) (fun _ _ _ h => h) (Or.inl ⟨by rfl, ?_⟩) (Kp.refl _) ?_
                    rotate_left 1
                    · intro w5 hSw
                      have hn := Hn2.out
                      go_simp; all_goals (with_reducible rfl)
                    try simp only [Act.put, List.setIfInBounds_toArray, List.set_cons_zero, List.set_cons_succ]
                    refine wpAnyH_take (i := 12) (oi := { dst := some 4, op := Go.Op.assign (Go.Operand.tmp 72), type := 3, pos := "ref.go:65", after := #[{ on := 11, ground := Go.Ground.data }, { on := 0, ground := Go.Ground.phase }, { on := 1, ground := Go.Ground.phase }, { on := 2, ground := Go.Ground.phase }, { on := 3, ground := Go.Ground.phase }, { on := 4, ground := Go.Ground.phase }, { on := 5, ground := Go.Ground.phase }, { on := 6, ground := Go.Ground.phase }, { on := 7, ground := Go.Ground.phase }, { on := 8, ground := Go.Ground.phase }, { on := 9, ground := Go.Ground.phase }, { on := 10, ground := Go.Ground.phase }, { on := 11, ground := Go.Ground.phase }], guard := none }) (v := ?_) rfl (by kernel_rfl) (by kernel_rfl) (by kernel_rfl) (fun _ _ _ h => h) (Or.inl ⟨by rfl, ?_⟩) (Kp.refl _) ?_
                    rotate_left 1
                    · intro w5 hSw
                      go_simp; all_goals (with_reducible rfl)
                    try simp only [Act.put, List.setIfInBounds_toArray, List.set_cons_zero, List.set_cons_succ]
                    refine wpAnyH_done (by kernel_rfl) ?_ _
                    go_wp2_with fail
                    go_roundw
                    case rel => exact ⟨3, n2, by omega, by omega, rfl, rfl, Hb2.out.1, Hb2.out.2, HQ3, HU2, HB2⟩
                    case measure => simp [RowKit.intOf]; omega
              · by_cases hq1 : c < 48
                · have n1 : decide ((c : Int) < 48) = true := decide_eq_true (by omega)
                  have HQ3 : Hid (Q = (0, false)) := by show _ = _; rw [HQ.out]; show goQ (bs s) (2 + 1) 3 n = _; exact goQ_bad hil (by rw [bad_dig (c := c) (by omega) hcg]; exact decide_eq_true (by omega))
                  have k1 : (3 : Int) < (s.size : Int) := by omega
                  clear HQ hcg hil
                  rw [show ((3 : Nat) : Int) = 3 from rfl] at *
                  go_wp2_with fail
                  exact bodyPost_ret (v := .tuple #[.int .i64 0, .bool false]) (by simp [results, Tryd.results6, go_sem]) rfl ⟨by rw [HQ3.out], HB.out⟩
                · have n1 : decide ((c : Int) < 48) = false := decide_eq_false (by omega)
                  by_cases hq2 : 57 < c
                  · have n2 : decide (57 < (c : Int)) = true := decide_eq_true (by omega)
                    have HQ3 : Hid (Q = (0, false)) := by show _ = _; rw [HQ.out]; show goQ (bs s) (2 + 1) 3 n = _; exact goQ_bad hil (by rw [bad_dig (c := c) (by omega) hcg]; exact decide_eq_true (by omega))
                    have k1 : (3 : Int) < (s.size : Int) := by omega
                    clear HQ hcg hil
                    rw [show ((3 : Nat) : Int) = 3 from rfl] at *
                    go_wp2_with fail
                    exact bodyPost_ret (v := .tuple #[.int .i64 0, .bool false]) (by simp [results, Tryd.results6, go_sem]) rfl ⟨by rw [HQ3.out], HB.out⟩
                  · have n2 : decide (57 < (c : Int)) = false := decide_eq_false (by omega)
                    have HQ3 : Hid (Q = goQ (bs s) (6 - 4) 4 (n + 10 * ((c : Int) - 48))) := by show _ = _; rw [HQ.out]; show goQ (bs s) (2 + 1) 3 n = _; rw [goQ_go hil (by rw [bad_dig (c := c) (by omega) hcg]; exact decide_eq_false (by omega)), hcg]; rfl
                    have HsI : Hid ((3 : Int) < (s.size : Int)) := by show _ < _; omega
                    have Hc := Lib.hid hc
                    have Hw1 : Hid (IntKind.i64.wrap (c : Int) = (c : Int)) := IntWalk.i64_in _ ⟨by omega, by omega⟩
                    obtain ⟨d, hd⟩ : ∃ d, d = (c : Int) - 48 := ⟨_, rfl⟩
                    obtain ⟨m, hm⟩ : ∃ m, m = 10 * d := ⟨_, rfl⟩
                    obtain ⟨n2, hn2⟩ : ∃ k, k = n + m := ⟨_, rfl⟩
                    have hb2 : 0 ≤ n2 ∧ n2 ≤ 1000 + 900 * (((4 : Nat) : Int) - 1) := by omega
                    have Hd : Hid (IntKind.i64.wrap ((c : Int) - 48) = d) := by show _ = _; rw [← hd]; exact IntWalk.i64_in _ ⟨by omega, by omega⟩
                    have Hm : Hid (IntKind.i64.wrap (10 * d) = m) := by show _ = _; rw [← hm]; exact IntWalk.i64_in _ ⟨by omega, by omega⟩
                    have Hn2 : Hid (IntKind.i64.wrap (n + m) = n2) := by show _ = _; rw [← hn2]; exact IntWalk.i64_in _ ⟨by omega, by omega⟩
                    rw [← hd, ← hm, ← hn2] at HQ3
                    have Hnn : Hid (IntKind.i64.wrap n = n) := IntWalk.i64_in _ ⟨by omega, by omega⟩
                    have Hn0 : Hid (m = 0 → n2 = n) := fun h => by rw [hn2, h]; omega
                    have Hb2 := Lib.hid hb2
                    have Hm0 := trivial
                    have k1 : (3 : Int) < (s.size : Int) := HsI.out
                    have HB2 : Hid (Below w.heap.size w wr.drew) := ⟨HB.out.os, HB.out.tape, HB.out.output, HB.out.size, HB.out.block⟩
                    have HU2 : Hid (Whole wr.drew g 3 #[.int .i64 0, .int .i64 0, .int .i64 100, .int .i64 10, .int .i64 1]) := HU.out
                    clear hd hm hn2 hb2 HQ hcg hil
                    rw [show ((3 : Nat) : Int) = 3 from rfl] at *
                    go_upto_region 10 with (fail)
                    refine held_start (by kernel_rfl) ?_
                    refine wpAnyH_take (i := 0) (oi := { dst := some 61, op := Go.Op.move (Go.Operand.tmp 4), type := 3, pos := "ref.go:65", after := #[], guard := none }) (v := ?_) rfl (by kernel_rfl) (by kernel_rfl) (by kernel_rfl) (fun _ _ _ h => h) (Or.inl ⟨by rfl, ?_⟩) (Kp.refl _) ?_
                    rotate_left 1
                    · intro w5 hSw
                      go_simp; all_goals (with_reducible rfl)
                    try simp only [Act.put, List.setIfInBounds_toArray, List.set_cons_zero, List.set_cons_succ]
                    refine wpAnyH_take (i := 1) (oi := { dst := some 62, op := Go.Op.move (Go.Operand.tmp 5), type := 31, pos := "ref.go:65", after := #[], guard := none }) (v := ?_) rfl (by kernel_rfl) (by kernel_rfl) (by kernel_rfl) (fun _ _ _ h => h) (Or.inl ⟨by rfl, ?_⟩) (Kp.refl _) ?_
                    rotate_left 1
                    · intro w5 hSw
                      go_simp; all_goals (with_reducible rfl)
                    try simp only [Act.put, List.setIfInBounds_toArray, List.set_cons_zero, List.set_cons_succ]
                    refine wpAnyH_take (i := 2) (oi := { dst := some 63, op := Go.Op.move (Go.Operand.tmp 6), type := 3, pos := "ref.go:65", after := #[], guard := none }) (v := ?_) rfl (by kernel_rfl) (by kernel_rfl) (by kernel_rfl) (fun _ _ _ h => h) (Or.inl ⟨by rfl, ?_⟩) (Kp.refl _) ?_
                    rotate_left 1
                    · intro w5 hSw
                      go_simp; all_goals (with_reducible rfl)
                    try simp only [Act.put, List.setIfInBounds_toArray, List.set_cons_zero, List.set_cons_succ]
                    refine wpAnyH_take (i := 3) (oi := { dst := some 64, op := Go.Op.indexAddr 31 (Go.Operand.tmp 62) (Go.Operand.tmp 63), type := 0, pos := "ref.go:65", after := #[{ on := 1, ground := Go.Ground.data }, { on := 2, ground := Go.Ground.data }], guard := none }) (v := ?_) rfl (by kernel_rfl) (by kernel_rfl) (by kernel_rfl) (fun _ _ _ h => h) (Or.inl ⟨by rfl, ?_⟩) (Kp.refl _) ?_
                    rotate_left 1
                    · intro w5 hSw
                      have q5 : (3 : Int) < 5 := by decide
                      go_simp; all_goals (with_reducible rfl)
                    try simp only [Act.put, List.setIfInBounds_toArray, List.set_cons_zero, List.set_cons_succ]
                    refine wpAnyH_take (i := 4) (oi := { dst := some 65, op := Go.Op.load 3 (Go.Operand.tmp 64), type := 3, pos := "ref.go:65", after := #[{ on := 3, ground := Go.Ground.data }], guard := none }) (v := ?_) rfl (by kernel_rfl) (by kernel_rfl) (by kernel_rfl) (fun _ _ _ h => h) (Or.inl ⟨by rfl, ?_⟩) (Kp.refl _) ?_
                    rotate_left 1
                    · intro w5 hSw
                      have q : w5.cell? ⟨g, 3, none⟩ = some (.int .i64 10) := (HU2.out.below hSw HU2.out.lt).cell 3
                      go_simp; all_goals (with_reducible rfl)
                    try simp only [Act.put, List.setIfInBounds_toArray, List.set_cons_zero, List.set_cons_succ]
                    refine wpAnyH_take (i := 5) (oi := { dst := some 66, op := Go.Op.move (Go.Operand.tmp 0), type := 9, pos := "ref.go:65", after := #[], guard := none }) (v := ?_) rfl (by kernel_rfl) (by kernel_rfl) (by kernel_rfl) (fun _ _ _ h => h) (Or.inl ⟨by rfl, ?_⟩) (Kp.refl _) ?_
                    rotate_left 1
                    · intro w5 hSw
                      go_simp; all_goals (with_reducible rfl)
                    try simp only [Act.put, List.setIfInBounds_toArray, List.set_cons_zero, List.set_cons_succ]
                    refine wpAnyH_take (i := 6) (oi := { dst := some 67, op := Go.Op.move (Go.Operand.tmp 6), type := 3, pos := "ref.go:65", after := #[], guard := none }) (v := ?_) rfl (by kernel_rfl) (by kernel_rfl) (by kernel_rfl) (fun _ _ _ h => h) (Or.inl ⟨by rfl, ?_⟩) (Kp.refl _) ?_
                    rotate_left 1
                    · intro w5 hSw
                      go_simp; all_goals (with_reducible rfl)
                    try simp only [Act.put, List.setIfInBounds_toArray, List.set_cons_zero, List.set_cons_succ]
                    refine wpAnyH_take (i := 7) (oi := { dst := some 68, op := Go.Op.index 9 (Go.Operand.tmp 66) (Go.Operand.tmp 67), type := 5, pos := "ref.go:65", after := #[{ on := 5, ground := Go.Ground.data }, { on := 6, ground := Go.Ground.data }], guard := none }) (v := ?_) rfl (by kernel_rfl) (by kernel_rfl) (by kernel_rfl) (fun _ _ _ h => h) (Or.inl ⟨by rfl, ?_⟩) (Kp.refl _) ?_
                    rotate_left 1
                    · intro w5 hSw
                      have gk : (3 : Int) < (s.size : Int) := HsI.out
                      have hg2 := Hc.out
                      go_simp; all_goals (with_reducible rfl)
                    try simp only [Act.put, List.setIfInBounds_toArray, List.set_cons_zero, List.set_cons_succ]
                    refine wpAnyH_take (i := 8) (oi := { dst := some 69, op := Go.Op.convert 5 3 (Go.Operand.tmp 68), type := 3, pos := "ref.go:65", after := #[{ on := 7, ground := Go.Ground.data }], guard := none }) (v := ?_) rfl (by kernel_rfl) (by kernel_rfl) (by kernel_rfl) (fun _ _ _ h => h) (Or.inl ⟨by rfl, ?_⟩) (Kp.refl _) ?_
                    rotate_left 1
                    · intro w5 hSw
                      have hw := Hw1.out
                      go_simp; all_goals (with_reducible rfl)
                    try simp only [Act.put, List.setIfInBounds_toArray, List.set_cons_zero, List.set_cons_succ]
                    refine wpAnyH_take (i := 9) (oi := { dst := some 70, op := Go.Op.binOp Go.BinOp.sub 3 (Go.Operand.tmp 69) (Go.Operand.const (Go.Value.int Go.IntKind.i64 48)) 3, type := 3, pos := "ref.go:65", after := #[{ on := 8, ground := Go.Ground.data }], guard := none }) (v := ?_) rfl (by kernel_rfl) (by kernel_rfl) (by kernel_rfl) (fun _ _ _ h => h) (Or.inl ⟨by rfl, ?_⟩) (Kp.refl _) ?_
                    rotate_left 1
                    · intro w5 hSw
                      have hd := Hd.out
                      go_simp; all_goals (with_reducible rfl)
                    try simp only [Act.put, List.setIfInBounds_toArray, List.set_cons_zero, List.set_cons_succ]
                    refine wpAnyH_take (i := 10) (oi := { dst := some 71, op := Go.Op.binOp Go.BinOp.mul 3 (Go.Operand.tmp 65) (Go.Operand.tmp 70) 3, type := 3, pos := "ref.go:65", after := #[{ on := 4, ground := Go.Ground.data }, { on := 9, ground := Go.Ground.data }], guard := none }) (v := ?_) rfl (by kernel_rfl) (by kernel_rfl) (by kernel_rfl) (fun _ _ _ h => h) (Or.inl ⟨by rfl, ?_⟩) (Kp.refl _) ?_
                    rotate_left 1
                    · intro w5 hSw
                      have hm := Hm.out
                      go_simp; all_goals (with_reducible rfl)
                    try simp only [Act.put, List.setIfInBounds_toArray, List.set_cons_zero, List.set_cons_succ]
                    refine wpAnyH_take (i := 11) (oi := { dst := some 72, op := Go.Op.binOp Go.BinOp.add 3 (Go.Operand.tmp 61) (Go.Operand.tmp 71) 3, type := 3, pos := "ref.go:65", after := #[{ on := 0, ground := Go.Ground.data }, { on := 10, ground := Go.Ground.data }], guard := none }) (v := ?_) rfl (by kernel_rfl) (by kernel_rfl) (by kernel_rfl) (fun _ _ _ h => h) (Or.inl ⟨by rfl, ?_⟩) (Kp.refl _) ?_
                    rotate_left 1
                    · intro w5 hSw
                      have hn := Hn2.out
                      go_simp; all_goals (with_reducible rfl)
                    try simp only [Act.put, List.setIfInBounds_toArray, List.set_cons_zero, List.set_cons_succ]
                    refine wpAnyH_take (i := 12) (oi := { dst := some 4, op := Go.Op.assign (Go.Operand.tmp 72), type := 3, pos := "ref.go:65", after := #[{ on := 11, ground := Go.Ground.data }, { on := 0, ground := Go.Ground.phase }, { on := 1, ground := Go.Ground.phase }, { on := 2, ground := Go.Ground.phase }, { on := 3, ground := Go.Ground.phase }, { on := 4, ground := Go.Ground.phase }, { on := 5, ground := Go.Ground.phase }, { on := 6, ground := Go.Ground.phase }, { on := 7, ground := Go.Ground.phase }, { on := 8, ground := Go.Ground.phase }, { on := 9, ground := Go.Ground.phase }, { on := 10, ground := Go.Ground.phase }, { on := 11, ground := Go.Ground.phase }], guard := none }) (v := ?_) rfl (by kernel_rfl) (by kernel_rfl) (by kernel_rfl) (fun _ _ _ h => h) (Or.inl ⟨by rfl, ?_⟩) (Kp.refl _) ?_
                    rotate_left 1
                    · intro w5 hSw
                      go_simp; all_goals (with_reducible rfl)
                    try simp only [Act.put, List.setIfInBounds_toArray, List.set_cons_zero, List.set_cons_succ]
                    refine wpAnyH_done (by kernel_rfl) ?_ _
                    go_wp2_with fail
                    go_roundw
                    case rel => exact ⟨4, n2, by omega, by omega, rfl, rfl, Hb2.out.1, Hb2.out.2, HQ3, HU2, HB2⟩
                    case measure => simp [RowKit.intOf]; omega
              · by_cases hq1 : c < 48
                · have n1 : decide ((c : Int) < 48) = true := decide_eq_true (by omega)
                  have HQ3 : Hid (Q = (0, false)) := by show _ = _; rw [HQ.out]; show goQ (bs s) (1 + 1) 4 n = _; exact goQ_bad hil (by rw [bad_dig (c := c) (by omega) hcg]; exact decide_eq_true (by omega))
                  have k1 : (4 : Int) < (s.size : Int) := by omega
                  clear HQ hcg hil
                  rw [show ((4 : Nat) : Int) = 4 from rfl] at *
                  go_wp2_with fail
                  exact bodyPost_ret (v := .tuple #[.int .i64 0, .bool false]) (by simp [results, Tryd.results6, go_sem]) rfl ⟨by rw [HQ3.out], HB.out⟩
                · have n1 : decide ((c : Int) < 48) = false := decide_eq_false (by omega)
                  by_cases hq2 : 57 < c
                  · have n2 : decide (57 < (c : Int)) = true := decide_eq_true (by omega)
                    have HQ3 : Hid (Q = (0, false)) := by show _ = _; rw [HQ.out]; show goQ (bs s) (1 + 1) 4 n = _; exact goQ_bad hil (by rw [bad_dig (c := c) (by omega) hcg]; exact decide_eq_true (by omega))
                    have k1 : (4 : Int) < (s.size : Int) := by omega
                    clear HQ hcg hil
                    rw [show ((4 : Nat) : Int) = 4 from rfl] at *
                    go_wp2_with fail
                    exact bodyPost_ret (v := .tuple #[.int .i64 0, .bool false]) (by simp [results, Tryd.results6, go_sem]) rfl ⟨by rw [HQ3.out], HB.out⟩
                  · have n2 : decide (57 < (c : Int)) = false := decide_eq_false (by omega)
                    have HQ3 : Hid (Q = goQ (bs s) (6 - 5) 5 (n + 1 * ((c : Int) - 48))) := by show _ = _; rw [HQ.out]; show goQ (bs s) (1 + 1) 4 n = _; rw [goQ_go hil (by rw [bad_dig (c := c) (by omega) hcg]; exact decide_eq_false (by omega)), hcg]; rfl
                    have HsI : Hid ((4 : Int) < (s.size : Int)) := by show _ < _; omega
                    have Hc := Lib.hid hc
                    have Hw1 : Hid (IntKind.i64.wrap (c : Int) = (c : Int)) := IntWalk.i64_in _ ⟨by omega, by omega⟩
                    obtain ⟨d, hd⟩ : ∃ d, d = (c : Int) - 48 := ⟨_, rfl⟩
                    obtain ⟨m, hm⟩ : ∃ m, m = 1 * d := ⟨_, rfl⟩
                    obtain ⟨n2, hn2⟩ : ∃ k, k = n + m := ⟨_, rfl⟩
                    have hb2 : 0 ≤ n2 ∧ n2 ≤ 1000 + 900 * (((5 : Nat) : Int) - 1) := by omega
                    have Hd : Hid (IntKind.i64.wrap ((c : Int) - 48) = d) := by show _ = _; rw [← hd]; exact IntWalk.i64_in _ ⟨by omega, by omega⟩
                    have Hm : Hid (IntKind.i64.wrap (1 * d) = m) := by show _ = _; rw [← hm]; exact IntWalk.i64_in _ ⟨by omega, by omega⟩
                    have Hn2 : Hid (IntKind.i64.wrap (n + m) = n2) := by show _ = _; rw [← hn2]; exact IntWalk.i64_in _ ⟨by omega, by omega⟩
                    rw [← hd, ← hm, ← hn2] at HQ3
                    have Hnn : Hid (IntKind.i64.wrap n = n) := IntWalk.i64_in _ ⟨by omega, by omega⟩
                    have Hn0 : Hid (m = 0 → n2 = n) := fun h => by rw [hn2, h]; omega
                    have Hb2 := Lib.hid hb2
                    have Hdd : Hid (IntKind.i64.wrap d = d ∧ IntKind.i64.wrap (n + d) = n2) := ⟨IntWalk.i64_in _ ⟨by omega, by omega⟩, by rw [hn2, hm, Int.one_mul]; exact IntWalk.i64_in _ ⟨by omega, by omega⟩⟩
                    have k1 : (4 : Int) < (s.size : Int) := HsI.out
                    have HB2 : Hid (Below w.heap.size w wr.drew) := ⟨HB.out.os, HB.out.tape, HB.out.output, HB.out.size, HB.out.block⟩
                    have HU2 : Hid (Whole wr.drew g 3 #[.int .i64 0, .int .i64 0, .int .i64 100, .int .i64 10, .int .i64 1]) := HU.out
                    clear hd hm hn2 hb2 HQ hcg hil
                    rw [show ((4 : Nat) : Int) = 4 from rfl] at *
                    go_upto_region 10 with (fail)
                    refine held_start (by kernel_rfl) ?_
                    refine wpAnyH_take (i := 0) (oi := { dst := some 61, op := Go.Op.move (Go.Operand.tmp 4), type := 3, pos := "ref.go:65", after := #[], guard := none }) (v := ?_) rfl (by kernel_rfl) (by kernel_rfl) (by kernel_rfl) (fun _ _ _ h => h) (Or.inl ⟨by rfl, ?_⟩) (Kp.refl _) ?_
                    rotate_left 1
                    · intro w5 hSw
                      go_simp; all_goals (with_reducible rfl)
                    try simp only [Act.put, List.setIfInBounds_toArray, List.set_cons_zero, List.set_cons_succ]
                    refine wpAnyH_take (i := 1) (oi := { dst := some 62, op := Go.Op.move (Go.Operand.tmp 5), type := 31, pos := "ref.go:65", after := #[], guard := none }) (v := ?_) rfl (by kernel_rfl) (by kernel_rfl) (by kernel_rfl) (fun _ _ _ h => h) (Or.inl ⟨by rfl, ?_⟩) (Kp.refl _) ?_
                    rotate_left 1
                    · intro w5 hSw
                      go_simp; all_goals (with_reducible rfl)
                    try simp only [Act.put, List.setIfInBounds_toArray, List.set_cons_zero, List.set_cons_succ]
                    refine wpAnyH_take (i := 2) (oi := { dst := some 63, op := Go.Op.move (Go.Operand.tmp 6), type := 3, pos := "ref.go:65", after := #[], guard := none }) (v := ?_) rfl (by kernel_rfl) (by kernel_rfl) (by kernel_rfl) (fun _ _ _ h => h) (Or.inl ⟨by rfl, ?_⟩) (Kp.refl _) ?_
                    rotate_left 1
                    · intro w5 hSw
                      go_simp; all_goals (with_reducible rfl)
                    try simp only [Act.put, List.setIfInBounds_toArray, List.set_cons_zero, List.set_cons_succ]
                    refine wpAnyH_take (i := 3) (oi := { dst := some 64, op := Go.Op.indexAddr 31 (Go.Operand.tmp 62) (Go.Operand.tmp 63), type := 0, pos := "ref.go:65", after := #[{ on := 1, ground := Go.Ground.data }, { on := 2, ground := Go.Ground.data }], guard := none }) (v := ?_) rfl (by kernel_rfl) (by kernel_rfl) (by kernel_rfl) (fun _ _ _ h => h) (Or.inl ⟨by rfl, ?_⟩) (Kp.refl _) ?_
                    rotate_left 1
                    · intro w5 hSw
                      have q5 : (4 : Int) < 5 := by decide
                      go_simp; all_goals (with_reducible rfl)
                    try simp only [Act.put, List.setIfInBounds_toArray, List.set_cons_zero, List.set_cons_succ]
                    refine wpAnyH_take (i := 4) (oi := { dst := some 65, op := Go.Op.load 3 (Go.Operand.tmp 64), type := 3, pos := "ref.go:65", after := #[{ on := 3, ground := Go.Ground.data }], guard := none }) (v := ?_) rfl (by kernel_rfl) (by kernel_rfl) (by kernel_rfl) (fun _ _ _ h => h) (Or.inl ⟨by rfl, ?_⟩) (Kp.refl _) ?_
                    rotate_left 1
                    · intro w5 hSw
                      have q : w5.cell? ⟨g, 4, none⟩ = some (.int .i64 1) := (HU2.out.below hSw HU2.out.lt).cell 4
                      go_simp; all_goals (with_reducible rfl)
                    try simp only [Act.put, List.setIfInBounds_toArray, List.set_cons_zero, List.set_cons_succ]
                    refine wpAnyH_take (i := 5) (oi := { dst := some 66, op := Go.Op.move (Go.Operand.tmp 0), type := 9, pos := "ref.go:65", after := #[], guard := none }) (v := ?_) rfl (by kernel_rfl) (by kernel_rfl) (by kernel_rfl) (fun _ _ _ h => h) (Or.inl ⟨by rfl, ?_⟩) (Kp.refl _) ?_
                    rotate_left 1
                    · intro w5 hSw
                      go_simp; all_goals (with_reducible rfl)
                    try simp only [Act.put, List.setIfInBounds_toArray, List.set_cons_zero, List.set_cons_succ]
                    refine wpAnyH_take (i := 6) (oi := { dst := some 67, op := Go.Op.move (Go.Operand.tmp 6), type := 3, pos := "ref.go:65", after := #[], guard := none }) (v := ?_) rfl (by kernel_rfl) (by kernel_rfl) (by kernel_rfl) (fun _ _ _ h => h) (Or.inl ⟨by rfl, ?_⟩) (Kp.refl _) ?_
                    rotate_left 1
                    · intro w5 hSw
                      go_simp; all_goals (with_reducible rfl)
                    try simp only [Act.put, List.setIfInBounds_toArray, List.set_cons_zero, List.set_cons_succ]
                    refine wpAnyH_take (i := 7) (oi := { dst := some 68, op := Go.Op.index 9 (Go.Operand.tmp 66) (Go.Operand.tmp 67), type := 5, pos := "ref.go:65", after := #[{ on := 5, ground := Go.Ground.data }, { on := 6, ground := Go.Ground.data }], guard := none }) (v := ?_) rfl (by kernel_rfl) (by kernel_rfl) (by kernel_rfl) (fun _ _ _ h => h) (Or.inl ⟨by rfl, ?_⟩) (Kp.refl _) ?_
                    rotate_left 1
                    · intro w5 hSw
                      have gk : (4 : Int) < (s.size : Int) := HsI.out
                      have hg2 := Hc.out
                      go_simp; all_goals (with_reducible rfl)
                    try simp only [Act.put, List.setIfInBounds_toArray, List.set_cons_zero, List.set_cons_succ]
                    refine wpAnyH_take (i := 8) (oi := { dst := some 69, op := Go.Op.convert 5 3 (Go.Operand.tmp 68), type := 3, pos := "ref.go:65", after := #[{ on := 7, ground := Go.Ground.data }], guard := none }) (v := ?_) rfl (by kernel_rfl) (by kernel_rfl) (by kernel_rfl) (fun _ _ _ h => h) (Or.inl ⟨by rfl, ?_⟩) (Kp.refl _) ?_
                    rotate_left 1
                    · intro w5 hSw
                      have hw := Hw1.out
                      go_simp; all_goals (with_reducible rfl)
                    try simp only [Act.put, List.setIfInBounds_toArray, List.set_cons_zero, List.set_cons_succ]
                    refine wpAnyH_take (i := 9) (oi := { dst := some 70, op := Go.Op.binOp Go.BinOp.sub 3 (Go.Operand.tmp 69) (Go.Operand.const (Go.Value.int Go.IntKind.i64 48)) 3, type := 3, pos := "ref.go:65", after := #[{ on := 8, ground := Go.Ground.data }], guard := none }) (v := ?_) rfl (by kernel_rfl) (by kernel_rfl) (by kernel_rfl) (fun _ _ _ h => h) (Or.inl ⟨by rfl, ?_⟩) (Kp.refl _) ?_
                    rotate_left 1
                    · intro w5 hSw
                      have hd := Hd.out
                      go_simp; all_goals (with_reducible rfl)
                    try simp only [Act.put, List.setIfInBounds_toArray, List.set_cons_zero, List.set_cons_succ]
                    refine wpAnyH_take (i := 10) (oi := { dst := some 71, op := Go.Op.binOp Go.BinOp.mul 3 (Go.Operand.tmp 65) (Go.Operand.tmp 70) 3, type := 3, pos := "ref.go:65", after := #[{ on := 4, ground := Go.Ground.data }, { on := 9, ground := Go.Ground.data }], guard := none }) (v := ?_) rfl (by kernel_rfl) (by kernel_rfl) (by kernel_rfl) (fun _ _ _ h => h) (Or.inl ⟨by rfl, ?_⟩) (Kp.refl _) ?_
                    rotate_left 1
                    · intro w5 hSw
                      have hm := Hm.out
                      go_simp; all_goals (with_reducible rfl)
                    try simp only [Act.put, List.setIfInBounds_toArray, List.set_cons_zero, List.set_cons_succ]
                    refine wpAnyH_take (i := 11) (oi := { dst := some 72, op := Go.Op.binOp Go.BinOp.add 3 (Go.Operand.tmp 61) (Go.Operand.tmp 71) 3, type := 3, pos := "ref.go:65", after := #[{ on := 0, ground := Go.Ground.data }, { on := 10, ground := Go.Ground.data }], guard := none }) (v := ?_) rfl (by kernel_rfl) (by kernel_rfl) (by kernel_rfl) (fun _ _ _ h => h) (Or.inl ⟨by rfl, ?_⟩) (Kp.refl _) ?_
                    rotate_left 1
                    · intro w5 hSw
                      have hn := Hn2.out
                      have hdd : IntKind.i64.wrap d = d := Hdd.out.1
                      have hnd : IntKind.i64.wrap (n + d) = n2 := Hdd.out.2
                      go_simp; all_goals (with_reducible rfl)
                    try simp only [Act.put, List.setIfInBounds_toArray, List.set_cons_zero, List.set_cons_succ]
                    refine wpAnyH_take (i := 12) (oi := { dst := some 4, op := Go.Op.assign (Go.Operand.tmp 72), type := 3, pos := "ref.go:65", after := #[{ on := 11, ground := Go.Ground.data }, { on := 0, ground := Go.Ground.phase }, { on := 1, ground := Go.Ground.phase }, { on := 2, ground := Go.Ground.phase }, { on := 3, ground := Go.Ground.phase }, { on := 4, ground := Go.Ground.phase }, { on := 5, ground := Go.Ground.phase }, { on := 6, ground := Go.Ground.phase }, { on := 7, ground := Go.Ground.phase }, { on := 8, ground := Go.Ground.phase }, { on := 9, ground := Go.Ground.phase }, { on := 10, ground := Go.Ground.phase }, { on := 11, ground := Go.Ground.phase }], guard := none }) (v := ?_) rfl (by kernel_rfl) (by kernel_rfl) (by kernel_rfl) (fun _ _ _ h => h) (Or.inl ⟨by rfl, ?_⟩) (Kp.refl _) ?_
                    rotate_left 1
                    · intro w5 hSw
                      go_simp; all_goals (with_reducible rfl)
                    try simp only [Act.put, List.setIfInBounds_toArray, List.set_cons_zero, List.set_cons_succ]
                    refine wpAnyH_done (by kernel_rfl) ?_ _
                    go_wp2_with fail
                    go_roundw
                    case rel => exact ⟨5, n2, by omega, by omega, rfl, rfl, Hb2.out.1, Hb2.out.2, HQ3, HU2, HB2⟩
                    case measure => simp [RowKit.intOf]; omega
              · omega
            · obtain rfl : i = s.size := by omega
              have e9 : Hid (Q = if 1000 < n then ((0 : Int), false) else (n, true)) := by
                show _ = _
                rw [HQ.out, show 6 - s.size = (5 - s.size) + 1 by omega]
                unfold goQ
                rw [if_neg (by rw [bs_length]; omega)]
              clear HQ hi5
              by_cases hbig : 1000 < n
              · have e1 : decide (1000 < n) = true := decide_eq_true hbig
                have e10 : Hid (Q = (0, false)) := by show _ = _; rw [e9.out, if_pos hbig]
                clear e9
                go_wp2_with fail
                exact bodyPost_ret (v := .tuple #[.int .i64 0, .bool false]) (by simp [results, Tryd.results6, go_sem]) rfl ⟨by rw [e10.out], HB.out⟩
              · have e1 : decide (1000 < n) = false := decide_eq_false hbig
                have e10 : Hid (Q = (n, true)) := by show _ = _; rw [e9.out, if_neg hbig]
                clear e9
                go_wp2_with fail
                exact bodyPost_ret (v := .tuple #[.int .i64 n, .bool true]) (by simp [results, Tryd.results6, go_sem]) rfl ⟨by rw [e10.out], HB.out⟩
      · have hQ2 : Hid (Q = (0, false)) := by show _ = _; rw [HQ.out]; unfold okQ; rw [decide_eq_false (by rw [hag]; exact fun h => ha48 h.2.2)]; rfl
        have hn1 : ((a : Int) != 48) = true := bne_iff_ne.mpr (by omega)
        have hn2 : ((a : Int) != 49) = true := bne_iff_ne.mpr (by omega)
        have hn3 : ((a : Int) == 48) = false := beq_eq_false_iff_ne.mpr (by omega)
        have hn4 : ((a : Int) == 49) = false := beq_eq_false_iff_ne.mpr (by omega)
        clear HQ hag ha48
        go_enter Tryd.func6, Tryd.ntmps6
        go_wp2_with fail
        exact bodyPost_ret (v := .tuple #[.int .i64 0, .bool false]) (by simp [results, Tryd.results6, go_sem]) rfl ⟨by rw [hQ2.out], Below.refl _ _⟩
end Go.Proofs.YtkmdimepbghpcaaDoor
