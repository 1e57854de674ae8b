/- The statement WirePuts: the law's walk. -/
import Derived.Test.YtnlbhlobnafggaaRefSame
import Derived.Test.YtnlbhlobnafggaaRefPut
import Derived.Test.YtnlbhlobnafggaaOpenFields
import Derived.Test.YtnlbhlobnafggaaWireLive
namespace Go.Proofs.Ytnlbhlobnafggaa
open Go.RowKit Var
set_option linter.unusedVariables false
set_option maxRecDepth 100000

theorem fx_le (v n : Nat) : (fx v n).length ≤ n := Nat.le_of_eq (fx_length v n)
theorem pfI_len (num kind : Int) (x : Nat) (d : List Nat) (hx : x < 18446744073709551616) (hd : d.length < 18446744073709551616) : (pfI num kind x d).length ≤ 30 + d.length := by
  have h0 := fun k (hk : k < 8) => vb_len10 (headOf_lt num k hk)
  have h1 := vb_len10 hx
  have h2 := vb_len10 hd
  unfold pfI
  split
  · have := h0 0 (by omega); simp only [List.length_append]; omega
  · split
    · have := h0 1 (by omega); simp only [List.length_append, fx_length]; omega
    · split
      · have := h0 2 (by omega); simp only [List.length_append]; omega
      · split
        · have := h0 5 (by omega); simp only [List.length_append, fx_length]; omega
        · simp
theorem pfI_lt (num kind : Int) (x : Nat) (d : List Nat) (hd : ∀ y ∈ d, y < 256) : ∀ y ∈ pfI num kind x d, y < 256 := by
  intro y hy
  unfold pfI at hy
  split at hy
  · simp only [List.mem_append] at hy; rcases hy with hy | hy <;> exact vb_lt _ _ hy
  · split at hy
    · simp only [List.mem_append] at hy; rcases hy with hy | hy; exact vb_lt _ _ hy; exact fx_lt _ _ _ hy
    · split at hy
      · simp only [List.mem_append] at hy; rcases hy with hy | hy | hy; exact vb_lt _ _ hy; exact vb_lt _ _ hy; exact hd y hy
      · split at hy
        · simp only [List.mem_append] at hy; rcases hy with hy | hy; exact vb_lt _ _ hy; exact fx_lt _ _ _ hy
        · simp at hy
theorem pgs_len : ∀ (l : List G), (∀ g ∈ l, g.int < 18446744073709551616 ∧ g.data.length < 18446744073709551616) → (pgs l).length ≤ 30 * l.length + total l
  | [], _ => by simp [pgs]
  | g :: l, h => by
    have h1 := pgs_len l (fun x hx => h x (List.mem_cons_of_mem _ hx))
    obtain ⟨a, b⟩ := h g (List.mem_cons_self ..)
    have h2 := pfI_len g.num g.kind g.int g.data a b
    have e : pgs (g :: l) = g.bytes ++ pgs l := by simp [pgs]
    rw [e, List.length_append, List.length_cons]
    simp only [total, G.bytes] at *
    omega
theorem total_mem : ∀ (l : List G), ∀ g ∈ l, g.data.length ≤ total l
  | g0 :: l, g, h => by
    simp only [total]
    rcases List.mem_cons.1 h with rfl | h
    · omega
    · have := total_mem l g h; omega
theorem sm_self : ∀ (l : List G), sm l l = true
  | [] => rfl
  | g :: l => by
    simp only [sm, sm_self l, Bool.and_true]
    simp [sm1, sb]

set_option maxHeartbeats 8000000 in
theorem wirePuts_walk (v0 v1 : Value) (w : World) (g0 : ∃ gs, GArg w v0 gs) (g1 : ∃ gs, GArg w v1 gs) :
    Calls Try.prog 5 #[v0, v1] w fun e w' => e = .returned (.bool true) ∧ Below w.heap.size w w' := by
  obtain ⟨l, a0, c0, rfl, hlc, hcm, hlo, hA⟩ := g0
  obtain ⟨m, a1, c1, rfl, hmc, hcm1, hmo, hB⟩ := g1
  have hrb : reachBytes ≤ 140737488355328 := by decide
  have hlong0 := Lib.hid (long_any a0 c0 l w hA hlc hcm (fun g hg => Nat.le_trans (hlo g hg).2.2.2.1 hrb))
  have hlong1 := Lib.hid (long_any a1 c1 m w hB hmc hcm1 (fun g hg => Nat.le_trans (hmo g hg).2.2.2.1 hrb))
  have hlive := Lib.hid (live_any w)
  have key : l.length ≤ 100 ∧ total l ≤ 2000 → m.length ≤ 100 ∧ total m ≤ 2000 → Hid (
      (∀ W, Below w.heap.size w W → Calls Try.prog 21 #[.slice a0 l.length c0] W (PutPost W (pgs l))) ∧
      (∀ W, Below w.heap.size w W → Calls Try.prog 23 #[.slice a0 l.length c0] W (PutPost W (pgs l))) ∧
      (∀ W, Below w.heap.size w W → Calls Try.prog 24 #[.slice a0 l.length c0, .slice a1 m.length c1] W (Says (sm l m) W)) ∧
      (∀ W, Below w.heap.size w W → Calls Try.prog 20 #[.slice a0 l.length c0, .slice a1 m.length c1] W (Says (sm l m) W)) ∧
      (∀ W, Below w.heap.size w W → Calls Try.prog 24 #[.slice a0 l.length c0, .slice a0 l.length c0] W (Says true W))) := fun h1 h2 => by
    have ok : ∀ g ∈ l, g.ok := fun g hg => ⟨(hlo g hg).1, (hlo g hg).2.1, (hlo g hg).2.2.1, by have := total_mem l g hg; omega, (hlo g hg).2.2.2.2⟩
    have hp : (pgs l).length ≤ 5000 := by
      have := pgs_len l (fun g hg => ⟨(hlo g hg).2.2.1, by have := total_mem l g hg; omega⟩)
      omega
    have d1 := fun g hg => (hlo g hg).2.2.2.2
    have d2 := fun g hg => (hmo g hg).2.2.2.2
    refine ⟨fun W h => put_any a0 c0 l W ((hA.below h).more h.size) ok (by omega) (by omega), fun W h => refPut_any a0 c0 l W ((hA.below h).more h.size) ok (by omega) (by omega),
      fun W h => same_any a0 a1 c0 c1 l m W ((hA.below h).more h.size) ((hB.below h).more h.size) (by omega) (by omega) d1 d2,
      fun W h => refSame_any a0 a1 c0 c1 l m W ((hA.below h).more h.size) ((hB.below h).more h.size) (by omega) (by omega) d1 d2,
      fun W h => ?_⟩
    have := same_any a0 a0 c0 c0 l l W ((hA.below h).more h.size) ((hA.below h).more h.size) (by omega) (by omega) d1 d1
    rwa [sm_self] at this
  have hlt : Hid (∀ x ∈ pgs l, x < 256) := by
    intro x hx
    simp only [pgs, List.mem_flatten, List.mem_map] at hx
    obtain ⟨bs, ⟨g, hg, rfl⟩, hx⟩ := hx
    exact pfI_lt _ _ _ _ (hlo g hg).2.2.2.2 x hx
  have Key := Lib.hid key
  generalize sm l m = S at *
  clear hA hB hlo hmo key hlc hmc hcm hcm1 hrb
  go_enter Try.func5, Try.ntmps5
  go_wp2_with fail
  refine hlong0.out.mono ?_
  rintro e W ⟨b0, rfl, hb0, rfl⟩
  have Hb0 := Lib.hid hb0
  clear hb0 hlong0
  cases b0
  · go_wp2_with fail
    refine hlong1.out.mono ?_
    rintro e W ⟨b1, rfl, hb1, rfl⟩
    have Hb1 := Lib.hid hb1
    clear hb1 hlong1
    cases b1
    · obtain ⟨hPut0, hRP0, hSame0, hRS0, hSelf0⟩ := (Key.out (Hb0.out (by trivial)) (Hb1.out (by trivial))).out
      have hPut := Lib.hid hPut0
      have hRP := Lib.hid hRP0
      have hSame := Lib.hid hSame0
      have hRS := Lib.hid hRS0
      have hSelf := Lib.hid hSelf0
      have k1 : Hid (Below w.heap.size w w.drew) := (Below.refl _ _).drew
      have hSS : (S == S) = true := by simp
      clear hPut0 hRP0 hSame0 hRS0 hSelf0
      go_wp2_with fail
      refine held_start (by kernel_rfl) ?_
      refine wpAnyH_take (i := 0) (oi := { dst := some 12, op := Go.Op.move (Go.Operand.tmp 0), type := 36, pos := "law.go:63", after := #[], guard := none }) (v := ?_) rfl (by kernel_rfl) (by kernel_rfl) (by kernel_rfl) (fun _ _ _ h => h) (Or.inl ⟨by rfl, ?_⟩) (Kp.refl _) ?_
      rotate_left 1
      · intro w5 hSw
        go_simp; all_goals (with_reducible rfl)
      try simp only [Act.put, List.setIfInBounds_toArray, List.set_cons_zero, List.set_cons_succ]
      refine wpAnyH_take (i := 3) (oi := { dst := some 15, op := Go.Op.move (Go.Operand.tmp 0), type := 36, pos := "law.go:63", after := #[], guard := none }) (v := ?_) rfl (by kernel_rfl) (by kernel_rfl) (by kernel_rfl) (fun _ _ _ h => h) (Or.inl ⟨by rfl, ?_⟩) (Kp.refl _) ?_
      rotate_left 1
      · intro w5 hSw
        go_simp; all_goals (with_reducible rfl)
      try simp only [Act.put, List.setIfInBounds_toArray, List.set_cons_zero, List.set_cons_succ]
      refine wpAnyH_ready (rs := [1]) (by kernel_rfl) (by simp) ?_
      refine AllReadyH.cons (o := { dst := some 13, op := Go.Op.call { callee := Go.Callee.value (Go.Operand.func 21), args := #[Go.Operand.tmp 12], argTypes := #[36] }, type := 23, pos := "law.go:63", after := #[{ on := 0, ground := Go.Ground.data }], guard := none }) rfl (fun K hK => ?_) AllReadyH.nil
      go_simp
      refine (hPut.out _ k1.out).mono ?_; rintro e Y2 ⟨v2, rfl, ho2, hb2⟩; have B2 := Lib.hid hb2; have k2 := Lib.hid (keepBelow hb2 k1.out); have H2 := Lib.hid ho2; clear ho2; clear hb2
      go_wp2_with fail
      refine hK.out _ _ (B2.out) (fun _ => held_more (B2.out) ?_)
      clear hK K
      try simp only [Act.put, List.setIfInBounds_toArray, List.set_cons_zero, List.set_cons_succ]
      refine wpAnyH_take (i := 2) (oi := { dst := some 14, op := Go.Op.convert 23 9 (Go.Operand.tmp 13), type := 9, pos := "law.go:63", after := #[{ on := 1, ground := Go.Ground.data }], guard := none }) (v := ?_) rfl (by kernel_rfl) (by kernel_rfl) (by kernel_rfl) (fun _ _ _ h => h) (Or.inl ⟨by rfl, ?_⟩) (Kp.refl _) ?_
      rotate_left 1
      · intro w5 hSw
        have hs1 := str_own (H2.out.below hSw) hlt.out
        go_simp; all_goals (with_reducible rfl)
      try simp only [Act.put, List.setIfInBounds_toArray, List.set_cons_zero, List.set_cons_succ]
      refine wpAnyH_ready (rs := [4]) (by kernel_rfl) (by simp) ?_
      refine AllReadyH.cons (o := { dst := some 16, op := Go.Op.call { callee := Go.Callee.value (Go.Operand.func 23), args := #[Go.Operand.tmp 15], argTypes := #[36] }, type := 23, pos := "law.go:63", after := #[{ on := 3, ground := Go.Ground.data }, { on := 1, ground := Go.Ground.chain }], guard := none }) rfl (fun K hK => ?_) AllReadyH.nil
      go_simp
      refine (hRP.out _ k2.out).mono ?_; rintro e Y3 ⟨v3, rfl, ho3, hb3⟩; have B3 := Lib.hid hb3; have k3 := Lib.hid (keepBelow hb3 k2.out); have H3 := Lib.hid ho3; clear ho3; clear hb3
      go_wp2_with fail
      refine hK.out _ _ (B3.out) (fun _ => held_more (B3.out) ?_)
      clear hK K
      try simp only [Act.put, List.setIfInBounds_toArray, List.set_cons_zero, List.set_cons_succ]
      refine wpAnyH_take (i := 5) (oi := { dst := some 17, op := Go.Op.convert 23 9 (Go.Operand.tmp 16), type := 9, pos := "law.go:63", after := #[{ on := 4, ground := Go.Ground.data }], guard := none }) (v := ?_) rfl (by kernel_rfl) (by kernel_rfl) (by kernel_rfl) (fun _ _ _ h => h) (Or.inl ⟨by rfl, ?_⟩) (Kp.refl _) ?_
      rotate_left 1
      · intro w5 hSw
        have hs2 := str_own (H3.out.below hSw) hlt.out
        go_simp; all_goals (with_reducible rfl)
      try simp only [Act.put, List.setIfInBounds_toArray, List.set_cons_zero, List.set_cons_succ]
      refine wpAnyH_take (i := 6) (oi := { dst := some 18, op := Go.Op.binOp Go.BinOp.eql 9 (Go.Operand.tmp 14) (Go.Operand.tmp 17) 9, type := 4, pos := "law.go:63", after := #[{ on := 2, ground := Go.Ground.data }, { on := 5, ground := Go.Ground.data }], guard := none }) (v := ?_) rfl (by kernel_rfl) (by kernel_rfl) (by kernel_rfl) (fun _ _ _ h => h) (Or.inl ⟨by rfl, ?_⟩) (Kp.refl _) ?_
      rotate_left 1
      · intro w5 hSw
        go_simp; all_goals (with_reducible rfl)
      try simp only [Act.put, List.setIfInBounds_toArray, List.set_cons_zero, List.set_cons_succ]
      refine wpAnyH_take (i := 7) (oi := { dst := some 19, op := Go.Op.move (Go.Operand.tmp 18), type := 4, pos := "law.go:63", after := #[{ on := 6, ground := Go.Ground.data }, { on := 4, ground := Go.Ground.chain }], guard := none }) (v := ?_) rfl (by kernel_rfl) (by kernel_rfl) (by kernel_rfl) (fun _ _ _ h => h) (Or.inl ⟨by rfl, ?_⟩) (Kp.refl _) ?_
      rotate_left 1
      · intro w5 hSw
        go_simp; all_goals (with_reducible rfl)
      try simp only [Act.put, List.setIfInBounds_toArray, List.set_cons_zero, List.set_cons_succ]
      refine wpAnyH_take (i := 8) (oi := { dst := some 20, op := Go.Op.move (Go.Operand.tmp 0), type := 36, pos := "law.go:63", after := #[{ on := 7, ground := Go.Ground.guard }], guard := some (7, true) }) (v := ?_) rfl (by kernel_rfl) (by kernel_rfl) (by kernel_rfl) (fun _ _ _ h => h) (Or.inl ⟨by rfl, ?_⟩) (Kp.refl _) ?_
      rotate_left 1
      · intro w5 hSw
        go_simp; all_goals (with_reducible rfl)
      try simp only [Act.put, List.setIfInBounds_toArray, List.set_cons_zero, List.set_cons_succ]
      refine wpAnyH_take (i := 9) (oi := { dst := some 21, op := Go.Op.move (Go.Operand.tmp 1), type := 36, pos := "law.go:63", after := #[{ on := 7, ground := Go.Ground.guard }], guard := some (7, true) }) (v := ?_) rfl (by kernel_rfl) (by kernel_rfl) (by kernel_rfl) (fun _ _ _ h => h) (Or.inl ⟨by rfl, ?_⟩) (Kp.refl _) ?_
      rotate_left 1
      · intro w5 hSw
        go_simp; all_goals (with_reducible rfl)
      try simp only [Act.put, List.setIfInBounds_toArray, List.set_cons_zero, List.set_cons_succ]
      refine wpAnyH_take (i := 11) (oi := { dst := some 23, op := Go.Op.move (Go.Operand.tmp 0), type := 36, pos := "law.go:63", after := #[{ on := 7, ground := Go.Ground.guard }], guard := some (7, true) }) (v := ?_) rfl (by kernel_rfl) (by kernel_rfl) (by kernel_rfl) (fun _ _ _ h => h) (Or.inl ⟨by rfl, ?_⟩) (Kp.refl _) ?_
      rotate_left 1
      · intro w5 hSw
        go_simp; all_goals (with_reducible rfl)
      try simp only [Act.put, List.setIfInBounds_toArray, List.set_cons_zero, List.set_cons_succ]
      refine wpAnyH_take (i := 12) (oi := { dst := some 24, op := Go.Op.move (Go.Operand.tmp 1), type := 36, pos := "law.go:63", after := #[{ on := 7, ground := Go.Ground.guard }], guard := some (7, true) }) (v := ?_) rfl (by kernel_rfl) (by kernel_rfl) (by kernel_rfl) (fun _ _ _ h => h) (Or.inl ⟨by rfl, ?_⟩) (Kp.refl _) ?_
      rotate_left 1
      · intro w5 hSw
        go_simp; all_goals (with_reducible rfl)
      try simp only [Act.put, List.setIfInBounds_toArray, List.set_cons_zero, List.set_cons_succ]
      refine wpAnyH_ready (rs := [10]) (by kernel_rfl) (by simp) ?_
      refine AllReadyH.cons (o := { dst := some 22, op := Go.Op.call { callee := Go.Callee.value (Go.Operand.func 24), args := #[Go.Operand.tmp 20, Go.Operand.tmp 21], argTypes := #[36, 36] }, type := 4, pos := "law.go:63", after := #[{ on := 8, ground := Go.Ground.data }, { on := 9, ground := Go.Ground.data }, { on := 7, ground := Go.Ground.chain }, { on := 7, ground := Go.Ground.guard }], guard := some (7, true) }) rfl (fun K hK => ?_) AllReadyH.nil
      go_simp
      refine (hSame.out _ k3.out).mono ?_; rintro e Y4 ⟨rfl, hb4⟩; have B4 := Lib.hid hb4; have k4 := Lib.hid (keepBelow hb4 k3.out); clear hb4
      go_wp2_with fail
      refine hK.out _ _ (B4.out) (fun _ => held_more (B4.out) ?_)
      clear hK K
      try simp only [Act.put, List.setIfInBounds_toArray, List.set_cons_zero, List.set_cons_succ]
      refine wpAnyH_ready (rs := [13]) (by kernel_rfl) (by simp) ?_
      refine AllReadyH.cons (o := { dst := some 25, op := Go.Op.call { callee := Go.Callee.value (Go.Operand.func 20), args := #[Go.Operand.tmp 23, Go.Operand.tmp 24], argTypes := #[36, 36] }, type := 4, pos := "law.go:63", after := #[{ on := 11, ground := Go.Ground.data }, { on := 12, ground := Go.Ground.data }, { on := 10, ground := Go.Ground.chain }, { on := 7, ground := Go.Ground.guard }], guard := some (7, true) }) rfl (fun K hK => ?_) AllReadyH.nil
      go_simp
      refine (hRS.out _ k4.out).mono ?_; rintro e Y5 ⟨rfl, hb5⟩; have B5 := Lib.hid hb5; have k5 := Lib.hid (keepBelow hb5 k4.out); clear hb5
      go_wp2_with fail
      refine hK.out _ _ (B5.out) (fun _ => held_more (B5.out) ?_)
      clear hK K
      try simp only [Act.put, List.setIfInBounds_toArray, List.set_cons_zero, List.set_cons_succ]
      refine wpAnyH_take (i := 14) (oi := { dst := some 26, op := Go.Op.binOp Go.BinOp.eql 4 (Go.Operand.tmp 22) (Go.Operand.tmp 25) 4, type := 4, pos := "law.go:63", after := #[{ on := 10, ground := Go.Ground.data }, { on := 13, ground := Go.Ground.data }, { on := 7, ground := Go.Ground.guard }], guard := some (7, true) }) (v := ?_) rfl (by kernel_rfl) (by kernel_rfl) (by kernel_rfl) (fun _ _ _ h => h) (Or.inl ⟨by rfl, ?_⟩) (Kp.refl _) ?_
      rotate_left 1
      · intro w5 hSw
        go_simp; all_goals (with_reducible rfl)
      try simp only [Act.put, List.setIfInBounds_toArray, List.set_cons_zero, List.set_cons_succ]
      refine wpAnyH_take (i := 15) (oi := { dst := some 27, op := Go.Op.pick (Go.Operand.tmp 19) (Go.Operand.tmp 26) (Go.Operand.const (Go.Value.bool false)), type := 4, pos := "law.go:63", after := #[{ on := 7, ground := Go.Ground.data }, { on := 14, ground := Go.Ground.data }], guard := none }) (v := ?_) rfl (by kernel_rfl) (by kernel_rfl) (by kernel_rfl) (fun _ _ _ h => h) (Or.inl ⟨by rfl, ?_⟩) (Kp.refl _) ?_
      rotate_left 1
      · intro w5 hSw
        go_simp; all_goals (with_reducible rfl)
      try simp only [Act.put, List.setIfInBounds_toArray, List.set_cons_zero, List.set_cons_succ]
      refine wpAnyH_take (i := 16) (oi := { dst := some 28, op := Go.Op.move (Go.Operand.tmp 27), type := 4, pos := "law.go:63", after := #[{ on := 15, ground := Go.Ground.data }, { on := 13, ground := Go.Ground.chain }], guard := none }) (v := ?_) rfl (by kernel_rfl) (by kernel_rfl) (by kernel_rfl) (fun _ _ _ h => h) (Or.inl ⟨by rfl, ?_⟩) (Kp.refl _) ?_
      rotate_left 1
      · intro w5 hSw
        go_simp; all_goals (with_reducible rfl)
      try simp only [Act.put, List.setIfInBounds_toArray, List.set_cons_zero, List.set_cons_succ]
      refine wpAnyH_take (i := 17) (oi := { dst := some 29, op := Go.Op.move (Go.Operand.tmp 0), type := 36, pos := "law.go:63", after := #[{ on := 16, ground := Go.Ground.guard }], guard := some (16, true) }) (v := ?_) rfl (by kernel_rfl) (by kernel_rfl) (by kernel_rfl) (fun _ _ _ h => h) (Or.inl ⟨by rfl, ?_⟩) (Kp.refl _) ?_
      rotate_left 1
      · intro w5 hSw
        go_simp; all_goals (with_reducible rfl)
      try simp only [Act.put, List.setIfInBounds_toArray, List.set_cons_zero, List.set_cons_succ]
      refine wpAnyH_take (i := 18) (oi := { dst := some 30, op := Go.Op.move (Go.Operand.tmp 0), type := 36, pos := "law.go:63", after := #[{ on := 16, ground := Go.Ground.guard }], guard := some (16, true) }) (v := ?_) rfl (by kernel_rfl) (by kernel_rfl) (by kernel_rfl) (fun _ _ _ h => h) (Or.inl ⟨by rfl, ?_⟩) (Kp.refl _) ?_
      rotate_left 1
      · intro w5 hSw
        go_simp; all_goals (with_reducible rfl)
      try simp only [Act.put, List.setIfInBounds_toArray, List.set_cons_zero, List.set_cons_succ]
      refine wpAnyH_ready (rs := [19]) (by kernel_rfl) (by simp) ?_
      refine AllReadyH.cons (o := { dst := some 31, op := Go.Op.call { callee := Go.Callee.value (Go.Operand.func 24), args := #[Go.Operand.tmp 29, Go.Operand.tmp 30], argTypes := #[36, 36] }, type := 4, pos := "law.go:63", after := #[{ on := 17, ground := Go.Ground.data }, { on := 18, ground := Go.Ground.data }, { on := 16, ground := Go.Ground.chain }, { on := 16, ground := Go.Ground.guard }], guard := some (16, true) }) rfl (fun K hK => ?_) AllReadyH.nil
      go_simp
      refine (hSelf.out _ k5.out).mono ?_; rintro e Y6 ⟨rfl, hb6⟩; have B6 := Lib.hid hb6; have k6 := Lib.hid (keepBelow hb6 k5.out); clear hb6
      go_wp2_with fail
      refine hK.out _ _ (B6.out) (fun _ => held_more (B6.out) ?_)
      clear hK K
      try simp only [Act.put, List.setIfInBounds_toArray, List.set_cons_zero, List.set_cons_succ]
      refine wpAnyH_take (i := 20) (oi := { dst := some 32, op := Go.Op.pick (Go.Operand.tmp 28) (Go.Operand.tmp 31) (Go.Operand.const (Go.Value.bool false)), type := 4, pos := "law.go:63", after := #[{ on := 16, ground := Go.Ground.data }, { on := 19, ground := Go.Ground.data }], guard := none }) (v := ?_) rfl (by kernel_rfl) (by kernel_rfl) (by kernel_rfl) (fun _ _ _ h => h) (Or.inl ⟨by rfl, ?_⟩) (Kp.refl _) ?_
      rotate_left 1
      · intro w5 hSw
        go_simp; all_goals (with_reducible rfl)
      try simp only [Act.put, List.setIfInBounds_toArray, List.set_cons_zero, List.set_cons_succ]
      refine wpAnyH_take (i := 21) (oi := { dst := some 33, op := Go.Op.move (Go.Operand.tmp 32), type := 4, pos := "law.go:63", after := #[{ on := 20, ground := Go.Ground.data }, { on := 19, ground := Go.Ground.chain }], guard := none }) (v := ?_) rfl (by kernel_rfl) (by kernel_rfl) (by kernel_rfl) (fun _ _ _ h => h) (Or.inl ⟨by rfl, ?_⟩) (Kp.refl _) ?_
      rotate_left 1
      · intro w5 hSw
        go_simp; all_goals (with_reducible rfl)
      try simp only [Act.put, List.setIfInBounds_toArray, List.set_cons_zero, List.set_cons_succ]
      refine wpAnyH_ready (rs := [22]) (by kernel_rfl) (by simp) ?_
      refine AllReadyH.cons (o := { dst := some 34, op := Go.Op.call { callee := Go.Callee.value (Go.Operand.func 8), args := #[], argTypes := #[] }, type := 4, pos := "law.go:63", after := #[{ on := 21, ground := Go.Ground.chain }, { on := 21, ground := Go.Ground.guard }], guard := some (21, true) }) rfl (fun K hK => ?_) AllReadyH.nil
      go_simp
      refine (live_any _).mono ?_; rintro e Y7 ⟨rfl, hb7⟩; have B7 := Lib.hid hb7; have k7 := Lib.hid (keepBelow hb7 k6.out); clear hb7
      go_wp2_with fail
      refine hK.out _ _ (B7.out) (fun _ => held_more (B7.out) ?_)
      clear hK K
      try simp only [Act.put, List.setIfInBounds_toArray, List.set_cons_zero, List.set_cons_succ]
      refine wpAnyH_take (i := 23) (oi := { dst := some 35, op := Go.Op.pick (Go.Operand.tmp 33) (Go.Operand.tmp 34) (Go.Operand.const (Go.Value.bool false)), type := 4, pos := "law.go:63", after := #[{ on := 21, ground := Go.Ground.data }, { on := 22, ground := Go.Ground.data }], guard := none }) (v := ?_) rfl (by kernel_rfl) (by kernel_rfl) (by kernel_rfl) (fun _ _ _ h => h) (Or.inl ⟨by rfl, ?_⟩) (Kp.refl _) ?_
      rotate_left 1
      · intro w5 hSw
        go_simp; all_goals (with_reducible rfl)
      try simp only [Act.put, List.setIfInBounds_toArray, List.set_cons_zero, List.set_cons_succ]
      refine wpAnyH_take (i := 24) (oi := { dst := some 4, op := Go.Op.assign (Go.Operand.tmp 35), type := 4, pos := "law.go:63", after := #[{ on := 23, ground := Go.Ground.data }, { on := 22, ground := Go.Ground.chain }, { on := 0, ground := Go.Ground.phase }, { on := 1, ground := Go.Ground.phase }, { on := 2, ground := Go.Ground.phase }, { on := 3, ground := Go.Ground.phase }, { on := 4, ground := Go.Ground.phase }, { on := 5, ground := Go.Ground.phase }, { on := 6, ground := Go.Ground.phase }, { on := 7, ground := Go.Ground.phase }, { on := 8, ground := Go.Ground.phase }, { on := 9, ground := Go.Ground.phase }, { on := 10, ground := Go.Ground.phase }, { on := 11, ground := Go.Ground.phase }, { on := 12, ground := Go.Ground.phase }, { on := 13, ground := Go.Ground.phase }, { on := 14, ground := Go.Ground.phase }, { on := 15, ground := Go.Ground.phase }, { on := 16, ground := Go.Ground.phase }, { on := 17, ground := Go.Ground.phase }, { on := 18, ground := Go.Ground.phase }, { on := 19, ground := Go.Ground.phase }, { on := 20, ground := Go.Ground.phase }, { on := 21, ground := Go.Ground.phase }, { on := 22, ground := Go.Ground.phase }, { on := 23, ground := Go.Ground.phase }], guard := none }) (v := ?_) rfl (by kernel_rfl) (by kernel_rfl) (by kernel_rfl) (fun _ _ _ h => h) (Or.inl ⟨by rfl, ?_⟩) (Kp.refl _) ?_
      rotate_left 1
      · intro w5 hSw
        go_simp; all_goals (with_reducible rfl)
      try simp only [Act.put, List.setIfInBounds_toArray, List.set_cons_zero, List.set_cons_succ]
      refine wpAnyH_done (by kernel_rfl) ?_ _
      go_wp2_with fail
      go_ret
      exact ⟨rfl, k7.out⟩
    · go_wp2_with fail
      refine hlive.out.mono ?_
      rintro e w1 ⟨rfl, hb⟩
      go_wp2_with fail
      go_ret
      exact ⟨rfl, hb⟩
  · go_wp2_with fail
    refine hlive.out.mono ?_
    rintro e w1 ⟨rfl, hb⟩
    go_wp2_with fail
    go_ret
    exact ⟨rfl, hb⟩
end Go.Proofs.Ytnlbhlobnafggaa
