/- Walks over layer 8: Plain, Same. -/
import Derived.Test.YtdifojeghplpeaaDoorRow
import Derived.Test.YtdifojeghplpeaaDoorHeld
import Derived.Test.YtdifojeghplpeaaDoorWords
import Derived.Test.YtdifojeghplpeaaDoorOnly
import Derived.Laws.StructEq
import Derived.Outline
import Derived.Lib.Hide
import Derived.Handy
import Derived.Lib.Bytealg
import Derived.Deep.DeepCutAuto
namespace Go.Proofs.YtdifojeghplpeaaDoor
open Go.RowKit
set_option linter.unusedVariables false
set_option maxRecDepth 100000

/-- A value: its kind, text, bits. -/
abbrev V3 := Int × ByteArray × Nat
def vv (v : V3) : Value := .agg #[.int .i64 v.1, .string v.2.1, .int .u64 (v.2.2 : Int)]
def plain (v : V3) : V3 := if v.1 = 1 then (v.1, v.2.1, 0) else (v.1, ⟨#[]⟩, v.2.2)
theorem same_ways (p1 q1 : Int) (p2 q2 : ByteArray) (p3 q3 : Nat) :
    ((p1 == q1 && p2.toList == q2.toList && (p3 : Int) == (q3 : Int)) = true ∧ p1 = q1 ∧ p2 = q2 ∧ p3 = q3) ∨ ((p1 == q1 && p2.toList == q2.toList && (p3 : Int) == (q3 : Int)) = false ∧ ¬ p1 = q1) ∨
    ((p1 == q1 && p2.toList == q2.toList && (p3 : Int) == (q3 : Int)) = false ∧ p1 = q1 ∧ ¬ p2.toList = q2.toList) ∨ ((p1 == q1 && p2.toList == q2.toList && (p3 : Int) == (q3 : Int)) = false ∧ p1 = q1 ∧ p2 = q2 ∧ ¬ (p3 : Int) = (q3 : Int)) := by
  by_cases h1 : p1 = q1
  · by_cases h2 : p2 = q2
    · by_cases h3 : p3 = q3
      · exact .inl ⟨by simp [h1, h2, h3], h1, h2, h3⟩
      · exact .inr (.inr (.inr ⟨by simp [h1, h2]; omega, h1, h2, by omega⟩))
    · have h4 : ¬ p2.toList = q2.toList := fun e => h2 (by rw [ByteArray.toList_eq, ByteArray.toList_eq] at e; exact Go.WideShapes.bytes_inj e)
      exact .inr (.inr (.inl ⟨by simp [h1, h4], h1, h4⟩))
  · exact .inr (.inl ⟨by simp [h1], h1⟩)
def sameV (u v : V3) : Bool := (plain u).1 == (plain v).1 && (plain u).2.1.toList == (plain v).2.1.toList && ((plain u).2.2 : Int) == ((plain v).2.2 : Int)
theorem two_boxes (w X : World) (c d : Array Value) {t : TypeId} (h : X = (w.alloc (.cells c t)).alloc (.cells d t)) : Whole X w.heap.size t c ∧ Whole X (w.heap.size + 1) t d ∧ Below w.heap.size w X := by
  subst h
  refine ⟨(Whole.new w _ _).alloc _, ?_, ((Below.refl _ _).alloc (Nat.le_refl _) _).alloc (by simp) _⟩
  have := Whole.new (w.alloc (.cells c t)) t d
  rwa [World.size_alloc] at this
theorem plain_any (v : V3) (w : World) : Calls Tryd.prog 13 #[vv v] w fun e w' => e = .returned (vv (plain v)) ∧ Below w.heap.size w w' := by
  obtain ⟨k, s, b⟩ := v
  unfold vv plain
  simp only
  by_cases h : k = 1
  · subst h
    simp only [if_true]
    go_enter Tryd.func13, Tryd.ntmps13
    go_wp2_with fail
    exact bodyPost_ret (v := .agg #[.int .i64 1, .string s, .int .u64 0]) (by simp [results, Tryd.results13, asAddr, go_sem]) rfl ⟨by simp, by go_grown⟩
  · rw [if_neg h]
    have h2 : (k == 1) = false := by simpa using h
    go_enter Tryd.func13, Tryd.ntmps13
    go_wp2_with fail
    exact bodyPost_ret (v := .agg #[.int .i64 k, .string ⟨#[]⟩, .int .u64 (b : Int)]) (by simp [results, Tryd.results13, asAddr, go_sem]) rfl ⟨by simp, by go_grown⟩
theorem rplain_any (v : V3) (w : World) : Calls Tryd.prog 14 #[vv v] w fun e w' => e = .returned (vv (plain v)) ∧ Below w.heap.size w w' := by
  obtain ⟨k, s, b⟩ := v
  unfold vv plain
  simp only
  by_cases h : k = 1
  · subst h
    simp only [if_true]
    go_enter Tryd.func14, Tryd.ntmps14
    go_wp2_with fail
    exact bodyPost_ret (v := .agg #[.int .i64 1, .string s, .int .u64 0]) (by simp [results, Tryd.results14, asAddr, go_sem]) rfl ⟨by simp, by go_grown⟩
  · rw [if_neg h]
    have h2 : (k == 1) = false := by simpa using h
    go_enter Tryd.func14, Tryd.ntmps14
    go_wp2_with fail
    exact bodyPost_ret (v := .agg #[.int .i64 k, .string ⟨#[]⟩, .int .u64 (b : Int)]) (by simp [results, Tryd.results14, asAddr, go_sem]) rfl ⟨by simp, by go_grown⟩
set_option maxHeartbeats 4000000 in
theorem same_any (u v : V3) (w : World) : Calls Tryd.prog 19 #[vv u, vv v] w fun e w' => e = .returned (.bool (sameV u v)) ∧ Below w.heap.size w w' := by
  have HP1 := Lib.hid fun W => plain_any u W
  have HP2 := Lib.hid fun W => plain_any v W
  have hS : sameV u v = ((plain u).1 == (plain v).1 && (plain u).2.1.toList == (plain v).2.1.toList && ((plain u).2.2 : Int) == ((plain v).2.2 : Int)) := rfl
  rw [hS]
  unfold vv at HP1 HP2 ⊢
  obtain ⟨⟨p1, p2, p3⟩, hp⟩ : ∃ p, plain u = p := ⟨_, rfl⟩
  obtain ⟨⟨q1, q2, q3⟩, hq⟩ : ∃ p, plain v = p := ⟨_, rfl⟩
  rw [hp] at HP1
  rw [hq] at HP2
  rw [hp, hq]
  obtain ⟨u1, u2, u3⟩ := u
  obtain ⟨v1, v2, v3⟩ := v
  simp only at HP1 HP2 ⊢
  clear hp hq hS
  rcases same_ways p1 q1 p2 q2 p3 q3 with ⟨he, rfl, rfl, rfl⟩ | ⟨he, hn⟩ | ⟨he, rfl, hn⟩ | ⟨he, rfl, rfl, hn⟩
  all_goals
    rw [he]
    clear he
    go_enter Tryd.func19, Tryd.ntmps19
    go_upto_region 1 with (fail)
    obtain ⟨bu, hbu0⟩ : ∃ z, z = w.heap.size := ⟨_, rfl⟩
    obtain ⟨bv, hbv0⟩ : ∃ z, z = w.heap.size + 1 := ⟨_, rfl⟩
    obtain ⟨X, hX⟩ : ∃ z, z = (w.alloc (.cells #[.int .i64 u1, .string u2, .int .u64 (u3 : Int)] 24)).alloc (.cells #[.int .i64 v1, .string v2, .int .u64 (v3 : Int)] 24) := ⟨_, rfl⟩
    obtain ⟨hWu, hWv, hB⟩ := two_boxes w X _ _ hX
    rw [← hbu0] at hWu
    rw [← hbv0] at hWv
    have u0 : X.cell? ⟨bu, 0, none⟩ = some (.int .i64 u1) := hWu.cell 0
    have u1' : X.cell? ⟨bu, 1, none⟩ = some (.string u2) := hWu.cell 1
    have u2' : X.cell? ⟨bu, 2, none⟩ = some (.int .u64 (u3 : Int)) := hWu.cell 2
    have v0 : X.cell? ⟨bv, 0, none⟩ = some (.int .i64 v1) := hWv.cell 0
    have v1' : X.cell? ⟨bv, 1, none⟩ = some (.string v2) := hWv.cell 1
    have v2' : X.cell? ⟨bv, 2, none⟩ = some (.int .u64 (v3 : Int)) := hWv.cell 2
    have hbu : bu < X.drew.heap.size := hWu.lt
    have hbv : bv < X.drew.heap.size := hWv.lt
    have HB := Lib.hid hB
    rw [← hX, ← hbv0, ← hbu0]
    clear hX hbu0 hbv0 hWu hWv hB
    refine held_start (by kernel_rfl) ?_
    refine wpAnyH_take (i := 0) (oi := { dst := some 5, op := Go.Op.load 24 (Go.Operand.tmp 2), type := 24, pos := "value.go:117", after := #[], guard := none }) (v := ?_) rfl (by kernel_rfl) (by kernel_rfl) (by kernel_rfl) (fun _ _ _ h => h) (Or.inl ⟨by rfl, ?_⟩) (Kp.refl _) ?_
    rotate_left 1
    · intro w5 hSw
      have q0 : w5.cell? ⟨bu, 0, none⟩ = some (.int .i64 u1) := (hSw.cell hbu).trans u0
      have q1 : w5.cell? ⟨bu, 1, none⟩ = some (.string u2) := (hSw.cell hbu).trans u1'
      have q2 : w5.cell? ⟨bu, 2, none⟩ = some (.int .u64 (u3 : Int)) := (hSw.cell hbu).trans u2'
      go_simp; all_goals (with_reducible rfl)
    try simp only [Act.put, List.setIfInBounds_toArray, List.set_cons_zero, List.set_cons_succ]
    refine wpAnyH_take (i := 2) (oi := { dst := some 7, op := Go.Op.load 24 (Go.Operand.tmp 3), type := 24, pos := "value.go:117", after := #[], guard := none }) (v := ?_) rfl (by kernel_rfl) (by kernel_rfl) (by kernel_rfl) (fun _ _ _ h => h) (Or.inl ⟨by rfl, ?_⟩) (Kp.refl _) ?_
    rotate_left 1
    · intro w5 hSw
      have q0 : w5.cell? ⟨bv, 0, none⟩ = some (.int .i64 v1) := (hSw.cell hbv).trans v0
      have q1 : w5.cell? ⟨bv, 1, none⟩ = some (.string v2) := (hSw.cell hbv).trans v1'
      have q2 : w5.cell? ⟨bv, 2, none⟩ = some (.int .u64 (v3 : Int)) := (hSw.cell hbv).trans v2'
      go_simp; all_goals (with_reducible rfl)
    try simp only [Act.put, List.setIfInBounds_toArray, List.set_cons_zero, List.set_cons_succ]
    refine wpAnyH_ready (rs := [1]) (by kernel_rfl) (by simp) ?_
    refine AllReadyH.cons (o := { dst := some 6, op := Go.Op.call { callee := Go.Callee.value (Go.Operand.func 13), args := #[Go.Operand.tmp 5], argTypes := #[24] }, type := 24, pos := "value.go:117", after := #[{ on := 0, ground := Go.Ground.data }], guard := none }) rfl (fun K hK => ?_) AllReadyH.nil
    go_simp
    refine (HP1.out X.drew).mono ?_; rintro e Y ⟨rfl, hb1⟩
    go_wp2_with fail
    refine hK.out _ _ (hb1) (fun _ => ?_)
    clear hK K
    try simp only [Act.put, List.setIfInBounds_toArray, List.set_cons_zero, List.set_cons_succ]
    refine wpAnyH_ready (rs := [3]) (by kernel_rfl) (by simp) ?_
    refine AllReadyH.cons (o := { dst := some 8, op := Go.Op.call { callee := Go.Callee.value (Go.Operand.func 13), args := #[Go.Operand.tmp 7], argTypes := #[24] }, type := 24, pos := "value.go:117", after := #[{ on := 2, ground := Go.Ground.data }, { on := 1, ground := Go.Ground.chain }], guard := none }) rfl (fun K hK => ?_) AllReadyH.nil
    go_simp
    refine (HP2.out Y).mono ?_; rintro e Z ⟨rfl, hb2⟩; have hb3 := hb1.trans (hb2.mono hb1.size)
    go_wp2_with fail
    refine hK.out _ _ (hb3) (fun _ => ?_)
    clear hK K
    try simp only [Act.put, List.setIfInBounds_toArray, List.set_cons_zero, List.set_cons_succ]
    refine wpAnyH_take (i := 4) (oi := { dst := some 9, op := Go.Op.binOp Go.BinOp.eql 24 (Go.Operand.tmp 6) (Go.Operand.tmp 8) 24, type := 4, pos := "value.go:117", after := #[{ on := 1, ground := Go.Ground.data }, { on := 3, ground := Go.Ground.data }], guard := none }) (v := ?_) rfl (by kernel_rfl) (by kernel_rfl) (by kernel_rfl) (fun _ _ _ h => h) (Or.inl ⟨by rfl, ?_⟩) (hb3) ?_
    rotate_left 1
    · intro w5 hSw
      go_simp; all_goals (with_reducible rfl)
    try simp only [Act.put, List.setIfInBounds_toArray, List.set_cons_zero, List.set_cons_succ]
    refine wpAnyH_take (i := 5) (oi := { dst := some 4, op := Go.Op.assign (Go.Operand.tmp 9), type := 4, pos := "value.go:117", after := #[{ on := 4, ground := Go.Ground.data }, { on := 3, ground := Go.Ground.chain }, { on := 0, ground := Go.Ground.phase }, { on := 1, ground := Go.Ground.phase }, { on := 2, ground := Go.Ground.phase }, { on := 3, ground := Go.Ground.phase }, { on := 4, ground := Go.Ground.phase }], guard := none }) (v := ?_) rfl (by kernel_rfl) (by kernel_rfl) (by kernel_rfl) (fun _ _ _ h => h) (Or.inl ⟨by rfl, ?_⟩) (hb3) ?_
    rotate_left 1
    · intro w5 hSw
      go_simp; all_goals (with_reducible rfl)
    try simp only [Act.put, List.setIfInBounds_toArray, List.set_cons_zero, List.set_cons_succ]
    refine wpAnyH_done (by kernel_rfl) ?_ _
    have HF : Hid (Below w.heap.size w Z) := HB.out.trans ((show Below X.heap.size X Z from ⟨hb3.os, hb3.tape, hb3.output, hb3.size, hb3.block⟩).mono HB.out.size)
    clear hb1 hb2 hb3 HP1 HP2
    go_wp2_with fail
    go_ret
    exact ⟨rfl, HF.out⟩
set_option maxHeartbeats 4000000 in
theorem rsame_any (u v : V3) (w : World) : Calls Tryd.prog 20 #[vv u, vv v] w fun e w' => e = .returned (.bool (sameV u v)) ∧ Below w.heap.size w w' := by
  have HP1 := Lib.hid fun W => rplain_any u W
  have HP2 := Lib.hid fun W => rplain_any v W
  have hS : sameV u v = ((plain u).1 == (plain v).1 && (plain u).2.1.toList == (plain v).2.1.toList && ((plain u).2.2 : Int) == ((plain v).2.2 : Int)) := rfl
  rw [hS]
  unfold vv at HP1 HP2 ⊢
  obtain ⟨⟨p1, p2, p3⟩, hp⟩ : ∃ p, plain u = p := ⟨_, rfl⟩
  obtain ⟨⟨q1, q2, q3⟩, hq⟩ : ∃ p, plain v = p := ⟨_, rfl⟩
  rw [hp] at HP1
  rw [hq] at HP2
  rw [hp, hq]
  obtain ⟨u1, u2, u3⟩ := u
  obtain ⟨v1, v2, v3⟩ := v
  simp only at HP1 HP2 ⊢
  clear hp hq hS
  rcases same_ways p1 q1 p2 q2 p3 q3 with ⟨he, rfl, rfl, rfl⟩ | ⟨he, hn⟩ | ⟨he, rfl, hn⟩ | ⟨he, rfl, rfl, hn⟩
  all_goals
    rw [he]
    clear he
    go_enter Tryd.func20, Tryd.ntmps20
    go_upto_region 1 with (fail)
    obtain ⟨bu, hbu0⟩ : ∃ z, z = w.heap.size := ⟨_, rfl⟩
    obtain ⟨bv, hbv0⟩ : ∃ z, z = w.heap.size + 1 := ⟨_, rfl⟩
    obtain ⟨X, hX⟩ : ∃ z, z = (w.alloc (.cells #[.int .i64 u1, .string u2, .int .u64 (u3 : Int)] 24)).alloc (.cells #[.int .i64 v1, .string v2, .int .u64 (v3 : Int)] 24) := ⟨_, rfl⟩
    obtain ⟨hWu, hWv, hB⟩ := two_boxes w X _ _ hX
    rw [← hbu0] at hWu
    rw [← hbv0] at hWv
    have u0 : X.cell? ⟨bu, 0, none⟩ = some (.int .i64 u1) := hWu.cell 0
    have u1' : X.cell? ⟨bu, 1, none⟩ = some (.string u2) := hWu.cell 1
    have u2' : X.cell? ⟨bu, 2, none⟩ = some (.int .u64 (u3 : Int)) := hWu.cell 2
    have v0 : X.cell? ⟨bv, 0, none⟩ = some (.int .i64 v1) := hWv.cell 0
    have v1' : X.cell? ⟨bv, 1, none⟩ = some (.string v2) := hWv.cell 1
    have v2' : X.cell? ⟨bv, 2, none⟩ = some (.int .u64 (v3 : Int)) := hWv.cell 2
    have hbu : bu < X.drew.heap.size := hWu.lt
    have hbv : bv < X.drew.heap.size := hWv.lt
    have HB := Lib.hid hB
    rw [← hX, ← hbv0, ← hbu0]
    clear hX hbu0 hbv0 hWu hWv hB
    refine held_start (by kernel_rfl) ?_
    refine wpAnyH_take (i := 0) (oi := { dst := some 5, op := Go.Op.load 24 (Go.Operand.tmp 2), type := 24, pos := "ref.go:40", after := #[], guard := none }) (v := ?_) rfl (by kernel_rfl) (by kernel_rfl) (by kernel_rfl) (fun _ _ _ h => h) (Or.inl ⟨by rfl, ?_⟩) (Kp.refl _) ?_
    rotate_left 1
    · intro w5 hSw
      have q0 : w5.cell? ⟨bu, 0, none⟩ = some (.int .i64 u1) := (hSw.cell hbu).trans u0
      have q1 : w5.cell? ⟨bu, 1, none⟩ = some (.string u2) := (hSw.cell hbu).trans u1'
      have q2 : w5.cell? ⟨bu, 2, none⟩ = some (.int .u64 (u3 : Int)) := (hSw.cell hbu).trans u2'
      go_simp; all_goals (with_reducible rfl)
    try simp only [Act.put, List.setIfInBounds_toArray, List.set_cons_zero, List.set_cons_succ]
    refine wpAnyH_take (i := 2) (oi := { dst := some 7, op := Go.Op.load 24 (Go.Operand.tmp 3), type := 24, pos := "ref.go:40", after := #[], guard := none }) (v := ?_) rfl (by kernel_rfl) (by kernel_rfl) (by kernel_rfl) (fun _ _ _ h => h) (Or.inl ⟨by rfl, ?_⟩) (Kp.refl _) ?_
    rotate_left 1
    · intro w5 hSw
      have q0 : w5.cell? ⟨bv, 0, none⟩ = some (.int .i64 v1) := (hSw.cell hbv).trans v0
      have q1 : w5.cell? ⟨bv, 1, none⟩ = some (.string v2) := (hSw.cell hbv).trans v1'
      have q2 : w5.cell? ⟨bv, 2, none⟩ = some (.int .u64 (v3 : Int)) := (hSw.cell hbv).trans v2'
      go_simp; all_goals (with_reducible rfl)
    try simp only [Act.put, List.setIfInBounds_toArray, List.set_cons_zero, List.set_cons_succ]
    refine wpAnyH_ready (rs := [1]) (by kernel_rfl) (by simp) ?_
    refine AllReadyH.cons (o := { dst := some 6, op := Go.Op.call { callee := Go.Callee.value (Go.Operand.func 14), args := #[Go.Operand.tmp 5], argTypes := #[24] }, type := 24, pos := "ref.go:40", after := #[{ on := 0, ground := Go.Ground.data }], guard := none }) rfl (fun K hK => ?_) AllReadyH.nil
    go_simp
    refine (HP1.out X.drew).mono ?_; rintro e Y ⟨rfl, hb1⟩
    go_wp2_with fail
    refine hK.out _ _ (hb1) (fun _ => ?_)
    clear hK K
    try simp only [Act.put, List.setIfInBounds_toArray, List.set_cons_zero, List.set_cons_succ]
    refine wpAnyH_ready (rs := [3]) (by kernel_rfl) (by simp) ?_
    refine AllReadyH.cons (o := { dst := some 8, op := Go.Op.call { callee := Go.Callee.value (Go.Operand.func 14), args := #[Go.Operand.tmp 7], argTypes := #[24] }, type := 24, pos := "ref.go:40", after := #[{ on := 2, ground := Go.Ground.data }, { on := 1, ground := Go.Ground.chain }], guard := none }) rfl (fun K hK => ?_) AllReadyH.nil
    go_simp
    refine (HP2.out Y).mono ?_; rintro e Z ⟨rfl, hb2⟩; have hb3 := hb1.trans (hb2.mono hb1.size)
    go_wp2_with fail
    refine hK.out _ _ (hb3) (fun _ => ?_)
    clear hK K
    try simp only [Act.put, List.setIfInBounds_toArray, List.set_cons_zero, List.set_cons_succ]
    refine wpAnyH_take (i := 4) (oi := { dst := some 9, op := Go.Op.binOp Go.BinOp.eql 24 (Go.Operand.tmp 6) (Go.Operand.tmp 8) 24, type := 4, pos := "ref.go:40", after := #[{ on := 1, ground := Go.Ground.data }, { on := 3, ground := Go.Ground.data }], guard := none }) (v := ?_) rfl (by kernel_rfl) (by kernel_rfl) (by kernel_rfl) (fun _ _ _ h => h) (Or.inl ⟨by rfl, ?_⟩) (hb3) ?_
    rotate_left 1
    · intro w5 hSw
      go_simp; all_goals (with_reducible rfl)
    try simp only [Act.put, List.setIfInBounds_toArray, List.set_cons_zero, List.set_cons_succ]
    refine wpAnyH_take (i := 5) (oi := { dst := some 4, op := Go.Op.assign (Go.Operand.tmp 9), type := 4, pos := "ref.go:40", after := #[{ on := 4, ground := Go.Ground.data }, { on := 3, ground := Go.Ground.chain }, { on := 0, ground := Go.Ground.phase }, { on := 1, ground := Go.Ground.phase }, { on := 2, ground := Go.Ground.phase }, { on := 3, ground := Go.Ground.phase }, { on := 4, ground := Go.Ground.phase }], guard := none }) (v := ?_) rfl (by kernel_rfl) (by kernel_rfl) (by kernel_rfl) (fun _ _ _ h => h) (Or.inl ⟨by rfl, ?_⟩) (hb3) ?_
    rotate_left 1
    · intro w5 hSw
      go_simp; all_goals (with_reducible rfl)
    try simp only [Act.put, List.setIfInBounds_toArray, List.set_cons_zero, List.set_cons_succ]
    refine wpAnyH_done (by kernel_rfl) ?_ _
    have HF : Hid (Below w.heap.size w Z) := HB.out.trans ((show Below X.heap.size X Z from ⟨hb3.os, hb3.tape, hb3.output, hb3.size, hb3.block⟩).mono HB.out.size)
    clear hb1 hb2 hb3 HP1 HP2
    go_wp2_with fail
    go_ret
    exact ⟨rfl, HF.out⟩
end Go.Proofs.YtdifojeghplpeaaDoor
