/- Layer 28: Feature of points, and of none. -/
import Derived.Test.YtnajladngpphkaaOver4
namespace Go.Proofs.Ytnajladngpphkaa
open Go.RowKit
set_option linter.unusedVariables false
set_option maxRecDepth 100000

theorem fpost_val {W' : World} {lo : Nat} {R : List P2} {e : Ending} (h : (R = [] ∧ e = .returned (.tuple #[.agg zeroF, .bool false])) ∨ (R ≠ [] ∧ ∃ v, e = .returned (.tuple #[.agg (featB v), .bool true]) ∧ PF W' lo v R)) :
    ∃ (ty : Int) (A2 : Option Addr) (n2 c2 : Nat) (t : Bool), e = .returned (.tuple #[.agg #[.bool false, .int .u64 0, .int .i64 ty, .slice A2 n2 c2, .slice none 0 0], .bool t]) ∧ ((R = [] ∧ ty = 0 ∧ A2 = none ∧ n2 = 0 ∧ c2 = 0 ∧ t = false) ∨ (R ≠ [] ∧ ty = 1 ∧ t = true ∧ PF W' lo (.slice A2 n2 c2) R)) := by
  rcases h with ⟨h1, rfl⟩ | ⟨h1, v, rfl, h2⟩
  · exact ⟨0, none, 0, 0, false, rfl, .inl ⟨h1, rfl, rfl, rfl, rfl, rfl⟩⟩
  · obtain ⟨bb, cap, _, _, rfl, _⟩ := id h2
    exact ⟨1, _, 1, cap, true, rfl, .inr ⟨h1, rfl, rfl, h2⟩⟩

theorem three_b (w : World) (c1 c2 c3 : Array Value) (t1 t2 t3 : TypeId) : ∃ X0 b, X0 = ((w.alloc (.cells c1 t1)).alloc (.cells c2 t2)).alloc (.cells c3 t3) ∧ b = w.heap.size ∧ Whole X0 b t1 c1 ∧ Whole X0 (b + 1) t2 c2 ∧ Whole X0 (b + 2) t3 c3 ∧ Below w.heap.size w X0 := by
  refine ⟨_, _, rfl, rfl, ((Whole.new w _ _).alloc _).alloc _, ?_, ?_, ?_⟩
  · have := (Whole.new (w.alloc (.cells c1 t1)) t2 c2).alloc (.cells c3 t3)
    rw [show (w.alloc (.cells c1 t1)).heap.size = w.heap.size + 1 by simp] at this
    exact this
  · have := Whole.new ((w.alloc (.cells c1 t1)).alloc (.cells c2 t2)) t3 c3
    rw [show ((w.alloc (.cells c1 t1)).alloc (.cells c2 t2)).heap.size = w.heap.size + 2 by simp] at this
    exact this
  · have h1 := (Below.refl w.heap.size w).alloc (Nat.le_refl _) (.cells c1 t1)
    have h2 := h1.alloc h1.size (.cells c2 t2)
    exact h2.alloc h2.size _

set_option maxHeartbeats 16000000 in
theorem feature_yes (u X Y : Nat) (E B : Int) (hu : u ≤ 14) (hX : X < 2 ^ u) (hY : Y < 2 ^ u) (hE : okE E B = true) (v : Value) (l : List P2) (hl : l.length ≤ 1000) (hin : ∀ p ∈ l, okPt p) (hri : rightP 1 [l] = 0) (w : World) (hv : RdPP w w.heap.size v [l])
    (R : List P2) (hR : (l.map (scP ((2 ^ u : Nat) : Int) X Y E)).filter (insB (-B) (E + B)) = R) :
    Calls Try.prog 7 #[.agg #[.bool false, .int .u64 0, .int .i64 1, v, .slice none 0 0], .agg #[.int .i64 (u : Int), .int .i64 (X : Int), .int .i64 (Y : Int), .int .i64 B], .int .i64 E] w (FPost w R) := by
  have HRi := Lib.hid fun W => right28_yes u X Y E B W (by omega) hX hY hE
  have HTm := Lib.hid fun W => treatment_any u X Y E B hE W
  have HTr := Lib.hid fun g0 g1 g3 W (hz : ZBox W g0 g1 u X Y E B) (hw : Whole W g3 51 (winC g0 g1 (-B) (E + B))) (hv : RdPP W W.heap.size v [l]) => treat_any u X Y E B hu hX hY hE v l hl hin g0 g1 g3 W hz hw hv R hR
  have HPr := Lib.hid fun W (hv : RdPP W W.heap.size v [l]) => right_any 1 v [l] W hv (by show 1 ≤ _; omega) (fun x hx => by simp at hx; subst hx; omega) (by omega)
  rw [hri] at HPr
  clear hR hE hX hY hin hl hu hri
  obtain ⟨X0, b, hX0, hb, hF, hZ, hO, hB⟩ := three_b w #[.bool false, .int .u64 0, .int .i64 1, v, .slice none 0 0] #[.int .i64 (u : Int), .int .i64 (X : Int), .int .i64 (Y : Int), .int .i64 B] #[.bool false, .int .u64 0, .int .i64 0, .slice none 0 0, .slice none 0 0] 30 25 30
  have hv0 := (hv.below hB).more hB.size
  have z0 : X0.cell? ⟨b + 1, 0, none⟩ = some (.int .i64 (u : Int)) := hZ.cell 0
  have z1 : X0.cell? ⟨b + 1, 1, none⟩ = some (.int .i64 (X : Int)) := hZ.cell 1
  have z2 : X0.cell? ⟨b + 1, 2, none⟩ = some (.int .i64 (Y : Int)) := hZ.cell 2
  have z3 : X0.cell? ⟨b + 1, 3, none⟩ = some (.int .i64 B) := hZ.cell 3
  have HX0 := Lib.hid hX0
  have HF := Lib.hid hF
  have HZb := Lib.hid hZ
  have HO := Lib.hid hO
  have HB := Lib.hid hB
  have HV := Lib.hid hv0
  have Hb := Lib.hid hb
  clear hX0 hF hZ hO hB hb hv0 hv
  go_enter Try.func7, Try.ntmps7
  go_upto_region 1 with (fail)
  rw [← HX0.out, ← Hb.out]
  go_wp2_with fail
  refine (HRi.out _).mono ?_
  rintro e W1 ⟨rfl, hb⟩
  have HF := Lib.hid (HF.out.below hb HF.out.lt)
  have HZb := Lib.hid (HZb.out.below hb HZb.out.lt)
  have HO := Lib.hid (HO.out.below hb HO.out.lt)
  have HB := Lib.hid (keepBelow hb HB.out)
  have HV := Lib.hid ((HV.out.below hb).more hb.size)
  have HPr := Lib.hid (HPr.out W1 HV.out)
  have c2 : W1.cell? ⟨b, 2, none⟩ = some (.int .i64 1) := HF.out.cell 2
  have c3 : W1.cell? ⟨b, 3, none⟩ = some v := HF.out.cell 3
  clear hb HRi HX0 z0 z1 z2 z3
  go_wp2_with fail
  refine HPr.out.mono ?_
  rintro e W2 ⟨rfl, hb⟩
  have HF := Lib.hid (HF.out.below hb HF.out.lt)
  have HZb := Lib.hid (HZb.out.below hb HZb.out.lt)
  have HO := Lib.hid (HO.out.below hb HO.out.lt)
  have HB := Lib.hid (keepBelow hb HB.out)
  have HV := Lib.hid ((HV.out.below hb).more hb.size)
  clear hb HPr c2 c3
  go_upto_region 3 with (fail)
  have HF : Hid (Whole W2.drew b 30 #[.bool false, .int .u64 0, .int .i64 1, v, .slice none 0 0]) := HF.out
  have HZb : Hid (Whole W2.drew (b + 1) 25 #[.int .i64 (u : Int), .int .i64 (X : Int), .int .i64 (Y : Int), .int .i64 B]) := HZb.out
  have HO : Hid (Whole W2.drew (b + 2) 30 #[.bool false, .int .u64 0, .int .i64 0, .slice none 0 0, .slice none 0 0]) := HO.out
  have HV : Hid (RdPP W2.drew W2.drew.heap.size v [l]) := HV.out
  have HB : Hid (Below w.heap.size w W2.drew) := ⟨HB.out.os, HB.out.tape, HB.out.output, HB.out.size, HB.out.block⟩
  refine wp_region_held (S := (fun V => Whole V b 30 #[.bool false, .int .u64 0, .int .i64 1, v, .slice none 0 0] ∧ Whole V (b + 1) 25 #[.int .i64 (u : Int), .int .i64 (X : Int), .int .i64 (Y : Int), .int .i64 B])) (by kernel_rfl) ?_
  refine wpAnyH_take (i := 0) (oi := { dst := some 21, op := Go.Op.load 25 (Go.Operand.tmp 4), type := 25, pos := "over.go:76", after := #[], guard := none }) (v := ?_) rfl (by kernel_rfl) (by kernel_rfl) (by kernel_rfl) (fun _ _ _ h => h) (Or.inl ⟨by rfl, ?_⟩) (⟨HF.out, HZb.out⟩) ?_
  rotate_left 1
  · intro w5 hSw
    have z0 : w5.cell? ⟨b + 1, 0, none⟩ = some (.int .i64 (u : Int)) := hSw.2.cell 0
    have z1 : w5.cell? ⟨b + 1, 1, none⟩ = some (.int .i64 (X : Int)) := hSw.2.cell 1
    have z2 : w5.cell? ⟨b + 1, 2, none⟩ = some (.int .i64 (Y : Int)) := hSw.2.cell 2
    have z3 : w5.cell? ⟨b + 1, 3, none⟩ = some (.int .i64 B) := hSw.2.cell 3
    go_simp; all_goals (with_reducible rfl)
  try simp only [Act.put, List.setIfInBounds_toArray, List.set_cons_zero, List.set_cons_succ]
  refine wpAnyH_take (i := 1) (oi := { dst := some 22, op := Go.Op.move (Go.Operand.tmp 2), type := 3, pos := "over.go:76", after := #[], guard := none }) (v := ?_) rfl (by kernel_rfl) (by kernel_rfl) (by kernel_rfl) (fun _ _ _ h => h) (Or.inl ⟨by rfl, ?_⟩) (⟨HF.out, HZb.out⟩) ?_
  rotate_left 1
  · intro w5 hSw
    go_simp; all_goals (with_reducible rfl)
  try simp only [Act.put, List.setIfInBounds_toArray, List.set_cons_zero, List.set_cons_succ]
  refine wpAnyH_take (i := 3) (oi := { dst := some 24, op := Go.Op.load 30 (Go.Operand.tmp 3), type := 30, pos := "over.go:76", after := #[], guard := none }) (v := ?_) rfl (by kernel_rfl) (by kernel_rfl) (by kernel_rfl) (fun _ _ _ h => h) (Or.inl ⟨by rfl, ?_⟩) (⟨HF.out, HZb.out⟩) ?_
  rotate_left 1
  · intro w5 hSw
    have c0 : w5.cell? ⟨b, 0, none⟩ = some (.bool false) := hSw.1.cell 0
    have c1 : w5.cell? ⟨b, 1, none⟩ = some (.int .u64 0) := hSw.1.cell 1
    have c2 : w5.cell? ⟨b, 2, none⟩ = some (.int .i64 1) := hSw.1.cell 2
    have c3 : w5.cell? ⟨b, 3, none⟩ = some (v) := hSw.1.cell 3
    have c4 : w5.cell? ⟨b, 4, none⟩ = some (.slice none 0 0) := hSw.1.cell 4
    go_simp; all_goals (with_reducible rfl)
  try simp only [Act.put, List.setIfInBounds_toArray, List.set_cons_zero, List.set_cons_succ]
  refine wpAnyH_ready (rs := [2]) (by kernel_rfl) (by simp) ?_
  refine AllReadyH.cons (o := { dst := some 23, op := Go.Op.call { callee := Go.Callee.value (Go.Operand.func 14), args := #[Go.Operand.tmp 21, Go.Operand.tmp 22], argTypes := #[25, 3] }, type := 45, pos := "over.go:76", after := #[{ on := 0, ground := Go.Ground.data }, { on := 1, ground := Go.Ground.data }], guard := none }) rfl (fun K hK => ?_) AllReadyH.nil
  go_simp
  refine (HTm.out _).mono ?_; rintro e Y1 ⟨g0, g1, g3, rfl, hWi, hZ, hb⟩; have HF := Lib.hid (HF.out.below hb HF.out.lt); have HZb := Lib.hid (HZb.out.below hb HZb.out.lt); have HO := Lib.hid (HO.out.below hb HO.out.lt); have HB := Lib.hid (keepBelow hb HB.out); have HV := Lib.hid ((HV.out.below hb).more hb.size); have HTr := Lib.hid (HTr.out g0 g1 g3 Y1 hZ hWi HV.out); clear hb hWi hZ
  go_wp2_with fail
  refine hK.out _ _ (⟨HF.out, HZb.out⟩) (fun _ => ?_)
  clear hK K
  try simp only [Act.put, List.setIfInBounds_toArray, List.set_cons_zero, List.set_cons_succ]
  refine wpAnyH_ready (rs := [4]) (by kernel_rfl) (by simp) ?_
  refine AllReadyH.cons (o := { dst := some 25, op := Go.Op.call { callee := Go.Callee.value (Go.Operand.tmp 23), args := #[Go.Operand.tmp 24], argTypes := #[30] }, type := 34, pos := "over.go:76", after := #[{ on := 2, ground := Go.Ground.data }, { on := 3, ground := Go.Ground.data }, { on := 2, ground := Go.Ground.chain }], guard := none }) rfl (fun K hK => ?_) AllReadyH.nil
  go_simp
  refine HTr.out.mono ?_; rintro e Y2 ⟨hb, hcase⟩; obtain ⟨ty, A2, n2, c2, t, he, hc2⟩ := fpost_val hcase; clear hcase; subst he; have HLo := Lib.hid HO.out.lt; have HF := Lib.hid (HF.out.below hb HF.out.lt); have HZb := Lib.hid (HZb.out.below hb HZb.out.lt); have HO := Lib.hid (HO.out.below hb HO.out.lt); have HB := Lib.hid (keepBelow hb HB.out); have Hc := Lib.hid hc2; have e0 : Y2.cell? ⟨b + 1 + 1, 0, none⟩ = some (.bool false) := HO.out.cell 0; have k0 : Y2.frozen? ⟨b + 1 + 1, 0, none⟩ = false := HO.out.frozen 0; have e1 : Y2.cell? ⟨b + 1 + 1, 1, none⟩ = some (.int .u64 0) := HO.out.cell 1; have k1 : Y2.frozen? ⟨b + 1 + 1, 1, none⟩ = false := HO.out.frozen 1; have e2 : Y2.cell? ⟨b + 1 + 1, 2, none⟩ = some (.int .i64 0) := HO.out.cell 2; have k2 : Y2.frozen? ⟨b + 1 + 1, 2, none⟩ = false := HO.out.frozen 2; have e3 : Y2.cell? ⟨b + 1 + 1, 3, none⟩ = some (.slice none 0 0) := HO.out.cell 3; have k3 : Y2.frozen? ⟨b + 1 + 1, 3, none⟩ = false := HO.out.frozen 3; have e4 : Y2.cell? ⟨b + 1 + 1, 4, none⟩ = some (.slice none 0 0) := HO.out.cell 4; have k4 : Y2.frozen? ⟨b + 1 + 1, 4, none⟩ = false := HO.out.frozen 4; clear hb hc2
  go_wp2_with fail
  refine hK.out _ _ (⟨HF.out, HZb.out⟩) (fun _ => ?_)
  clear hK K
  try simp only [Act.put, List.setIfInBounds_toArray, List.set_cons_zero, List.set_cons_succ]
  refine wpAnyH_take (i := 5) (oi := { dst := some 26, op := Go.Op.extract (Go.Operand.tmp 25) 0, type := 30, pos := "over.go:76", after := #[{ on := 4, ground := Go.Ground.data }], guard := none }) (v := ?_) rfl (by kernel_rfl) (by kernel_rfl) (by kernel_rfl) (fun _ _ _ h => h) (Or.inl ⟨by rfl, ?_⟩) (⟨HF.out, HZb.out⟩) ?_
  rotate_left 1
  · intro w5 hSw
    go_simp; all_goals (with_reducible rfl)
  try simp only [Act.put, List.setIfInBounds_toArray, List.set_cons_zero, List.set_cons_succ]
  refine wpAnyH_take (i := 6) (oi := { dst := some 27, op := Go.Op.extract (Go.Operand.tmp 25) 1, type := 4, pos := "over.go:76", after := #[{ on := 4, ground := Go.Ground.data }], guard := none }) (v := ?_) rfl (by kernel_rfl) (by kernel_rfl) (by kernel_rfl) (fun _ _ _ h => h) (Or.inl ⟨by rfl, ?_⟩) (⟨HF.out, HZb.out⟩) ?_
  rotate_left 1
  · intro w5 hSw
    go_simp; all_goals (with_reducible rfl)
  try simp only [Act.put, List.setIfInBounds_toArray, List.set_cons_zero, List.set_cons_succ]
  refine wpAnyH_ready (rs := [7]) (by kernel_rfl) (by simp) ?_
  refine AllReadyH.cons (o := { dst := none, op := Go.Op.store 30 (Go.Operand.tmp 6) (Go.Operand.tmp 26), type := 0, pos := "over.go:76", after := #[{ on := 5, ground := Go.Ground.data }, { on := 4, ground := Go.Ground.chain }, { on := 0, ground := Go.Ground.phase }, { on := 1, ground := Go.Ground.phase }, { on := 2, ground := Go.Ground.phase }, { on := 3, ground := Go.Ground.phase }, { on := 4, ground := Go.Ground.phase }, { on := 5, ground := Go.Ground.phase }, { on := 6, ground := Go.Ground.phase }], guard := none }) rfl (fun K hK => ?_) AllReadyH.nil
  go_simp
  refine hK.out _ _ (⟨(set5_keep (by omega) _ _ _ _ _).trans HF.out, (set5_keep (by omega) _ _ _ _ _).trans HZb.out⟩) (fun _ => ?_)
  clear hK K
  try simp only [Act.put, List.setIfInBounds_toArray, List.set_cons_zero, List.set_cons_succ]
  refine wpAnyH_take (i := 8) (oi := { dst := some 7, op := Go.Op.assign (Go.Operand.tmp 27), type := 4, pos := "over.go:76", after := #[{ on := 6, ground := Go.Ground.data }, { on := 7, ground := Go.Ground.chain }, { on := 0, ground := Go.Ground.phase }, { on := 1, ground := Go.Ground.phase }, { on := 2, ground := Go.Ground.phase }, { on := 3, ground := Go.Ground.phase }, { on := 4, ground := Go.Ground.phase }, { on := 5, ground := Go.Ground.phase }, { on := 6, ground := Go.Ground.phase }, { on := 7, ground := Go.Ground.phase }], guard := none }) (v := ?_) rfl (by kernel_rfl) (by kernel_rfl) (by kernel_rfl) (fun _ _ _ h => h) (Or.inl ⟨by rfl, ?_⟩) (⟨(set5_keep (by omega) _ _ _ _ _).trans HF.out, (set5_keep (by omega) _ _ _ _ _).trans HZb.out⟩) ?_
  rotate_left 1
  · intro w5 hSw
    go_simp; all_goals (with_reducible rfl)
  try simp only [Act.put, List.setIfInBounds_toArray, List.set_cons_zero, List.set_cons_succ]
  refine wpAnyH_done (by kernel_rfl) ?_ _
  go_wp2_with fail
  have hV := set5_whole (b := b + 1 + 1) HO.out (.bool false) (.int .u64 0) (.int .i64 ty) (.slice A2 n2 c2) (.slice none 0 0)
  have hBV := set5_below HB.out (b := b + 1 + 1) (by have := Hb.out; omega) (.bool false) (.int .u64 0) (.int .i64 ty) (.slice A2 n2 c2) (.slice none 0 0)
  have a0 := hV.cell 0
  have a1 := hV.cell 1
  have a2 := hV.cell 2
  have a3 := hV.cell 3
  have a4 := hV.cell 4
  simp only [set5, List.getElem?_toArray, List.getElem?_cons_zero, List.getElem?_cons_succ] at a0 a1 a2 a3 a4
  refine bodyPost_ret (v := .tuple #[.agg #[.bool false, .int .u64 0, .int .i64 ty, .slice A2 n2 c2, .slice none 0 0], .bool t]) (by simp [results, Try.results7, go_sem, a0, a1, a2, a3, a4]) rfl ⟨hBV, ?_⟩
  rcases Hc.out with ⟨h1, q1, q2, q3, q4, q5⟩ | ⟨h1, q1, q2, hp⟩
  · subst q1 q2 q3 q4 q5
    exact .inl ⟨h1, rfl⟩
  · subst q1 q2
    have hlo := HLo.out
    refine .inr ⟨h1, _, rfl, (hp.moved ?_ fun k k1 k2 => ?_).mono (by have := Hb.out; omega)⟩
    · exact (set5_past (W := Y2) (b + 1 + 1) (.bool false) (.int .u64 0) (.int .i64 1) (.slice A2 n2 c2) (.slice none 0 0)).size
    · exact set5_keep (by omega) (.bool false) (.int .u64 0) (.int .i64 1) (.slice A2 n2 c2) (.slice none 0 0)

set_option maxHeartbeats 16000000 in
theorem feature_zero (u X Y : Nat) (E B : Int) (hu : u ≤ 14) (hX : X < 2 ^ u) (hY : Y < 2 ^ u) (hE : okE E B = true) (w : World) :
    Calls Try.prog 7 #[.agg #[.bool false, .int .u64 0, .int .i64 0, .slice none 0 0, .slice none 0 0], .agg #[.int .i64 (u : Int), .int .i64 (X : Int), .int .i64 (Y : Int), .int .i64 B], .int .i64 E] w (FPost w []) := by
  have HRi := Lib.hid fun W => right28_yes u X Y E B W (by omega) hX hY hE
  have HPr := Lib.hid fun W => right_any 0 (.slice none 0 0) [] W (OwnPP.nil_ W W.heap.size).rd (by show 0 ≤ _; omega) (fun x hx => by simp at hx) (by omega)
  have hri : rightP 0 [] = 1 := rfl
  rw [hri] at HPr
  clear hE hX hY hu hri
  obtain ⟨X0, b, hX0, hb, hF, hZ, hO, hB⟩ := three_b w #[.bool false, .int .u64 0, .int .i64 0, .slice none 0 0, .slice none 0 0] #[.int .i64 (u : Int), .int .i64 (X : Int), .int .i64 (Y : Int), .int .i64 B] #[.bool false, .int .u64 0, .int .i64 0, .slice none 0 0, .slice none 0 0] 30 25 30
  have z0 : X0.cell? ⟨b + 1, 0, none⟩ = some (.int .i64 (u : Int)) := hZ.cell 0
  have z1 : X0.cell? ⟨b + 1, 1, none⟩ = some (.int .i64 (X : Int)) := hZ.cell 1
  have z2 : X0.cell? ⟨b + 1, 2, none⟩ = some (.int .i64 (Y : Int)) := hZ.cell 2
  have z3 : X0.cell? ⟨b + 1, 3, none⟩ = some (.int .i64 B) := hZ.cell 3
  have HX0 := Lib.hid hX0
  have HF := Lib.hid hF
  have HZb := Lib.hid hZ
  have HO := Lib.hid hO
  have HB := Lib.hid hB
  have Hb := Lib.hid hb
  clear hX0 hF hZ hO hB hb
  go_enter Try.func7, Try.ntmps7
  go_upto_region 1 with (fail)
  rw [← HX0.out, ← Hb.out]
  go_wp2_with fail
  refine (HRi.out _).mono ?_
  rintro e W1 ⟨rfl, hb⟩
  have HF := Lib.hid (HF.out.below hb HF.out.lt)
  have HZb := Lib.hid (HZb.out.below hb HZb.out.lt)
  have HO := Lib.hid (HO.out.below hb HO.out.lt)
  have HB := Lib.hid (keepBelow hb HB.out)
  have c2 : W1.cell? ⟨b, 2, none⟩ = some (.int .i64 0) := HF.out.cell 2
  have c3 : W1.cell? ⟨b, 3, none⟩ = some (.slice none 0 0) := HF.out.cell 3
  clear hb HRi HX0 z0 z1 z2 z3
  go_wp2_with fail
  refine (HPr.out _).mono ?_
  rintro e Y2 ⟨rfl, hb⟩
  have HF := Lib.hid (HF.out.below hb HF.out.lt)
  have HZb := Lib.hid (HZb.out.below hb HZb.out.lt)
  have HO := Lib.hid (HO.out.below hb HO.out.lt)
  have HB := Lib.hid (keepBelow hb HB.out)
  have e0 : Y2.cell? ⟨b + 1 + 1, 0, none⟩ = some (.bool false) := HO.out.cell 0
  have k0 : Y2.frozen? ⟨b + 1 + 1, 0, none⟩ = false := HO.out.frozen 0
  have e1 : Y2.cell? ⟨b + 1 + 1, 1, none⟩ = some (.int .u64 0) := HO.out.cell 1
  have k1 : Y2.frozen? ⟨b + 1 + 1, 1, none⟩ = false := HO.out.frozen 1
  have e2 : Y2.cell? ⟨b + 1 + 1, 2, none⟩ = some (.int .i64 0) := HO.out.cell 2
  have k2 : Y2.frozen? ⟨b + 1 + 1, 2, none⟩ = false := HO.out.frozen 2
  have e3 : Y2.cell? ⟨b + 1 + 1, 3, none⟩ = some (.slice none 0 0) := HO.out.cell 3
  have k3 : Y2.frozen? ⟨b + 1 + 1, 3, none⟩ = false := HO.out.frozen 3
  have e4 : Y2.cell? ⟨b + 1 + 1, 4, none⟩ = some (.slice none 0 0) := HO.out.cell 4
  have k4 : Y2.frozen? ⟨b + 1 + 1, 4, none⟩ = false := HO.out.frozen 4
  clear hb HPr c2 c3
  go_wp2_with fail
  have hV := set5_whole (b := b + 1 + 1) HO.out (.bool false) (.int .u64 0) (.int .i64 0) (.slice none 0 0) (.slice none 0 0)
  have hBV := set5_below HB.out (b := b + 1 + 1) (by have := Hb.out; omega) (.bool false) (.int .u64 0) (.int .i64 0) (.slice none 0 0) (.slice none 0 0)
  have a0 := hV.cell 0
  have a1 := hV.cell 1
  have a2 := hV.cell 2
  have a3 := hV.cell 3
  have a4 := hV.cell 4
  simp only [set5, List.getElem?_toArray, List.getElem?_cons_zero, List.getElem?_cons_succ] at a0 a1 a2 a3 a4
  exact bodyPost_ret (v := .tuple #[.agg #[.bool false, .int .u64 0, .int .i64 0, .slice none 0 0, .slice none 0 0], .bool false]) (by simp [results, Try.results7, go_sem, a0, a1, a2, a3, a4]) rfl ⟨hBV, .inl ⟨rfl, rfl⟩⟩
end Go.Proofs.Ytnajladngpphkaa
