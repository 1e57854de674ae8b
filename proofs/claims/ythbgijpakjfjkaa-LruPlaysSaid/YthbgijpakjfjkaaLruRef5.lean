/- Layer 34: the reference's Get where there is one. -/
import Derived.Test.YthbgijpakjfjkaaLruRef4
namespace Go.Proofs.Ythbgijpakjfjkaa
open Go.RowKit
set_option linter.unusedVariables false
set_option maxRecDepth 100000

def GetR (w : World) (R : List REn) (en sn hh mm : Nat) (v9 : Value) (e : Ending) (w' : World) : Prop := ∃ lv, e = .returned (.tuple #[.agg #[lv, .int .i64 (en : Int), .int .i64 (sn : Int), .int .i64 (hh : Int), .int .i64 (mm : Int)], v9, .bool true]) ∧ w'.ownsRow w.heap.size 43 2 lv R.length (rcells R) ∧ Below w.heap.size w w'
set_option maxHeartbeats 2000000 in
theorem getR_app {w Z : World} {b3 b6 b8 nb : Nat} {L0 : Value} {en sn hh mm : Nat} {C6 : Array Value} {t : ByteArray} {v9 : Value} {a5 : Option Addr} {c5 : Nat} (i0 : TypeInfo) (hi0 : Try.prog.info? 43 = some i0) (hz0 : i0.zero = some (.agg #[.string ByteArray.empty, .slice none 0 0])) (hz1 : i0.size = 2) (hz2 : i0.bytes = 40) (rest : List REn)
    (HO : Z.ownsRow w.heap.size 43 2 (.slice (some ⟨nb, 0, none⟩) 1 1) 1 [.string t, v9]) (HV : Vals Z Z.heap.size 2 a5 rest.length (rcells rest))
    (H3 : Whole Z b3 29 #[L0, .int .i64 (en : Int), .int .i64 (sn : Int), .int .i64 (hh : Int), .int .i64 (mm : Int)]) (H6 : Whole Z b6 29 C6) (H8 : Whole Z b8 43 #[.string t, v9]) (hnb : b8 ≠ nb) (HB : Below w.heap.size w Z)
    (h36 : b6 ≠ b3) (h38 : b8 ≠ b3) (h68 : b6 ≠ b8) (h3w : w.heap.size ≤ b3) (hone : ∀ u ∈ rcells rest, u.oneCell' = true) (hov : v9.oneCell' = true) (hl : rest.length ≤ 100000) :
    ∃ a2 c2 w3, Hid ((Builtin.append_ #[27, 27] 27 #[.slice (some ⟨nb, 0, none⟩) 1 1, .slice a5 rest.length c5]).run Try.prog Z = .ok (.slice a2 (rest.length + 1) c2) w3) ∧
      w3.cell? ⟨b3, 0, none⟩ = some L0 ∧ w3.frozen? ⟨b3, 0, none⟩ = false ∧
      Hid (Whole (w3.setCell ⟨b3, 0, none⟩ (.slice a2 (rest.length + 1) c2)) b3 29 #[.slice a2 (rest.length + 1) c2, .int .i64 (en : Int), .int .i64 (sn : Int), .int .i64 (hh : Int), .int .i64 (mm : Int)]) ∧
      Hid (Whole (w3.setCell ⟨b3, 0, none⟩ (.slice a2 (rest.length + 1) c2)) b6 29 C6) ∧
      Hid (Whole (w3.setCell ⟨b3, 0, none⟩ (.slice a2 (rest.length + 1) c2)) b8 43 #[.string t, v9] ∧ w3.cell? ⟨b8, 0, none⟩ = some (.string t) ∧ w3.cell? ⟨b8, 1, none⟩ = some v9) ∧
      Hid ((w3.setCell ⟨b3, 0, none⟩ (.slice a2 (rest.length + 1) c2)).ownsRow w.heap.size 43 2 (.slice a2 (rest.length + 1) c2) (rest.length + 1) (.string t :: v9 :: rcells rest)) ∧
      Hid (Below w.heap.size w (w3.setCell ⟨b3, 0, none⟩ (.slice a2 (rest.length + 1) c2))) := by
  obtain ⟨v3, w3, hrun, h2, h3, h5⟩ := run_append_vals (P := Try.prog) w.heap.size 27 27 43 i0 _ 2 40 Try.underlying27 hi0 hz0 hz1 hz2 rfl (by omega) (.slice (some ⟨nb, 0, none⟩) 1 1) 1 [.string t, v9] HO Z.heap.size a5 rest.length c5 (rcells rest) HV hone (by unfold maxLen; omega) (by omega) HB.size
  have e1 : 1 + rest.length = rest.length + 1 := by omega
  rw [e1] at h2
  obtain ⟨a2, c2, rfl, _, _, _⟩ := Vals.of_own h2
  have hoZ : Only (fun b => b = nb) Z w3 := Only.of_grown h3 (fun b hb => by injection hb with hb; exact hb.symm)
  have h3n : b3 ≠ nb := fun e => by
    obtain ⟨cs, h9⟩ := own_ent_type HO (b := nb) rfl
    rw [← e] at h9
    exact absurd (cells_inj h9 H3) (by decide)
  have h6n : b6 ≠ nb := fun e => by
    obtain ⟨cs, h9⟩ := own_ent_type HO (b := nb) rfl
    rw [← e] at h9
    exact absurd (cells_inj h9 H6) (by decide)
  have k3 := H3.only hoZ h3n
  have k6 := H6.only hoZ h6n
  have k8 := H8.only hoZ hnb
  have hB := below_of_grown HB HO h3 HB.size
  refine ⟨a2, c2, w3, hrun, by rw [k3.cell]; rfl, k3.frozen 0, ?_, k6.far (p := ⟨b3, 0, none⟩) h36 _, ⟨k8.far (p := ⟨b3, 0, none⟩) h38 _, by rw [k8.cell]; rfl, by rw [k8.cell]; rfl⟩, ?_, hB.setCell h3w _⟩
  · have := k3.set 0 (.slice a2 (rest.length + 1) c2)
    show Whole _ _ _ _
    simpa using this
  · refine own_only h2 (Only.setCell (S := fun b => b = b3) (Only.refl _ _) (fun _ => rfl) _) (fun b hb e => ?_)
    obtain ⟨cs, h9⟩ := own_ent_type h2 hb
    rw [e] at h9
    exact absurd (cells_inj h9 k3) (by decide)
set_option maxHeartbeats 40000000 in
theorem getR_yes (a : Option Addr) (c B en sn hh mm : Nat) (rl : List REn) (n : Nat) (hn : n < rl.length) (s : ByteArray) (w : World) (hV : Vals w B 2 a rl.length (rcells rl)) (hB : B ≤ w.heap.size) (hone : ∀ r ∈ rl, r.v.oneCell' = true) (hl : rl.length ≤ 100000) (hh1 : hh ≤ 1000000)
    (hno : ∀ j (hj : j < rl.length), j < n → kb (rl[j]'hj).key ≠ kb s) (hyes : kb (rl[n]'hn).key = kb s) (a9 : Option Addr) (m9 c9 : Nat) (hv : (rl[n]'hn).v = .slice a9 m9 c9) :
    Calls Try.prog 11 #[.agg #[.slice a rl.length c, .int .i64 (en : Int), .int .i64 (sn : Int), .int .i64 (hh : Int), .int .i64 (mm : Int)], .string s] w
      (GetR w (rl[n]'hn :: rwo rl s) en sn (hh + 1) mm (.slice a9 m9 c9)) := by
  obtain ⟨i0, hi0, hz0, hz1, hz2⟩ := info_parts reninfo
  have HV := Lib.hid (hV.more hB)
  have Hno := Lib.hid hno
  have HOne := Lib.hid hone
  have hts : (rl[n]'hn).key = s := key_eq hyes
  obtain ⟨R1, hR1⟩ : ∃ z, z = rl[n]'hn :: rwo rl s := ⟨_, rfl⟩
  have HRc : Hid (rcells R1 = .string s :: .slice a9 m9 c9 :: rcells (rwo rl s)) := by rw [hR1, ← hv, ← hts]; rfl
  have HRl : Hid (R1.length = (rwo rl s).length + 1) := by rw [hR1]; rfl
  rw [← hR1]
  have HTS : Hid (∀ w b o, (∀ (j : Nat) (hj : j < rl.length), World.cell? w ⟨b, o + j * 2, none⟩ = some (Value.string (rl[j]'hj).key) ∧ World.cell? w ⟨b, o + j * 2 + 1, none⟩ = some (rl[j]'hj).v) → World.cell? w ⟨b, o + n * 2, none⟩ = some (.string s) ∧ World.cell? w ⟨b, o + n * 2 + 1, none⟩ = some (.slice a9 m9 c9)) := fun w b o h => by
    obtain ⟨h1, h2⟩ := h n hn
    rw [hts] at h1
    rw [hv] at h2
    exact ⟨h1, h2⟩
  clear hV hB hno hone hyes hts hv hR1
  go_enter Try.func11, Try.ntmps11
  go_upto_region 1 with (fail)
  obtain ⟨b3, hb3⟩ : ∃ z, z = w.heap.size := ⟨_, rfl⟩
  obtain ⟨b6, hb6⟩ : ∃ z, z = w.heap.size + 1 := ⟨_, rfl⟩
  obtain ⟨C6, hC6⟩ : ∃ z, z = #[Value.slice none 0 0, .int .i64 0, .int .i64 0, .int .i64 0, .int .i64 0] := ⟨_, rfl⟩
  obtain ⟨X, hX⟩ : ∃ z, z = (w.alloc (.cells #[.slice a rl.length c, .int .i64 (en : Int), .int .i64 (sn : Int), .int .i64 (hh : Int), .int .i64 (mm : Int)] 29)).alloc (.cells #[.slice none 0 0, .int .i64 0, .int .i64 0, .int .i64 0, .int .i64 0] 29) := ⟨_, rfl⟩
  have hX3 : Whole X b3 29 #[.slice a rl.length c, .int .i64 (en : Int), .int .i64 (sn : Int), .int .i64 (hh : Int), .int .i64 (mm : Int)] := by rw [hX, hb3]; exact (Whole.new w _ _).alloc _
  have hX6 : Whole X b6 29 C6 := by
    rw [hX, hb6, hC6]
    have := Whole.new (w.alloc (.cells #[.slice a rl.length c, .int .i64 (en : Int), .int .i64 (sn : Int), .int .i64 (hh : Int), .int .i64 (mm : Int)] 29)) 29 #[Value.slice none 0 0, .int .i64 0, .int .i64 0, .int .i64 0, .int .i64 0]
    simpa using this
  have hBX : Below w.heap.size w X := by rw [hX]; exact ((Below.refl _ _).alloc (Nat.le_refl _) _).alloc (by simp) _
  have HXs : Hid (X.heap.size = w.heap.size + 2) := by rw [hX]; show _ = _; simp
  have HC6 : Hid (C6 = #[Value.slice none 0 0, .int .i64 0, .int .i64 0, .int .i64 0, .int .i64 0]) := hC6
  have H36 : Hid (b6 ≠ b3) := by show _ ≠ _; omega
  have H3w : Hid (w.heap.size ≤ b3) := by show _ ≤ _; omega
  have Hb6w : Hid (w.heap.size ≤ b6) := by show _ ≤ _; omega
  have Hb3e := Lib.hid hb3
  have Hb6e := Lib.hid hb6
  rw [← hX, ← hb6, ← hb3]
  have x0 : X.cell? ⟨b3, 0, none⟩ = some (.slice a rl.length c) := by rw [hX3.cell]; rfl
  have HVX := Lib.hid (HV.out.below hBX)
  have HX3 := Lib.hid hX3
  have HX6 := Lib.hid hX6
  have HBX := Lib.hid hBX
  clear hX hb3 hb6 hC6 hX3 hX6 hBX HV
  go_wp2_with fail
  go_loopw [7] (fun i W => ∃ k : Nat, i = .int .i64 (k : Int) ∧ k ≤ n ∧ W = X) (fun i _ => rl.length - (intOf i).toNat)
  case atStart => exact ⟨0, rfl, Nat.zero_le _, rfl⟩
  case round =>
    obtain ⟨k, rfl, hk, hX⟩ := hrel
    subst hX
    have hkl : k < rl.length := by omega
    have d1 : decide ((k : Int) < (rl.length : Int)) = true := decide_eq_true (by omega)
    obtain ⟨b2, off, rfl, hb2, hcell⟩ := HVX.out.r_at (by omega)
    have Hn := Lib.hid hn
    by_cases hlt : k < n
    · obtain ⟨e1, _⟩ := hcell k hkl
      obtain ⟨t, ht⟩ : ∃ z, z = (rl[k]).key := ⟨_, rfl⟩
      rw [← ht] at e1
      have hne : (t.toList == s.toList) = false := by
        rw [beq_eq_false_iff_ne, ByteArray.toList_eq, ByteArray.toList_eq]
        rw [ht]
        exact Hno.out k hkl hlt
      have Hlt := Lib.hid hlt
      clear hcell ht hlt
      go_wp2_with fail
      go_roundw
      case rel => exact ⟨k + 1, by go_num, Hlt.out, trivial⟩
      case measure => simp [intOf] <;> omega
    · obtain rfl : k = n := by omega
      obtain ⟨e1, e2⟩ := HTS.out _ _ _ hcell
      have hrw : (rwo rl s).length ≤ rl.length := List.length_filter_le _ _
      have hb2w : b2 < wr.heap.size := by have := HBX.out.size; omega
      have hb2w2 : b2 ≠ wr.heap.size := by omega
      clear hcell hlt hk
      go_upto_region 6 with (fail)

      obtain ⟨b8, hb8⟩ : ∃ z, z = wr.heap.size := ⟨_, rfl⟩
      obtain ⟨V, hV⟩ : ∃ z, z = wr.alloc (.cells #[.string s, .slice a9 m9 c9] 43) := ⟨_, rfl⟩
      have hV8 : Whole V b8 43 #[.string s, .slice a9 m9 c9] := by rw [hV, hb8]; exact Whole.new wr _ _
      have hwV : Below wr.heap.size wr V := by rw [hV]; exact (Below.refl _ _).alloc (Nat.le_refl _) _
      have HW3 := Lib.hid (HX3.out.below hwV HX3.out.lt)
      have HW6 := Lib.hid (HX6.out.below hwV HX6.out.lt)
      have HVs : Hid (V.heap.size = w.heap.size + 3) := by have := HXs.out; rw [hV]; show _ = _; simp; omega
      have HVV := Lib.hid (HVX.out.below (hwV.mono HBX.out.size))
      have HBw := Lib.hid (HBX.out.trans (hwV.mono HBX.out.size))
      have H38 : Hid (b8 ≠ b3) := by have := HXs.out; have := Hb3e.out; show _ ≠ _; omega
      have H68 : Hid (b6 ≠ b8) := by have := HXs.out; have := Hb6e.out; show _ ≠ _; omega
      have H8l : Hid (b8 < V.heap.size) := hV8.lt
      rw [← hV, ← hb8]
      have KD : Hid (V.drew.cell? ⟨b8, 0, none⟩ = some (.string s) ∧ V.drew.cell? ⟨b8, 1, none⟩ = some (.slice a9 m9 c9)) := ⟨by have := hV8.cell 0; exact this, by have := hV8.cell 1; exact this⟩
      have HBD9 : Hid (Below V.heap.size V V.drew) := ⟨rfl, rfl, rfl, Nat.le_refl _, fun _ _ => rfl⟩
      have HBA9 : Hid (Below V.heap.size V (V.drew.alloc (.cells #[.string s, .slice a9 m9 c9] 43))) := HBD9.out.alloc (Nat.le_refl _) _
      have KA : Hid ((V.drew.alloc (.cells #[.string s, .slice a9 m9 c9] 43)).cell? ⟨b8, 0, none⟩ = some (.string s) ∧ (V.drew.alloc (.cells #[.string s, .slice a9 m9 c9] 43)).cell? ⟨b8, 1, none⟩ = some (.slice a9 m9 c9)) := ⟨(HBA9.out.cell (p := ⟨b8, 0, none⟩) H8l.out).trans (by have := hV8.cell 0; exact this), (HBA9.out.cell (p := ⟨b8, 1, none⟩) H8l.out).trans (by have := hV8.cell 1; exact this)⟩
      have HV8 := Lib.hid hV8
      have HBD := Lib.hid (HBD9.out.mono HBw.out.size)
      have HBA := Lib.hid (HBA9.out.mono HBw.out.size)
      have l3 : V.cell? ⟨b3, 0, none⟩ = some (.slice (some ⟨b2, off, none⟩) rl.length c) := HW3.out.cell 0
      have l3a : (V.alloc (.cells #[.string s, .slice a9 m9 c9] 43)).cell? ⟨b3, 0, none⟩ = some (.slice (some ⟨b2, off, none⟩) rl.length c) := (HW3.out.alloc _).cell 0
      clear hV hb8 hV8 hwV x0 e1 e2 hb2 hb2w hb2w2 HX3 HX6 HBX HVX HXs Hb3e Hb6e
      refine wp_region_held (S := (fun W => W.cell? ⟨b8, 0, none⟩ = some (.string s) ∧ W.cell? ⟨b8, 1, none⟩ = some (.slice a9 m9 c9))) (by kernel_rfl) ?_
      refine wpAnyH_take (i := 0) (oi := { dst := some 29, op := Go.Op.load 43 (Go.Operand.tmp 8), type := 43, pos := "ref.go:53", after := #[], guard := none }) (v := ?_) rfl (by kernel_rfl) (by kernel_rfl) (by kernel_rfl) (fun _ _ _ h => h) (Or.inl ⟨by rfl, ?_⟩) (KD.out) ?_
      rotate_left 1
      · intro w5 hSw
        have q1 := hSw.1
        have q2 := hSw.2
        go_simp; all_goals (with_reducible rfl)
      try simp only [Act.put, List.setIfInBounds_toArray, List.set_cons_zero, List.set_cons_succ]
      refine wpAnyH_take (i := 2) (oi := { dst := some 31, op := Go.Op.fieldAddr 29 (Go.Operand.tmp 2) 0, type := 0, pos := "ref.go:53", after := #[], guard := none }) (v := ?_) rfl (by kernel_rfl) (by kernel_rfl) (by kernel_rfl) (fun _ _ _ h => h) (Or.inl ⟨by rfl, ?_⟩) (KD.out) ?_
      rotate_left 1
      · intro w5 hSw
        go_simp; all_goals (with_reducible rfl)
      try simp only [Act.put, List.setIfInBounds_toArray, List.set_cons_zero, List.set_cons_succ]
      refine wpAnyH_take (i := 4) (oi := { dst := some 33, op := Go.Op.move (Go.Operand.tmp 1), type := 9, pos := "ref.go:53", after := #[], guard := none }) (v := ?_) rfl (by kernel_rfl) (by kernel_rfl) (by kernel_rfl) (fun _ _ _ h => h) (Or.inl ⟨by rfl, ?_⟩) (KD.out) ?_
      rotate_left 1
      · intro w5 hSw
        go_simp; all_goals (with_reducible rfl)
      try simp only [Act.put, List.setIfInBounds_toArray, List.set_cons_zero, List.set_cons_succ]
      refine wpAnyH_ready (rs := [1, 3]) (by kernel_rfl) (by simp) ?_
      refine (AllReadyH.cons (o := { dst := some 30, op := Go.Op.buildSlice 27 1 #[(0, Go.Operand.tmp 29)], type := 27, pos := "ref.go:53", after := #[{ on := 0, ground := Go.Ground.data }], guard := none }) rfl (fun K hK => ?_) (AllReadyH.cons (o := { dst := some 32, op := Go.Op.load 27 (Go.Operand.tmp 31), type := 27, pos := "ref.go:53", after := #[{ on := 2, ground := Go.Ground.data }], guard := none }) rfl (fun K hK => ?_) AllReadyH.nil))
      · go_simp
        refine hK.out _ _ (KA.out) (fun _ => ?_)
        clear hK K
        try simp only [Act.put, List.setIfInBounds_toArray, List.set_cons_zero, List.set_cons_succ]
        refine wpAnyH_ready (rs := [3]) (by kernel_rfl) (by simp) ?_
        refine (AllReadyH.cons (o := { dst := some 32, op := Go.Op.load 27 (Go.Operand.tmp 31), type := 27, pos := "ref.go:53", after := #[{ on := 2, ground := Go.Ground.data }], guard := none }) rfl (fun K hK => ?_) AllReadyH.nil)
        go_simp
        refine hK.out _ _ (KA.out) (fun _ => ?_)
        clear hK K
        try simp only [Act.put, List.setIfInBounds_toArray, List.set_cons_zero, List.set_cons_succ]
        refine wpAnyH_ready (rs := [5]) (by kernel_rfl) (by simp) ?_
        refine (AllReadyH.cons (o := { dst := some 34, op := Go.Op.call { callee := Go.Callee.value (Go.Operand.func 25), args := #[Go.Operand.tmp 32, Go.Operand.tmp 33], argTypes := #[27, 9] }, type := 27, pos := "ref.go:53", after := #[{ on := 3, ground := Go.Ground.data }, { on := 4, ground := Go.Ground.data }], guard := none }) rfl (fun K hK => ?_) AllReadyH.nil)
        go_simp
        refine (without_any _ c w.heap.size s rl (V.drew.alloc (.cells #[.string s, .slice a9 m9 c9] 43)) (HVV.out.below HBA.out) (Nat.le_trans HBw.out.size HBA.out.size) HOne.out (by omega)).mono ?_; rintro e Y ⟨vv, rfl, hown5, hb9⟩; obtain ⟨a5, c5, rfl, _, _, hV5⟩ := Vals.of_own hown5; have hBY : Below w.heap.size w Y := (HBw.out.trans HBA.out).trans (hb9.mono (Nat.le_trans HBw.out.size HBA.out.size)); have hwY : Below V.heap.size V Y := HBA9.out.trans (hb9.mono HBA9.out.size); have hY3 := HW3.out.below hwY HW3.out.lt; have hY6 := HW6.out.below hwY HW6.out.lt; have hY8 := HV8.out.below hwY HV8.out.lt; have e1Y : Y.cell? ⟨b8, 0, none⟩ = some (.string s) := hY8.cell 0; have e2Y : Y.cell? ⟨b8, 1, none⟩ = some (.slice a9 m9 c9) := hY8.cell 1
        go_wp2_with fail
        refine hK.out _ _ (⟨e1Y, e2Y⟩) (fun _ => ?_)
        clear hK K
        try simp only [Act.put, List.setIfInBounds_toArray, List.set_cons_zero, List.set_cons_succ]
        refine wpAnyH_ready (rs := [6]) (by kernel_rfl) (by simp) ?_
        refine (AllReadyH.cons (o := { dst := some 35, op := Go.Op.call { callee := Go.Callee.builtin Go.Builtin.append, args := #[Go.Operand.tmp 30, Go.Operand.tmp 34], argTypes := #[27, 27] }, type := 27, pos := "ref.go:53", after := #[{ on := 1, ground := Go.Ground.data }, { on := 5, ground := Go.Ground.data }, { on := 5, ground := Go.Ground.chain }], guard := none }) rfl (fun K hK => ?_) AllReadyH.nil)
        have HO1 : Y.ownsRow w.heap.size 43 2 (.slice (some ⟨V.heap.size, 0, none⟩) 1 1) 1 [.string s, .slice a9 m9 c9] := ⟨rfl, .inr ⟨V.heap.size, 1, #[.string s, .slice a9 m9 c9], rfl, HBw.out.size, (hb9.block V.heap.size (by simp)).trans (heap_alloc_new V.drew _), Nat.le_refl _, by unfold maxLen; omega, rfl, rfl⟩⟩
        obtain ⟨a2, c2, w3, Hrun, P0, PF, P3, P6, P8, PO, PB⟩ := getR_app i0 hi0 hz0 hz1 hz2 (rwo rl s) HO1 hV5 hY3 hY6 hY8 (by have := H8l.out; omega) hBY H36.out H38.out H68.out H3w.out (rcells_one (fun r hr => HOne.out r (List.mem_filter.1 hr).1)) rfl (by omega)
        refine held_app (by rfl) (.tmp 30) (.tmp 34) 27 rfl _ _ (.slice a2 ((rwo rl s).length + 1) c2) rfl rfl (Hrun.out) ?_
        refine hK.out _ _ (P8.out.2) (fun _ => ?_)
        clear hK K
        try simp only [Act.put, List.setIfInBounds_toArray, List.set_cons_zero, List.set_cons_succ]
        refine wpAnyH_take (i := 7) (oi := { dst := some 36, op := Go.Op.fieldAddr 29 (Go.Operand.tmp 2) 0, type := 0, pos := "ref.go:53", after := #[{ on := 0, ground := Go.Ground.phase }, { on := 1, ground := Go.Ground.phase }, { on := 2, ground := Go.Ground.phase }, { on := 3, ground := Go.Ground.phase }, { on := 4, ground := Go.Ground.phase }, { on := 5, ground := Go.Ground.phase }, { on := 6, ground := Go.Ground.phase }], guard := none }) (v := ?_) rfl (by kernel_rfl) (by kernel_rfl) (by kernel_rfl) (fun _ _ _ h => h) (Or.inl ⟨by rfl, ?_⟩) (P8.out.2) ?_
        rotate_left 1
        · intro w5 hSw
          go_simp; all_goals (with_reducible rfl)
        try simp only [Act.put, List.setIfInBounds_toArray, List.set_cons_zero, List.set_cons_succ]
        refine wpAnyH_ready (rs := [8]) (by kernel_rfl) (by simp) ?_
        refine (AllReadyH.cons (o := { dst := none, op := Go.Op.store 27 (Go.Operand.tmp 36) (Go.Operand.tmp 35), type := 0, pos := "ref.go:53", after := #[{ on := 7, ground := Go.Ground.data }, { on := 6, ground := Go.Ground.data }, { on := 6, ground := Go.Ground.chain }, { on := 0, ground := Go.Ground.phase }, { on := 1, ground := Go.Ground.phase }, { on := 2, ground := Go.Ground.phase }, { on := 3, ground := Go.Ground.phase }, { on := 4, ground := Go.Ground.phase }, { on := 5, ground := Go.Ground.phase }, { on := 6, ground := Go.Ground.phase }], guard := none }) rfl (fun K hK => ?_) AllReadyH.nil)
        go_simp
        refine hK.out _ _ (⟨P8.out.1.cell 0, P8.out.1.cell 1⟩) (fun _ => ?_)
        clear hK K
        try simp only [Act.put, List.setIfInBounds_toArray, List.set_cons_zero, List.set_cons_succ]
        refine wpAnyH_done (by kernel_rfl) ?_ _
        obtain ⟨W4, hW4⟩ : ∃ z, z = w3.setCell ⟨b3, 0, none⟩ (.slice a2 ((rwo rl s).length + 1) c2) := ⟨_, rfl⟩
        rw [← hW4] at P3 P6 P8 PO PB ⊢
        have y3 : W4.cell? ⟨b3, 3, none⟩ = some (.int .i64 (hh : Int)) := P3.out.cell 3
        have yf : W4.frozen? ⟨b3, 3, none⟩ = false := P3.out.frozen 3
        obtain ⟨W5, hW5⟩ : ∃ z, z = W4.setCell ⟨b3, 3, none⟩ (.int .i64 ((hh : Int) + 1)) := ⟨_, rfl⟩
        have K3 : Hid (Whole W5 b3 29 #[.slice a2 ((rwo rl s).length + 1) c2, .int .i64 (en : Int), .int .i64 (sn : Int), .int .i64 ((hh : Int) + 1), .int .i64 (mm : Int)]) := by
          have := P3.out.set 3 (.int .i64 ((hh : Int) + 1))
          rw [hW5]
          show Whole _ _ _ _
          simpa using this
        have K6 : Hid (Whole W5 b6 29 C6) := by rw [hW5]; exact P6.out.far (p := ⟨b3, 3, none⟩) H36.out _
        have K8 : Hid (Whole W5 b8 43 #[.string s, .slice a9 m9 c9]) := by rw [hW5]; exact P8.out.1.far (p := ⟨b3, 3, none⟩) H38.out _
        have KO : Hid (W5.ownsRow w.heap.size 43 2 (.slice a2 ((rwo rl s).length + 1) c2) R1.length (rcells R1)) := by
          rw [HRl.out, HRc.out, hW5]
          refine own_only PO.out (Only.setCell (S := fun b => b = b3) (Only.refl _ _) (fun _ => rfl) _) (fun b hb e => ?_)
          obtain ⟨cs, h9⟩ := own_ent_type PO.out hb
          rw [e] at h9
          exact absurd (cells_inj h9 P3.out) (by decide)
        have KB : Hid (Below w.heap.size w W5) := by rw [hW5]; exact PB.out.setCell H3w.out _
        clear hW4 P0 PF P3 P6 P8 PO PB Hrun hY3 hY6 hY8 hwY hBY e1Y e2Y hb9 hV5 hown5 HO1
        go_upto_region 8 with (fail)
        rw [← hW5]
        clear hW5 y3 yf
        have K60 := K6.out
        rw [HC6.out] at K60
        have z0 : W5.cell? ⟨b6, 0, none⟩ = some (.slice none 0 0) := K60.cell 0
        have z1 : W5.cell? ⟨b6, 1, none⟩ = some (.int .i64 0) := K60.cell 1
        have z2 : W5.cell? ⟨b6, 2, none⟩ = some (.int .i64 0) := K60.cell 2
        have z3 : W5.cell? ⟨b6, 3, none⟩ = some (.int .i64 0) := K60.cell 3
        have z4 : W5.cell? ⟨b6, 4, none⟩ = some (.int .i64 0) := K60.cell 4
        have zf0 : W5.frozen? ⟨b6, 0, none⟩ = false := K60.frozen 0
        have zf1 : W5.frozen? ⟨b6, 1, none⟩ = false := K60.frozen 1
        have zf2 : W5.frozen? ⟨b6, 2, none⟩ = false := K60.frozen 2
        have zf3 : W5.frozen? ⟨b6, 3, none⟩ = false := K60.frozen 3
        have zf4 : W5.frozen? ⟨b6, 4, none⟩ = false := K60.frozen 4
        clear K60
        refine wp_region_held (S := (fun W => Whole W b3 29 #[.slice a2 ((rwo rl s).length + 1) c2, .int .i64 (en : Int), .int .i64 (sn : Int), .int .i64 ((hh : Int) + 1), .int .i64 (mm : Int)] ∧ Whole W b8 43 #[.string s, .slice a9 m9 c9])) (by kernel_rfl) ?_
        refine wpAnyH_take (i := 0) (oi := { dst := some 41, op := Go.Op.load 29 (Go.Operand.tmp 2), type := 29, pos := "ref.go:55", after := #[], guard := none }) (v := ?_) rfl (by kernel_rfl) (by kernel_rfl) (by kernel_rfl) (fun _ _ _ h => h) (Or.inl ⟨by rfl, ?_⟩) (⟨K3.out.drew, K8.out.drew⟩) ?_
        rotate_left 1
        · intro w5 hSw
          have q0 : w5.cell? ⟨b3, 0, none⟩ = some (.slice a2 ((rwo rl s).length + 1) c2) := hSw.1.cell 0
          have q1 : w5.cell? ⟨b3, 1, none⟩ = some (.int .i64 (en : Int)) := hSw.1.cell 1
          have q2 : w5.cell? ⟨b3, 2, none⟩ = some (.int .i64 (sn : Int)) := hSw.1.cell 2
          have q3 : w5.cell? ⟨b3, 3, none⟩ = some (.int .i64 ((hh : Int) + 1)) := hSw.1.cell 3
          have q4 : w5.cell? ⟨b3, 4, none⟩ = some (.int .i64 (mm : Int)) := hSw.1.cell 4
          go_simp; all_goals (with_reducible rfl)
        try simp only [Act.put, List.setIfInBounds_toArray, List.set_cons_zero, List.set_cons_succ]
        refine wpAnyH_take (i := 1) (oi := { dst := some 42, op := Go.Op.fieldAddr 43 (Go.Operand.tmp 8) 1, type := 0, pos := "ref.go:55", after := #[{ on := 3, ground := Go.Ground.gcOnly Go.Departure.lateStores }], guard := none }) (v := ?_) rfl (by kernel_rfl) (by kernel_rfl) (by kernel_rfl) (fun _ _ _ h => h) (Or.inl ⟨by rfl, ?_⟩) (⟨K3.out.drew, K8.out.drew⟩) ?_
        rotate_left 1
        · intro w5 hSw
          go_simp; all_goals (with_reducible rfl)
        try simp only [Act.put, List.setIfInBounds_toArray, List.set_cons_zero, List.set_cons_succ]
        refine wpAnyH_take (i := 2) (oi := { dst := some 43, op := Go.Op.load 31 (Go.Operand.tmp 42), type := 31, pos := "ref.go:55", after := #[{ on := 1, ground := Go.Ground.data }, { on := 3, ground := Go.Ground.gcOnly Go.Departure.lateStores }], guard := none }) (v := ?_) rfl (by kernel_rfl) (by kernel_rfl) (by kernel_rfl) (fun _ _ _ h => h) (Or.inl ⟨by rfl, ?_⟩) (⟨K3.out.drew, K8.out.drew⟩) ?_
        rotate_left 1
        · intro w5 hSw
          have q1 : w5.cell? ⟨b8, 1, none⟩ = some (.slice a9 m9 c9) := hSw.2.cell 1
          go_simp; all_goals (with_reducible rfl)
        try simp only [Act.put, List.setIfInBounds_toArray, List.set_cons_zero, List.set_cons_succ]
        refine wpAnyH_ready (rs := [3]) (by kernel_rfl) (by simp) ?_
        refine AllReadyH.cons (o := { dst := none, op := Go.Op.store 29 (Go.Operand.tmp 4) (Go.Operand.tmp 41), type := 0, pos := "ref.go:55", after := #[{ on := 0, ground := Go.Ground.data }, { on := 0, ground := Go.Ground.phase }, { on := 1, ground := Go.Ground.textOnly Go.Departure.lateStores }, { on := 2, ground := Go.Ground.textOnly Go.Departure.lateStores }], guard := none }) rfl (fun K hK => ?_) AllReadyH.nil
        go_simp
        refine hK.out _ _ (⟨((((((K3.out).far (p := ⟨b6, 0, none⟩) H36.out.symm _).far (p := ⟨b6, 1, none⟩) H36.out.symm _).far (p := ⟨b6, 2, none⟩) H36.out.symm _).far (p := ⟨b6, 3, none⟩) H36.out.symm _).far (p := ⟨b6, 4, none⟩) H36.out.symm _).drew, ((((((K8.out).far (p := ⟨b6, 0, none⟩) H68.out.symm _).far (p := ⟨b6, 1, none⟩) H68.out.symm _).far (p := ⟨b6, 2, none⟩) H68.out.symm _).far (p := ⟨b6, 3, none⟩) H68.out.symm _).far (p := ⟨b6, 4, none⟩) H68.out.symm _).drew⟩) (fun _ => ?_)
        clear hK K
        try simp only [Act.put, List.setIfInBounds_toArray, List.set_cons_zero, List.set_cons_succ]
        refine wpAnyH_take (i := 4) (oi := { dst := some 5, op := Go.Op.assign (Go.Operand.tmp 43), type := 31, pos := "ref.go:55", after := #[{ on := 2, ground := Go.Ground.data }, { on := 3, ground := Go.Ground.chain }, { on := 0, ground := Go.Ground.phase }, { on := 1, ground := Go.Ground.phase }, { on := 2, ground := Go.Ground.phase }, { on := 3, ground := Go.Ground.phase }], guard := none }) (v := ?_) rfl (by kernel_rfl) (by kernel_rfl) (by kernel_rfl) (fun _ _ _ h => h) (Or.inl ⟨by rfl, ?_⟩) (⟨((((((K3.out).far (p := ⟨b6, 0, none⟩) H36.out.symm _).far (p := ⟨b6, 1, none⟩) H36.out.symm _).far (p := ⟨b6, 2, none⟩) H36.out.symm _).far (p := ⟨b6, 3, none⟩) H36.out.symm _).far (p := ⟨b6, 4, none⟩) H36.out.symm _).drew, ((((((K8.out).far (p := ⟨b6, 0, none⟩) H68.out.symm _).far (p := ⟨b6, 1, none⟩) H68.out.symm _).far (p := ⟨b6, 2, none⟩) H68.out.symm _).far (p := ⟨b6, 3, none⟩) H68.out.symm _).far (p := ⟨b6, 4, none⟩) H68.out.symm _).drew⟩) ?_
        rotate_left 1
        · intro w5 hSw
          go_simp; all_goals (with_reducible rfl)
        try simp only [Act.put, List.setIfInBounds_toArray, List.set_cons_zero, List.set_cons_succ]
        refine wpAnyH_take (i := 5) (oi := { dst := some 6, op := Go.Op.assign (Go.Operand.const (Go.Value.bool true)), type := 4, pos := "ref.go:55", after := #[{ on := 4, ground := Go.Ground.chain }, { on := 0, ground := Go.Ground.phase }, { on := 1, ground := Go.Ground.phase }, { on := 2, ground := Go.Ground.phase }, { on := 3, ground := Go.Ground.phase }, { on := 4, ground := Go.Ground.phase }], guard := none }) (v := ?_) rfl (by kernel_rfl) (by kernel_rfl) (by kernel_rfl) (fun _ _ _ h => h) (Or.inl ⟨by rfl, ?_⟩) (⟨((((((K3.out).far (p := ⟨b6, 0, none⟩) H36.out.symm _).far (p := ⟨b6, 1, none⟩) H36.out.symm _).far (p := ⟨b6, 2, none⟩) H36.out.symm _).far (p := ⟨b6, 3, none⟩) H36.out.symm _).far (p := ⟨b6, 4, none⟩) H36.out.symm _).drew, ((((((K8.out).far (p := ⟨b6, 0, none⟩) H68.out.symm _).far (p := ⟨b6, 1, none⟩) H68.out.symm _).far (p := ⟨b6, 2, none⟩) H68.out.symm _).far (p := ⟨b6, 3, none⟩) H68.out.symm _).far (p := ⟨b6, 4, none⟩) H68.out.symm _).drew⟩) ?_
        rotate_left 1
        · intro w5 hSw
          go_simp; all_goals (with_reducible rfl)
        try simp only [Act.put, List.setIfInBounds_toArray, List.set_cons_zero, List.set_cons_succ]
        refine wpAnyH_done (by kernel_rfl) ?_ _
        obtain ⟨W6, hW6⟩ : ∃ z, z = ((((W5.setCell ⟨b6, 0, none⟩ (.slice a2 ((rwo rl s).length + 1) c2)).setCell ⟨b6, 1, none⟩ (.int .i64 (en : Int))).setCell ⟨b6, 2, none⟩ (.int .i64 (sn : Int))).setCell ⟨b6, 3, none⟩ (.int .i64 ((hh : Int) + 1))).setCell ⟨b6, 4, none⟩ (.int .i64 (mm : Int)) := ⟨_, rfl⟩
        have M6 : Whole W6 b6 29 #[.slice a2 ((rwo rl s).length + 1) c2, .int .i64 (en : Int), .int .i64 (sn : Int), .int .i64 ((hh : Int) + 1), .int .i64 (mm : Int)] := by
          have k6 := K6.out
          rw [HC6.out] at k6
          have := ((((k6.set 0 (.slice a2 ((rwo rl s).length + 1) c2)).set 1 (.int .i64 (en : Int))).set 2 (.int .i64 (sn : Int))).set 3 (.int .i64 ((hh : Int) + 1))).set 4 (.int .i64 (mm : Int))
          rw [hW6]
          simpa using this
        have hO6 : Only (fun b => b = b6) W5 W6 := by
          rw [hW6]
          exact ((((Only.setCell (S := fun b => b = b6) (Only.refl _ _) (p := ⟨b6, 0, none⟩) (fun _ => rfl) _).setCell (p := ⟨b6, 1, none⟩) (fun _ => rfl) _).setCell (p := ⟨b6, 2, none⟩) (fun _ => rfl) _).setCell (p := ⟨b6, 3, none⟩) (fun _ => rfl) _).setCell (p := ⟨b6, 4, none⟩) (fun _ => rfl) _
        have POST : Hid (W6.drew.ownsRow w.heap.size 43 2 (.slice a2 ((rwo rl s).length + 1) c2) R1.length (rcells R1) ∧ Below w.heap.size w W6.drew) := by
          have h1 := own_only KO.out hO6 (fun b hb e => by
            obtain ⟨cs, h9⟩ := own_ent_type KO.out hb
            rw [e] at h9
            exact absurd (cells_inj h9 K6.out) (by decide))
          have h2 := KB.out.trans (hO6.below (B := w.heap.size) (fun b hb e => by have := Hb6w.out; omega) KB.out.size)
          exact ⟨h1, h2.os, h2.tape, h2.output, h2.size, h2.block⟩
        rw [← hW6]
        have v0 : W6.cell? ⟨b6, 0, none⟩ = some (.slice a2 ((rwo rl s).length + 1) c2) := M6.cell 0
        have v1 : W6.cell? ⟨b6, 1, none⟩ = some (.int .i64 (en : Int)) := M6.cell 1
        have v2 : W6.cell? ⟨b6, 2, none⟩ = some (.int .i64 (sn : Int)) := M6.cell 2
        have v3 : W6.cell? ⟨b6, 3, none⟩ = some (.int .i64 ((hh : Int) + 1)) := M6.cell 3
        have v4 : W6.cell? ⟨b6, 4, none⟩ = some (.int .i64 (mm : Int)) := M6.cell 4
        clear hW6 M6 hO6 z0 z1 z2 z3 z4 zf0 zf1 zf2 zf3 zf4
        go_wp2_with fail
        exact bodyPost_ret (v := .tuple #[.agg #[.slice a2 ((rwo rl s).length + 1) c2, .int .i64 (en : Int), .int .i64 (sn : Int), .int .i64 ((hh : Int) + 1), .int .i64 (mm : Int)], .slice a9 m9 c9, .bool true]) (by simp [results, Try.results11, asAddr, v0, v1, v2, v3, v4, go_sem]) rfl ⟨.slice a2 ((rwo rl s).length + 1) c2, by simp, POST.out⟩
      · go_simp
        refine hK.out _ _ (KD.out) (fun _ => ?_)
        clear hK K
        try simp only [Act.put, List.setIfInBounds_toArray, List.set_cons_zero, List.set_cons_succ]
        refine wpAnyH_ready (rs := [1, 5]) (by kernel_rfl) (by simp) ?_
        refine (AllReadyH.cons (o := { dst := some 30, op := Go.Op.buildSlice 27 1 #[(0, Go.Operand.tmp 29)], type := 27, pos := "ref.go:53", after := #[{ on := 0, ground := Go.Ground.data }], guard := none }) rfl (fun K hK => ?_) (AllReadyH.cons (o := { dst := some 34, op := Go.Op.call { callee := Go.Callee.value (Go.Operand.func 25), args := #[Go.Operand.tmp 32, Go.Operand.tmp 33], argTypes := #[27, 9] }, type := 27, pos := "ref.go:53", after := #[{ on := 3, ground := Go.Ground.data }, { on := 4, ground := Go.Ground.data }], guard := none }) rfl (fun K hK => ?_) AllReadyH.nil))
        · go_simp
          refine hK.out _ _ (KA.out) (fun _ => ?_)
          clear hK K
          try simp only [Act.put, List.setIfInBounds_toArray, List.set_cons_zero, List.set_cons_succ]
          refine wpAnyH_ready (rs := [5]) (by kernel_rfl) (by simp) ?_
          refine (AllReadyH.cons (o := { dst := some 34, op := Go.Op.call { callee := Go.Callee.value (Go.Operand.func 25), args := #[Go.Operand.tmp 32, Go.Operand.tmp 33], argTypes := #[27, 9] }, type := 27, pos := "ref.go:53", after := #[{ on := 3, ground := Go.Ground.data }, { on := 4, ground := Go.Ground.data }], guard := none }) rfl (fun K hK => ?_) AllReadyH.nil)
          go_simp
          refine (without_any _ c w.heap.size s rl (V.drew.alloc (.cells #[.string s, .slice a9 m9 c9] 43)) (HVV.out.below HBA.out) (Nat.le_trans HBw.out.size HBA.out.size) HOne.out (by omega)).mono ?_; rintro e Y ⟨vv, rfl, hown5, hb9⟩; obtain ⟨a5, c5, rfl, _, _, hV5⟩ := Vals.of_own hown5; have hBY : Below w.heap.size w Y := (HBw.out.trans HBA.out).trans (hb9.mono (Nat.le_trans HBw.out.size HBA.out.size)); have hwY : Below V.heap.size V Y := HBA9.out.trans (hb9.mono HBA9.out.size); have hY3 := HW3.out.below hwY HW3.out.lt; have hY6 := HW6.out.below hwY HW6.out.lt; have hY8 := HV8.out.below hwY HV8.out.lt; have e1Y : Y.cell? ⟨b8, 0, none⟩ = some (.string s) := hY8.cell 0; have e2Y : Y.cell? ⟨b8, 1, none⟩ = some (.slice a9 m9 c9) := hY8.cell 1
          go_wp2_with fail
          refine hK.out _ _ (⟨e1Y, e2Y⟩) (fun _ => ?_)
          clear hK K
          try simp only [Act.put, List.setIfInBounds_toArray, List.set_cons_zero, List.set_cons_succ]
          refine wpAnyH_ready (rs := [6]) (by kernel_rfl) (by simp) ?_
          refine (AllReadyH.cons (o := { dst := some 35, op := Go.Op.call { callee := Go.Callee.builtin Go.Builtin.append, args := #[Go.Operand.tmp 30, Go.Operand.tmp 34], argTypes := #[27, 27] }, type := 27, pos := "ref.go:53", after := #[{ on := 1, ground := Go.Ground.data }, { on := 5, ground := Go.Ground.data }, { on := 5, ground := Go.Ground.chain }], guard := none }) rfl (fun K hK => ?_) AllReadyH.nil)
          have HO1 : Y.ownsRow w.heap.size 43 2 (.slice (some ⟨V.heap.size, 0, none⟩) 1 1) 1 [.string s, .slice a9 m9 c9] := ⟨rfl, .inr ⟨V.heap.size, 1, #[.string s, .slice a9 m9 c9], rfl, HBw.out.size, (hb9.block V.heap.size (by simp)).trans (heap_alloc_new V.drew _), Nat.le_refl _, by unfold maxLen; omega, rfl, rfl⟩⟩
          obtain ⟨a2, c2, w3, Hrun, P0, PF, P3, P6, P8, PO, PB⟩ := getR_app i0 hi0 hz0 hz1 hz2 (rwo rl s) HO1 hV5 hY3 hY6 hY8 (by have := H8l.out; omega) hBY H36.out H38.out H68.out H3w.out (rcells_one (fun r hr => HOne.out r (List.mem_filter.1 hr).1)) rfl (by omega)
          refine held_app (by rfl) (.tmp 30) (.tmp 34) 27 rfl _ _ (.slice a2 ((rwo rl s).length + 1) c2) rfl rfl (Hrun.out) ?_
          refine hK.out _ _ (P8.out.2) (fun _ => ?_)
          clear hK K
          try simp only [Act.put, List.setIfInBounds_toArray, List.set_cons_zero, List.set_cons_succ]
          refine wpAnyH_take (i := 7) (oi := { dst := some 36, op := Go.Op.fieldAddr 29 (Go.Operand.tmp 2) 0, type := 0, pos := "ref.go:53", after := #[{ on := 0, ground := Go.Ground.phase }, { on := 1, ground := Go.Ground.phase }, { on := 2, ground := Go.Ground.phase }, { on := 3, ground := Go.Ground.phase }, { on := 4, ground := Go.Ground.phase }, { on := 5, ground := Go.Ground.phase }, { on := 6, ground := Go.Ground.phase }], guard := none }) (v := ?_) rfl (by kernel_rfl) (by kernel_rfl) (by kernel_rfl) (fun _ _ _ h => h) (Or.inl ⟨by rfl, ?_⟩) (P8.out.2) ?_
          rotate_left 1
          · intro w5 hSw
            go_simp; all_goals (with_reducible rfl)
          try simp only [Act.put, List.setIfInBounds_toArray, List.set_cons_zero, List.set_cons_succ]
          refine wpAnyH_ready (rs := [8]) (by kernel_rfl) (by simp) ?_
          refine (AllReadyH.cons (o := { dst := none, op := Go.Op.store 27 (Go.Operand.tmp 36) (Go.Operand.tmp 35), type := 0, pos := "ref.go:53", after := #[{ on := 7, ground := Go.Ground.data }, { on := 6, ground := Go.Ground.data }, { on := 6, ground := Go.Ground.chain }, { on := 0, ground := Go.Ground.phase }, { on := 1, ground := Go.Ground.phase }, { on := 2, ground := Go.Ground.phase }, { on := 3, ground := Go.Ground.phase }, { on := 4, ground := Go.Ground.phase }, { on := 5, ground := Go.Ground.phase }, { on := 6, ground := Go.Ground.phase }], guard := none }) rfl (fun K hK => ?_) AllReadyH.nil)
          go_simp
          refine hK.out _ _ (⟨P8.out.1.cell 0, P8.out.1.cell 1⟩) (fun _ => ?_)
          clear hK K
          try simp only [Act.put, List.setIfInBounds_toArray, List.set_cons_zero, List.set_cons_succ]
          refine wpAnyH_done (by kernel_rfl) ?_ _
          obtain ⟨W4, hW4⟩ : ∃ z, z = w3.setCell ⟨b3, 0, none⟩ (.slice a2 ((rwo rl s).length + 1) c2) := ⟨_, rfl⟩
          rw [← hW4] at P3 P6 P8 PO PB ⊢
          have y3 : W4.cell? ⟨b3, 3, none⟩ = some (.int .i64 (hh : Int)) := P3.out.cell 3
          have yf : W4.frozen? ⟨b3, 3, none⟩ = false := P3.out.frozen 3
          obtain ⟨W5, hW5⟩ : ∃ z, z = W4.setCell ⟨b3, 3, none⟩ (.int .i64 ((hh : Int) + 1)) := ⟨_, rfl⟩
          have K3 : Hid (Whole W5 b3 29 #[.slice a2 ((rwo rl s).length + 1) c2, .int .i64 (en : Int), .int .i64 (sn : Int), .int .i64 ((hh : Int) + 1), .int .i64 (mm : Int)]) := by
            have := P3.out.set 3 (.int .i64 ((hh : Int) + 1))
            rw [hW5]
            show Whole _ _ _ _
            simpa using this
          have K6 : Hid (Whole W5 b6 29 C6) := by rw [hW5]; exact P6.out.far (p := ⟨b3, 3, none⟩) H36.out _
          have K8 : Hid (Whole W5 b8 43 #[.string s, .slice a9 m9 c9]) := by rw [hW5]; exact P8.out.1.far (p := ⟨b3, 3, none⟩) H38.out _
          have KO : Hid (W5.ownsRow w.heap.size 43 2 (.slice a2 ((rwo rl s).length + 1) c2) R1.length (rcells R1)) := by
            rw [HRl.out, HRc.out, hW5]
            refine own_only PO.out (Only.setCell (S := fun b => b = b3) (Only.refl _ _) (fun _ => rfl) _) (fun b hb e => ?_)
            obtain ⟨cs, h9⟩ := own_ent_type PO.out hb
            rw [e] at h9
            exact absurd (cells_inj h9 P3.out) (by decide)
          have KB : Hid (Below w.heap.size w W5) := by rw [hW5]; exact PB.out.setCell H3w.out _
          clear hW4 P0 PF P3 P6 P8 PO PB Hrun hY3 hY6 hY8 hwY hBY e1Y e2Y hb9 hV5 hown5 HO1
          go_upto_region 8 with (fail)
          rw [← hW5]
          clear hW5 y3 yf
          have K60 := K6.out
          rw [HC6.out] at K60
          have z0 : W5.cell? ⟨b6, 0, none⟩ = some (.slice none 0 0) := K60.cell 0
          have z1 : W5.cell? ⟨b6, 1, none⟩ = some (.int .i64 0) := K60.cell 1
          have z2 : W5.cell? ⟨b6, 2, none⟩ = some (.int .i64 0) := K60.cell 2
          have z3 : W5.cell? ⟨b6, 3, none⟩ = some (.int .i64 0) := K60.cell 3
          have z4 : W5.cell? ⟨b6, 4, none⟩ = some (.int .i64 0) := K60.cell 4
          have zf0 : W5.frozen? ⟨b6, 0, none⟩ = false := K60.frozen 0
          have zf1 : W5.frozen? ⟨b6, 1, none⟩ = false := K60.frozen 1
          have zf2 : W5.frozen? ⟨b6, 2, none⟩ = false := K60.frozen 2
          have zf3 : W5.frozen? ⟨b6, 3, none⟩ = false := K60.frozen 3
          have zf4 : W5.frozen? ⟨b6, 4, none⟩ = false := K60.frozen 4
          clear K60
          refine wp_region_held (S := (fun W => Whole W b3 29 #[.slice a2 ((rwo rl s).length + 1) c2, .int .i64 (en : Int), .int .i64 (sn : Int), .int .i64 ((hh : Int) + 1), .int .i64 (mm : Int)] ∧ Whole W b8 43 #[.string s, .slice a9 m9 c9])) (by kernel_rfl) ?_
          refine wpAnyH_take (i := 0) (oi := { dst := some 41, op := Go.Op.load 29 (Go.Operand.tmp 2), type := 29, pos := "ref.go:55", after := #[], guard := none }) (v := ?_) rfl (by kernel_rfl) (by kernel_rfl) (by kernel_rfl) (fun _ _ _ h => h) (Or.inl ⟨by rfl, ?_⟩) (⟨K3.out.drew, K8.out.drew⟩) ?_
          rotate_left 1
          · intro w5 hSw
            have q0 : w5.cell? ⟨b3, 0, none⟩ = some (.slice a2 ((rwo rl s).length + 1) c2) := hSw.1.cell 0
            have q1 : w5.cell? ⟨b3, 1, none⟩ = some (.int .i64 (en : Int)) := hSw.1.cell 1
            have q2 : w5.cell? ⟨b3, 2, none⟩ = some (.int .i64 (sn : Int)) := hSw.1.cell 2
            have q3 : w5.cell? ⟨b3, 3, none⟩ = some (.int .i64 ((hh : Int) + 1)) := hSw.1.cell 3
            have q4 : w5.cell? ⟨b3, 4, none⟩ = some (.int .i64 (mm : Int)) := hSw.1.cell 4
            go_simp; all_goals (with_reducible rfl)
          try simp only [Act.put, List.setIfInBounds_toArray, List.set_cons_zero, List.set_cons_succ]
          refine wpAnyH_take (i := 1) (oi := { dst := some 42, op := Go.Op.fieldAddr 43 (Go.Operand.tmp 8) 1, type := 0, pos := "ref.go:55", after := #[{ on := 3, ground := Go.Ground.gcOnly Go.Departure.lateStores }], guard := none }) (v := ?_) rfl (by kernel_rfl) (by kernel_rfl) (by kernel_rfl) (fun _ _ _ h => h) (Or.inl ⟨by rfl, ?_⟩) (⟨K3.out.drew, K8.out.drew⟩) ?_
          rotate_left 1
          · intro w5 hSw
            go_simp; all_goals (with_reducible rfl)
          try simp only [Act.put, List.setIfInBounds_toArray, List.set_cons_zero, List.set_cons_succ]
          refine wpAnyH_take (i := 2) (oi := { dst := some 43, op := Go.Op.load 31 (Go.Operand.tmp 42), type := 31, pos := "ref.go:55", after := #[{ on := 1, ground := Go.Ground.data }, { on := 3, ground := Go.Ground.gcOnly Go.Departure.lateStores }], guard := none }) (v := ?_) rfl (by kernel_rfl) (by kernel_rfl) (by kernel_rfl) (fun _ _ _ h => h) (Or.inl ⟨by rfl, ?_⟩) (⟨K3.out.drew, K8.out.drew⟩) ?_
          rotate_left 1
          · intro w5 hSw
            have q1 : w5.cell? ⟨b8, 1, none⟩ = some (.slice a9 m9 c9) := hSw.2.cell 1
            go_simp; all_goals (with_reducible rfl)
          try simp only [Act.put, List.setIfInBounds_toArray, List.set_cons_zero, List.set_cons_succ]
          refine wpAnyH_ready (rs := [3]) (by kernel_rfl) (by simp) ?_
          refine AllReadyH.cons (o := { dst := none, op := Go.Op.store 29 (Go.Operand.tmp 4) (Go.Operand.tmp 41), type := 0, pos := "ref.go:55", after := #[{ on := 0, ground := Go.Ground.data }, { on := 0, ground := Go.Ground.phase }, { on := 1, ground := Go.Ground.textOnly Go.Departure.lateStores }, { on := 2, ground := Go.Ground.textOnly Go.Departure.lateStores }], guard := none }) rfl (fun K hK => ?_) AllReadyH.nil
          go_simp
          refine hK.out _ _ (⟨((((((K3.out).far (p := ⟨b6, 0, none⟩) H36.out.symm _).far (p := ⟨b6, 1, none⟩) H36.out.symm _).far (p := ⟨b6, 2, none⟩) H36.out.symm _).far (p := ⟨b6, 3, none⟩) H36.out.symm _).far (p := ⟨b6, 4, none⟩) H36.out.symm _).drew, ((((((K8.out).far (p := ⟨b6, 0, none⟩) H68.out.symm _).far (p := ⟨b6, 1, none⟩) H68.out.symm _).far (p := ⟨b6, 2, none⟩) H68.out.symm _).far (p := ⟨b6, 3, none⟩) H68.out.symm _).far (p := ⟨b6, 4, none⟩) H68.out.symm _).drew⟩) (fun _ => ?_)
          clear hK K
          try simp only [Act.put, List.setIfInBounds_toArray, List.set_cons_zero, List.set_cons_succ]
          refine wpAnyH_take (i := 4) (oi := { dst := some 5, op := Go.Op.assign (Go.Operand.tmp 43), type := 31, pos := "ref.go:55", after := #[{ on := 2, ground := Go.Ground.data }, { on := 3, ground := Go.Ground.chain }, { on := 0, ground := Go.Ground.phase }, { on := 1, ground := Go.Ground.phase }, { on := 2, ground := Go.Ground.phase }, { on := 3, ground := Go.Ground.phase }], guard := none }) (v := ?_) rfl (by kernel_rfl) (by kernel_rfl) (by kernel_rfl) (fun _ _ _ h => h) (Or.inl ⟨by rfl, ?_⟩) (⟨((((((K3.out).far (p := ⟨b6, 0, none⟩) H36.out.symm _).far (p := ⟨b6, 1, none⟩) H36.out.symm _).far (p := ⟨b6, 2, none⟩) H36.out.symm _).far (p := ⟨b6, 3, none⟩) H36.out.symm _).far (p := ⟨b6, 4, none⟩) H36.out.symm _).drew, ((((((K8.out).far (p := ⟨b6, 0, none⟩) H68.out.symm _).far (p := ⟨b6, 1, none⟩) H68.out.symm _).far (p := ⟨b6, 2, none⟩) H68.out.symm _).far (p := ⟨b6, 3, none⟩) H68.out.symm _).far (p := ⟨b6, 4, none⟩) H68.out.symm _).drew⟩) ?_
          rotate_left 1
          · intro w5 hSw
            go_simp; all_goals (with_reducible rfl)
          try simp only [Act.put, List.setIfInBounds_toArray, List.set_cons_zero, List.set_cons_succ]
          refine wpAnyH_take (i := 5) (oi := { dst := some 6, op := Go.Op.assign (Go.Operand.const (Go.Value.bool true)), type := 4, pos := "ref.go:55", after := #[{ on := 4, ground := Go.Ground.chain }, { on := 0, ground := Go.Ground.phase }, { on := 1, ground := Go.Ground.phase }, { on := 2, ground := Go.Ground.phase }, { on := 3, ground := Go.Ground.phase }, { on := 4, ground := Go.Ground.phase }], guard := none }) (v := ?_) rfl (by kernel_rfl) (by kernel_rfl) (by kernel_rfl) (fun _ _ _ h => h) (Or.inl ⟨by rfl, ?_⟩) (⟨((((((K3.out).far (p := ⟨b6, 0, none⟩) H36.out.symm _).far (p := ⟨b6, 1, none⟩) H36.out.symm _).far (p := ⟨b6, 2, none⟩) H36.out.symm _).far (p := ⟨b6, 3, none⟩) H36.out.symm _).far (p := ⟨b6, 4, none⟩) H36.out.symm _).drew, ((((((K8.out).far (p := ⟨b6, 0, none⟩) H68.out.symm _).far (p := ⟨b6, 1, none⟩) H68.out.symm _).far (p := ⟨b6, 2, none⟩) H68.out.symm _).far (p := ⟨b6, 3, none⟩) H68.out.symm _).far (p := ⟨b6, 4, none⟩) H68.out.symm _).drew⟩) ?_
          rotate_left 1
          · intro w5 hSw
            go_simp; all_goals (with_reducible rfl)
          try simp only [Act.put, List.setIfInBounds_toArray, List.set_cons_zero, List.set_cons_succ]
          refine wpAnyH_done (by kernel_rfl) ?_ _
          obtain ⟨W6, hW6⟩ : ∃ z, z = ((((W5.setCell ⟨b6, 0, none⟩ (.slice a2 ((rwo rl s).length + 1) c2)).setCell ⟨b6, 1, none⟩ (.int .i64 (en : Int))).setCell ⟨b6, 2, none⟩ (.int .i64 (sn : Int))).setCell ⟨b6, 3, none⟩ (.int .i64 ((hh : Int) + 1))).setCell ⟨b6, 4, none⟩ (.int .i64 (mm : Int)) := ⟨_, rfl⟩
          have M6 : Whole W6 b6 29 #[.slice a2 ((rwo rl s).length + 1) c2, .int .i64 (en : Int), .int .i64 (sn : Int), .int .i64 ((hh : Int) + 1), .int .i64 (mm : Int)] := by
            have k6 := K6.out
            rw [HC6.out] at k6
            have := ((((k6.set 0 (.slice a2 ((rwo rl s).length + 1) c2)).set 1 (.int .i64 (en : Int))).set 2 (.int .i64 (sn : Int))).set 3 (.int .i64 ((hh : Int) + 1))).set 4 (.int .i64 (mm : Int))
            rw [hW6]
            simpa using this
          have hO6 : Only (fun b => b = b6) W5 W6 := by
            rw [hW6]
            exact ((((Only.setCell (S := fun b => b = b6) (Only.refl _ _) (p := ⟨b6, 0, none⟩) (fun _ => rfl) _).setCell (p := ⟨b6, 1, none⟩) (fun _ => rfl) _).setCell (p := ⟨b6, 2, none⟩) (fun _ => rfl) _).setCell (p := ⟨b6, 3, none⟩) (fun _ => rfl) _).setCell (p := ⟨b6, 4, none⟩) (fun _ => rfl) _
          have POST : Hid (W6.drew.ownsRow w.heap.size 43 2 (.slice a2 ((rwo rl s).length + 1) c2) R1.length (rcells R1) ∧ Below w.heap.size w W6.drew) := by
            have h1 := own_only KO.out hO6 (fun b hb e => by
              obtain ⟨cs, h9⟩ := own_ent_type KO.out hb
              rw [e] at h9
              exact absurd (cells_inj h9 K6.out) (by decide))
            have h2 := KB.out.trans (hO6.below (B := w.heap.size) (fun b hb e => by have := Hb6w.out; omega) KB.out.size)
            exact ⟨h1, h2.os, h2.tape, h2.output, h2.size, h2.block⟩
          rw [← hW6]
          have v0 : W6.cell? ⟨b6, 0, none⟩ = some (.slice a2 ((rwo rl s).length + 1) c2) := M6.cell 0
          have v1 : W6.cell? ⟨b6, 1, none⟩ = some (.int .i64 (en : Int)) := M6.cell 1
          have v2 : W6.cell? ⟨b6, 2, none⟩ = some (.int .i64 (sn : Int)) := M6.cell 2
          have v3 : W6.cell? ⟨b6, 3, none⟩ = some (.int .i64 ((hh : Int) + 1)) := M6.cell 3
          have v4 : W6.cell? ⟨b6, 4, none⟩ = some (.int .i64 (mm : Int)) := M6.cell 4
          clear hW6 M6 hO6 z0 z1 z2 z3 z4 zf0 zf1 zf2 zf3 zf4
          go_wp2_with fail
          exact bodyPost_ret (v := .tuple #[.agg #[.slice a2 ((rwo rl s).length + 1) c2, .int .i64 (en : Int), .int .i64 (sn : Int), .int .i64 ((hh : Int) + 1), .int .i64 (mm : Int)], .slice a9 m9 c9, .bool true]) (by simp [results, Try.results11, asAddr, v0, v1, v2, v3, v4, go_sem]) rfl ⟨.slice a2 ((rwo rl s).length + 1) c2, by simp, POST.out⟩
        · go_simp
          refine (without_any _ c w.heap.size s rl V.drew (HVV.out.below HBD.out) (Nat.le_trans HBw.out.size HBD.out.size) HOne.out (by omega)).mono ?_; rintro e Y ⟨vv, rfl, hown5, hb9⟩; obtain ⟨a5, c5, rfl, _, _, hV5⟩ := Vals.of_own hown5; have hBY : Below w.heap.size w Y := (HBw.out.trans HBD.out).trans (hb9.mono (Nat.le_trans HBw.out.size HBD.out.size)); have hwY : Below V.heap.size V Y := HBD9.out.trans (hb9.mono HBD9.out.size); have hY3 := HW3.out.below hwY HW3.out.lt; have hY6 := HW6.out.below hwY HW6.out.lt; have hY8 := HV8.out.below hwY HV8.out.lt; have e1Y : Y.cell? ⟨b8, 0, none⟩ = some (.string s) := hY8.cell 0; have e2Y : Y.cell? ⟨b8, 1, none⟩ = some (.slice a9 m9 c9) := hY8.cell 1
          go_wp2_with fail
          refine hK.out _ _ (⟨e1Y, e2Y⟩) (fun _ => ?_)
          clear hK K
          try simp only [Act.put, List.setIfInBounds_toArray, List.set_cons_zero, List.set_cons_succ]
          refine wpAnyH_ready (rs := [1]) (by kernel_rfl) (by simp) ?_
          refine (AllReadyH.cons (o := { dst := some 30, op := Go.Op.buildSlice 27 1 #[(0, Go.Operand.tmp 29)], type := 27, pos := "ref.go:53", after := #[{ on := 0, ground := Go.Ground.data }], guard := none }) rfl (fun K hK => ?_) AllReadyH.nil)
          go_simp
          refine hK.out _ _ (⟨(hY8.alloc _).cell 0, (hY8.alloc _).cell 1⟩) (fun _ => ?_)
          clear hK K
          try simp only [Act.put, List.setIfInBounds_toArray, List.set_cons_zero, List.set_cons_succ]
          refine wpAnyH_ready (rs := [6]) (by kernel_rfl) (by simp) ?_
          refine (AllReadyH.cons (o := { dst := some 35, op := Go.Op.call { callee := Go.Callee.builtin Go.Builtin.append, args := #[Go.Operand.tmp 30, Go.Operand.tmp 34], argTypes := #[27, 27] }, type := 27, pos := "ref.go:53", after := #[{ on := 1, ground := Go.Ground.data }, { on := 5, ground := Go.Ground.data }, { on := 5, ground := Go.Ground.chain }], guard := none }) rfl (fun K hK => ?_) AllReadyH.nil)
          have HO1 : (Y.alloc (.cells #[.string s, .slice a9 m9 c9] 43)).ownsRow w.heap.size 43 2 (.slice (some ⟨Y.heap.size, 0, none⟩) 1 1) 1 [.string s, .slice a9 m9 c9] := ⟨rfl, .inr ⟨Y.heap.size, 1, #[.string s, .slice a9 m9 c9], rfl, hBY.size, heap_alloc_new Y _, Nat.le_refl _, by unfold maxLen; omega, rfl, rfl⟩⟩
          have hV6 := (hV5.below ((Below.refl Y.heap.size Y).alloc (Nat.le_refl _) (.cells #[.string s, .slice a9 m9 c9] 43))).more (B' := (Y.alloc (.cells #[.string s, .slice a9 m9 c9] 43)).heap.size) (by simp)
          obtain ⟨a2, c2, w3, Hrun, P0, PF, P3, P6, P8, PO, PB⟩ := getR_app i0 hi0 hz0 hz1 hz2 (rwo rl s) HO1 hV6 (hY3.alloc _) (hY6.alloc _) (hY8.alloc _) (by have := hY8.lt; omega) (hBY.alloc hBY.size _) H36.out H38.out H68.out H3w.out (rcells_one (fun r hr => HOne.out r (List.mem_filter.1 hr).1)) rfl (by omega)
          refine held_app (by rfl) (.tmp 30) (.tmp 34) 27 rfl _ _ (.slice a2 ((rwo rl s).length + 1) c2) rfl rfl (Hrun.out) ?_
          refine hK.out _ _ (P8.out.2) (fun _ => ?_)
          clear hK K
          try simp only [Act.put, List.setIfInBounds_toArray, List.set_cons_zero, List.set_cons_succ]
          refine wpAnyH_take (i := 7) (oi := { dst := some 36, op := Go.Op.fieldAddr 29 (Go.Operand.tmp 2) 0, type := 0, pos := "ref.go:53", after := #[{ on := 0, ground := Go.Ground.phase }, { on := 1, ground := Go.Ground.phase }, { on := 2, ground := Go.Ground.phase }, { on := 3, ground := Go.Ground.phase }, { on := 4, ground := Go.Ground.phase }, { on := 5, ground := Go.Ground.phase }, { on := 6, ground := Go.Ground.phase }], guard := none }) (v := ?_) rfl (by kernel_rfl) (by kernel_rfl) (by kernel_rfl) (fun _ _ _ h => h) (Or.inl ⟨by rfl, ?_⟩) (P8.out.2) ?_
          rotate_left 1
          · intro w5 hSw
            go_simp; all_goals (with_reducible rfl)
          try simp only [Act.put, List.setIfInBounds_toArray, List.set_cons_zero, List.set_cons_succ]
          refine wpAnyH_ready (rs := [8]) (by kernel_rfl) (by simp) ?_
          refine (AllReadyH.cons (o := { dst := none, op := Go.Op.store 27 (Go.Operand.tmp 36) (Go.Operand.tmp 35), type := 0, pos := "ref.go:53", after := #[{ on := 7, ground := Go.Ground.data }, { on := 6, ground := Go.Ground.data }, { on := 6, ground := Go.Ground.chain }, { on := 0, ground := Go.Ground.phase }, { on := 1, ground := Go.Ground.phase }, { on := 2, ground := Go.Ground.phase }, { on := 3, ground := Go.Ground.phase }, { on := 4, ground := Go.Ground.phase }, { on := 5, ground := Go.Ground.phase }, { on := 6, ground := Go.Ground.phase }], guard := none }) rfl (fun K hK => ?_) AllReadyH.nil)
          go_simp
          refine hK.out _ _ (⟨P8.out.1.cell 0, P8.out.1.cell 1⟩) (fun _ => ?_)
          clear hK K
          try simp only [Act.put, List.setIfInBounds_toArray, List.set_cons_zero, List.set_cons_succ]
          refine wpAnyH_done (by kernel_rfl) ?_ _
          obtain ⟨W4, hW4⟩ : ∃ z, z = w3.setCell ⟨b3, 0, none⟩ (.slice a2 ((rwo rl s).length + 1) c2) := ⟨_, rfl⟩
          rw [← hW4] at P3 P6 P8 PO PB ⊢
          have y3 : W4.cell? ⟨b3, 3, none⟩ = some (.int .i64 (hh : Int)) := P3.out.cell 3
          have yf : W4.frozen? ⟨b3, 3, none⟩ = false := P3.out.frozen 3
          obtain ⟨W5, hW5⟩ : ∃ z, z = W4.setCell ⟨b3, 3, none⟩ (.int .i64 ((hh : Int) + 1)) := ⟨_, rfl⟩
          have K3 : Hid (Whole W5 b3 29 #[.slice a2 ((rwo rl s).length + 1) c2, .int .i64 (en : Int), .int .i64 (sn : Int), .int .i64 ((hh : Int) + 1), .int .i64 (mm : Int)]) := by
            have := P3.out.set 3 (.int .i64 ((hh : Int) + 1))
            rw [hW5]
            show Whole _ _ _ _
            simpa using this
          have K6 : Hid (Whole W5 b6 29 C6) := by rw [hW5]; exact P6.out.far (p := ⟨b3, 3, none⟩) H36.out _
          have K8 : Hid (Whole W5 b8 43 #[.string s, .slice a9 m9 c9]) := by rw [hW5]; exact P8.out.1.far (p := ⟨b3, 3, none⟩) H38.out _
          have KO : Hid (W5.ownsRow w.heap.size 43 2 (.slice a2 ((rwo rl s).length + 1) c2) R1.length (rcells R1)) := by
            rw [HRl.out, HRc.out, hW5]
            refine own_only PO.out (Only.setCell (S := fun b => b = b3) (Only.refl _ _) (fun _ => rfl) _) (fun b hb e => ?_)
            obtain ⟨cs, h9⟩ := own_ent_type PO.out hb
            rw [e] at h9
            exact absurd (cells_inj h9 P3.out) (by decide)
          have KB : Hid (Below w.heap.size w W5) := by rw [hW5]; exact PB.out.setCell H3w.out _
          clear hW4 P0 PF P3 P6 P8 PO PB Hrun hY3 hY6 hY8 hwY hBY e1Y e2Y hb9 hV5 hown5 HO1
          go_upto_region 8 with (fail)
          rw [← hW5]
          clear hW5 y3 yf
          have K60 := K6.out
          rw [HC6.out] at K60
          have z0 : W5.cell? ⟨b6, 0, none⟩ = some (.slice none 0 0) := K60.cell 0
          have z1 : W5.cell? ⟨b6, 1, none⟩ = some (.int .i64 0) := K60.cell 1
          have z2 : W5.cell? ⟨b6, 2, none⟩ = some (.int .i64 0) := K60.cell 2
          have z3 : W5.cell? ⟨b6, 3, none⟩ = some (.int .i64 0) := K60.cell 3
          have z4 : W5.cell? ⟨b6, 4, none⟩ = some (.int .i64 0) := K60.cell 4
          have zf0 : W5.frozen? ⟨b6, 0, none⟩ = false := K60.frozen 0
          have zf1 : W5.frozen? ⟨b6, 1, none⟩ = false := K60.frozen 1
          have zf2 : W5.frozen? ⟨b6, 2, none⟩ = false := K60.frozen 2
          have zf3 : W5.frozen? ⟨b6, 3, none⟩ = false := K60.frozen 3
          have zf4 : W5.frozen? ⟨b6, 4, none⟩ = false := K60.frozen 4
          clear K60
          refine wp_region_held (S := (fun W => Whole W b3 29 #[.slice a2 ((rwo rl s).length + 1) c2, .int .i64 (en : Int), .int .i64 (sn : Int), .int .i64 ((hh : Int) + 1), .int .i64 (mm : Int)] ∧ Whole W b8 43 #[.string s, .slice a9 m9 c9])) (by kernel_rfl) ?_
          refine wpAnyH_take (i := 0) (oi := { dst := some 41, op := Go.Op.load 29 (Go.Operand.tmp 2), type := 29, pos := "ref.go:55", after := #[], guard := none }) (v := ?_) rfl (by kernel_rfl) (by kernel_rfl) (by kernel_rfl) (fun _ _ _ h => h) (Or.inl ⟨by rfl, ?_⟩) (⟨K3.out.drew, K8.out.drew⟩) ?_
          rotate_left 1
          · intro w5 hSw
            have q0 : w5.cell? ⟨b3, 0, none⟩ = some (.slice a2 ((rwo rl s).length + 1) c2) := hSw.1.cell 0
            have q1 : w5.cell? ⟨b3, 1, none⟩ = some (.int .i64 (en : Int)) := hSw.1.cell 1
            have q2 : w5.cell? ⟨b3, 2, none⟩ = some (.int .i64 (sn : Int)) := hSw.1.cell 2
            have q3 : w5.cell? ⟨b3, 3, none⟩ = some (.int .i64 ((hh : Int) + 1)) := hSw.1.cell 3
            have q4 : w5.cell? ⟨b3, 4, none⟩ = some (.int .i64 (mm : Int)) := hSw.1.cell 4
            go_simp; all_goals (with_reducible rfl)
          try simp only [Act.put, List.setIfInBounds_toArray, List.set_cons_zero, List.set_cons_succ]
          refine wpAnyH_take (i := 1) (oi := { dst := some 42, op := Go.Op.fieldAddr 43 (Go.Operand.tmp 8) 1, type := 0, pos := "ref.go:55", after := #[{ on := 3, ground := Go.Ground.gcOnly Go.Departure.lateStores }], guard := none }) (v := ?_) rfl (by kernel_rfl) (by kernel_rfl) (by kernel_rfl) (fun _ _ _ h => h) (Or.inl ⟨by rfl, ?_⟩) (⟨K3.out.drew, K8.out.drew⟩) ?_
          rotate_left 1
          · intro w5 hSw
            go_simp; all_goals (with_reducible rfl)
          try simp only [Act.put, List.setIfInBounds_toArray, List.set_cons_zero, List.set_cons_succ]
          refine wpAnyH_take (i := 2) (oi := { dst := some 43, op := Go.Op.load 31 (Go.Operand.tmp 42), type := 31, pos := "ref.go:55", after := #[{ on := 1, ground := Go.Ground.data }, { on := 3, ground := Go.Ground.gcOnly Go.Departure.lateStores }], guard := none }) (v := ?_) rfl (by kernel_rfl) (by kernel_rfl) (by kernel_rfl) (fun _ _ _ h => h) (Or.inl ⟨by rfl, ?_⟩) (⟨K3.out.drew, K8.out.drew⟩) ?_
          rotate_left 1
          · intro w5 hSw
            have q1 : w5.cell? ⟨b8, 1, none⟩ = some (.slice a9 m9 c9) := hSw.2.cell 1
            go_simp; all_goals (with_reducible rfl)
          try simp only [Act.put, List.setIfInBounds_toArray, List.set_cons_zero, List.set_cons_succ]
          refine wpAnyH_ready (rs := [3]) (by kernel_rfl) (by simp) ?_
          refine AllReadyH.cons (o := { dst := none, op := Go.Op.store 29 (Go.Operand.tmp 4) (Go.Operand.tmp 41), type := 0, pos := "ref.go:55", after := #[{ on := 0, ground := Go.Ground.data }, { on := 0, ground := Go.Ground.phase }, { on := 1, ground := Go.Ground.textOnly Go.Departure.lateStores }, { on := 2, ground := Go.Ground.textOnly Go.Departure.lateStores }], guard := none }) rfl (fun K hK => ?_) AllReadyH.nil
          go_simp
          refine hK.out _ _ (⟨((((((K3.out).far (p := ⟨b6, 0, none⟩) H36.out.symm _).far (p := ⟨b6, 1, none⟩) H36.out.symm _).far (p := ⟨b6, 2, none⟩) H36.out.symm _).far (p := ⟨b6, 3, none⟩) H36.out.symm _).far (p := ⟨b6, 4, none⟩) H36.out.symm _).drew, ((((((K8.out).far (p := ⟨b6, 0, none⟩) H68.out.symm _).far (p := ⟨b6, 1, none⟩) H68.out.symm _).far (p := ⟨b6, 2, none⟩) H68.out.symm _).far (p := ⟨b6, 3, none⟩) H68.out.symm _).far (p := ⟨b6, 4, none⟩) H68.out.symm _).drew⟩) (fun _ => ?_)
          clear hK K
          try simp only [Act.put, List.setIfInBounds_toArray, List.set_cons_zero, List.set_cons_succ]
          refine wpAnyH_take (i := 4) (oi := { dst := some 5, op := Go.Op.assign (Go.Operand.tmp 43), type := 31, pos := "ref.go:55", after := #[{ on := 2, ground := Go.Ground.data }, { on := 3, ground := Go.Ground.chain }, { on := 0, ground := Go.Ground.phase }, { on := 1, ground := Go.Ground.phase }, { on := 2, ground := Go.Ground.phase }, { on := 3, ground := Go.Ground.phase }], guard := none }) (v := ?_) rfl (by kernel_rfl) (by kernel_rfl) (by kernel_rfl) (fun _ _ _ h => h) (Or.inl ⟨by rfl, ?_⟩) (⟨((((((K3.out).far (p := ⟨b6, 0, none⟩) H36.out.symm _).far (p := ⟨b6, 1, none⟩) H36.out.symm _).far (p := ⟨b6, 2, none⟩) H36.out.symm _).far (p := ⟨b6, 3, none⟩) H36.out.symm _).far (p := ⟨b6, 4, none⟩) H36.out.symm _).drew, ((((((K8.out).far (p := ⟨b6, 0, none⟩) H68.out.symm _).far (p := ⟨b6, 1, none⟩) H68.out.symm _).far (p := ⟨b6, 2, none⟩) H68.out.symm _).far (p := ⟨b6, 3, none⟩) H68.out.symm _).far (p := ⟨b6, 4, none⟩) H68.out.symm _).drew⟩) ?_
          rotate_left 1
          · intro w5 hSw
            go_simp; all_goals (with_reducible rfl)
          try simp only [Act.put, List.setIfInBounds_toArray, List.set_cons_zero, List.set_cons_succ]
          refine wpAnyH_take (i := 5) (oi := { dst := some 6, op := Go.Op.assign (Go.Operand.const (Go.Value.bool true)), type := 4, pos := "ref.go:55", after := #[{ on := 4, ground := Go.Ground.chain }, { on := 0, ground := Go.Ground.phase }, { on := 1, ground := Go.Ground.phase }, { on := 2, ground := Go.Ground.phase }, { on := 3, ground := Go.Ground.phase }, { on := 4, ground := Go.Ground.phase }], guard := none }) (v := ?_) rfl (by kernel_rfl) (by kernel_rfl) (by kernel_rfl) (fun _ _ _ h => h) (Or.inl ⟨by rfl, ?_⟩) (⟨((((((K3.out).far (p := ⟨b6, 0, none⟩) H36.out.symm _).far (p := ⟨b6, 1, none⟩) H36.out.symm _).far (p := ⟨b6, 2, none⟩) H36.out.symm _).far (p := ⟨b6, 3, none⟩) H36.out.symm _).far (p := ⟨b6, 4, none⟩) H36.out.symm _).drew, ((((((K8.out).far (p := ⟨b6, 0, none⟩) H68.out.symm _).far (p := ⟨b6, 1, none⟩) H68.out.symm _).far (p := ⟨b6, 2, none⟩) H68.out.symm _).far (p := ⟨b6, 3, none⟩) H68.out.symm _).far (p := ⟨b6, 4, none⟩) H68.out.symm _).drew⟩) ?_
          rotate_left 1
          · intro w5 hSw
            go_simp; all_goals (with_reducible rfl)
          try simp only [Act.put, List.setIfInBounds_toArray, List.set_cons_zero, List.set_cons_succ]
          refine wpAnyH_done (by kernel_rfl) ?_ _
          obtain ⟨W6, hW6⟩ : ∃ z, z = ((((W5.setCell ⟨b6, 0, none⟩ (.slice a2 ((rwo rl s).length + 1) c2)).setCell ⟨b6, 1, none⟩ (.int .i64 (en : Int))).setCell ⟨b6, 2, none⟩ (.int .i64 (sn : Int))).setCell ⟨b6, 3, none⟩ (.int .i64 ((hh : Int) + 1))).setCell ⟨b6, 4, none⟩ (.int .i64 (mm : Int)) := ⟨_, rfl⟩
          have M6 : Whole W6 b6 29 #[.slice a2 ((rwo rl s).length + 1) c2, .int .i64 (en : Int), .int .i64 (sn : Int), .int .i64 ((hh : Int) + 1), .int .i64 (mm : Int)] := by
            have k6 := K6.out
            rw [HC6.out] at k6
            have := ((((k6.set 0 (.slice a2 ((rwo rl s).length + 1) c2)).set 1 (.int .i64 (en : Int))).set 2 (.int .i64 (sn : Int))).set 3 (.int .i64 ((hh : Int) + 1))).set 4 (.int .i64 (mm : Int))
            rw [hW6]
            simpa using this
          have hO6 : Only (fun b => b = b6) W5 W6 := by
            rw [hW6]
            exact ((((Only.setCell (S := fun b => b = b6) (Only.refl _ _) (p := ⟨b6, 0, none⟩) (fun _ => rfl) _).setCell (p := ⟨b6, 1, none⟩) (fun _ => rfl) _).setCell (p := ⟨b6, 2, none⟩) (fun _ => rfl) _).setCell (p := ⟨b6, 3, none⟩) (fun _ => rfl) _).setCell (p := ⟨b6, 4, none⟩) (fun _ => rfl) _
          have POST : Hid (W6.drew.ownsRow w.heap.size 43 2 (.slice a2 ((rwo rl s).length + 1) c2) R1.length (rcells R1) ∧ Below w.heap.size w W6.drew) := by
            have h1 := own_only KO.out hO6 (fun b hb e => by
              obtain ⟨cs, h9⟩ := own_ent_type KO.out hb
              rw [e] at h9
              exact absurd (cells_inj h9 K6.out) (by decide))
            have h2 := KB.out.trans (hO6.below (B := w.heap.size) (fun b hb e => by have := Hb6w.out; omega) KB.out.size)
            exact ⟨h1, h2.os, h2.tape, h2.output, h2.size, h2.block⟩
          rw [← hW6]
          have v0 : W6.cell? ⟨b6, 0, none⟩ = some (.slice a2 ((rwo rl s).length + 1) c2) := M6.cell 0
          have v1 : W6.cell? ⟨b6, 1, none⟩ = some (.int .i64 (en : Int)) := M6.cell 1
          have v2 : W6.cell? ⟨b6, 2, none⟩ = some (.int .i64 (sn : Int)) := M6.cell 2
          have v3 : W6.cell? ⟨b6, 3, none⟩ = some (.int .i64 ((hh : Int) + 1)) := M6.cell 3
          have v4 : W6.cell? ⟨b6, 4, none⟩ = some (.int .i64 (mm : Int)) := M6.cell 4
          clear hW6 M6 hO6 z0 z1 z2 z3 z4 zf0 zf1 zf2 zf3 zf4
          go_wp2_with fail
          exact bodyPost_ret (v := .tuple #[.agg #[.slice a2 ((rwo rl s).length + 1) c2, .int .i64 (en : Int), .int .i64 (sn : Int), .int .i64 ((hh : Int) + 1), .int .i64 (mm : Int)], .slice a9 m9 c9, .bool true]) (by simp [results, Try.results11, asAddr, v0, v1, v2, v3, v4, go_sem]) rfl ⟨.slice a2 ((rwo rl s).length + 1) c2, by simp, POST.out⟩
end Go.Proofs.Ythbgijpakjfjkaa
