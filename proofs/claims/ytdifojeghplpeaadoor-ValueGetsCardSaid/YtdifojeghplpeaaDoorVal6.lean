/- Walks over layer 8: Put; the live example. -/
import Derived.Test.YtdifojeghplpeaaDoorVal5
import Derived.Test.YtdifojeghplpeaaDoorPut
import Derived.Test.YtdifojeghplpeaaDoorStr
import Derived.Lib.ConvBytes
import Derived.IntWalk
namespace Go.Proofs.YtdifojeghplpeaaDoor
open Go.RowKit Var
set_option linter.unusedVariables false
set_option maxRecDepth 100000

def bsOf (s : ByteArray) : List Nat := s.data.toList.map UInt8.toNat
theorem bsOf_length (s : ByteArray) : (bsOf s).length = s.size := by simp [bsOf]
theorem bsOf_lt (s : ByteArray) : ∀ x ∈ bsOf s, x < 256 := by
  intro x hx
  obtain ⟨b, _, rfl⟩ := List.mem_map.1 hx
  exact b.toNat_lt
/-- []byte(s). -/
theorem conv_bytes (s : ByteArray) (W : World) : ∃ cap W', (convert 9 26 (.string s)).run Tryd.prog W = .ok (.slice (some ⟨W.heap.size, 0, none⟩) s.size cap) W' ∧ Below W.heap.size W W' ∧ Nums .u8 W' W'.heap.size (some ⟨W.heap.size, 0, none⟩) (bsOf s) := by
  have h := Lib.run_convert_string_bytes (P := Tryd.prog) W 9 26 5 s Tryd.underlying9 Tryd.underlying26 Tryd.underlying5
  refine ⟨_, _, h, ?_, ?_⟩
  · refine ⟨?_, ?_, ?_, ?_, fun j hj => Lib.bytesWorld_at_old W _ s j hj⟩
    · simp [Lib.bytesWorld, World.freeze, World.alloc, World.drew, -World.alloc_eq, -World.drew_eq]
    · simp [Lib.bytesWorld, World.freeze, World.alloc, World.drew, -World.alloc_eq, -World.drew_eq]
    · simp [Lib.bytesWorld, World.freeze, World.alloc, World.drew, -World.alloc_eq, -World.drew_eq]
    · simp [Lib.bytesWorld, World.freeze, World.alloc, World.drew, -World.alloc_eq, -World.drew_eq]
  · intro hp
    refine ⟨W.heap.size, 0, rfl, ?_, fun i hi => ?_⟩
    · simp [Lib.bytesWorld, World.freeze, World.alloc, World.drew, -World.alloc_eq, -World.drew_eq]
    · have hi2 : i < s.size := by simpa [bsOf] using hi
      rw [Nat.zero_add, Lib.bytesWorld_cell W _ s i hi2]
      have e : (bsOf s).getD i 0 = (s.data.toList.getD i 0).toNat := by
        unfold bsOf
        simp only [List.getD, List.getElem?_map]
        rw [List.getElem?_eq_getElem (by simpa using hi2)]
        rfl
      rw [e]
def fk (k : Int) : Int := if k = 1 then 2 else if k = 2 then 5 else if k = 3 then 1 else 0
theorem fieldKind_any (k : Int) (w : World) : Calls Tryd.prog 22 #[.int .i64 k] w fun e w' => e = .returned (.int .i64 (fk k)) ∧ w = w' := by
  by_cases h1 : k = 1
  · subst h1
    go_enter Tryd.func22, Tryd.ntmps22
    go_wp2_with fail
    go_ret
    exact ⟨rfl, rfl⟩
  · by_cases h2 : k = 2
    · subst h2
      go_enter Tryd.func22, Tryd.ntmps22
      go_wp2_with fail
      go_ret
      exact ⟨rfl, rfl⟩
    · by_cases h3 : k = 3
      · subst h3
        go_enter Tryd.func22, Tryd.ntmps22
        go_wp2_with fail
        go_ret
        exact ⟨rfl, rfl⟩
      · have e : fk k = 0 := by unfold fk; rw [if_neg h1, if_neg h2, if_neg h3]
        have e1 : (k == 1) = false := by simpa using h1
        have e2 : (k == 2) = false := by simpa using h2
        have e3 : (k == 3) = false := by simpa using h3
        rw [e]
        go_enter Tryd.func22, Tryd.ntmps22
        go_wp2_with fail
        go_ret
        exact ⟨rfl, rfl⟩
theorem fk_in (k : Int) : -9223372036854775808 ≤ fk k ∧ fk k < 9223372036854775808 := by unfold fk; split <;> (try split) <;> (try split) <;> omega
theorem own8_lower {w : World} {base base' : Nat} {v : Value} {l : List Nat} (h : Own8 w base v l) (hb : base' ≤ base) : Own8 w base' v l := by
  obtain ⟨hl, (h1 | ⟨k, cap, cur, rfl, hk, r⟩)⟩ := h
  · exact ⟨hl, .inl h1⟩
  · exact ⟨hl, .inr ⟨k, cap, cur, rfl, by omega, r⟩⟩
theorem nums_set {W : World} {g : Nat} {l : List Nat} {b3 i : Nat} {u : Value} (h : Nums .u8 W W.heap.size (some ⟨g, 0, none⟩) l) (hne : g ≠ b3) : Nums .u8 (W.setCell ⟨b3, i, none⟩ u) (W.setCell ⟨b3, i, none⟩ u).heap.size (some ⟨g, 0, none⟩) l := fun hp => by
  obtain ⟨b, off, e, hb, hc⟩ := h hp
  injection e with e
  injection e with e1 e2
  subst e1 e2
  exact ⟨g, 0, rfl, by simpa [World.setCell] using hb, fun j hj => (World.cell?_of_block (w := W) (Below.heap_setCell W ⟨b3, i, none⟩ u g hne)).trans (hc j hj)⟩
theorem gAt_one (Z : World) (num kind : Int) (n : Nat) (d : List Nat) (ad : Option Addr) (cc : Nat) {L : Nat} (hL : L = d.length) (hN : Nums .u8 Z Z.heap.size ad d) :
    GAt (Z.alloc (.cells #[.int .i64 num, .int .i64 kind, .int .u64 (n : Int), .slice ad L cc] 43)) (Z.heap.size + 1) (some ⟨Z.heap.size, 0, none⟩) [(⟨num, kind, n, d⟩ : G)] := by
  subst hL
  intro i hi
  have : i = 0 := by simpa using hi
  subst this
  have hW := Whole.new Z 43 #[.int .i64 num, .int .i64 kind, .int .u64 (n : Int), .slice ad d.length cc]
  exact ⟨Z.heap.size, 0, ad, cc, rfl, by omega, hW.cell 0, hW.cell 1, hW.cell 2, hW.cell 3, (hN.below ((Below.refl _ _).alloc (Nat.le_refl _) _)).more (by omega)⟩
/-- utf8.ValidString("a"). -/
theorem valid_a (w : World) : Calls Tryd.prog 25 #[.string ⟨#[97]⟩] w fun e w' => e = .returned (.bool true) ∧ w = w' := by
  go_enter Tryd.func25, Tryd.ntmps25
  go_wp2_with fail
  go_loop [0] (fun v => v = .string ⟨#[97]⟩ ∨ v = .string ⟨#[]⟩) (fun v => match v with | .string t => t.size | _ => 0)
  case atStart => exact .inl rfl
  case round =>
    rcases hrel with rfl | rfl
    · go_wp2
      exact ⟨.inr rfl, by decide⟩
    · go_wp2
      go_ret
      exact ⟨rfl, rfl⟩
/-- The field of a value. -/
def fieldG (v : V3) : G := ⟨v.1, fk v.1, if v.1 = 1 then 0 else if v.1 = 6 then zig (if v.2.2 < 9223372036854775808 then (v.2.2 : Int) else (v.2.2 : Int) - 18446744073709551616) else v.2.2, if v.1 = 1 then bsOf v.2.1 else []⟩
set_option maxHeartbeats 8000000 in
theorem valuePut_yes (v : V3) (w : World) (hk : -9223372036854775808 ≤ v.1 ∧ v.1 < 9223372036854775808) (hb : v.2.2 < 18446744073709551616) (hs : v.2.1.size ≤ 1000) (hl : (pgs [fieldG v]).length ≤ 100000000)
    (HR : ∀ W, Below w.heap.size w W → Calls Tryd.prog 8 #[vv v] W fun e w' => e = .returned (.bool true) ∧ Below W.heap.size W w') :
    Calls Tryd.prog 7 #[vv v] w (PutPost w (pgs [fieldG v])) := by
  have HRi := Lib.hid HR
  clear HR
  obtain ⟨k, s, b⟩ := v
  unfold vv at HRi ⊢
  simp only at HRi hk hb hs ⊢
  have HF := Lib.hid fun W => fieldKind_any k W
  go_enter Tryd.func7, Tryd.ntmps7
  go_upto_region 1 with (fail)
  obtain ⟨bu, hbu0⟩ : ∃ z, z = w.heap.size := ⟨_, rfl⟩
  obtain ⟨X, hX⟩ : ∃ z, z = w.alloc (.cells #[.int .i64 k, .string s, .int .u64 (b : Int)] 24) := ⟨_, rfl⟩
  have hW : Whole X bu 24 #[.int .i64 k, .string s, .int .u64 (b : Int)] := by rw [hX, hbu0]; exact Whole.new w _ _
  have hB : Below w.heap.size w X := by rw [hX]; exact (Below.refl _ _).alloc (Nat.le_refl _) _
  have x0 : X.cell? ⟨bu, 0, none⟩ = some (.int .i64 k) := hW.cell 0
  have x1 : X.cell? ⟨bu, 1, none⟩ = some (.string s) := hW.cell 1
  have x2 : X.cell? ⟨bu, 2, none⟩ = some (.int .u64 (b : Int)) := hW.cell 2
  rw [← hX, ← hbu0]
  have HB := Lib.hid hB
  have HW := Lib.hid hW
  clear hX hbu0 hW hB
  go_wp2_with fail
  refine (HRi.out X HB.out).mono ?_
  rintro e Y ⟨rfl, hY⟩
  have HW := Lib.hid (HW.out.below hY HW.out.lt)
  have HB := Lib.hid (HB.out.trans (hY.mono HB.out.size))
  clear hY HRi x0 x1 x2
  go_upto_region 3 with (fail)
  have KD : Hid (Y.drew.cell? ⟨bu, 0, none⟩ = some (.int .i64 k)) := HW.out.cell 0
  have KA : Hid ((Y.drew.alloc (.cells #[.int .i64 0, .int .i64 0, .int .u64 0, .slice none 0 0] 43)).cell? ⟨bu, 0, none⟩ = some (.int .i64 k)) := (HW.out.drew.alloc _).cell 0
  have KS : Hid ((Y.drew.alloc (.cells #[.int .i64 k, .int .i64 (fk k), .int .u64 0, .slice none 0 0] 43)).cell? ⟨bu, 0, none⟩ = some (.int .i64 k)) := (HW.out.drew.alloc _).cell 0
  refine wp_region_held (S := (fun W => W.cell? ⟨bu, 0, none⟩ = some (.int .i64 k))) (by kernel_rfl) ?_
  refine wpAnyH_take (i := 0) (oi := { dst := some 7, op := Go.Op.fieldAddr 24 (Go.Operand.tmp 1) 0, type := 0, pos := "value.go:75", after := #[], guard := none }) (v := ?_) rfl (by kernel_rfl) (by kernel_rfl) (by kernel_rfl) (fun _ _ _ h => h) (Or.inl ⟨by rfl, ?_⟩) (KD.out) ?_
  rotate_left 1
  · intro w5 hSw
    go_simp; all_goals (with_reducible rfl)
  try simp only [Act.put, List.setIfInBounds_toArray, List.set_cons_zero, List.set_cons_succ]
  refine wpAnyH_take (i := 1) (oi := { dst := some 8, op := Go.Op.load 3 (Go.Operand.tmp 7), type := 3, pos := "value.go:75", after := #[{ on := 0, ground := Go.Ground.data }], guard := none }) (v := ?_) rfl (by kernel_rfl) (by kernel_rfl) (by kernel_rfl) (fun _ _ _ h => h) (Or.inl ⟨by rfl, ?_⟩) (KD.out) ?_
  rotate_left 1
  · intro w5 hSw
    have q0 := hSw
    go_simp; all_goals (with_reducible rfl)
  try simp only [Act.put, List.setIfInBounds_toArray, List.set_cons_zero, List.set_cons_succ]
  refine wpAnyH_take (i := 2) (oi := { dst := some 9, op := Go.Op.fieldAddr 24 (Go.Operand.tmp 1) 0, type := 0, pos := "value.go:75", after := #[], guard := none }) (v := ?_) rfl (by kernel_rfl) (by kernel_rfl) (by kernel_rfl) (fun _ _ _ h => h) (Or.inl ⟨by rfl, ?_⟩) (KD.out) ?_
  rotate_left 1
  · intro w5 hSw
    go_simp; all_goals (with_reducible rfl)
  try simp only [Act.put, List.setIfInBounds_toArray, List.set_cons_zero, List.set_cons_succ]
  refine wpAnyH_take (i := 3) (oi := { dst := some 10, op := Go.Op.load 3 (Go.Operand.tmp 9), type := 3, pos := "value.go:75", after := #[{ on := 2, ground := Go.Ground.data }], guard := none }) (v := ?_) rfl (by kernel_rfl) (by kernel_rfl) (by kernel_rfl) (fun _ _ _ h => h) (Or.inl ⟨by rfl, ?_⟩) (KD.out) ?_
  rotate_left 1
  · intro w5 hSw
    have q0 := hSw
    go_simp; all_goals (with_reducible rfl)
  try simp only [Act.put, List.setIfInBounds_toArray, List.set_cons_zero, List.set_cons_succ]
  refine wpAnyH_ready (rs := [4, 6]) (by kernel_rfl) (by simp) ?_
  refine (AllReadyH.cons (o := { dst := some 11, op := Go.Op.call { callee := Go.Callee.value (Go.Operand.func 22), args := #[Go.Operand.tmp 10], argTypes := #[3] }, type := 3, pos := "value.go:75", after := #[{ on := 3, ground := Go.Ground.data }], guard := none }) rfl (fun K hK => ?_) (AllReadyH.cons (o := { dst := some 3, op := Go.Op.alloc 43, type := 0, pos := "value.go:75", after := #[], guard := none }) rfl (fun K hK => ?_) AllReadyH.nil))
  · go_simp
    refine (HF.out _).mono ?_; rintro e Y ⟨rfl, rfl⟩
    go_wp2_with fail
    refine hK.out _ _ (KD.out) (fun _ => ?_)
    clear hK K
    try simp only [Act.put, List.setIfInBounds_toArray, List.set_cons_zero, List.set_cons_succ]
    refine wpAnyH_take (i := 5) (oi := { dst := some 12, op := Go.Op.build 43 #[(0, Go.Operand.tmp 8), (1, Go.Operand.tmp 11)], type := 43, pos := "value.go:75", after := #[{ on := 1, ground := Go.Ground.data }, { on := 4, ground := Go.Ground.data }], guard := none }) (v := ?_) rfl (by kernel_rfl) (by kernel_rfl) (by kernel_rfl) (fun _ _ _ h => h) (Or.inl ⟨by rfl, ?_⟩) (KD.out) ?_
    rotate_left 1
    · intro w5 hSw
      go_simp; all_goals (with_reducible rfl)
    try simp only [Act.put, List.setIfInBounds_toArray, List.set_cons_zero, List.set_cons_succ]
    refine wpAnyH_ready (rs := [6]) (by kernel_rfl) (by simp) ?_
    refine (AllReadyH.cons (o := { dst := some 3, op := Go.Op.alloc 43, type := 0, pos := "value.go:75", after := #[], guard := none }) rfl (fun K hK => ?_) AllReadyH.nil)
    go_simp
    refine hK.out _ _ (KA.out) (fun _ => ?_)
    clear hK K
    try simp only [Act.put, List.setIfInBounds_toArray, List.set_cons_zero, List.set_cons_succ]
    refine wpAnyH_ready (rs := [7]) (by kernel_rfl) (by simp) ?_
    refine (AllReadyH.cons (o := { dst := none, op := Go.Op.store 43 (Go.Operand.tmp 3) (Go.Operand.tmp 12), type := 0, pos := "value.go:75", after := #[{ on := 6, ground := Go.Ground.data }, { on := 5, ground := Go.Ground.data }, { on := 4, ground := Go.Ground.chain }, { on := 0, ground := Go.Ground.phase }, { on := 1, ground := Go.Ground.phase }, { on := 2, ground := Go.Ground.phase }, { on := 3, ground := Go.Ground.phase }, { on := 4, ground := Go.Ground.phase }, { on := 5, ground := Go.Ground.phase }, { on := 6, ground := Go.Ground.phase }], guard := none }) rfl (fun K hK => ?_) AllReadyH.nil)
    go_simp
    refine hK.out _ _ (KS.out) (fun _ => ?_)
    clear hK K
    try simp only [Act.put, List.setIfInBounds_toArray, List.set_cons_zero, List.set_cons_succ]
    refine wpAnyH_done (by kernel_rfl) ?_ _
    obtain ⟨b3, hb3⟩ : ∃ z, z = Y.heap.size := ⟨_, rfl⟩
    obtain ⟨F0, hF0⟩ : ∃ z, z = (Y.alloc (.cells #[.int .i64 k, .int .i64 (fk k), .int .u64 0, .slice none 0 0] 43)).drew := ⟨_, rfl⟩
    have HWF : Whole F0 b3 43 #[.int .i64 k, .int .i64 (fk k), .int .u64 0, .slice none 0 0] := by rw [hF0, hb3]; exact (Whole.new Y _ _).drew
    have hYF : Below Y.heap.size Y F0 := by rw [hF0]; exact ⟨rfl, rfl, rfl, by simp, fun j hj => ((Below.refl Y.heap.size Y).alloc (Nat.le_refl _) _).block j hj⟩
    have hWu := HW.out.below hYF HW.out.lt
    have HB9 := HB.out.trans (hYF.mono HB.out.size)
    have hlo3 : w.heap.size ≤ b3 := by rw [hb3]; exact HB.out.size
    have hu3 : bu ≠ b3 := by rw [hb3]; have := HW.out.lt; omega
    have x0 : F0.cell? ⟨bu, 0, none⟩ = some (.int .i64 k) := hWu.cell 0
    have x1 : F0.cell? ⟨bu, 1, none⟩ = some (.string s) := hWu.cell 1
    have x2 : F0.cell? ⟨bu, 2, none⟩ = some (.int .u64 (b : Int)) := hWu.cell 2
    have f2 : F0.frozen? ⟨b3, 2, none⟩ = false := HWF.frozen 2
    have e2 : F0.cell? ⟨b3, 2, none⟩ = some (.int .u64 0) := HWF.cell 2
    rw [← hF0, ← hb3]
    clear hF0 hb3 hYF KD KA KS HB
    by_cases hk1 : k = 1
    · subst hk1
      have hg : fieldG (1, s, b) = ⟨1, fk 1, 0, bsOf s⟩ := rfl
      obtain ⟨cap, W1, hconv, hB1, hN1⟩ := conv_bytes s F0
      have hW1 := HWF.below hB1 HWF.lt
      have f3 : W1.frozen? ⟨b3, 3, none⟩ = false := hW1.frozen 3
      have e3 : W1.cell? ⟨b3, 3, none⟩ = some (.slice none 0 0) := hW1.cell 3
      have HWS := Lib.hid (hW1.set 3 (.slice (some ⟨F0.heap.size, 0, none⟩) s.size cap))
      have HBS := Lib.hid ((HB9.trans (hB1.mono HB9.size)).setCell (p := ⟨b3, 3, none⟩) hlo3 (.slice (some ⟨F0.heap.size, 0, none⟩) s.size cap))
      have HNS := Lib.hid hN1
      have hnb : b3 ≠ F0.heap.size := by have := HWF.lt; omega
      clear HWF hW1 HB9 hB1 hN1 f2 e2
      go_upto_region 10 with (fail)
      obtain ⟨W2, hW2⟩ : ∃ z, z = W1.setCell ⟨b3, 3, none⟩ (.slice (some ⟨F0.heap.size, 0, none⟩) s.size cap) := ⟨_, rfl⟩
      have HWF : Whole W2 b3 43 #[.int .i64 1, .int .i64 (fk 1), .int .u64 0, .slice (some ⟨F0.heap.size, 0, none⟩) s.size cap] := by rw [hW2]; simpa using HWS.out
      have HB9 := HBS.out
      have hNf : Nums .u8 W2 W2.heap.size (some ⟨F0.heap.size, 0, none⟩) (bsOf s) := by rw [hW2]; exact nums_set HNS.out hnb.symm
      rw [← hW2] at HB9 ⊢
      clear hW2 x0 x1 x2 hconv f3 e3 HWS HBS HNS
      have g0 : W2.cell? ⟨b3, 0, none⟩ = some (.int .i64 1) := HWF.cell 0
      have g1 : W2.cell? ⟨b3, 1, none⟩ = some (.int .i64 (fk 1)) := HWF.cell 1
      have g2 : W2.cell? ⟨b3, 2, none⟩ = some (.int .u64 0) := HWF.cell 2
      have g3 : W2.cell? ⟨b3, 3, none⟩ = some (.slice (some ⟨F0.heap.size, 0, none⟩) s.size cap) := HWF.cell 3
      have hGA : GAt (W2.alloc (.cells #[.int .i64 1, .int .i64 (fk 1), .int .u64 0, .slice (some ⟨F0.heap.size, 0, none⟩) s.size cap] 43)) (W2.heap.size + 1) (some ⟨W2.heap.size, 0, none⟩) [(⟨1, fk 1, 0, (bsOf s)⟩ : G)] := gAt_one W2 1 (fk 1) 0 (bsOf s) _ _ ((bsOf_length s).symm) (hNf)
      have HP := Lib.hid (put_any _ 1 [(⟨1, fk 1, 0, (bsOf s)⟩ : G)] _ (hGA.more (by simp)) (fun g hg => by obtain rfl := List.mem_singleton.1 hg; exact ⟨hk, fk_in 1, by first | exact hb | exact Hzl.out | (show (0 : Nat) < 18446744073709551616; omega), by simp [bsOf_length]; first | omega | done, by first | exact bsOf_lt s | (intro x hx; cases hx)⟩) (by simp) (by rw [← hg]; exact hl))
      rw [← hg] at HP
      have HBF := Lib.hid (HB9.alloc HB9.size (.cells #[.int .i64 1, .int .i64 (fk 1), .int .u64 0, .slice (some ⟨F0.heap.size, 0, none⟩) s.size cap] 43))
      clear hGA HWF HB9
      go_wp2_with fail
      refine HP.out.mono ?_
      rintro e W9 ⟨v9, rfl, hO, hB9⟩
      have HO := Lib.hid hO
      have HB9 := Lib.hid (HBF.out.trans (hB9.mono HBF.out.size))
      clear hO hB9 HP
      go_wp2_with fail
      go_ret
      exact ⟨_, rfl, own8_lower HO.out HBF.out.size, HB9.out⟩
    · by_cases hk6 : k = 6
      · subst hk6
        obtain ⟨n, hn⟩ : ∃ n : Int, n = if b < 9223372036854775808 then (b : Int) else (b : Int) - 18446744073709551616 := ⟨_, rfl⟩
        have hnr : -9223372036854775808 ≤ n ∧ n < 9223372036854775808 := by rw [hn]; split <;> omega
        have w1 : wrap64 (b : Int) = n := by rw [hn]; unfold wrap64; split <;> omega
        have w2 : IntKind.i64.wrap (b : Int) = n := (IntWalk.i64_left _).trans w1
        have HZ := Lib.hid fun W => zig_any n W hnr
        have Hzl := Lib.hid (zig_lt hnr)
        have hg : fieldG (6, s, b) = ⟨6, fk 6, zig n, []⟩ := by rw [hn]; rfl
        have HWS := Lib.hid (HWF.set 2 (.int .u64 ((zig n : Nat) : Int)))
        have HBS := Lib.hid (HB9.setCell (p := ⟨b3, 2, none⟩) hlo3 (.int .u64 ((zig n : Nat) : Int)))
        clear HWF HB9 hn hnr
        go_wp2_with fail
        refine (HZ.out _).mono ?_
        rintro e Z ⟨rfl, rfl⟩
        clear w1 w2 HZ
        go_upto_region 10 with (fail)
        obtain ⟨W2, hW2⟩ : ∃ z, z = F0.setCell ⟨b3, 2, none⟩ (.int .u64 ((zig n : Nat) : Int)) := ⟨_, rfl⟩
        have HWF : Whole W2 b3 43 #[.int .i64 6, .int .i64 (fk 6), .int .u64 ((zig n : Nat) : Int), .slice none 0 0] := by rw [hW2]; simpa using HWS.out
        have HB9 := HBS.out
        rw [← hW2] at HB9 ⊢
        clear hW2 x0 x1 x2 f2 e2 HWS HBS
        have g0 : W2.cell? ⟨b3, 0, none⟩ = some (.int .i64 6) := HWF.cell 0
        have g1 : W2.cell? ⟨b3, 1, none⟩ = some (.int .i64 (fk 6)) := HWF.cell 1
        have g2 : W2.cell? ⟨b3, 2, none⟩ = some (.int .u64 ((zig n : Nat) : Int)) := HWF.cell 2
        have g3 : W2.cell? ⟨b3, 3, none⟩ = some (.slice none 0 0) := HWF.cell 3
        have hGA : GAt (W2.alloc (.cells #[.int .i64 6, .int .i64 (fk 6), .int .u64 ((zig n : Nat) : Int), .slice none 0 0] 43)) (W2.heap.size + 1) (some ⟨W2.heap.size, 0, none⟩) [(⟨6, fk 6, (zig n), []⟩ : G)] := gAt_one W2 6 (fk 6) (zig n) [] _ _ (rfl) (Nums.nil_)
        have HP := Lib.hid (put_any _ 1 [(⟨6, fk 6, (zig n), []⟩ : G)] _ (hGA.more (by simp)) (fun g hg => by obtain rfl := List.mem_singleton.1 hg; exact ⟨hk, fk_in 6, by first | exact hb | exact Hzl.out | (show (0 : Nat) < 18446744073709551616; omega), by simp [bsOf_length]; first | omega | done, by first | exact bsOf_lt s | (intro x hx; cases hx)⟩) (by simp) (by rw [← hg]; exact hl))
        rw [← hg] at HP
        have HBF := Lib.hid (HB9.alloc HB9.size (.cells #[.int .i64 6, .int .i64 (fk 6), .int .u64 ((zig n : Nat) : Int), .slice none 0 0] 43))
        clear hGA HWF HB9
        go_wp2_with fail
        refine HP.out.mono ?_
        rintro e W9 ⟨v9, rfl, hO, hB9⟩
        have HO := Lib.hid hO
        have HB9 := Lib.hid (HBF.out.trans (hB9.mono HBF.out.size))
        clear hO hB9 HP
        go_wp2_with fail
        go_ret
        exact ⟨_, rfl, own8_lower HO.out HBF.out.size, HB9.out⟩
      · have d1 : (k == 1) = false := by simpa using hk1
        have d6 : (k == 6) = false := by simpa using hk6
        have hg : fieldG (k, s, b) = ⟨k, fk k, b, []⟩ := by unfold fieldG; simp only [if_neg hk1, if_neg hk6]
        have HWS := Lib.hid (HWF.set 2 (.int .u64 (b : Int)))
        have HBS := Lib.hid (HB9.setCell (p := ⟨b3, 2, none⟩) hlo3 (.int .u64 (b : Int)))
        clear HWF HB9
        go_upto_region 10 with (fail)
        obtain ⟨W2, hW2⟩ : ∃ z, z = F0.setCell ⟨b3, 2, none⟩ (.int .u64 (b : Int)) := ⟨_, rfl⟩
        have HWF : Whole W2 b3 43 #[.int .i64 k, .int .i64 (fk k), .int .u64 (b : Int), .slice none 0 0] := by rw [hW2]; simpa using HWS.out
        have HB9 := HBS.out
        rw [← hW2] at HB9 ⊢
        clear hW2 x0 x1 x2 f2 e2 HWS HBS
        have g0 : W2.cell? ⟨b3, 0, none⟩ = some (.int .i64 k) := HWF.cell 0
        have g1 : W2.cell? ⟨b3, 1, none⟩ = some (.int .i64 (fk k)) := HWF.cell 1
        have g2 : W2.cell? ⟨b3, 2, none⟩ = some (.int .u64 (b : Int)) := HWF.cell 2
        have g3 : W2.cell? ⟨b3, 3, none⟩ = some (.slice none 0 0) := HWF.cell 3
        have hGA : GAt (W2.alloc (.cells #[.int .i64 k, .int .i64 (fk k), .int .u64 (b : Int), .slice none 0 0] 43)) (W2.heap.size + 1) (some ⟨W2.heap.size, 0, none⟩) [(⟨k, fk k, b, []⟩ : G)] := gAt_one W2 k (fk k) b [] _ _ (rfl) (Nums.nil_)
        have HP := Lib.hid (put_any _ 1 [(⟨k, fk k, b, []⟩ : G)] _ (hGA.more (by simp)) (fun g hg => by obtain rfl := List.mem_singleton.1 hg; exact ⟨hk, fk_in k, by first | exact hb | exact Hzl.out | (show (0 : Nat) < 18446744073709551616; omega), by simp [bsOf_length]; first | omega | done, by first | exact bsOf_lt s | (intro x hx; cases hx)⟩) (by simp) (by rw [← hg]; exact hl))
        rw [← hg] at HP
        have HBF := Lib.hid (HB9.alloc HB9.size (.cells #[.int .i64 k, .int .i64 (fk k), .int .u64 (b : Int), .slice none 0 0] 43))
        clear hGA HWF HB9
        go_wp2_with fail
        refine HP.out.mono ?_
        rintro e W9 ⟨v9, rfl, hO, hB9⟩
        have HO := Lib.hid hO
        have HB9 := Lib.hid (HBF.out.trans (hB9.mono HBF.out.size))
        clear hO hB9 HP
        go_wp2_with fail
        go_ret
        exact ⟨_, rfl, own8_lower HO.out HBF.out.size, HB9.out⟩
  · go_simp
    refine hK.out _ _ (KA.out) (fun _ => ?_)
    clear hK K
    try simp only [Act.put, List.setIfInBounds_toArray, List.set_cons_zero, List.set_cons_succ]
    refine wpAnyH_ready (rs := [4]) (by kernel_rfl) (by simp) ?_
    refine (AllReadyH.cons (o := { dst := some 11, op := Go.Op.call { callee := Go.Callee.value (Go.Operand.func 22), args := #[Go.Operand.tmp 10], argTypes := #[3] }, type := 3, pos := "value.go:75", after := #[{ on := 3, ground := Go.Ground.data }], guard := none }) rfl (fun K hK => ?_) AllReadyH.nil)
    go_simp
    refine (HF.out _).mono ?_; rintro e Y ⟨rfl, rfl⟩
    go_wp2_with fail
    refine hK.out _ _ (KA.out) (fun _ => ?_)
    clear hK K
    try simp only [Act.put, List.setIfInBounds_toArray, List.set_cons_zero, List.set_cons_succ]
    refine wpAnyH_take (i := 5) (oi := { dst := some 12, op := Go.Op.build 43 #[(0, Go.Operand.tmp 8), (1, Go.Operand.tmp 11)], type := 43, pos := "value.go:75", after := #[{ on := 1, ground := Go.Ground.data }, { on := 4, ground := Go.Ground.data }], guard := none }) (v := ?_) rfl (by kernel_rfl) (by kernel_rfl) (by kernel_rfl) (fun _ _ _ h => h) (Or.inl ⟨by rfl, ?_⟩) (KA.out) ?_
    rotate_left 1
    · intro w5 hSw
      go_simp; all_goals (with_reducible rfl)
    try simp only [Act.put, List.setIfInBounds_toArray, List.set_cons_zero, List.set_cons_succ]
    refine wpAnyH_ready (rs := [7]) (by kernel_rfl) (by simp) ?_
    refine (AllReadyH.cons (o := { dst := none, op := Go.Op.store 43 (Go.Operand.tmp 3) (Go.Operand.tmp 12), type := 0, pos := "value.go:75", after := #[{ on := 6, ground := Go.Ground.data }, { on := 5, ground := Go.Ground.data }, { on := 4, ground := Go.Ground.chain }, { on := 0, ground := Go.Ground.phase }, { on := 1, ground := Go.Ground.phase }, { on := 2, ground := Go.Ground.phase }, { on := 3, ground := Go.Ground.phase }, { on := 4, ground := Go.Ground.phase }, { on := 5, ground := Go.Ground.phase }, { on := 6, ground := Go.Ground.phase }], guard := none }) rfl (fun K hK => ?_) AllReadyH.nil)
    go_simp
    refine hK.out _ _ (KS.out) (fun _ => ?_)
    clear hK K
    try simp only [Act.put, List.setIfInBounds_toArray, List.set_cons_zero, List.set_cons_succ]
    refine wpAnyH_done (by kernel_rfl) ?_ _
    obtain ⟨b3, hb3⟩ : ∃ z, z = Y.heap.size := ⟨_, rfl⟩
    obtain ⟨F0, hF0⟩ : ∃ z, z = (Y.alloc (.cells #[.int .i64 k, .int .i64 (fk k), .int .u64 0, .slice none 0 0] 43)).drew := ⟨_, rfl⟩
    have HWF : Whole F0 b3 43 #[.int .i64 k, .int .i64 (fk k), .int .u64 0, .slice none 0 0] := by rw [hF0, hb3]; exact (Whole.new Y _ _).drew
    have hYF : Below Y.heap.size Y F0 := by rw [hF0]; exact ⟨rfl, rfl, rfl, by simp, fun j hj => ((Below.refl Y.heap.size Y).alloc (Nat.le_refl _) _).block j hj⟩
    have hWu := HW.out.below hYF HW.out.lt
    have HB9 := HB.out.trans (hYF.mono HB.out.size)
    have hlo3 : w.heap.size ≤ b3 := by rw [hb3]; exact HB.out.size
    have hu3 : bu ≠ b3 := by rw [hb3]; have := HW.out.lt; omega
    have x0 : F0.cell? ⟨bu, 0, none⟩ = some (.int .i64 k) := hWu.cell 0
    have x1 : F0.cell? ⟨bu, 1, none⟩ = some (.string s) := hWu.cell 1
    have x2 : F0.cell? ⟨bu, 2, none⟩ = some (.int .u64 (b : Int)) := hWu.cell 2
    have f2 : F0.frozen? ⟨b3, 2, none⟩ = false := HWF.frozen 2
    have e2 : F0.cell? ⟨b3, 2, none⟩ = some (.int .u64 0) := HWF.cell 2
    rw [← hF0, ← hb3]
    clear hF0 hb3 hYF KD KA KS HB
    by_cases hk1 : k = 1
    · subst hk1
      have hg : fieldG (1, s, b) = ⟨1, fk 1, 0, bsOf s⟩ := rfl
      obtain ⟨cap, W1, hconv, hB1, hN1⟩ := conv_bytes s F0
      have hW1 := HWF.below hB1 HWF.lt
      have f3 : W1.frozen? ⟨b3, 3, none⟩ = false := hW1.frozen 3
      have e3 : W1.cell? ⟨b3, 3, none⟩ = some (.slice none 0 0) := hW1.cell 3
      have HWS := Lib.hid (hW1.set 3 (.slice (some ⟨F0.heap.size, 0, none⟩) s.size cap))
      have HBS := Lib.hid ((HB9.trans (hB1.mono HB9.size)).setCell (p := ⟨b3, 3, none⟩) hlo3 (.slice (some ⟨F0.heap.size, 0, none⟩) s.size cap))
      have HNS := Lib.hid hN1
      have hnb : b3 ≠ F0.heap.size := by have := HWF.lt; omega
      clear HWF hW1 HB9 hB1 hN1 f2 e2
      go_upto_region 10 with (fail)
      obtain ⟨W2, hW2⟩ : ∃ z, z = W1.setCell ⟨b3, 3, none⟩ (.slice (some ⟨F0.heap.size, 0, none⟩) s.size cap) := ⟨_, rfl⟩
      have HWF : Whole W2 b3 43 #[.int .i64 1, .int .i64 (fk 1), .int .u64 0, .slice (some ⟨F0.heap.size, 0, none⟩) s.size cap] := by rw [hW2]; simpa using HWS.out
      have HB9 := HBS.out
      have hNf : Nums .u8 W2 W2.heap.size (some ⟨F0.heap.size, 0, none⟩) (bsOf s) := by rw [hW2]; exact nums_set HNS.out hnb.symm
      rw [← hW2] at HB9 ⊢
      clear hW2 x0 x1 x2 hconv f3 e3 HWS HBS HNS
      have g0 : W2.cell? ⟨b3, 0, none⟩ = some (.int .i64 1) := HWF.cell 0
      have g1 : W2.cell? ⟨b3, 1, none⟩ = some (.int .i64 (fk 1)) := HWF.cell 1
      have g2 : W2.cell? ⟨b3, 2, none⟩ = some (.int .u64 0) := HWF.cell 2
      have g3 : W2.cell? ⟨b3, 3, none⟩ = some (.slice (some ⟨F0.heap.size, 0, none⟩) s.size cap) := HWF.cell 3
      have hGA : GAt (W2.alloc (.cells #[.int .i64 1, .int .i64 (fk 1), .int .u64 0, .slice (some ⟨F0.heap.size, 0, none⟩) s.size cap] 43)) (W2.heap.size + 1) (some ⟨W2.heap.size, 0, none⟩) [(⟨1, fk 1, 0, (bsOf s)⟩ : G)] := gAt_one W2 1 (fk 1) 0 (bsOf s) _ _ ((bsOf_length s).symm) (hNf)
      have HP := Lib.hid (put_any _ 1 [(⟨1, fk 1, 0, (bsOf s)⟩ : G)] _ (hGA.more (by simp)) (fun g hg => by obtain rfl := List.mem_singleton.1 hg; exact ⟨hk, fk_in 1, by first | exact hb | exact Hzl.out | (show (0 : Nat) < 18446744073709551616; omega), by simp [bsOf_length]; first | omega | done, by first | exact bsOf_lt s | (intro x hx; cases hx)⟩) (by simp) (by rw [← hg]; exact hl))
      rw [← hg] at HP
      have HBF := Lib.hid (HB9.alloc HB9.size (.cells #[.int .i64 1, .int .i64 (fk 1), .int .u64 0, .slice (some ⟨F0.heap.size, 0, none⟩) s.size cap] 43))
      clear hGA HWF HB9
      go_wp2_with fail
      refine HP.out.mono ?_
      rintro e W9 ⟨v9, rfl, hO, hB9⟩
      have HO := Lib.hid hO
      have HB9 := Lib.hid (HBF.out.trans (hB9.mono HBF.out.size))
      clear hO hB9 HP
      go_wp2_with fail
      go_ret
      exact ⟨_, rfl, own8_lower HO.out HBF.out.size, HB9.out⟩
    · by_cases hk6 : k = 6
      · subst hk6
        obtain ⟨n, hn⟩ : ∃ n : Int, n = if b < 9223372036854775808 then (b : Int) else (b : Int) - 18446744073709551616 := ⟨_, rfl⟩
        have hnr : -9223372036854775808 ≤ n ∧ n < 9223372036854775808 := by rw [hn]; split <;> omega
        have w1 : wrap64 (b : Int) = n := by rw [hn]; unfold wrap64; split <;> omega
        have w2 : IntKind.i64.wrap (b : Int) = n := (IntWalk.i64_left _).trans w1
        have HZ := Lib.hid fun W => zig_any n W hnr
        have Hzl := Lib.hid (zig_lt hnr)
        have hg : fieldG (6, s, b) = ⟨6, fk 6, zig n, []⟩ := by rw [hn]; rfl
        have HWS := Lib.hid (HWF.set 2 (.int .u64 ((zig n : Nat) : Int)))
        have HBS := Lib.hid (HB9.setCell (p := ⟨b3, 2, none⟩) hlo3 (.int .u64 ((zig n : Nat) : Int)))
        clear HWF HB9 hn hnr
        go_wp2_with fail
        refine (HZ.out _).mono ?_
        rintro e Z ⟨rfl, rfl⟩
        clear w1 w2 HZ
        go_upto_region 10 with (fail)
        obtain ⟨W2, hW2⟩ : ∃ z, z = F0.setCell ⟨b3, 2, none⟩ (.int .u64 ((zig n : Nat) : Int)) := ⟨_, rfl⟩
        have HWF : Whole W2 b3 43 #[.int .i64 6, .int .i64 (fk 6), .int .u64 ((zig n : Nat) : Int), .slice none 0 0] := by rw [hW2]; simpa using HWS.out
        have HB9 := HBS.out
        rw [← hW2] at HB9 ⊢
        clear hW2 x0 x1 x2 f2 e2 HWS HBS
        have g0 : W2.cell? ⟨b3, 0, none⟩ = some (.int .i64 6) := HWF.cell 0
        have g1 : W2.cell? ⟨b3, 1, none⟩ = some (.int .i64 (fk 6)) := HWF.cell 1
        have g2 : W2.cell? ⟨b3, 2, none⟩ = some (.int .u64 ((zig n : Nat) : Int)) := HWF.cell 2
        have g3 : W2.cell? ⟨b3, 3, none⟩ = some (.slice none 0 0) := HWF.cell 3
        have hGA : GAt (W2.alloc (.cells #[.int .i64 6, .int .i64 (fk 6), .int .u64 ((zig n : Nat) : Int), .slice none 0 0] 43)) (W2.heap.size + 1) (some ⟨W2.heap.size, 0, none⟩) [(⟨6, fk 6, (zig n), []⟩ : G)] := gAt_one W2 6 (fk 6) (zig n) [] _ _ (rfl) (Nums.nil_)
        have HP := Lib.hid (put_any _ 1 [(⟨6, fk 6, (zig n), []⟩ : G)] _ (hGA.more (by simp)) (fun g hg => by obtain rfl := List.mem_singleton.1 hg; exact ⟨hk, fk_in 6, by first | exact hb | exact Hzl.out | (show (0 : Nat) < 18446744073709551616; omega), by simp [bsOf_length]; first | omega | done, by first | exact bsOf_lt s | (intro x hx; cases hx)⟩) (by simp) (by rw [← hg]; exact hl))
        rw [← hg] at HP
        have HBF := Lib.hid (HB9.alloc HB9.size (.cells #[.int .i64 6, .int .i64 (fk 6), .int .u64 ((zig n : Nat) : Int), .slice none 0 0] 43))
        clear hGA HWF HB9
        go_wp2_with fail
        refine HP.out.mono ?_
        rintro e W9 ⟨v9, rfl, hO, hB9⟩
        have HO := Lib.hid hO
        have HB9 := Lib.hid (HBF.out.trans (hB9.mono HBF.out.size))
        clear hO hB9 HP
        go_wp2_with fail
        go_ret
        exact ⟨_, rfl, own8_lower HO.out HBF.out.size, HB9.out⟩
      · have d1 : (k == 1) = false := by simpa using hk1
        have d6 : (k == 6) = false := by simpa using hk6
        have hg : fieldG (k, s, b) = ⟨k, fk k, b, []⟩ := by unfold fieldG; simp only [if_neg hk1, if_neg hk6]
        have HWS := Lib.hid (HWF.set 2 (.int .u64 (b : Int)))
        have HBS := Lib.hid (HB9.setCell (p := ⟨b3, 2, none⟩) hlo3 (.int .u64 (b : Int)))
        clear HWF HB9
        go_upto_region 10 with (fail)
        obtain ⟨W2, hW2⟩ : ∃ z, z = F0.setCell ⟨b3, 2, none⟩ (.int .u64 (b : Int)) := ⟨_, rfl⟩
        have HWF : Whole W2 b3 43 #[.int .i64 k, .int .i64 (fk k), .int .u64 (b : Int), .slice none 0 0] := by rw [hW2]; simpa using HWS.out
        have HB9 := HBS.out
        rw [← hW2] at HB9 ⊢
        clear hW2 x0 x1 x2 f2 e2 HWS HBS
        have g0 : W2.cell? ⟨b3, 0, none⟩ = some (.int .i64 k) := HWF.cell 0
        have g1 : W2.cell? ⟨b3, 1, none⟩ = some (.int .i64 (fk k)) := HWF.cell 1
        have g2 : W2.cell? ⟨b3, 2, none⟩ = some (.int .u64 (b : Int)) := HWF.cell 2
        have g3 : W2.cell? ⟨b3, 3, none⟩ = some (.slice none 0 0) := HWF.cell 3
        have hGA : GAt (W2.alloc (.cells #[.int .i64 k, .int .i64 (fk k), .int .u64 (b : Int), .slice none 0 0] 43)) (W2.heap.size + 1) (some ⟨W2.heap.size, 0, none⟩) [(⟨k, fk k, b, []⟩ : G)] := gAt_one W2 k (fk k) b [] _ _ (rfl) (Nums.nil_)
        have HP := Lib.hid (put_any _ 1 [(⟨k, fk k, b, []⟩ : G)] _ (hGA.more (by simp)) (fun g hg => by obtain rfl := List.mem_singleton.1 hg; exact ⟨hk, fk_in k, by first | exact hb | exact Hzl.out | (show (0 : Nat) < 18446744073709551616; omega), by simp [bsOf_length]; first | omega | done, by first | exact bsOf_lt s | (intro x hx; cases hx)⟩) (by simp) (by rw [← hg]; exact hl))
        rw [← hg] at HP
        have HBF := Lib.hid (HB9.alloc HB9.size (.cells #[.int .i64 k, .int .i64 (fk k), .int .u64 (b : Int), .slice none 0 0] 43))
        clear hGA HWF HB9
        go_wp2_with fail
        refine HP.out.mono ?_
        rintro e W9 ⟨v9, rfl, hO, hB9⟩
        have HO := Lib.hid hO
        have HB9 := Lib.hid (HBF.out.trans (hB9.mono HBF.out.size))
        clear hO hB9 HP
        go_wp2_with fail
        go_ret
        exact ⟨_, rfl, own8_lower HO.out HBF.out.size, HB9.out⟩
theorem right_six (w : World) : Calls Tryd.prog 8 #[vv (6, ⟨#[]⟩, 18446744073709551615)] w fun e w' => e = .returned (.bool true) ∧ Below w.heap.size w w' := by
  unfold vv
  go_enter Tryd.func8, Tryd.ntmps8
  go_wp2_with fail
  go_ret
  exact ⟨rfl, by go_grown⟩
theorem right_a (w : World) : Calls Tryd.prog 8 #[vv (1, ⟨#[97]⟩, 0)] w fun e w' => e = .returned (.bool true) ∧ Below w.heap.size w w' := by
  unfold vv
  have HV := Lib.hid valid_a
  go_enter Tryd.func8, Tryd.ntmps8
  go_wp2_with fail
  refine (HV.out _).mono ?_
  rintro e X ⟨rfl, rfl⟩
  go_wp2_with fail
  go_ret
  exact ⟨rfl, by go_grown⟩
def Live08 (w : World) (e : Ending) (w' : World) : Prop := e = .returned (.bool true) ∧ Below w.heap.size w w'
theorem pgs_six : pgs [fieldG (6, ⟨#[]⟩, 18446744073709551615)] = [48, 1] := by
  rw [show fieldG (6, ⟨#[]⟩, 18446744073709551615) = (⟨6, 0, 1, []⟩ : G) from rfl]
  have h1 : vb 48 = [48] := vb_small (by omega)
  have h2 : vb 1 = [1] := vb_small (by omega)
  simp [pgs, G.bytes, pfI, headOf, h1, h2]
theorem pgs_a : pgs [fieldG (1, ⟨#[97]⟩, 0)] = [10, 1, 97] := by
  rw [show fieldG (1, ⟨#[97]⟩, 0) = (⟨1, 2, 0, [97]⟩ : G) from rfl]
  have h1 : vb 10 = [10] := vb_small (by omega)
  have h2 : vb 1 = [1] := vb_small (by omega)
  simp [pgs, G.bytes, pfI, headOf, h1, h2]
theorem live08_any (w : World) : Calls Tryd.prog 6 #[] w (Live08 w) := by
  have H1 := Lib.hid fun W => valuePut_yes (6, ⟨#[]⟩, 18446744073709551615) W (by decide) (by decide) (by decide) (by rw [pgs_six]; decide) fun W _ => right_six W
  have H2 := Lib.hid fun W => valuePut_yes (1, ⟨#[97]⟩, 0) W (by decide) (by decide) (by decide) (by rw [pgs_a]; decide) fun W _ => right_a W
  rw [pgs_six] at H1
  rw [pgs_a] at H2
  unfold vv at H1 H2
  go_enter Tryd.func6, Tryd.ntmps6
  go_wp2_with fail
  refine (H1.out _).mono ?_
  rintro e X ⟨v, rfl, hO, hB⟩
  obtain ⟨a, c, rfl, _, _, _, hN⟩ := hO.nums
  have hst : (convert 26 9 (.slice a 2 c)).run Tryd.prog X = .ok (.string ⟨#[48, 1]⟩) X := str_of_nums X _ 26 9 5 a c [48, 1] Tryd.underlying26 Tryd.underlying5 Tryd.underlying9 hN (by decide)
  have HB := Lib.hid hB
  clear hO hN hB H1
  go_wp2_with fail
  refine (H2.out _).mono ?_
  rintro e Y ⟨v, rfl, hO, hB⟩
  obtain ⟨a', c', rfl, _, _, _, hN⟩ := hO.nums
  have hst2 : (convert 26 9 (.slice a' 3 c')).run Tryd.prog Y = .ok (.string ⟨#[10, 1, 97]⟩) Y := str_of_nums Y _ 26 9 5 a' c' [10, 1, 97] Tryd.underlying26 Tryd.underlying5 Tryd.underlying9 hN (by decide)
  have HB2 := Lib.hid (HB.out.trans (hB.mono HB.out.size))
  clear hO hN hB H2 hst HB
  go_wp2_with fail
  go_ret
  exact ⟨rfl, HB2.out⟩
end Go.Proofs.YtdifojeghplpeaaDoor
