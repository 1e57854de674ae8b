/- Walks over layer 12: what the writer of a directory appends. -/
import Derived.Test.YtaafcmgkmdbefaaDirFind
import Derived.Test.YtaafcmgkmdbefaaVarint
namespace Go.Proofs.Ytaafcmgkmdbefaa
open Go.RowKit Var
set_option linter.unusedVariables false
set_option maxRecDepth 100000

theorem app_8 {w : World} (base : Nat) (v : Value) (l : List Nat) (hown : Own8 w base v l) (B : Nat) (m : List Nat) (A : Option Addr) (c : Nat) (hd : Nums .u8 w B A m) (hl : l.length + m.length ≤ 1000000) (hbase : base ≤ w.heap.size) :
    ∃ v' w', (Builtin.append_ #[24, 24] 24 #[v, .slice A m.length c]).run Try.prog w = .ok v' w' ∧ Gone w base v (l ++ m) v' w' := by
  obtain ⟨i0, hi0, hz0, hz1, hz2⟩ := info_parts u8info
  obtain ⟨v', w', hrun, h3, h4, h5⟩ := run_append_vals (P := Try.prog) (w := w) base 24 24 5 i0 _ 1 1 Try.underlying24 hi0 hz0 hz1 hz2 rfl (by omega) v l.length _ hown B A m.length c _ (Vals.of_nums hd)
    (u8s_one m) (by unfold maxLen; omega) (by omega) hbase
  refine ⟨v', w', hrun, Gone.grown h3 (by simp) (u8s_append l m).symm h4 ?_⟩
  rcases h5 with h5 | h5
  · exact .inl h5
  · exact .inr ⟨_, h5, Nat.le_refl _⟩

/-- The writer in block g holds the row v, which reads as l. -/
def Wtr (w : World) (base g : Nat) (v : Value) (l : List Nat) : Prop := Whole w g 45 #[v] ∧ Own8 w base v l ∧ v.ownBlock ≠ some g
def touchW (g : Nat) (v : Value) (k : Nat) : Prop := k = g ∨ v.ownBlock = some k
def WPost (w : World) (base g : Nat) (v : Value) (l : List Nat) (e : Ending) (w' : World) : Prop := e = .returned (.tuple #[]) ∧ ∃ v', Wtr w' base g v' l ∧ Only (touchW g v) w w' ∧ (v'.ownBlock = v.ownBlock ∨ ∃ x, v'.ownBlock = some x ∧ w.heap.size ≤ x)
theorem put_end {w X1 w3 : World} {base g : Nat} {v v3 : Value} {l m : List Nat} {e : Ending} (he : e = .returned (.tuple #[])) (hb : Below w.drew.heap.size w.drew X1) (ho : Own8 w.drew base v l) (hw3 : Whole w3 g 45 #[v]) (hG : Gone X1 base v m v3 w3) (hv : v.ownBlock ≠ some g) (hg : g < w.heap.size) :
    WPost w base g v m e (w3.setCell ⟨g, 0, none⟩ v3) := by
  have hO : Only (touchW g v) w w3 := ⟨hG.only.os.trans hb.os, hG.only.tape.trans hb.tape, hG.only.output.trans hb.output, Nat.le_trans hb.size hG.only.size, fun k hk hn => (hG.only.block k (Nat.lt_of_lt_of_le hk hb.size) (fun e => hn (.inr e))).trans (hb.block k hk)⟩
  have hlt : g < w3.heap.size := hw3.lt
  have hat : v3.ownBlock = v.ownBlock ∨ ∃ x, v3.ownBlock = some x ∧ w.heap.size ≤ x := by
    rcases hG.at_ with e | ⟨x, e, hx⟩
    · exact .inl e
    · exact .inr ⟨x, e, Nat.le_trans hb.size hx⟩
  have hne : v3.ownBlock ≠ some g := fun e => by
    rcases hG.at_ with e1 | ⟨x, e1, hx⟩
    · rw [e1] at e; exact hv e
    · rw [e1] at e; injection e with e; have h1 : w.heap.size ≤ X1.heap.size := hb.size; omega
  refine ⟨he, v3, ⟨by simpa using hw3.set 0 v3, ?_, hne⟩, hO.setCell (fun _ => .inl rfl) _, hat⟩
  exact hG.own.only (Only.setCell (S := fun k => k = g) (Only.refl _ _) (p := ⟨g, 0, none⟩) (fun _ => rfl) _) (fun b hb e => hne (by rw [hb, e]))
set_option maxHeartbeats 4000000 in
theorem put_any (base g : Nat) (v : Value) (l : List Nat) (x : Nat) (w : World) (h : Wtr w base g v l) (hl : l.length ≤ 900000) (hx : x < 18446744073709551616) (hB : base ≤ w.heap.size) :
    Calls Try.prog 18 #[.pointer (some ⟨g, 0, none⟩), .int .u64 (x : Int)] w (WPost w base g v (l ++ vb x)) := by
  have hpv := Lib.hid fun W => putVarint_any none 0 [] x W (fun h => by simp at h) (by simp) (fun _ => ⟨rfl, rfl⟩) hx
  simp only [List.nil_append, List.length_nil] at hpv
  have HW0 := Lib.hid h.1.drew
  have HO0 : Hid (Own8 w.drew base v l) := h.2.1
  have Hvg := Lib.hid h.2.2
  have Hl := Lib.hid hl
  have H10 := Lib.hid (vb_len10 hx)
  have HB0 : Hid (base ≤ w.drew.heap.size) := hB
  obtain ⟨N, hN⟩ : ∃ N, (vb x).length = N := ⟨_, rfl⟩
  have H10l := Lib.hid hN
  clear h hl hx hB hN
  go_enter Try.func18, Try.ntmps18
  refine wp_region_held (S := fun _ => True) (by kernel_rfl) ?_
  refine wpAnyH_take (i := 0) (oi := { dst := some 4, op := Go.Op.move (Go.Operand.tmp 0), type := 43, pos := "dir.go:100", after := #[], guard := none }) (v := ?_) rfl (by kernel_rfl) (by kernel_rfl) (by kernel_rfl) (fun _ _ _ h => h) (Or.inl ⟨by rfl, ?_⟩) trivial ?_
  rotate_left 1
  · intro w5 hSw
    go_simp; all_goals (with_reducible rfl)
  try simp only [Act.put, List.setIfInBounds_toArray, List.set_cons_zero, List.set_cons_succ]
  refine wpAnyH_take (i := 1) (oi := { dst := some 5, op := Go.Op.move (Go.Operand.tmp 0), type := 43, pos := "dir.go:100", after := #[], guard := none }) (v := ?_) rfl (by kernel_rfl) (by kernel_rfl) (by kernel_rfl) (fun _ _ _ h => h) (Or.inl ⟨by rfl, ?_⟩) trivial ?_
  rotate_left 1
  · intro w5 hSw
    go_simp; all_goals (with_reducible rfl)
  try simp only [Act.put, List.setIfInBounds_toArray, List.set_cons_zero, List.set_cons_succ]
  refine wpAnyH_take (i := 2) (oi := { dst := some 6, op := Go.Op.nilCheck (Go.Operand.tmp 5), type := 0, pos := "dir.go:100", after := #[{ on := 1, ground := Go.Ground.data }], guard := none }) (v := ?_) rfl (by kernel_rfl) (by kernel_rfl) (by kernel_rfl) (fun _ _ _ h => h) (Or.inl ⟨by rfl, ?_⟩) trivial ?_
  rotate_left 1
  · intro w5 hSw
    go_simp; all_goals (with_reducible rfl)
  try simp only [Act.put, List.setIfInBounds_toArray, List.set_cons_zero, List.set_cons_succ]
  refine wpAnyH_take (i := 3) (oi := { dst := some 7, op := Go.Op.fieldAddr 45 (Go.Operand.tmp 6) 0, type := 0, pos := "dir.go:100", after := #[{ on := 2, ground := Go.Ground.data }], guard := none }) (v := ?_) rfl (by kernel_rfl) (by kernel_rfl) (by kernel_rfl) (fun _ _ _ h => h) (Or.inl ⟨by rfl, ?_⟩) trivial ?_
  rotate_left 1
  · intro w5 hSw
    go_simp; all_goals (with_reducible rfl)
  try simp only [Act.put, List.setIfInBounds_toArray, List.set_cons_zero, List.set_cons_succ]
  refine wpAnyH_take (i := 5) (oi := { dst := some 9, op := Go.Op.move (Go.Operand.tmp 1), type := 37, pos := "dir.go:100", after := #[], guard := none }) (v := ?_) rfl (by kernel_rfl) (by kernel_rfl) (by kernel_rfl) (fun _ _ _ h => h) (Or.inl ⟨by rfl, ?_⟩) trivial ?_
  rotate_left 1
  · intro w5 hSw
    go_simp; all_goals (with_reducible rfl)
  try simp only [Act.put, List.setIfInBounds_toArray, List.set_cons_zero, List.set_cons_succ]
  refine wpAnyH_ready (rs := [4, 6]) (by kernel_rfl) (by simp) ?_
  refine (AllReadyH.cons (o := { dst := some 8, op := Go.Op.load 24 (Go.Operand.tmp 7), type := 24, pos := "dir.go:100", after := #[{ on := 3, ground := Go.Ground.data }], guard := none }) rfl (fun K hK => ?_) (AllReadyH.cons (o := { dst := some 10, op := Go.Op.call { callee := Go.Callee.value (Go.Operand.func 27), args := #[Go.Operand.const (Go.Value.slice none 0 0), Go.Operand.tmp 9], argTypes := #[24, 37] }, type := 24, pos := "dir.go:100", after := #[{ on := 5, ground := Go.Ground.data }], guard := none }) rfl (fun K hK => ?_) AllReadyH.nil))
  · have c0 := HW0.out.cell 0
    simp only [List.getElem?_toArray, List.getElem?_cons_zero, List.getElem?_cons_succ] at c0
    go_simp
    refine hK.out _ _ trivial (fun _ => ?_)
    clear hK K
    try simp only [Act.put, List.setIfInBounds_toArray, List.set_cons_zero, List.set_cons_succ]
    refine wpAnyH_ready (rs := [6]) (by kernel_rfl) (by simp) ?_
    refine (AllReadyH.cons (o := { dst := some 10, op := Go.Op.call { callee := Go.Callee.value (Go.Operand.func 27), args := #[Go.Operand.const (Go.Value.slice none 0 0), Go.Operand.tmp 9], argTypes := #[24, 37] }, type := 24, pos := "dir.go:100", after := #[{ on := 5, ground := Go.Ground.data }], guard := none }) rfl (fun K hK => ?_) AllReadyH.nil)
    go_simp
    refine (hpv.out _).mono ?_; rintro e X1 ⟨u, rfl, hu, hb⟩; have HW1 := Lib.hid (HW0.out.below hb HW0.out.lt); have HB1 := Lib.hid hb; have HO1 := Lib.hid (HO0.out.below hb); obtain ⟨a2, c2, rfl, _, _, _, hN⟩ := hu.nums; obtain ⟨v3, w3, hrun, hG⟩ := app_8 base v l HO1.out X1.heap.size (vb x) a2 c2 hN (by have := Hl.out; have := H10.out; omega) (Nat.le_trans HB0.out hb.size); obtain ⟨a3, c3, rfl, _, _, _, _⟩ := hG.own.nums; rw [H10l.out] at hrun ⊢; obtain ⟨L3, hL3⟩ : ∃ L, L = (l ++ vb x).length := ⟨_, rfl⟩; rw [← hL3] at hrun hG; have Hrun := Lib.hid hrun; have HG := Lib.hid hG; have HW3 := Lib.hid (HW1.out.only hG.only Hvg.out); have HL3 := Lib.hid hL3; clear hrun hG hu hb hN hL3
    go_wp2_with fail
    refine hK.out _ _ trivial (fun _ => ?_)
    clear hK K
    try simp only [Act.put, List.setIfInBounds_toArray, List.set_cons_zero, List.set_cons_succ]
    refine wpAnyH_ready (rs := [7]) (by kernel_rfl) (by simp) ?_
    refine (AllReadyH.cons (o := { dst := some 11, op := Go.Op.call { callee := Go.Callee.builtin Go.Builtin.append, args := #[Go.Operand.tmp 8, Go.Operand.tmp 10], argTypes := #[24, 24] }, type := 24, pos := "dir.go:100", after := #[{ on := 4, ground := Go.Ground.data }, { on := 6, ground := Go.Ground.data }, { on := 6, ground := Go.Ground.chain }], guard := none }) rfl (fun K hK => ?_) AllReadyH.nil)
    refine held_app (by rfl) (.tmp 8) (.tmp 10) 24 rfl _ _ (.slice a3 L3 c3) rfl rfl (Hrun.out) ?_
    refine hK.out _ _ trivial (fun _ => ?_)
    clear hK K
    try simp only [Act.put, List.setIfInBounds_toArray, List.set_cons_zero, List.set_cons_succ]
    refine wpAnyH_take (i := 8) (oi := { dst := some 12, op := Go.Op.nilCheck (Go.Operand.tmp 4), type := 0, pos := "dir.go:100", after := #[{ on := 0, ground := Go.Ground.data }, { on := 0, ground := Go.Ground.phase }, { on := 1, ground := Go.Ground.phase }, { on := 2, ground := Go.Ground.phase }, { on := 3, ground := Go.Ground.phase }, { on := 4, ground := Go.Ground.phase }, { on := 5, ground := Go.Ground.phase }, { on := 6, ground := Go.Ground.phase }, { on := 7, ground := Go.Ground.phase }], guard := none }) (v := ?_) rfl (by kernel_rfl) (by kernel_rfl) (by kernel_rfl) (fun _ _ _ h => h) (Or.inl ⟨by rfl, ?_⟩) trivial ?_
    rotate_left 1
    · intro w5 hSw
      go_simp; all_goals (with_reducible rfl)
    try simp only [Act.put, List.setIfInBounds_toArray, List.set_cons_zero, List.set_cons_succ]
    refine wpAnyH_take (i := 9) (oi := { dst := some 13, op := Go.Op.fieldAddr 45 (Go.Operand.tmp 12) 0, type := 0, pos := "dir.go:100", after := #[{ on := 8, ground := Go.Ground.data }, { on := 0, ground := Go.Ground.phase }, { on := 1, ground := Go.Ground.phase }, { on := 2, ground := Go.Ground.phase }, { on := 3, ground := Go.Ground.phase }, { on := 4, ground := Go.Ground.phase }, { on := 5, ground := Go.Ground.phase }, { on := 6, ground := Go.Ground.phase }, { on := 7, ground := Go.Ground.phase }], guard := none }) (v := ?_) rfl (by kernel_rfl) (by kernel_rfl) (by kernel_rfl) (fun _ _ _ h => h) (Or.inl ⟨by rfl, ?_⟩) trivial ?_
    rotate_left 1
    · intro w5 hSw
      go_simp; all_goals (with_reducible rfl)
    try simp only [Act.put, List.setIfInBounds_toArray, List.set_cons_zero, List.set_cons_succ]
    refine wpAnyH_ready (rs := [10]) (by kernel_rfl) (by simp) ?_
    refine (AllReadyH.cons (o := { dst := none, op := Go.Op.store 24 (Go.Operand.tmp 13) (Go.Operand.tmp 11), type := 0, pos := "dir.go:100", after := #[{ on := 9, ground := Go.Ground.data }, { on := 7, ground := Go.Ground.data }, { on := 7, ground := Go.Ground.chain }, { on := 0, ground := Go.Ground.phase }, { on := 1, ground := Go.Ground.phase }, { on := 2, ground := Go.Ground.phase }, { on := 3, ground := Go.Ground.phase }, { on := 4, ground := Go.Ground.phase }, { on := 5, ground := Go.Ground.phase }, { on := 6, ground := Go.Ground.phase }, { on := 7, ground := Go.Ground.phase }], guard := none }) rfl (fun K hK => ?_) AllReadyH.nil)
    have c0 := HW3.out.cell 0
    have f0 := HW3.out.frozen 0
    simp only [List.getElem?_toArray, List.getElem?_cons_zero, List.getElem?_cons_succ] at c0
    go_simp
    refine hK.out _ _ trivial (fun _ => ?_)
    clear hK K
    try simp only [Act.put, List.setIfInBounds_toArray, List.set_cons_zero, List.set_cons_succ]
    refine wpAnyH_done (by kernel_rfl) ?_ _
    go_wp2_with fail
    go_end0
    exact put_end rfl HB1.out HO0.out HW3.out HG.out Hvg.out HW0.out.lt
  · go_simp
    refine (hpv.out _).mono ?_; rintro e X1 ⟨u, rfl, hu, hb⟩; have HW1 := Lib.hid (HW0.out.below hb HW0.out.lt); have HB1 := Lib.hid hb; have HO1 := Lib.hid (HO0.out.below hb); obtain ⟨a2, c2, rfl, _, _, _, hN⟩ := hu.nums; obtain ⟨v3, w3, hrun, hG⟩ := app_8 base v l HO1.out X1.heap.size (vb x) a2 c2 hN (by have := Hl.out; have := H10.out; omega) (Nat.le_trans HB0.out hb.size); obtain ⟨a3, c3, rfl, _, _, _, _⟩ := hG.own.nums; rw [H10l.out] at hrun ⊢; obtain ⟨L3, hL3⟩ : ∃ L, L = (l ++ vb x).length := ⟨_, rfl⟩; rw [← hL3] at hrun hG; have Hrun := Lib.hid hrun; have HG := Lib.hid hG; have HW3 := Lib.hid (HW1.out.only hG.only Hvg.out); have HL3 := Lib.hid hL3; clear hrun hG hu hb hN hL3
    go_wp2_with fail
    refine hK.out _ _ trivial (fun _ => ?_)
    clear hK K
    try simp only [Act.put, List.setIfInBounds_toArray, List.set_cons_zero, List.set_cons_succ]
    refine wpAnyH_ready (rs := [4]) (by kernel_rfl) (by simp) ?_
    refine (AllReadyH.cons (o := { dst := some 8, op := Go.Op.load 24 (Go.Operand.tmp 7), type := 24, pos := "dir.go:100", after := #[{ on := 3, ground := Go.Ground.data }], guard := none }) rfl (fun K hK => ?_) AllReadyH.nil)
    have c0 := HW1.out.cell 0
    simp only [List.getElem?_toArray, List.getElem?_cons_zero, List.getElem?_cons_succ] at c0
    go_simp
    refine hK.out _ _ trivial (fun _ => ?_)
    clear hK K
    try simp only [Act.put, List.setIfInBounds_toArray, List.set_cons_zero, List.set_cons_succ]
    refine wpAnyH_ready (rs := [7]) (by kernel_rfl) (by simp) ?_
    refine (AllReadyH.cons (o := { dst := some 11, op := Go.Op.call { callee := Go.Callee.builtin Go.Builtin.append, args := #[Go.Operand.tmp 8, Go.Operand.tmp 10], argTypes := #[24, 24] }, type := 24, pos := "dir.go:100", after := #[{ on := 4, ground := Go.Ground.data }, { on := 6, ground := Go.Ground.data }, { on := 6, ground := Go.Ground.chain }], guard := none }) rfl (fun K hK => ?_) AllReadyH.nil)
    refine held_app (by rfl) (.tmp 8) (.tmp 10) 24 rfl _ _ (.slice a3 L3 c3) rfl rfl (Hrun.out) ?_
    refine hK.out _ _ trivial (fun _ => ?_)
    clear hK K
    try simp only [Act.put, List.setIfInBounds_toArray, List.set_cons_zero, List.set_cons_succ]
    refine wpAnyH_take (i := 8) (oi := { dst := some 12, op := Go.Op.nilCheck (Go.Operand.tmp 4), type := 0, pos := "dir.go:100", after := #[{ on := 0, ground := Go.Ground.data }, { on := 0, ground := Go.Ground.phase }, { on := 1, ground := Go.Ground.phase }, { on := 2, ground := Go.Ground.phase }, { on := 3, ground := Go.Ground.phase }, { on := 4, ground := Go.Ground.phase }, { on := 5, ground := Go.Ground.phase }, { on := 6, ground := Go.Ground.phase }, { on := 7, ground := Go.Ground.phase }], guard := none }) (v := ?_) rfl (by kernel_rfl) (by kernel_rfl) (by kernel_rfl) (fun _ _ _ h => h) (Or.inl ⟨by rfl, ?_⟩) trivial ?_
    rotate_left 1
    · intro w5 hSw
      go_simp; all_goals (with_reducible rfl)
    try simp only [Act.put, List.setIfInBounds_toArray, List.set_cons_zero, List.set_cons_succ]
    refine wpAnyH_take (i := 9) (oi := { dst := some 13, op := Go.Op.fieldAddr 45 (Go.Operand.tmp 12) 0, type := 0, pos := "dir.go:100", after := #[{ on := 8, ground := Go.Ground.data }, { on := 0, ground := Go.Ground.phase }, { on := 1, ground := Go.Ground.phase }, { on := 2, ground := Go.Ground.phase }, { on := 3, ground := Go.Ground.phase }, { on := 4, ground := Go.Ground.phase }, { on := 5, ground := Go.Ground.phase }, { on := 6, ground := Go.Ground.phase }, { on := 7, ground := Go.Ground.phase }], guard := none }) (v := ?_) rfl (by kernel_rfl) (by kernel_rfl) (by kernel_rfl) (fun _ _ _ h => h) (Or.inl ⟨by rfl, ?_⟩) trivial ?_
    rotate_left 1
    · intro w5 hSw
      go_simp; all_goals (with_reducible rfl)
    try simp only [Act.put, List.setIfInBounds_toArray, List.set_cons_zero, List.set_cons_succ]
    refine wpAnyH_ready (rs := [10]) (by kernel_rfl) (by simp) ?_
    refine (AllReadyH.cons (o := { dst := none, op := Go.Op.store 24 (Go.Operand.tmp 13) (Go.Operand.tmp 11), type := 0, pos := "dir.go:100", after := #[{ on := 9, ground := Go.Ground.data }, { on := 7, ground := Go.Ground.data }, { on := 7, ground := Go.Ground.chain }, { on := 0, ground := Go.Ground.phase }, { on := 1, ground := Go.Ground.phase }, { on := 2, ground := Go.Ground.phase }, { on := 3, ground := Go.Ground.phase }, { on := 4, ground := Go.Ground.phase }, { on := 5, ground := Go.Ground.phase }, { on := 6, ground := Go.Ground.phase }, { on := 7, ground := Go.Ground.phase }], guard := none }) rfl (fun K hK => ?_) AllReadyH.nil)
    have c0 := HW3.out.cell 0
    have f0 := HW3.out.frozen 0
    simp only [List.getElem?_toArray, List.getElem?_cons_zero, List.getElem?_cons_succ] at c0
    go_simp
    refine hK.out _ _ trivial (fun _ => ?_)
    clear hK K
    try simp only [Act.put, List.setIfInBounds_toArray, List.set_cons_zero, List.set_cons_succ]
    refine wpAnyH_done (by kernel_rfl) ?_ _
    go_wp2_with fail
    go_end0
    exact put_end rfl HB1.out HO0.out HW3.out HG.out Hvg.out HW0.out.lt
end Go.Proofs.Ytaafcmgkmdbefaa
