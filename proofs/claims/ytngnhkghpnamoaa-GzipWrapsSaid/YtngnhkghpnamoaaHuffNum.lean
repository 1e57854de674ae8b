/- HuffNum -/
import Derived.Test.YtngnhkghpnamoaaHuffMem
import Derived.Test.YtngnhkghpnamoaaGc02
namespace Go.Proofs.Ytngnhkghpnamoaa
open Go.RowKit Huff
set_option linter.unusedVariables false
set_option maxRecDepth 100000

def NumPost (w : World) (l : List Nat) (e : Ending) (w' : World) : Prop := ∃ g, e = .returned (.pointer (some ⟨g, 0, none⟩)) ∧ CodeAt w' (g + 1) g l ∧ Below w.heap.size w w'
set_option maxHeartbeats 8000000 in
theorem number_any (A : Option Addr) (c : Nat) (l : List Nat) (w : World) (hN : Nums .i64 w w.heap.size A l) (hl : l.length ≤ 288) (hb : ∀ x ∈ l, x ≤ 15) :
    Calls Try.prog 63 #[.slice A l.length c] w (NumPost w l) := by
  obtain ⟨i0, hi0, hz0, hz1, hz2⟩ := info_parts wdinfo
  obtain ⟨i1, hi1, hy0, hy1, hy2⟩ := info_parts i64info
  obtain ⟨L, hL⟩ : ∃ L, L = l.length := ⟨_, rfl⟩
  have HN := Lib.hid hN
  rw [← hL] at hl ⊢
  have HL := Lib.hid hL
  have Hb := Lib.hid hb
  have hmk := run_make (P := Try.prog) w 113 120 i0 _ Try.underlying113 hi0 hz0 .i64 .i64 (L : Int) (L : Int) (by omega) (Int.le_refl _) (by rw [hz2]; omega) (by omega)
  simp only [Int.toNat_natCast] at hmk
  rw [hz1, show (Value.agg #[.int .u32 0, .int .i64 0]).cells = #[.int .u32 0, .int .i64 0] from rfl, wmade] at hmk
  clear hN hL hb
  go_enter Try.func63, Try.ntmps63
  go_upto_region 2 with (fail)
  clear hmk
  obtain ⟨X1, hX1⟩ : ∃ X, X = w.alloc (.cells (wcells (List.replicate L (0, 0))).toArray 120) := ⟨_, rfl⟩
  obtain ⟨X2, hX2⟩ : ∃ X, X = X1.alloc (.cells (ccells (.slice (some ⟨w.heap.size, 0, none⟩) L L) (fun _ => 0) (fun _ => .slice none 0 0)).toArray 118) := ⟨_, rfl⟩
  obtain ⟨gw, hgw⟩ : ∃ g, g = w.heap.size := ⟨_, rfl⟩
  obtain ⟨gc, hgc⟩ : ∃ g, g = w.heap.size + 1 := ⟨_, rfl⟩
  have hs1 : X1.heap.size = w.heap.size + 1 := by rw [hX1]; simp
  have hs2 : X2.heap.size = w.heap.size + 2 := by rw [hX2]; simp [hs1]
  have HW0 : Hid (Whole X2 gw 120 (wcells (List.replicate L (0, 0))).toArray) := by rw [hX2, hX1, hgw]; exact (Whole.new w _ _).alloc _
  have HC0 : Hid (Whole X2 gc 118 (ccells (.slice (some ⟨gw, 0, none⟩) L L) (fun _ => 0) (fun _ => .slice none 0 0)).toArray) := by rw [hX2, hgc, ← hs1, hgw]; exact Whole.new X1 _ _
  have HB0 : Hid (Below w.heap.size w X2) := by rw [hX2, hX1]; exact ((Below.refl _ _).alloc (Nat.le_refl _) _).alloc (by simp) _
  have HG0 : Hid (Grp X2 (gc + 1) (fun _ => .slice none 0 0) (fun j => symsTo l j 0)) := Grp.nil_ _ _
  have Hs2 : Hid (gc + 1 ≤ X2.heap.size) := by show _ ≤ _; omega
  have e2 : (w.alloc (.cells (wcells (List.replicate L (0, 0))).toArray 120)).alloc (.cells #[.slice (some ⟨w.heap.size, 0, none⟩) L L, .int .u32 0, .slice none 0 0, .int .u32 0, .slice none 0 0, .int .u32 0, .slice none 0 0, .int .u32 0, .slice none 0 0, .int .u32 0, .slice none 0 0, .int .u32 0, .slice none 0 0, .int .u32 0, .slice none 0 0, .int .u32 0, .slice none 0 0, .int .u32 0, .slice none 0 0, .int .u32 0, .slice none 0 0, .int .u32 0, .slice none 0 0, .int .u32 0, .slice none 0 0, .int .u32 0, .slice none 0 0, .int .u32 0, .slice none 0 0, .int .u32 0, .slice none 0 0, .int .u32 0, .slice none 0 0] 118) = X2 := by rw [hX2, hX1]; rfl
  rw [e2, ← hgc, ← hgw]
  have Hgw := Lib.hid hgw
  have Hgc := Lib.hid hgc
  clear hX1 hX2 hs1 hs2 e2 hgw hgc
  go_wp2_with fail
  go_loopw [17] (fun x W => ∃ (k : Nat) (v : Nat → Value), k ≤ L ∧ x = .int .i64 (k : Int) ∧ Hid (Grp W (gc + 1) v (fun j => symsTo l j k)) ∧ Hid (Whole W gc 118 (ccells (.slice (some ⟨gw, 0, none⟩) L L) (fun _ => 0) v).toArray) ∧ Hid (Whole W gw 120 (wcells (List.replicate L (0, 0))).toArray) ∧ Hid (Below w.heap.size w W)) (fun x _ => L - (intOf x).toNat)
  case atStart => exact ⟨0, _, Nat.zero_le _, rfl, HG0, HC0, HW0, HB0⟩
  case round =>
    obtain ⟨k, v, hk, rfl, HG, HC, HW, HB⟩ := hrel
    clear HG0 HC0 HW0 HB0 Hs2
    have hcw : gc + 1 ≤ wr.heap.size := HC.out.lt
    by_cases hlt : k < L
    · have hkl : k < l.length := by have := HL.out; omega
      obtain ⟨b1, o1, rfl, hb1, hc⟩ := HN.out (by omega)
      have p0 := (HB.out.cell (p := ⟨b1, o1 + k, none⟩) hb1).trans (hc k hkl)
      have hge : l.getD k 0 = l[k] := by simp [hkl]
      rw [hge] at p0
      have hn15 := Hb.out _ (List.getElem_mem hkl)
      have hup := symsTo_upd l k hkl
      generalize l[k]'hkl = n at *
      have hk0 : (0 : Int) ≤ (k : Int) := by omega
      have hk1 : (k : Int) < (L : Int) := by omega
      have hn0 : (0 : Int) ≤ (n : Int) := by omega
      have hn1 : (n : Int) < 16 := by omega
      have hn16 : n < 16 := by omega
      have hln := symsTo_len l n k
      have hown := HG.out.own n hn16
      have hown2 : (wr.drew.alloc (.cells #[.int .i64 (k : Int)] 3)).ownsRow (gc + 1) 3 1 (v n) (symsTo l n k).length (i64s (symsTo l n k)) := World.ownsRow.alloc (w := wr.drew) hown _
      have hV : Vals (wr.drew.alloc (.cells #[.int .i64 (k : Int)] 3)) (wr.heap.size + 1) 1 (some ⟨wr.heap.size, 0, none⟩) 1 (i64s [k]) := (Vals.of_block (xs := i64s [k]) (heap_alloc_new wr.drew _) rfl).more (by simp)
      obtain ⟨v3, w3, hrun, h2, h3, h5⟩ := run_append_vals (P := Try.prog) (gc + 1) 57 57 3 i1 _ 1 8 Try.underlying57 hi1 hy0 hy1 hy2 rfl (by omega) (v n) _ _ hown2 (wr.heap.size + 1) (some ⟨wr.heap.size, 0, none⟩) 1 1 _ hV (i64s_one _) (by unfold maxLen; omega) (by omega) (by simp; omega)
      have hg : Gone64 wr.drew (gc + 1) (v n) (symsTo l n k ++ [k]) v3 w3 := Gone64.grown h2 (by simp) (by rw [i64s_append]) ((World.grownBy_alloc wr.drew _ _).trans h3) (by
        rcases h5 with h5 | h5
        · exact .inl h5
        · exact .inr ⟨_, h5, by simp⟩)
      have hg' := hg.undrew
      obtain ⟨a3, m3, c3, rfl⟩ : ∃ a m c, v3 = .slice a m c := by obtain ⟨a, c, e, _⟩ := Own64.nums hg'.own; exact ⟨_, _, _, e⟩
      have HG3 : Grp w3 (gc + 1) (upd v n (.slice a3 m3 c3)) (fun j => symsTo l j (k + 1)) := by
        rw [← hup]; exact HG.out.next hn16 hg' (by omega)
      have hfar : ∀ b, b ≤ gc → ¬ (v n).ownBlock = some b := fun b hb2 e => by have := (hown.lt b e).1; omega
      have HC3 : Whole w3 gc 118 (ccells (.slice (some ⟨gw, 0, none⟩) L L) (fun _ => 0) v).toArray := HC.out.only hg'.only (hfar gc (Nat.le_refl _))
      have HW3 : Whole w3 gw 120 (wcells (List.replicate L (0, 0))).toArray := HW.out.only hg'.only (hfar gw (by have := Hgw.out; have := Hgc.out; omega))
      have HB3 : Below w.heap.size w w3 := HB.out.trans (hg'.only.below (fun b hb2 e => hfar b (by have := Hgc.out; omega) e) HB.out.size)
      have HC4 := Lib.hid (HC3.setv hn16 (.slice a3 m3 c3))
      have oS : Only (fun b => b = gc) w3 (w3.setCell ⟨gc, 1 + n * 2 + 1, none⟩ (.slice a3 m3 c3)) := Only.setCell (S := fun b => b = gc) (Only.refl _ _) (p := ⟨gc, 1 + n * 2 + 1, none⟩) (fun _ => rfl) _
      have HG4 := Lib.hid (HG3.only oS (fun b hb1 _ e => by omega))
      have HW4 := Lib.hid (HW3.only oS (by have := Hgw.out; have := Hgc.out; omega))
      have HB4 := Lib.hid (HB3.setCell (p := ⟨gc, 1 + n * 2 + 1, none⟩) (by have := Hgc.out; show _ ≤ gc; omega) (.slice a3 m3 c3))
      have Hrun := Lib.hid hrun
      have c0 : wr.cell? ⟨gc, 1 + n * 2 + 1, none⟩ = some (v n) := by rw [HC.out.cell]; simpa using ccells_syms _ _ v hn16
      have f3 : w3.frozen? ⟨gc, 1 + n * 2 + 1, none⟩ = false := HC3.frozen _
      have d3 : w3.cell? ⟨gc, 1 + n * 2 + 1, none⟩ = some (v n) := by rw [HC3.cell]; simpa using ccells_syms _ _ v hn16
      have hgcw : gc < wr.heap.size := by omega
      clear hc hge hup hown hown2 hV hrun h2 h3 h5 hg hg' HG3 hfar HC3 HW3 HB3 oS hln HG HC HW HB
      go_upto_region 5 with (fail)
      refine wp_region_held (S := fun _ => True) (by kernel_rfl) ?_
      refine wpAnyH_take (i := 0) (oi := { dst := some 22, op := Go.Op.move (Go.Operand.tmp 3), type := 77, pos := "huff.go:60", after := #[], guard := none }) (v := ?_) rfl (by kernel_rfl) (by kernel_rfl) (by kernel_rfl) (fun _ _ _ h => h) (Or.inl ⟨by rfl, ?_⟩) (trivial) ?_
      rotate_left 1
      · intro w5 hSw
        go_simp; all_goals (with_reducible rfl)
      try simp only [Act.put, List.setIfInBounds_toArray, List.set_cons_zero, List.set_cons_succ]
      refine wpAnyH_take (i := 1) (oi := { dst := some 23, op := Go.Op.move (Go.Operand.tmp 5), type := 3, pos := "huff.go:60", after := #[], guard := none }) (v := ?_) rfl (by kernel_rfl) (by kernel_rfl) (by kernel_rfl) (fun _ _ _ h => h) (Or.inl ⟨by rfl, ?_⟩) (trivial) ?_
      rotate_left 1
      · intro w5 hSw
        go_simp; all_goals (with_reducible rfl)
      try simp only [Act.put, List.setIfInBounds_toArray, List.set_cons_zero, List.set_cons_succ]
      refine wpAnyH_take (i := 2) (oi := { dst := some 24, op := Go.Op.move (Go.Operand.tmp 3), type := 77, pos := "huff.go:60", after := #[], guard := none }) (v := ?_) rfl (by kernel_rfl) (by kernel_rfl) (by kernel_rfl) (fun _ _ _ h => h) (Or.inl ⟨by rfl, ?_⟩) (trivial) ?_
      rotate_left 1
      · intro w5 hSw
        go_simp; all_goals (with_reducible rfl)
      try simp only [Act.put, List.setIfInBounds_toArray, List.set_cons_zero, List.set_cons_succ]
      refine wpAnyH_take (i := 3) (oi := { dst := some 25, op := Go.Op.move (Go.Operand.tmp 5), type := 3, pos := "huff.go:60", after := #[], guard := none }) (v := ?_) rfl (by kernel_rfl) (by kernel_rfl) (by kernel_rfl) (fun _ _ _ h => h) (Or.inl ⟨by rfl, ?_⟩) (trivial) ?_
      rotate_left 1
      · intro w5 hSw
        go_simp; all_goals (with_reducible rfl)
      try simp only [Act.put, List.setIfInBounds_toArray, List.set_cons_zero, List.set_cons_succ]
      refine wpAnyH_take (i := 4) (oi := { dst := some 26, op := Go.Op.nilCheck (Go.Operand.tmp 24), type := 0, pos := "huff.go:60", after := #[{ on := 2, ground := Go.Ground.data }], guard := none }) (v := ?_) rfl (by kernel_rfl) (by kernel_rfl) (by kernel_rfl) (fun _ _ _ h => h) (Or.inl ⟨by rfl, ?_⟩) (trivial) ?_
      rotate_left 1
      · intro w5 hSw
        go_simp; all_goals (with_reducible rfl)
      try simp only [Act.put, List.setIfInBounds_toArray, List.set_cons_zero, List.set_cons_succ]
      refine wpAnyH_take (i := 5) (oi := { dst := some 27, op := Go.Op.fieldAddr 118 (Go.Operand.tmp 26) 1, type := 0, pos := "huff.go:60", after := #[{ on := 4, ground := Go.Ground.data }], guard := none }) (v := ?_) rfl (by kernel_rfl) (by kernel_rfl) (by kernel_rfl) (fun _ _ _ h => h) (Or.inl ⟨by rfl, ?_⟩) (trivial) ?_
      rotate_left 1
      · intro w5 hSw
        go_simp; all_goals (with_reducible rfl)
      try simp only [Act.put, List.setIfInBounds_toArray, List.set_cons_zero, List.set_cons_succ]
      refine wpAnyH_take (i := 6) (oi := { dst := some 28, op := Go.Op.indexAddr 116 (Go.Operand.tmp 27) (Go.Operand.tmp 25), type := 0, pos := "huff.go:60", after := #[{ on := 5, ground := Go.Ground.data }, { on := 3, ground := Go.Ground.data }], guard := none }) (v := ?_) rfl (by kernel_rfl) (by kernel_rfl) (by kernel_rfl) (fun _ _ _ h => h) (Or.inl ⟨by rfl, ?_⟩) (trivial) ?_
      rotate_left 1
      · intro w5 hSw
        go_simp; all_goals (with_reducible rfl)
      try simp only [Act.put, List.setIfInBounds_toArray, List.set_cons_zero, List.set_cons_succ]
      refine wpAnyH_take (i := 7) (oi := { dst := some 29, op := Go.Op.fieldAddr 115 (Go.Operand.tmp 28) 1, type := 0, pos := "huff.go:60", after := #[{ on := 6, ground := Go.Ground.data }], guard := none }) (v := ?_) rfl (by kernel_rfl) (by kernel_rfl) (by kernel_rfl) (fun _ _ _ h => h) (Or.inl ⟨by rfl, ?_⟩) (trivial) ?_
      rotate_left 1
      · intro w5 hSw
        go_simp; all_goals (with_reducible rfl)
      try simp only [Act.put, List.setIfInBounds_toArray, List.set_cons_zero, List.set_cons_succ]
      refine wpAnyH_take (i := 9) (oi := { dst := some 31, op := Go.Op.move (Go.Operand.tmp 4), type := 3, pos := "huff.go:60", after := #[], guard := none }) (v := ?_) rfl (by kernel_rfl) (by kernel_rfl) (by kernel_rfl) (fun _ _ _ h => h) (Or.inl ⟨by rfl, ?_⟩) (trivial) ?_
      rotate_left 1
      · intro w5 hSw
        go_simp; all_goals (with_reducible rfl)
      try simp only [Act.put, List.setIfInBounds_toArray, List.set_cons_zero, List.set_cons_succ]
      refine wpAnyH_take (i := 12) (oi := { dst := some 34, op := Go.Op.nilCheck (Go.Operand.tmp 22), type := 0, pos := "huff.go:60", after := #[{ on := 0, ground := Go.Ground.data }], guard := none }) (v := ?_) rfl (by kernel_rfl) (by kernel_rfl) (by kernel_rfl) (fun _ _ _ h => h) (Or.inl ⟨by rfl, ?_⟩) (trivial) ?_
      rotate_left 1
      · intro w5 hSw
        go_simp; all_goals (with_reducible rfl)
      try simp only [Act.put, List.setIfInBounds_toArray, List.set_cons_zero, List.set_cons_succ]
      refine wpAnyH_take (i := 13) (oi := { dst := some 35, op := Go.Op.fieldAddr 118 (Go.Operand.tmp 34) 1, type := 0, pos := "huff.go:60", after := #[{ on := 12, ground := Go.Ground.data }], guard := none }) (v := ?_) rfl (by kernel_rfl) (by kernel_rfl) (by kernel_rfl) (fun _ _ _ h => h) (Or.inl ⟨by rfl, ?_⟩) (trivial) ?_
      rotate_left 1
      · intro w5 hSw
        go_simp; all_goals (with_reducible rfl)
      try simp only [Act.put, List.setIfInBounds_toArray, List.set_cons_zero, List.set_cons_succ]
      refine wpAnyH_ready (rs := [8, 10]) (by kernel_rfl) (by simp) ?_
      refine (AllReadyH.cons (o := { dst := some 30, op := Go.Op.load 57 (Go.Operand.tmp 29), type := 57, pos := "huff.go:60", after := #[{ on := 7, ground := Go.Ground.data }], guard := none }) rfl (fun K hK => ?_) (AllReadyH.cons (o := { dst := some 32, op := Go.Op.buildSlice 57 1 #[(0, Go.Operand.tmp 31)], type := 57, pos := "huff.go:60", after := #[{ on := 9, ground := Go.Ground.data }], guard := none }) rfl (fun K hK => ?_) AllReadyH.nil))
      · go_simp
        refine hK.out _ _ (trivial) (fun _ => ?_)
        clear hK K
        try simp only [Act.put, List.setIfInBounds_toArray, List.set_cons_zero, List.set_cons_succ]
        refine wpAnyH_ready (rs := [10]) (by kernel_rfl) (by simp) ?_
        refine (AllReadyH.cons (o := { dst := some 32, op := Go.Op.buildSlice 57 1 #[(0, Go.Operand.tmp 31)], type := 57, pos := "huff.go:60", after := #[{ on := 9, ground := Go.Ground.data }], guard := none }) rfl (fun K hK => ?_) AllReadyH.nil)
        go_simp
        refine hK.out _ _ (trivial) (fun _ => ?_)
        clear hK K
        try simp only [Act.put, List.setIfInBounds_toArray, List.set_cons_zero, List.set_cons_succ]
        refine wpAnyH_ready (rs := [11]) (by kernel_rfl) (by simp) ?_
        refine (AllReadyH.cons (o := { dst := some 33, op := Go.Op.call { callee := Go.Callee.builtin Go.Builtin.append, args := #[Go.Operand.tmp 30, Go.Operand.tmp 32], argTypes := #[57, 57] }, type := 57, pos := "huff.go:60", after := #[{ on := 8, ground := Go.Ground.data }, { on := 10, ground := Go.Ground.data }], guard := none }) rfl (fun K hK => ?_) AllReadyH.nil)
        refine held_app (by rfl) (.tmp 30) (.tmp 32) 57 rfl _ _ (.slice a3 m3 c3) rfl rfl (Hrun.out) ?_
        refine hK.out _ _ (trivial) (fun _ => ?_)
        clear hK K
        try simp only [Act.put, List.setIfInBounds_toArray, List.set_cons_zero, List.set_cons_succ]
        refine wpAnyH_take (i := 14) (oi := { dst := some 36, op := Go.Op.indexAddr 116 (Go.Operand.tmp 35) (Go.Operand.tmp 23), type := 0, pos := "huff.go:60", after := #[{ on := 13, ground := Go.Ground.data }, { on := 1, ground := Go.Ground.data }, { on := 0, ground := Go.Ground.phase }, { on := 1, ground := Go.Ground.phase }, { on := 2, ground := Go.Ground.phase }, { on := 3, ground := Go.Ground.phase }, { on := 4, ground := Go.Ground.phase }, { on := 5, ground := Go.Ground.phase }, { on := 6, ground := Go.Ground.phase }, { on := 7, ground := Go.Ground.phase }, { on := 8, ground := Go.Ground.phase }, { on := 9, ground := Go.Ground.phase }, { on := 10, ground := Go.Ground.phase }, { on := 11, ground := Go.Ground.phase }], guard := none }) (v := ?_) rfl (by kernel_rfl) (by kernel_rfl) (by kernel_rfl) (fun _ _ _ h => h) (Or.inl ⟨by rfl, ?_⟩) (trivial) ?_
        rotate_left 1
        · intro w5 hSw
          go_simp; all_goals (with_reducible rfl)
        try simp only [Act.put, List.setIfInBounds_toArray, List.set_cons_zero, List.set_cons_succ]
        refine wpAnyH_take (i := 15) (oi := { dst := some 37, op := Go.Op.fieldAddr 115 (Go.Operand.tmp 36) 1, type := 0, pos := "huff.go:60", after := #[{ on := 14, ground := Go.Ground.data }, { on := 0, ground := Go.Ground.phase }, { on := 1, ground := Go.Ground.phase }, { on := 2, ground := Go.Ground.phase }, { on := 3, ground := Go.Ground.phase }, { on := 4, ground := Go.Ground.phase }, { on := 5, ground := Go.Ground.phase }, { on := 6, ground := Go.Ground.phase }, { on := 7, ground := Go.Ground.phase }, { on := 8, ground := Go.Ground.phase }, { on := 9, ground := Go.Ground.phase }, { on := 10, ground := Go.Ground.phase }, { on := 11, ground := Go.Ground.phase }], guard := none }) (v := ?_) rfl (by kernel_rfl) (by kernel_rfl) (by kernel_rfl) (fun _ _ _ h => h) (Or.inl ⟨by rfl, ?_⟩) (trivial) ?_
        rotate_left 1
        · intro w5 hSw
          go_simp; all_goals (with_reducible rfl)
        try simp only [Act.put, List.setIfInBounds_toArray, List.set_cons_zero, List.set_cons_succ]
        refine wpAnyH_ready (rs := [16]) (by kernel_rfl) (by simp) ?_
        refine (AllReadyH.cons (o := { dst := none, op := Go.Op.store 57 (Go.Operand.tmp 37) (Go.Operand.tmp 33), type := 0, pos := "huff.go:60", after := #[{ on := 15, ground := Go.Ground.data }, { on := 11, ground := Go.Ground.data }, { on := 11, ground := Go.Ground.chain }, { on := 0, ground := Go.Ground.phase }, { on := 1, ground := Go.Ground.phase }, { on := 2, ground := Go.Ground.phase }, { on := 3, ground := Go.Ground.phase }, { on := 4, ground := Go.Ground.phase }, { on := 5, ground := Go.Ground.phase }, { on := 6, ground := Go.Ground.phase }, { on := 7, ground := Go.Ground.phase }, { on := 8, ground := Go.Ground.phase }, { on := 9, ground := Go.Ground.phase }, { on := 10, ground := Go.Ground.phase }, { on := 11, ground := Go.Ground.phase }], guard := none }) rfl (fun K hK => ?_) AllReadyH.nil)
        go_simp
        refine hK.out _ _ (trivial) (fun _ => ?_)
        clear hK K
        try simp only [Act.put, List.setIfInBounds_toArray, List.set_cons_zero, List.set_cons_succ]
        refine wpAnyH_done (by kernel_rfl) ?_ _
        go_wp2
        go_roundw
        case rel => exact ⟨k + 1, upd v n (.slice a3 m3 c3), by omega, by go_num, HG4, HC4, HW4, HB4⟩
        case measure => simp [intOf]; omega
      · go_simp
        refine hK.out _ _ (trivial) (fun _ => ?_)
        clear hK K
        try simp only [Act.put, List.setIfInBounds_toArray, List.set_cons_zero, List.set_cons_succ]
        refine wpAnyH_ready (rs := [8]) (by kernel_rfl) (by simp) ?_
        refine (AllReadyH.cons (o := { dst := some 30, op := Go.Op.load 57 (Go.Operand.tmp 29), type := 57, pos := "huff.go:60", after := #[{ on := 7, ground := Go.Ground.data }], guard := none }) rfl (fun K hK => ?_) AllReadyH.nil)
        go_simp
        refine hK.out _ _ (trivial) (fun _ => ?_)
        clear hK K
        try simp only [Act.put, List.setIfInBounds_toArray, List.set_cons_zero, List.set_cons_succ]
        refine wpAnyH_ready (rs := [11]) (by kernel_rfl) (by simp) ?_
        refine (AllReadyH.cons (o := { dst := some 33, op := Go.Op.call { callee := Go.Callee.builtin Go.Builtin.append, args := #[Go.Operand.tmp 30, Go.Operand.tmp 32], argTypes := #[57, 57] }, type := 57, pos := "huff.go:60", after := #[{ on := 8, ground := Go.Ground.data }, { on := 10, ground := Go.Ground.data }], guard := none }) rfl (fun K hK => ?_) AllReadyH.nil)
        refine held_app (by rfl) (.tmp 30) (.tmp 32) 57 rfl _ _ (.slice a3 m3 c3) rfl rfl (Hrun.out) ?_
        refine hK.out _ _ (trivial) (fun _ => ?_)
        clear hK K
        try simp only [Act.put, List.setIfInBounds_toArray, List.set_cons_zero, List.set_cons_succ]
        refine wpAnyH_take (i := 14) (oi := { dst := some 36, op := Go.Op.indexAddr 116 (Go.Operand.tmp 35) (Go.Operand.tmp 23), type := 0, pos := "huff.go:60", after := #[{ on := 13, ground := Go.Ground.data }, { on := 1, ground := Go.Ground.data }, { on := 0, ground := Go.Ground.phase }, { on := 1, ground := Go.Ground.phase }, { on := 2, ground := Go.Ground.phase }, { on := 3, ground := Go.Ground.phase }, { on := 4, ground := Go.Ground.phase }, { on := 5, ground := Go.Ground.phase }, { on := 6, ground := Go.Ground.phase }, { on := 7, ground := Go.Ground.phase }, { on := 8, ground := Go.Ground.phase }, { on := 9, ground := Go.Ground.phase }, { on := 10, ground := Go.Ground.phase }, { on := 11, ground := Go.Ground.phase }], guard := none }) (v := ?_) rfl (by kernel_rfl) (by kernel_rfl) (by kernel_rfl) (fun _ _ _ h => h) (Or.inl ⟨by rfl, ?_⟩) (trivial) ?_
        rotate_left 1
        · intro w5 hSw
          go_simp; all_goals (with_reducible rfl)
        try simp only [Act.put, List.setIfInBounds_toArray, List.set_cons_zero, List.set_cons_succ]
        refine wpAnyH_take (i := 15) (oi := { dst := some 37, op := Go.Op.fieldAddr 115 (Go.Operand.tmp 36) 1, type := 0, pos := "huff.go:60", after := #[{ on := 14, ground := Go.Ground.data }, { on := 0, ground := Go.Ground.phase }, { on := 1, ground := Go.Ground.phase }, { on := 2, ground := Go.Ground.phase }, { on := 3, ground := Go.Ground.phase }, { on := 4, ground := Go.Ground.phase }, { on := 5, ground := Go.Ground.phase }, { on := 6, ground := Go.Ground.phase }, { on := 7, ground := Go.Ground.phase }, { on := 8, ground := Go.Ground.phase }, { on := 9, ground := Go.Ground.phase }, { on := 10, ground := Go.Ground.phase }, { on := 11, ground := Go.Ground.phase }], guard := none }) (v := ?_) rfl (by kernel_rfl) (by kernel_rfl) (by kernel_rfl) (fun _ _ _ h => h) (Or.inl ⟨by rfl, ?_⟩) (trivial) ?_
        rotate_left 1
        · intro w5 hSw
          go_simp; all_goals (with_reducible rfl)
        try simp only [Act.put, List.setIfInBounds_toArray, List.set_cons_zero, List.set_cons_succ]
        refine wpAnyH_ready (rs := [16]) (by kernel_rfl) (by simp) ?_
        refine (AllReadyH.cons (o := { dst := none, op := Go.Op.store 57 (Go.Operand.tmp 37) (Go.Operand.tmp 33), type := 0, pos := "huff.go:60", after := #[{ on := 15, ground := Go.Ground.data }, { on := 11, ground := Go.Ground.data }, { on := 11, ground := Go.Ground.chain }, { on := 0, ground := Go.Ground.phase }, { on := 1, ground := Go.Ground.phase }, { on := 2, ground := Go.Ground.phase }, { on := 3, ground := Go.Ground.phase }, { on := 4, ground := Go.Ground.phase }, { on := 5, ground := Go.Ground.phase }, { on := 6, ground := Go.Ground.phase }, { on := 7, ground := Go.Ground.phase }, { on := 8, ground := Go.Ground.phase }, { on := 9, ground := Go.Ground.phase }, { on := 10, ground := Go.Ground.phase }, { on := 11, ground := Go.Ground.phase }], guard := none }) rfl (fun K hK => ?_) AllReadyH.nil)
        go_simp
        refine hK.out _ _ (trivial) (fun _ => ?_)
        clear hK K
        try simp only [Act.put, List.setIfInBounds_toArray, List.set_cons_zero, List.set_cons_succ]
        refine wpAnyH_done (by kernel_rfl) ?_ _
        go_wp2
        go_roundw
        case rel => exact ⟨k + 1, upd v n (.slice a3 m3 c3), by omega, by go_num, HG4, HC4, HW4, HB4⟩
        case measure => simp [intOf]; omega
    · obtain rfl : L = k := by omega
      have HG1 : Hid (Grp wr (gc + 1) v (syms l)) := by have := HG.out; rw [HL.out] at this; exact this
      have HC1 : Hid (Whole wr gc 118 (ccells (.slice (some ⟨gw, 0, none⟩) L L) (firstTo l 1) v).toArray) := by
        show Whole _ _ _ _
        rw [ccells_congr (F := firstTo l 1) (F' := fun _ => 0) (fun k _ => firstTo_start l k)]; exact HC.out
      have HW1 : Hid (Whole wr gw 120 (wcells (wordsTo l 1 0)).toArray) := by have := HW.out; rw [HL.out, wordsTo_start] at this; exact this
      have HB1 := HB
      obtain ⟨X0, hX0⟩ : ∃ X, X = wr := ⟨_, rfl⟩
      subst hX0
      have hfs : Hid (∀ n, 1 ≤ n → n ≤ 15 → 2 * nxt l (n - 1) = fst l n ∧ nxt l (n - 1) < 10000000 ∧ fst l n + (syms l n).length = nxt l n ∧ nxt l n < 10000000) := fun n h1 h2 => by
        have hl2 : l.length ≤ 288 := by have := HL.out; omega
        obtain ⟨m, rfl⟩ : ∃ m, n = m + 1 := ⟨n - 1, by omega⟩
        exact ⟨rfl, nxt_lt l hl2 _ (by omega), rfl, nxt_lt l hl2 _ (by omega)⟩
      clear HG HC HW HB hlt hk hcw
      go_wp2_with fail
      go_loopw [6, 7] (fun x y W => ∃ (n : Nat), 1 ≤ n ∧ n ≤ 16 ∧ y = .int .i64 (n : Int) ∧ x = .int .u32 ((nxt l (n - 1) : Nat) : Int) ∧ Hid (Grp W (gc + 1) v (syms l)) ∧ Hid (Whole W gc 118 (ccells (.slice (some ⟨gw, 0, none⟩) L L) (firstTo l n) v).toArray) ∧ Hid (Whole W gw 120 (wcells (wordsTo l n 0)).toArray) ∧ Hid (Below w.heap.size w W)) (fun _ y _ => 16 - (intOf y).toNat)
      case atStart => exact ⟨1, by omega, by omega, rfl, rfl, HG1, HC1, HW1, HB1⟩
      case round =>
        obtain ⟨n, hn1, hn2, rfl, rfl, HG, HC, HW, HB⟩ := hrel
        clear HG1 HC1 HW1 HB1
        by_cases hlt : n ≤ 15
        · obtain ⟨g1, g2, g3, g4⟩ := hfs.out n hn1 hlt
          have hown := HG.out.own n (by omega)
          obtain ⟨a, cc, hvn, hac, hcm, _, hNm⟩ := hown.nums
          have hcz : wr.cell? ⟨gc, 1 + n * 2 + 1, none⟩ = some (.slice a (syms l n).length cc) := by rw [HC.out.cell, ← hvn]; simpa using ccells_syms _ _ v (show n < 16 by omega)
          have hcf : wr.frozen? ⟨gc, 1 + n * 2, none⟩ = false := HC.out.frozen _
          have hcv : wr.cell? ⟨gc, 1 + n * 2, none⟩ = some (.int .u32 (firstTo l n n : Int)) := by rw [HC.out.cell]; simpa using ccells_first _ _ v (show n < 16 by omega)
          have HC2 : Hid (Whole (wr.setCell ⟨gc, 1 + n * 2, none⟩ (.int .u32 ((fst l n : Nat) : Int))) gc 118 (ccells (.slice (some ⟨gw, 0, none⟩) L L) (firstTo l (n + 1)) v).toArray) := by
            have := HC.out.setf (show n < 16 by omega) (fst l n)
            rw [firstTo_next l hn1] at this; exact this
          have oS : Only (fun b => b = gc) wr (wr.setCell ⟨gc, 1 + n * 2, none⟩ (.int .u32 ((fst l n : Nat) : Int))) := Only.setCell (S := fun b => b = gc) (Only.refl _ _) (p := ⟨gc, 1 + n * 2, none⟩) (fun _ => rfl) _
          have HG2 := Lib.hid (HG.out.only oS (fun b hb1 _ e => by omega))
          have HW2 := Lib.hid (HW.out.only oS (by have := Hgw.out; have := Hgc.out; omega))
          have HB2 := Lib.hid (HB.out.setCell (p := ⟨gc, 1 + n * 2, none⟩) (by have := Hgc.out; show _ ≤ gc; omega) (.int .u32 ((fst l n : Nat) : Int)))
          have hcz2 : (wr.setCell ⟨gc, 1 + n * 2, none⟩ (.int .u32 ((fst l n : Nat) : Int))).cell? ⟨gc, 1 + n * 2 + 1, none⟩ = some (.slice a (syms l n).length cc) := by rw [HC2.out.cell, ← hvn]; simpa using ccells_syms _ _ v (show n < 16 by omega)
          have w1 : IntKind.u32.wrap (((nxt l (n - 1) : Nat) : Int) * 2) = ((fst l n : Nat) : Int) := by rw [IntWalk.u32_in _ ⟨by omega, by omega⟩]; omega
          have w2 : ((nxt l (n - 1) : Nat) : Int) * 2 = ((fst l n : Nat) : Int) := by omega
          have hna : Hid (∀ W, Hid (Grp W (gc + 1) v (syms l)) → ∀ j, j < (syms l n).length → ∃ b off, a = some ⟨b, off, none⟩ ∧ b < W.heap.size ∧ W.cell? ⟨b, off + j, none⟩ = some (.int .i64 (((syms l n).getD j 0 : Nat) : Int))) := fun W hG j hj => by
            obtain ⟨a', cc', hvn', _, _, _, hNm'⟩ := (hG.out.own n (by omega)).nums
            rw [hvn] at hvn'
            injection hvn' with e1 _ e2
            subst e1 e2
            obtain ⟨b, off, rfl, hb, hcl⟩ := hNm' (by omega)
            exact ⟨b, off, rfl, hb, hcl j hj⟩
          have Hsl : Hid ((syms l n).length ≤ 288) := by have := syms_len l n; show _ ≤ _; have := HL.out; omega
          have HFs := Lib.hid g3
          generalize hF : fst l n = F at *
          have HF := Lib.hid hF
          obtain ⟨M, hM⟩ : ∃ M, (syms l n).length = M := ⟨_, rfl⟩
          rw [hM] at hcz hcz2 Hsl hna HFs g3
          have HM := Lib.hid hM
          have hn0 : (0 : Int) ≤ (n : Int) := by omega
          have hn16 : (n : Int) < 16 := by omega
          have hFl : F + M < 10000000 := by omega
          clear hown hvn hac hcm hNm g1 g2 g3 g4 hF hM HC HG HW HB oS
          go_wp2_with fail
          go_loopw [6, 60] (fun x y W => ∃ (j : Nat), j ≤ M ∧ y = .int .i64 (j : Int) ∧ x = .int .u32 ((F + j : Nat) : Int) ∧ Hid (Grp W (gc + 1) v (syms l)) ∧ Hid (Whole W gc 118 (ccells (.slice (some ⟨gw, 0, none⟩) L L) (firstTo l (n + 1)) v).toArray) ∧ Hid (Whole W gw 120 (wcells (wordsTo l n j)).toArray) ∧ Hid (Below w.heap.size w W)) (fun _ y _ => M - (intOf y).toNat)
          case atStart => exact ⟨0, by omega, rfl, rfl, HG2, HC2, HW2, HB2⟩
          case round =>
            obtain ⟨j, hj, rfl, rfl, HG, HC, HW, HB⟩ := hrel
            clear HG2 HC2 HW2 HB2 hcz hcz2 hcf hcv w1 w2
            by_cases hlt2 : j < M
            · obtain ⟨b2, o2, rfl, hb2, q0⟩ := hna.out wr HG j hlt2
              have hjs : j < (syms l n).length := by have := HM.out; omega
              have hgj : (syms l n)[j]? = some ((syms l n).getD j 0) := by rw [List.getElem?_eq_getElem hjs]; simp [hjs]
              obtain ⟨hi1', _, _⟩ := syms_get.1 hgj
              have hnx := wordsTo_next hgj (show 0 < n by omega)
              generalize (syms l n).getD j 0 = i at *
              have hiL : i < L := by have := HL.out; omega
              have e0 : wr.cell? ⟨gc, 0, none⟩ = some (.slice (some ⟨gw, 0, none⟩) L L) := by rw [HC.out.cell]; rfl
              have hlw : i < (wordsTo l n j).length := by rw [wordsTo_length]; exact hi1'
              obtain ⟨x0, x1⟩ := wcells_get (wordsTo l n j) i hlw
              have hx0 : wr.cell? ⟨gw, i * 2, none⟩ = some (.int .u32 ((wordsTo l n j)[i].1 : Int)) := by rw [HW.out.cell]; simpa using x0
              have hx1 : wr.cell? ⟨gw, i * 2 + 1, none⟩ = some (.int .i64 ((wordsTo l n j)[i].2 : Int)) := by rw [HW.out.cell]; simpa using x1
              have hf0 : wr.frozen? ⟨gw, i * 2, none⟩ = false := HW.out.frozen _
              have hf1 : wr.frozen? ⟨gw, i * 2 + 1, none⟩ = false := HW.out.frozen _
              have HW3 : Hid (Whole ((wr.setCell ⟨gw, i * 2, none⟩ (.int .u32 ((F + j : Nat) : Int))).setCell ⟨gw, i * 2 + 1, none⟩ (.int .i64 (n : Int))) gw 120 (wcells (wordsTo l n (j + 1))).toArray) := by
                have := HW.out.setw hlw (F + j) n
                rw [← HF.out, hnx] at this
                rw [← HF.out]; exact this
              have oS : Only (fun b => b = gw) wr ((wr.setCell ⟨gw, i * 2, none⟩ (.int .u32 ((F + j : Nat) : Int))).setCell ⟨gw, i * 2 + 1, none⟩ (.int .i64 (n : Int))) :=
                Only.setCell (S := fun b => b = gw) (Only.setCell (S := fun b => b = gw) (Only.refl _ _) (p := ⟨gw, i * 2, none⟩) (fun _ => rfl) _) (p := ⟨gw, i * 2 + 1, none⟩) (fun _ => rfl) _
              have HG3 := Lib.hid (HG.out.only oS (fun b hb1 _ e => by have := Hgw.out; have := Hgc.out; omega))
              have HC3 := Lib.hid (HC.out.only oS (by have := Hgw.out; have := Hgc.out; omega))
              have HB3 := Lib.hid (HB.out.trans (oS.below (fun b hb2 e => by have := Hgw.out; omega) HB.out.size))
              generalize (wordsTo l n j)[i] = pw at *
              have hi0 : (0 : Int) ≤ (i : Int) := by omega
              have hiL2 : (i : Int) < (L : Int) := by omega
              have hj0 : (0 : Int) ≤ (j : Int) := by omega
              have hjM : (j : Int) < (M : Int) := by omega
              have w3 : IntKind.u32.wrap (((F + j : Nat) : Int) + 1) = ((F + (j + 1) : Nat) : Int) := by rw [IntWalk.u32_in _ ⟨by omega, by omega⟩]; omega
              have w4 : ((F + j : Nat) : Int) + 1 = ((F + (j + 1) : Nat) : Int) := by omega
              have HM3 : Hid (M ≤ 288) := Hsl
              clear hjs hgj hi1' hnx hlw x0 x1 oS HG HC HW HB
              go_wp2_with fail
              go_roundw
              case rel => exact ⟨j + 1, by omega, by go_num, by first | rfl | (simp; omega), HG3, HC3, HW3, HB3⟩
              case measure => simp [intOf]; omega
            · obtain rfl : M = j := by omega
              have HW3 : Hid (Whole wr gw 120 (wcells (wordsTo l (n + 1) 0)).toArray) := by have := HW.out; rw [← HM.out, wordsTo_all] at this; exact this
              have hnn : F + M = nxt l n := HFs.out
              have hnn2 : n + 1 - 1 = n := by omega
              have HM3 : Hid (M ≤ 288) := Hsl
              have Hnn := Lib.hid hnn
              have Hnn2 := Lib.hid hnn2
              clear hnn hnn2 HW
              go_wp2_with fail
              go_roundw
              case rel => exact ⟨n + 1, by omega, by omega, by go_num, by rw [Hnn2.out, ← Hnn.out], HG, HC, HW3, HB⟩
              case measure => simp [intOf]; omega
        · obtain rfl : n = 16 := by omega
          have HW3 : Hid (Whole wr gw 120 (wcells (words l)).toArray) := by have := HW.out; rw [wordsTo_end Hb.out] at this; exact this
          have Hgl : Hid (w.heap.size < gc) := by show _ < _; have := Hgc.out; omega
          have Hfin : Hid (CodeAt wr (gc + 1) gc l) := by
            refine ⟨gw, v, by have := Hgw.out; have := Hgc.out; omega, ?_, HW3.out, HG.out⟩
            · have := HC.out; rw [HL.out] at this; exact this
          clear hlt hn1 hn2 HW
          go_wp2_with fail
          go_ret
          exact ⟨gc, rfl, Hfin.out, HB.out⟩
end Go.Proofs.Ytngnhkghpnamoaa
