/- Layer 13: the writer's numbers. -/
import Derived.Test.YtlbplefmpbpchaaArch8
import Derived.ArgAppend
import Derived.Lib.SlBytesConst
namespace Go.Proofs.Ytlbplefmpbpchaa
open Go.RowKit
set_option linter.unusedVariables false
set_option maxRecDepth 100000

theorem own8_block {W : World} {base k : Nat} {v : Value} {l : List Nat} (h : Own8 W base v l) (e : v.ownBlock = some k) : ∃ cur, W.heap[k]? = some (.cells cur 5 (0, 0)) := by
  rcases h.2 with ⟨rfl, _⟩ | ⟨g, cap, cur, rfl, _, hh, _⟩
  · cases e
  · injection e with e; subst e; exact ⟨cur, hh⟩
/-- A row of bytes of the call's own, or one that is full. -/
def Row8 (W : World) (base : Nat) (v : Value) (l : List Nat) : Prop :=
  Own8 W base v l ∨ ∃ k cur fr, v = .slice (some ⟨k, 0, none⟩) l.length l.length ∧ base ≤ k ∧ W.heap[k]? = some (.cells cur 5 fr) ∧ cur.toList = u8s l
section
variable {W W' : World} {base : Nat} {v : Value} {l : List Nat}
theorem Row8.form (h : Row8 W base v l) : ∃ a c, v = .slice a l.length c ∧ Nums .u8 W W.heap.size a l := by
  rcases h with h | ⟨k, cur, fr, rfl, hb, hh, hc⟩
  · obtain ⟨a, c, h1, _, _, _, h2⟩ := h.nums
    exact ⟨a, c, h1, h2⟩
  · refine ⟨_, _, rfl, fun _ => ⟨k, 0, rfl, (Array.getElem?_eq_some_iff.1 hh).1, fun i hi => ?_⟩⟩
    rw [cell_of_row W k _ _ _ fr hh, Nat.zero_add, ← Array.getElem?_toList, hc]
    simp [u8s, hi]
theorem Row8.lt (h : Row8 W base v l) : ∀ k, v.ownBlock = some k → base ≤ k ∧ k < W.heap.size := by
  rcases h with h | ⟨k, cur, fr, rfl, hb, hh, hc⟩
  · exact h.lt
  · intro k2 e; injection e with e; subst e; exact ⟨hb, (Array.getElem?_eq_some_iff.1 hh).1⟩
theorem Row8.block (h : Row8 W base v l) {k : Nat} (e : v.ownBlock = some k) : ∃ cur fr, W.heap[k]? = some (.cells cur 5 fr) := by
  rcases h with h | ⟨k2, cur, fr, rfl, hb, hh, hc⟩
  · obtain ⟨cur, h⟩ := own8_block h e; exact ⟨cur, _, h⟩
  · injection e with e; subst e; exact ⟨cur, fr, hh⟩
theorem Row8.only {S : Nat → Prop} (h : Row8 W base v l) (ho : Only S W W') (hn : ∀ b, v.ownBlock = some b → ¬ S b) : Row8 W' base v l := by
  rcases h with h | ⟨k, cur, fr, rfl, hb, hh, hc⟩
  · exact .inl (h.only ho hn)
  · exact .inr ⟨k, cur, fr, rfl, hb, (ho.block k (Array.getElem?_eq_some_iff.1 hh).1 (hn k rfl)).trans hh, hc⟩
theorem Row8.alloc (h : Row8 W base v l) (o : Obj) : Row8 (W.alloc o) base v l := h.only ((Only.refl (fun _ => False) W).alloc o) (fun _ _ e => e)
theorem Row8.app (h : Row8 W base v l) (hB : base ≤ W.heap.size) (x : Nat) (hl : l.length ≤ 100000) (i1 : TypeInfo) (hi1 : Try.prog.info? 5 = some i1) (hy0 : i1.zero = some (.int .u8 0)) (hy1 : i1.size = 1) (hy2 : i1.bytes = 1) :
    ∃ v3 w3, (Builtin.append_ #[22, 22] 22 #[v, .slice (some ⟨W.drew.heap.size, 0, none⟩) 1 1]).run Try.prog (W.drew.alloc (.cells #[.int .u8 (x : Int)] 5)) = .ok v3 w3 ∧ Gone W base v (l ++ [x]) v3 w3 := by
  rcases h with h | ⟨k, cur, fr, rfl, hb, hh, hc⟩
  · have hown : (W.drew.alloc (.cells #[.int .u8 (x : Int)] 5)).ownsRow base 5 1 v l.length (u8s l) := (h.drew).alloc _
    obtain ⟨v3, w3, hrun, h2, h3, h5⟩ := run_append_vals (P := Try.prog) (w := W.drew.alloc (.cells #[.int .u8 (x : Int)] 5)) base 22 22 5 i1 _ 1 1 Try.underlying22 hi1 hy0 hy1 hy2 rfl (by omega) v l.length (u8s l) hown
      (W.drew.alloc (.cells #[.int .u8 (x : Int)] 5)).heap.size (some ⟨W.drew.heap.size, 0, none⟩) 1 1 [.int .u8 (x : Int)] (Vals.of_block (xs := [.int .u8 (x : Int)]) (heap_alloc_new W.drew _) rfl) (by simp [Value.oneCell']) (by unfold maxLen; omega) (by omega) (by simp; exact Nat.le_succ_of_le hB)
    exact ⟨v3, w3, hrun, Gone.undrew (Gone.grown h2 (by simp) (by simp [u8s]) ((World.grownBy_alloc W.drew _ _).trans h3) (by
        rcases h5 with h5 | h5
        · exact .inl h5
        · exact .inr ⟨_, h5, by simp⟩))⟩
  · have hlt := (Array.getElem?_eq_some_iff.1 hh).1
    have hh2 : (W.drew.alloc (.cells #[.int .u8 (x : Int)] 5)).heap[k]? = some (.cells cur 5 fr) := (Below.heap_alloc W.drew _ k hlt).trans hh
    obtain ⟨v3, w3, hrun, h2, h3⟩ := run_append_arg_grows (P := Try.prog) (W.drew.alloc (.cells #[.int .u8 (x : Int)] 5)) 22 22 5 i1 _ 1 1 Try.underlying22 hi1 hy0 hy1 hy2 rfl (by omega) ⟨k, 0, none⟩ l.length l.length (u8s l) (by rw [u8s_length, Nat.mul_one])
      (fun j u hj => by rw [add_none, cell_of_row _ k _ _ _ fr hh2, Nat.zero_add, ← Array.getElem?_toList, hc]; exact hj) ⟨W.drew.heap.size, 0, none⟩ 1 1 [.int .u8 (x : Int)] rfl
      (fun j u hj => by rw [add_none, cell_of_row _ W.drew.heap.size _ _ _ (0, 0) (heap_alloc_new W.drew _), Nat.zero_add, ← Array.getElem?_toList]; exact hj) (by omega) (by unfold maxLen; omega) (by omega)
    have hbase : base ≤ (W.drew.alloc (.cells #[.int .u8 (x : Int)] 5)).heap.size := by simp; exact Nat.le_succ_of_le hB
    have hg1 : W.drew.grownBy w3 none := (World.grownBy_alloc W.drew _ _).trans h3
    have ho3 : Own8 w3 base v3 (l ++ [x]) := by
      refine ⟨by simp [u8s], ?_⟩
      rcases h2.2 with hn | ⟨g, cap, cur2, q1, q2, q3⟩
      · have := hn.2; omega
      · have e : u8s l ++ [.int .u8 (x : Int)] = u8s (l ++ [x]) := by simp [u8s]
        rw [e] at q3
        rw [show (l ++ [x]).length = l.length + 1 by simp]
        exact .inr ⟨g, cap, cur2, q1, Nat.le_trans hbase q2, q3⟩
    refine ⟨v3, w3, hrun, Gone.undrew ⟨ho3, Only.of_grown hg1 (fun b e => by cases e), .inr ?_⟩⟩
    rcases h2.2 with hn | ⟨g, cap, cur2, q1, q2, q3⟩
    · have := hn.2; omega
    · exact ⟨g, by rw [q1]; rfl, Nat.le_trans (by simp) q2⟩
end
/-- A writer at block g has written the bytes l. -/
def WA (base g : Nat) (l : List Nat) (W : World) : Prop := ∃ v, Whole W g 50 #[v] ∧ Row8 W base v l ∧ v.ownBlock ≠ some g
/-- What a writer's calls keep: all below the base, and blocks of other types. -/
structure KW (base : Nat) (W W' : World) : Prop where
  below : Below base W W'
  same : ∀ (k : Nat) (cs : Array Value) (e : TypeId) (fz : Nat × Nat), W.heap[k]? = some (Obj.cells cs e fz) → e ≠ 50 → e ≠ 5 → W'.heap[k]? = W.heap[k]?
theorem KW.refl (base : Nat) (W : World) : KW base W W := ⟨Below.refl _ _, fun _ _ _ _ _ _ _ => rfl⟩
theorem KW.trans {n : Nat} {A B C : World} (h : KW n A B) (h' : KW n B C) : KW n A C :=
  ⟨h.below.trans h'.below, fun k cs e fz hk h1 h2 => (h'.same k cs e fz ((h.same k cs e fz hk h1 h2).trans hk) h1 h2).trans (h.same k cs e fz hk h1 h2)⟩
theorem KW.alloc {n : Nat} {A : World} (o : Obj) (hn : n ≤ A.heap.size) : KW n A (A.alloc o) :=
  ⟨(Below.refl n A).alloc hn o, fun k cs e fz hk _ _ => Below.heap_alloc A o k (Array.getElem?_eq_some_iff.1 hk).1⟩
theorem Whole.kw {n b : Nat} {t : TypeId} {cs : Array Value} {A B : World} (h : Whole A b t cs) (hk : KW n A B) (h1 : t ≠ 50) (h2 : t ≠ 5) : Whole B b t cs := (hk.same b _ _ _ h h1 h2).trans h
/-- A row that was appended to, and laid back into the writer. -/
theorem wa_store {W w3 : World} {base g : Nat} {v v3 : Value} {l m : List Nat} (hw : Whole W g 50 #[v]) (ho : Row8 W base v l) (hne : v.ownBlock ≠ some g) (hB : base ≤ W.heap.size) (hg : base ≤ g) (hG : Gone W base v m v3 w3) :
    WA base g m (w3.setCell ⟨g, 0, none⟩ v3) ∧ KW base W (w3.setCell ⟨g, 0, none⟩ v3) := by
  have hw3 := hw.only hG.only hne
  have hne3 : v3.ownBlock ≠ some g := fun e => by
    rcases hG.at_ with e1 | ⟨k, e1, hk⟩
    · rw [e1] at e; exact hne e
    · rw [e1] at e; injection e with e; have := hw.lt; omega
  refine ⟨⟨v3, by simpa using hw3.set 0 v3, .inl <| hG.own.only (Only.setCell (S := fun k => k = g) (Only.refl _ _) (p := ⟨g, 0, none⟩) (fun _ => rfl) _) (fun b hb e => hne3 (by rw [hb, e])), hne3⟩, (hG.only.below (fun b hb e => by have := (ho.lt b e).1; omega) hB).setCell (p := ⟨g, 0, none⟩) hg v3, ?_⟩
  intro k cs e fz hk h1 h2
  have hkg : k ≠ g := fun e1 => by
    subst e1
    have := hw.symm.trans hk
    injection this with this
    injection this with _ q2
    exact h1 q2.symm
  have hko : ¬ v.ownBlock = some k := fun e1 => by
    obtain ⟨cur, fr, hc⟩ := ho.block e1
    have := hc.symm.trans hk
    injection this with this
    injection this with _ q2
    exact h2 q2.symm
  exact (heap_setCell_other w3 ⟨g, 0, none⟩ k v3 hkg).trans (hG.only.block k (Array.getElem?_eq_some_iff.1 hk).1 hko)
set_option maxHeartbeats 8000000 in
theorem wnumber_any (base g V n : Nat) (l : List Nat) (w : World) (h : WA base g l w) (hB : base ≤ w.heap.size) (hg : base ≤ g) (hn : n ≤ 8) (hl : l.length ≤ 1000) :
    Calls Try.prog 15 #[.pointer (some ⟨g, 0, none⟩), .int .u64 (V : Int), .int .i64 (n : Int)] w fun e w' => e = .returned (.tuple #[]) ∧ WA base g (l ++ lowD V n) w' ∧ KW base w w' := by
  obtain ⟨i1, hi1, hy0, hy1, hy2⟩ := info_parts u8info
  have H := Lib.hid h
  clear h
  go_enter Try.func15, Try.ntmps15
  go_wp2_with fail
  obtain ⟨w0, rfl⟩ : ∃ w0, w0 = w := ⟨_, rfl⟩
  go_loopw [6, 8] (fun x6 x8 X => ∃ j : Nat, j ≤ n ∧ x8 = .int .i64 (j : Int) ∧ Hid (WA base g (l ++ lowD V j) X) ∧ Hid (KW base w0 X)) (fun x6 x8 _ => n - (intOf x8).toNat)
  case atStart => exact ⟨0, Nat.zero_le _, rfl, by show WA _ _ _ _; unfold lowD; rw [List.append_nil]; exact H.out, KW.refl _ _⟩
  case round =>
    clear H
    obtain ⟨j, hj, rfl, HW, HK⟩ := hrel
    by_cases h0 : j < n
    · obtain ⟨v, hw, ho, hne⟩ := HW.out
      have hBw : base ≤ wr.heap.size := Nat.le_trans hB HK.out.below.size
      obtain ⟨x, hx⟩ : ∃ x, x = V / 256 ^ j % 256 := ⟨_, rfl⟩
      obtain ⟨y, hy⟩ : ∃ y, y = V / 256 ^ j := ⟨_, rfl⟩
      have hlen : (l ++ lowD V j).length ≤ 1010 := by rw [List.length_append, lowD_length]; omega
      have HWn : Hid (l ++ lowD V (j + 1) = (l ++ lowD V j) ++ [x]) := by show _ = _; rw [lowD_snoc, hx, List.append_assoc]
      obtain ⟨m, hm⟩ : ∃ m, m = l ++ lowD V j := ⟨_, rfl⟩
      rw [← hm] at ho hlen HWn
      obtain ⟨v3, w3, hrun, hG⟩ := ho.app hBw x (by omega) i1 hi1 hy0 hy1 hy2
      obtain ⟨a3, c3, rfl, _⟩ := hG.own.nums
      obtain ⟨m3, hm3⟩ : ∃ z, z = (m ++ [x]).length := ⟨_, rfl⟩
      rw [← hm3] at hG hrun
      have hS := wa_store hw ho hne hBw hg hG
      have hW3 := hw.only hG.only hne
      have d0 := hW3.cell 0
      have f0 := hW3.frozen 0
      have c0 := hw.cell 0
      obtain ⟨a0, cc0, rfl, _⟩ := ho.form
      obtain ⟨m0, hm0⟩ : ∃ z, z = m.length := ⟨_, rfl⟩
      rw [← hm0] at d0 c0 hrun
      have c0a : (wr.alloc (.cells #[.int .u8 (x : Int)] 5)).cell? ⟨g, 0, none⟩ = some (.slice a0 m0 cc0) := by rw [hm0]; exact (hw.alloc _).cell 0
      simp only [List.getElem?_toArray, List.getElem?_cons_zero, List.getElem?_cons_succ] at d0 c0
      have HS := Lib.hid hS
      have Hrun := Lib.hid hrun
      have hx256 : x < 256 := by rw [hx]; exact Nat.mod_lt _ (by decide)
      have Hy := Lib.hid hy
      have Hx := Lib.hid hx
      clear hS hrun hG hW3 hw ho hne hm HW hy hx hm3 hm0 hlen
      obtain ⟨J, hJ⟩ : ∃ J, J = 8 * j := ⟨_, rfl⟩
      have HJ : Hid (IntKind.i64.wrap (8 * (j : Int)) = (J : Int) ∧ (J : Int) ≤ 64 ∧ (V : Int) / 2 ^ J = (y : Int)) := by
        refine ⟨by rw [IntKind.wrap_i64]; omega, by omega, ?_⟩
        rw [Hy.out, hJ, pow_256]
        have : ((2 : Int) ^ (8 * j)) = ((2 ^ (8 * j) : Nat) : Int) := by rw [Int.natCast_pow]; rfl
        rw [this]
        exact (Int.natCast_ediv _ _).symm
      have Hcv : Hid (IntKind.u8.wrap (y : Int) = (x : Int)) := by
        show _ = _
        rw [IntKind.wrap_u8, Hx.out, ← Hy.out]; omega
      clear hJ
      go_upto_region 3 with (fail)
      refine wp_region_held (S := fun _ => True) (by kernel_rfl) ?_
      refine wpAnyH_take (i := 0) (oi := { dst := some 11, op := Go.Op.move (Go.Operand.tmp 0), type := 49, pos := "arch.go:125", after := #[], guard := none }) (v := ?_) rfl (by kernel_rfl) (by kernel_rfl) (by kernel_rfl) (fun _ _ _ h => h) (Or.inl ⟨by rfl, ?_⟩) (trivial) ?_
      rotate_left 1
      · intro w5 hSw
        go_simp; all_goals (with_reducible rfl)
      try simp only [Act.put, List.setIfInBounds_toArray, List.set_cons_zero, List.set_cons_succ]
      refine wpAnyH_take (i := 1) (oi := { dst := some 12, op := Go.Op.move (Go.Operand.tmp 0), type := 49, pos := "arch.go:125", after := #[], guard := none }) (v := ?_) rfl (by kernel_rfl) (by kernel_rfl) (by kernel_rfl) (fun _ _ _ h => h) (Or.inl ⟨by rfl, ?_⟩) (trivial) ?_
      rotate_left 1
      · intro w5 hSw
        go_simp; all_goals (with_reducible rfl)
      try simp only [Act.put, List.setIfInBounds_toArray, List.set_cons_zero, List.set_cons_succ]
      refine wpAnyH_take (i := 2) (oi := { dst := some 13, op := Go.Op.nilCheck (Go.Operand.tmp 12), type := 0, pos := "arch.go:125", after := #[{ on := 1, ground := Go.Ground.data }], guard := none }) (v := ?_) rfl (by kernel_rfl) (by kernel_rfl) (by kernel_rfl) (fun _ _ _ h => h) (Or.inl ⟨by rfl, ?_⟩) (trivial) ?_
      rotate_left 1
      · intro w5 hSw
        go_simp; all_goals (with_reducible rfl)
      try simp only [Act.put, List.setIfInBounds_toArray, List.set_cons_zero, List.set_cons_succ]
      refine wpAnyH_take (i := 3) (oi := { dst := some 14, op := Go.Op.fieldAddr 50 (Go.Operand.tmp 13) 0, type := 0, pos := "arch.go:125", after := #[{ on := 2, ground := Go.Ground.data }], guard := none }) (v := ?_) rfl (by kernel_rfl) (by kernel_rfl) (by kernel_rfl) (fun _ _ _ h => h) (Or.inl ⟨by rfl, ?_⟩) (trivial) ?_
      rotate_left 1
      · intro w5 hSw
        go_simp; all_goals (with_reducible rfl)
      try simp only [Act.put, List.setIfInBounds_toArray, List.set_cons_zero, List.set_cons_succ]
      refine wpAnyH_take (i := 5) (oi := { dst := some 16, op := Go.Op.move (Go.Operand.tmp 1), type := 23, pos := "arch.go:125", after := #[], guard := none }) (v := ?_) rfl (by kernel_rfl) (by kernel_rfl) (by kernel_rfl) (fun _ _ _ h => h) (Or.inl ⟨by rfl, ?_⟩) (trivial) ?_
      rotate_left 1
      · intro w5 hSw
        go_simp; all_goals (with_reducible rfl)
      try simp only [Act.put, List.setIfInBounds_toArray, List.set_cons_zero, List.set_cons_succ]
      refine wpAnyH_take (i := 6) (oi := { dst := some 17, op := Go.Op.move (Go.Operand.tmp 6), type := 3, pos := "arch.go:125", after := #[], guard := none }) (v := ?_) rfl (by kernel_rfl) (by kernel_rfl) (by kernel_rfl) (fun _ _ _ h => h) (Or.inl ⟨by rfl, ?_⟩) (trivial) ?_
      rotate_left 1
      · intro w5 hSw
        go_simp; all_goals (with_reducible rfl)
      try simp only [Act.put, List.setIfInBounds_toArray, List.set_cons_zero, List.set_cons_succ]
      refine wpAnyH_take (i := 7) (oi := { dst := some 18, op := Go.Op.binOp Go.BinOp.mul 3 (Go.Operand.const (Go.Value.int Go.IntKind.i64 8)) (Go.Operand.tmp 17) 3, type := 3, pos := "arch.go:125", after := #[{ on := 6, ground := Go.Ground.data }], guard := none }) (v := ?_) rfl (by kernel_rfl) (by kernel_rfl) (by kernel_rfl) (fun _ _ _ h => h) (Or.inl ⟨by rfl, ?_⟩) (trivial) ?_
      rotate_left 1
      · intro w5 hSw
        have hm8 := HJ.out.1
        go_simp; all_goals (with_reducible rfl)
      try simp only [Act.put, List.setIfInBounds_toArray, List.set_cons_zero, List.set_cons_succ]
      refine wpAnyH_take (i := 8) (oi := { dst := some 19, op := Go.Op.binOp Go.BinOp.shr 23 (Go.Operand.tmp 16) (Go.Operand.tmp 18) 3, type := 23, pos := "arch.go:125", after := #[{ on := 5, ground := Go.Ground.data }, { on := 7, ground := Go.Ground.data }], guard := none }) (v := ?_) rfl (by kernel_rfl) (by kernel_rfl) (by kernel_rfl) (fun _ _ _ h => h) (Or.inl ⟨by rfl, ?_⟩) (trivial) ?_
      rotate_left 1
      · intro w5 hSw
        have hJ0 : (0 : Int) ≤ (J : Int) := by omega
        have hJ1 : (J : Int) ≤ 64 := HJ.out.2.1
        have hsh := HJ.out.2.2
        go_simp; all_goals (with_reducible rfl)
      try simp only [Act.put, List.setIfInBounds_toArray, List.set_cons_zero, List.set_cons_succ]
      refine wpAnyH_take (i := 9) (oi := { dst := some 20, op := Go.Op.convert 23 5 (Go.Operand.tmp 19), type := 5, pos := "arch.go:125", after := #[{ on := 8, ground := Go.Ground.data }], guard := none }) (v := ?_) rfl (by kernel_rfl) (by kernel_rfl) (by kernel_rfl) (fun _ _ _ h => h) (Or.inl ⟨by rfl, ?_⟩) (trivial) ?_
      rotate_left 1
      · intro w5 hSw
        have hcv := Hcv.out
        go_simp; all_goals (with_reducible rfl)
      try simp only [Act.put, List.setIfInBounds_toArray, List.set_cons_zero, List.set_cons_succ]
      refine wpAnyH_ready (rs := [4, 10]) (by kernel_rfl) (by simp) ?_
      refine (AllReadyH.cons (o := { dst := some 15, op := Go.Op.load 22 (Go.Operand.tmp 14), type := 22, pos := "arch.go:125", after := #[{ on := 3, ground := Go.Ground.data }], guard := none }) rfl (fun K hK => ?_) (AllReadyH.cons (o := { dst := some 21, op := Go.Op.buildSlice 22 1 #[(0, Go.Operand.tmp 20)], type := 22, pos := "arch.go:125", after := #[{ on := 9, ground := Go.Ground.data }], guard := none }) rfl (fun K hK => ?_) AllReadyH.nil))
      · go_simp
        refine hK.out _ _ (trivial) (fun _ => ?_)
        clear hK K
        try simp only [Act.put, List.setIfInBounds_toArray, List.set_cons_zero, List.set_cons_succ]
        refine wpAnyH_ready (rs := [10]) (by kernel_rfl) (by simp) ?_
        refine (AllReadyH.cons (o := { dst := some 21, op := Go.Op.buildSlice 22 1 #[(0, Go.Operand.tmp 20)], type := 22, pos := "arch.go:125", after := #[{ on := 9, ground := Go.Ground.data }], guard := none }) rfl (fun K hK => ?_) AllReadyH.nil)
        go_simp
        refine hK.out _ _ (trivial) (fun _ => ?_)
        clear hK K
        try simp only [Act.put, List.setIfInBounds_toArray, List.set_cons_zero, List.set_cons_succ]
        refine wpAnyH_ready (rs := [11]) (by kernel_rfl) (by simp) ?_
        refine (AllReadyH.cons (o := { dst := some 22, op := Go.Op.call { callee := Go.Callee.builtin Go.Builtin.append, args := #[Go.Operand.tmp 15, Go.Operand.tmp 21], argTypes := #[22, 22] }, type := 22, pos := "arch.go:125", after := #[{ on := 4, ground := Go.Ground.data }, { on := 10, ground := Go.Ground.data }], guard := none }) rfl (fun K hK => ?_) AllReadyH.nil)
        refine held_app (by rfl) (.tmp 15) (.tmp 21) 22 rfl _ _ (.slice a3 m3 c3) rfl rfl (Hrun.out) ?_
        refine hK.out _ _ (trivial) (fun _ => ?_)
        clear hK K
        try simp only [Act.put, List.setIfInBounds_toArray, List.set_cons_zero, List.set_cons_succ]
        refine wpAnyH_take (i := 12) (oi := { dst := some 23, op := Go.Op.nilCheck (Go.Operand.tmp 11), type := 0, pos := "arch.go:125", after := #[{ on := 0, ground := Go.Ground.data }, { on := 0, ground := Go.Ground.phase }, { on := 1, ground := Go.Ground.phase }, { on := 2, ground := Go.Ground.phase }, { on := 3, ground := Go.Ground.phase }, { on := 4, ground := Go.Ground.phase }, { on := 5, ground := Go.Ground.phase }, { on := 6, ground := Go.Ground.phase }, { on := 7, ground := Go.Ground.phase }, { on := 8, ground := Go.Ground.phase }, { on := 9, ground := Go.Ground.phase }, { on := 10, ground := Go.Ground.phase }, { on := 11, ground := Go.Ground.phase }], guard := none }) (v := ?_) rfl (by kernel_rfl) (by kernel_rfl) (by kernel_rfl) (fun _ _ _ h => h) (Or.inl ⟨by rfl, ?_⟩) (trivial) ?_
        rotate_left 1
        · intro w5 hSw
          go_simp; all_goals (with_reducible rfl)
        try simp only [Act.put, List.setIfInBounds_toArray, List.set_cons_zero, List.set_cons_succ]
        refine wpAnyH_take (i := 13) (oi := { dst := some 24, op := Go.Op.fieldAddr 50 (Go.Operand.tmp 23) 0, type := 0, pos := "arch.go:125", after := #[{ on := 12, ground := Go.Ground.data }, { on := 0, ground := Go.Ground.phase }, { on := 1, ground := Go.Ground.phase }, { on := 2, ground := Go.Ground.phase }, { on := 3, ground := Go.Ground.phase }, { on := 4, ground := Go.Ground.phase }, { on := 5, ground := Go.Ground.phase }, { on := 6, ground := Go.Ground.phase }, { on := 7, ground := Go.Ground.phase }, { on := 8, ground := Go.Ground.phase }, { on := 9, ground := Go.Ground.phase }, { on := 10, ground := Go.Ground.phase }, { on := 11, ground := Go.Ground.phase }], guard := none }) (v := ?_) rfl (by kernel_rfl) (by kernel_rfl) (by kernel_rfl) (fun _ _ _ h => h) (Or.inl ⟨by rfl, ?_⟩) (trivial) ?_
        rotate_left 1
        · intro w5 hSw
          go_simp; all_goals (with_reducible rfl)
        try simp only [Act.put, List.setIfInBounds_toArray, List.set_cons_zero, List.set_cons_succ]
        refine wpAnyH_ready (rs := [14]) (by kernel_rfl) (by simp) ?_
        refine (AllReadyH.cons (o := { dst := none, op := Go.Op.store 22 (Go.Operand.tmp 24) (Go.Operand.tmp 22), type := 0, pos := "arch.go:125", after := #[{ on := 13, ground := Go.Ground.data }, { on := 11, ground := Go.Ground.data }, { on := 11, ground := Go.Ground.chain }, { on := 0, ground := Go.Ground.phase }, { on := 1, ground := Go.Ground.phase }, { on := 2, ground := Go.Ground.phase }, { on := 3, ground := Go.Ground.phase }, { on := 4, ground := Go.Ground.phase }, { on := 5, ground := Go.Ground.phase }, { on := 6, ground := Go.Ground.phase }, { on := 7, ground := Go.Ground.phase }, { on := 8, ground := Go.Ground.phase }, { on := 9, ground := Go.Ground.phase }, { on := 10, ground := Go.Ground.phase }, { on := 11, ground := Go.Ground.phase }], guard := none }) rfl (fun K hK => ?_) AllReadyH.nil)
        go_simp
        refine hK.out _ _ (trivial) (fun _ => ?_)
        clear hK K
        try simp only [Act.put, List.setIfInBounds_toArray, List.set_cons_zero, List.set_cons_succ]
        refine wpAnyH_done (by kernel_rfl) ?_ _
        have HW2 : Hid (WA base g (l ++ lowD V (j + 1)) (w3.setCell ⟨g, 0, none⟩ (.slice a3 m3 c3))) := by show WA _ _ _ _; rw [HWn.out]; exact HS.out.1
        have HK2 := Lib.hid (HK.out.trans HS.out.2)
        go_wp2_with fail
        exact ⟨⟨j + 1, by omega, congrArg (Value.int .i64) (by omega), HW2, HK2⟩, by simp [intOf]; omega⟩
      · go_simp
        refine hK.out _ _ (trivial) (fun _ => ?_)
        clear hK K
        try simp only [Act.put, List.setIfInBounds_toArray, List.set_cons_zero, List.set_cons_succ]
        refine wpAnyH_ready (rs := [4]) (by kernel_rfl) (by simp) ?_
        refine (AllReadyH.cons (o := { dst := some 15, op := Go.Op.load 22 (Go.Operand.tmp 14), type := 22, pos := "arch.go:125", after := #[{ on := 3, ground := Go.Ground.data }], guard := none }) rfl (fun K hK => ?_) AllReadyH.nil)
        go_simp
        refine hK.out _ _ (trivial) (fun _ => ?_)
        clear hK K
        try simp only [Act.put, List.setIfInBounds_toArray, List.set_cons_zero, List.set_cons_succ]
        refine wpAnyH_ready (rs := [11]) (by kernel_rfl) (by simp) ?_
        refine (AllReadyH.cons (o := { dst := some 22, op := Go.Op.call { callee := Go.Callee.builtin Go.Builtin.append, args := #[Go.Operand.tmp 15, Go.Operand.tmp 21], argTypes := #[22, 22] }, type := 22, pos := "arch.go:125", after := #[{ on := 4, ground := Go.Ground.data }, { on := 10, ground := Go.Ground.data }], guard := none }) rfl (fun K hK => ?_) AllReadyH.nil)
        refine held_app (by rfl) (.tmp 15) (.tmp 21) 22 rfl _ _ (.slice a3 m3 c3) rfl rfl (Hrun.out) ?_
        refine hK.out _ _ (trivial) (fun _ => ?_)
        clear hK K
        try simp only [Act.put, List.setIfInBounds_toArray, List.set_cons_zero, List.set_cons_succ]
        refine wpAnyH_take (i := 12) (oi := { dst := some 23, op := Go.Op.nilCheck (Go.Operand.tmp 11), type := 0, pos := "arch.go:125", after := #[{ on := 0, ground := Go.Ground.data }, { on := 0, ground := Go.Ground.phase }, { on := 1, ground := Go.Ground.phase }, { on := 2, ground := Go.Ground.phase }, { on := 3, ground := Go.Ground.phase }, { on := 4, ground := Go.Ground.phase }, { on := 5, ground := Go.Ground.phase }, { on := 6, ground := Go.Ground.phase }, { on := 7, ground := Go.Ground.phase }, { on := 8, ground := Go.Ground.phase }, { on := 9, ground := Go.Ground.phase }, { on := 10, ground := Go.Ground.phase }, { on := 11, ground := Go.Ground.phase }], guard := none }) (v := ?_) rfl (by kernel_rfl) (by kernel_rfl) (by kernel_rfl) (fun _ _ _ h => h) (Or.inl ⟨by rfl, ?_⟩) (trivial) ?_
        rotate_left 1
        · intro w5 hSw
          go_simp; all_goals (with_reducible rfl)
        try simp only [Act.put, List.setIfInBounds_toArray, List.set_cons_zero, List.set_cons_succ]
        refine wpAnyH_take (i := 13) (oi := { dst := some 24, op := Go.Op.fieldAddr 50 (Go.Operand.tmp 23) 0, type := 0, pos := "arch.go:125", after := #[{ on := 12, ground := Go.Ground.data }, { on := 0, ground := Go.Ground.phase }, { on := 1, ground := Go.Ground.phase }, { on := 2, ground := Go.Ground.phase }, { on := 3, ground := Go.Ground.phase }, { on := 4, ground := Go.Ground.phase }, { on := 5, ground := Go.Ground.phase }, { on := 6, ground := Go.Ground.phase }, { on := 7, ground := Go.Ground.phase }, { on := 8, ground := Go.Ground.phase }, { on := 9, ground := Go.Ground.phase }, { on := 10, ground := Go.Ground.phase }, { on := 11, ground := Go.Ground.phase }], guard := none }) (v := ?_) rfl (by kernel_rfl) (by kernel_rfl) (by kernel_rfl) (fun _ _ _ h => h) (Or.inl ⟨by rfl, ?_⟩) (trivial) ?_
        rotate_left 1
        · intro w5 hSw
          go_simp; all_goals (with_reducible rfl)
        try simp only [Act.put, List.setIfInBounds_toArray, List.set_cons_zero, List.set_cons_succ]
        refine wpAnyH_ready (rs := [14]) (by kernel_rfl) (by simp) ?_
        refine (AllReadyH.cons (o := { dst := none, op := Go.Op.store 22 (Go.Operand.tmp 24) (Go.Operand.tmp 22), type := 0, pos := "arch.go:125", after := #[{ on := 13, ground := Go.Ground.data }, { on := 11, ground := Go.Ground.data }, { on := 11, ground := Go.Ground.chain }, { on := 0, ground := Go.Ground.phase }, { on := 1, ground := Go.Ground.phase }, { on := 2, ground := Go.Ground.phase }, { on := 3, ground := Go.Ground.phase }, { on := 4, ground := Go.Ground.phase }, { on := 5, ground := Go.Ground.phase }, { on := 6, ground := Go.Ground.phase }, { on := 7, ground := Go.Ground.phase }, { on := 8, ground := Go.Ground.phase }, { on := 9, ground := Go.Ground.phase }, { on := 10, ground := Go.Ground.phase }, { on := 11, ground := Go.Ground.phase }], guard := none }) rfl (fun K hK => ?_) AllReadyH.nil)
        go_simp
        refine hK.out _ _ (trivial) (fun _ => ?_)
        clear hK K
        try simp only [Act.put, List.setIfInBounds_toArray, List.set_cons_zero, List.set_cons_succ]
        refine wpAnyH_done (by kernel_rfl) ?_ _
        have HW2 : Hid (WA base g (l ++ lowD V (j + 1)) (w3.setCell ⟨g, 0, none⟩ (.slice a3 m3 c3))) := by show WA _ _ _ _; rw [HWn.out]; exact HS.out.1
        have HK2 := Lib.hid (HK.out.trans HS.out.2)
        go_wp2_with fail
        exact ⟨⟨j + 1, by omega, congrArg (Value.int .i64) (by omega), HW2, HK2⟩, by simp [intOf]; omega⟩
    · obtain rfl : j = n := by omega
      go_wp2_with fail
      go_end0
      exact ⟨rfl, HW.out, HK.out⟩
/-- A signed number's 64 bits. -/
def u64N (x : Int) : Nat := (x % 18446744073709551616).toNat
theorem u64N_wrap (x : Int) : IntKind.u64.wrap x = (u64N x : Int) := by unfold u64N; rw [IntKind.wrap_u64]; omega
theorem u64N_mod (x : Int) : x % 18446744073709551616 = (u64N x : Int) := by unfold u64N; omega
set_option maxHeartbeats 8000000 in
theorem wpoint_any (base g : Nat) (x y : Int) (l : List Nat) (w : World) (h : WA base g l w) (hB : base ≤ w.heap.size) (hg : base ≤ g) (hl : l.length ≤ 900) :
    Calls Try.prog 16 #[.pointer (some ⟨g, 0, none⟩), .agg #[.int .i64 x, .int .i64 y]] w fun e w' => e = .returned (.tuple #[]) ∧ WA base g (l ++ lowD (u64N x) 4 ++ lowD (u64N y) 4) w' ∧ KW base w w' := by
  obtain ⟨b, hb⟩ : ∃ b, b = w.heap.size := ⟨_, rfl⟩
  obtain ⟨X, hX⟩ : ∃ X, X = w.alloc (.cells #[.int .i64 x, .int .i64 y] 27) := ⟨_, rfl⟩
  have hW : Whole X b 27 #[.int .i64 x, .int .i64 y] := by rw [hX, hb]; exact Whole.new w _ _
  have hWA : WA base g l X := by
    obtain ⟨v, h1, h2, h3⟩ := h
    rw [hX]; exact ⟨v, h1.alloc _, h2.alloc _, h3⟩
  have hK0 : KW base w X := by rw [hX]; exact KW.alloc _ hB
  have HN := Lib.hid (wnumber_any base g (u64N x) 4 l X hWA (Nat.le_trans hB hK0.below.size) hg (by omega) (by omega))
  have q0 : X.cell? ⟨b, 0, none⟩ = some (.int .i64 x) := hW.cell 0
  have e1 := u64N_wrap x
  have e2 := u64N_mod x
  have HW := Lib.hid hW
  have HK := Lib.hid hK0
  have HX := Lib.hid hX
  have Hb := Lib.hid hb
  clear hX hb hW hWA hK0 h
  go_enter Try.func16, Try.ntmps16
  go_upto_region 1 with (fail)
  rw [← HX.out, ← Hb.out]
  go_wp2_with fail
  refine HN.out.mono ?_
  rintro e Y ⟨rfl, h1, h2⟩
  have hB1 : base ≤ Y.heap.size := Nat.le_trans hB (Nat.le_trans HK.out.below.size h2.below.size)
  have HN2 := Lib.hid (wnumber_any base g (u64N y) 4 (l ++ lowD (u64N x) 4) Y h1 hB1 hg (by omega) (by rw [List.length_append, lowD_length]; omega))
  have q1 : Y.cell? ⟨b, 1, none⟩ = some (.int .i64 y) := (HW.out.kw h2 (by decide) (by decide)).cell 1
  have HK2 := Lib.hid (HK.out.trans h2)
  have e3 := u64N_wrap y
  have e4 := u64N_mod y
  clear h1 h2 q0 e1 e2 HN HK HW
  go_wp2_with fail
  refine HN2.out.mono ?_
  rintro e Z ⟨rfl, h1, h2⟩
  have HF := Lib.hid (And.intro h1 (HK2.out.trans h2))
  clear h1 h2
  go_wp2_with fail
  go_end0
  exact ⟨rfl, HF.out.1, HF.out.2⟩
end Go.Proofs.Ytlbplefmpbpchaa
