/- Rows of fields joined: append of whole slices. -/
import Derived.Test.YtnlbhlobnafggaaSameF
import Derived.Test.YtnlbhlobnafggaaGet
import Derived.Test.YtnlbhlobnafggaaJoinMath
import Derived.Test.YtnlbhlobnafggaaHeld
namespace Go.Proofs.Ytnlbhlobnafggaa
open Go.RowKit Var
set_option linter.unusedVariables false
set_option maxRecDepth 100000

theorem FRow.join {w : World} {own : Option Nat} {fs gs : List F} {xs ys : List Value} (h : FRow w own fs xs) (hl : xs.length = fs.length * 4) (k : FRow w own gs ys) : FRow w own (fs ++ gs) (xs ++ ys) := fun i hi => by
  by_cases hlt : i < fs.length
  · obtain ⟨a', c', e0, e1, e2, e3, hd'⟩ := h i hlt
    have hg : (fs ++ gs)[i] = fs[i] := by simp [List.getElem_append, hlt]
    rw [hg]
    refine ⟨a', c', ?_, ?_, ?_, ?_, hd'⟩
    · rw [List.getElem?_append_left (by omega)]; exact e0
    · rw [List.getElem?_append_left (by omega)]; exact e1
    · rw [List.getElem?_append_left (by omega)]; exact e2
    · rw [List.getElem?_append_left (by omega)]; exact e3
  · obtain ⟨j, rfl⟩ : ∃ j, i = fs.length + j := ⟨i - fs.length, by omega⟩
    have hj : j < gs.length := by simp at hi; omega
    obtain ⟨a', c', e0, e1, e2, e3, hd'⟩ := k j hj
    have hg : (fs ++ gs)[fs.length + j] = gs[j] := by simp [List.getElem_append]
    rw [hg]
    refine ⟨a', c', ?_, ?_, ?_, ?_, hd'⟩
    · rw [List.getElem?_append_right (by omega), show 4 * (fs.length + j) - xs.length = 4 * j by omega]; exact e0
    · rw [List.getElem?_append_right (by omega), show 4 * (fs.length + j) + 1 - xs.length = 4 * j + 1 by omega]; exact e1
    · rw [List.getElem?_append_right (by omega), show 4 * (fs.length + j) + 2 - xs.length = 4 * j + 2 by omega]; exact e2
    · rw [List.getElem?_append_right (by omega), show 4 * (fs.length + j) + 3 - xs.length = 4 * j + 3 by omega]; exact e3

/-- The fields gs may be appended to a row that lies in the block 'own'. -/
def FSrc (w : World) (own : Option Nat) (A : Option Addr) (gs : List F) : Prop := ∃ ys, Vals w w.heap.size 4 A gs.length ys ∧ FRow w own gs ys
theorem vals_one {w : World} {base : Nat} {v : Value} {fs : List F} {xs : List Value} {own : Option Nat} (h : FRow w own fs xs) (hl : xs.length = fs.length * 4) : ∀ u ∈ xs, u.oneCell' = true := by
  intro u hu
  obtain ⟨n, hx⟩ := List.mem_iff_getElem?.1 hu
  have hn := (List.getElem?_eq_some_iff.1 hx).1
  have hi : n / 4 < fs.length := by omega
  obtain ⟨a, c, e0, e1, e2, e3, _⟩ := h (n / 4) hi
  have h4 : n = 4 * (n / 4) ∨ n = 4 * (n / 4) + 1 ∨ n = 4 * (n / 4) + 2 ∨ n = 4 * (n / 4) + 3 := by omega
  rcases h4 with e | e | e | e
  · rw [e, e0] at hx; injection hx with hx; rw [← hx]; rfl
  · rw [e, e1] at hx; injection hx with hx; rw [← hx]; rfl
  · rw [e, e2] at hx; injection hx with hx; rw [← hx]; rfl
  · rw [e, e3] at hx; injection hx with hx; rw [← hx]; rfl
theorem OwnF.src {w w' : World} {base : Nat} {A : Option Addr} {c : Nat} {gs : List F} (h : OwnF w base (.slice A gs.length c) gs) (hb : Below w.heap.size w w') (own : Option Nat) (ho : ∀ k, own = some k → w.heap.size ≤ k) : FSrc w' own A gs := by
  obtain ⟨ys, h1, h2⟩ := h
  obtain ⟨a, c', e, _, _, hV⟩ := Vals.of_own h1
  injection e with e1 _ _
  subst e1
  refine ⟨ys, (hV.below hb).more hb.size, fun i hi => ?_⟩
  obtain ⟨a', c', e0, e1, e2, e3, hd'⟩ := h2 i hi
  refine ⟨a', c', e0, e1, e2, e3, ?_⟩
  rcases hd' with e | ⟨b, off, e, hbl, hk, hc⟩
  · exact .inl e
  · exact .inr ⟨b, off, e, Nat.lt_of_lt_of_le hbl hb.size, fun e' => by have := ho b e'; omega, fun j hj => (hb.cell (p := ⟨b, off + j, none⟩) hbl).trans (hc j hj)⟩

theorem app_fs {w : World} (base : Nat) (v : Value) (fs : List F) (hown : OwnF w base v fs) (gs : List F) (A : Option Addr) (c : Nat) (hd : FSrc w v.ownBlock A gs) (hl : fs.length + gs.length ≤ 1000000) (hbase : base ≤ w.heap.size) :
    ∃ v' w', (Builtin.append_ #[36, 36] 36 #[v, .slice A gs.length c]).run Try.prog w = .ok v' w' ∧ GoneF w base v (fs ++ gs) v' w' := by
  obtain ⟨i0, hi0, hz0, hz1, hz2⟩ := info_parts fldinfo
  obtain ⟨xs, h1, h2⟩ := hown
  obtain ⟨ys, g1, g2⟩ := hd
  obtain ⟨v', w', hrun, h3, h4, h5⟩ := run_append_vals (P := Try.prog) (w := w) base 36 36 55 i0 _ 4 48 Try.underlying36 hi0 hz0 hz1 hz2 rfl (by omega) v fs.length xs h1 w.heap.size A gs.length c ys g1
    (vals_one (base := base) (v := v) g2 g1.1) (by unfold maxLen; omega) (by omega) hbase
  have hO : Only (fun k => v.ownBlock = some k) w w' := Only.of_grown h4 (fun b e => e)
  have hat : v'.ownBlock = v.ownBlock ∨ ∃ k, v'.ownBlock = some k ∧ w.heap.size ≤ k := by
    rcases h5 with h5 | h5
    · exact .inl h5
    · exact .inr ⟨_, h5, Nat.le_refl _⟩
  have hn : ∀ b, b < w.heap.size → v.ownBlock ≠ some b → v'.ownBlock ≠ some b := fun b hb hk => by
    rcases hat with e | ⟨k, e, hk'⟩
    · rw [e]; exact hk
    · rw [e]; intro e'; injection e' with e'; omega
  refine ⟨v', w', hrun, ⟨⟨_, by simpa using h3, ?_⟩, hO, hat⟩⟩
  have mv : ∀ (zs : List F) (qs : List Value), FRow w v.ownBlock zs qs → FRow w' v'.ownBlock zs qs := fun zs qs hq i hi => by
    obtain ⟨a', c', e0, e1, e2, e3, hd'⟩ := hq i hi
    exact ⟨a', c', e0, e1, e2, e3, hd'.only hO (fun b e => e) hn⟩
  exact (mv _ _ h2).join h1.1 (mv _ _ g2)

theorem app_8 {w : World} (base : Nat) (v : Value) (l : List Nat) (hown : Own8 w base v l) (B : Nat) (m : List Nat) (A : Option Addr) (c : Nat) (hd : Nums .u8 w B A m) (hl : l.length + m.length ≤ 1000000) (hbase : base ≤ w.heap.size) :
    ∃ v' w', (Builtin.append_ #[23, 23] 23 #[v, .slice A m.length c]).run Try.prog w = .ok v' w' ∧ Gone w base v (l ++ m) v' w' := by
  obtain ⟨i0, hi0, hz0, hz1, hz2⟩ := info_parts u8info
  obtain ⟨v', w', hrun, h3, h4, h5⟩ := run_append_vals (P := Try.prog) (w := w) base 23 23 5 i0 _ 1 1 Try.underlying23 hi0 hz0 hz1 hz2 rfl (by omega) v l.length _ hown B A m.length c _ (Vals.of_nums hd)
    (u8s_one m) (by unfold maxLen; omega) (by omega) hbase
  refine ⟨v', w', hrun, Gone.grown h3 (by simp) (u8s_append l m).symm h4 ?_⟩
  rcases h5 with h5 | h5
  · exact .inl h5
  · exact .inr ⟨_, h5, Nat.le_refl _⟩

theorem fresh8 (w : World) : Own8 (w.alloc (.cells #[] 5)) w.heap.size (.slice (some ⟨w.heap.size, 0, none⟩) 0 0) [] :=
  ⟨rfl, .inr ⟨w.heap.size, 0, #[], rfl, Nat.le_refl _, heap_alloc_new _ _, Nat.le_refl _, Nat.zero_le _, rfl, rfl⟩⟩
theorem freshF (w : World) : OwnF (w.alloc (.cells #[] 55)) w.heap.size (.slice (some ⟨w.heap.size, 0, none⟩) 0 0) [] :=
  ⟨[], ⟨rfl, .inr ⟨w.heap.size, 0, #[], rfl, Nat.le_refl _, heap_alloc_new _ _, Nat.le_refl _, Nat.zero_le _, rfl, rfl⟩⟩, fun i h => by simp at h⟩

/-- append(s, x) whose run is known. -/
theorem app_run {w w' : World} {ops : Array Oper} {rest : List Oper} {o : Oper} {a : Act} {Q : Exit → Act → World → Prop} (hw : Region.wanted o (yielded ops a.tmps) = true) (s x : Operand) (t : TypeId)
    (ho : o.op = .call { callee := .builtin .append, args := #[s, x], argTypes := #[t, t] }) (v u v' : Value) (hs : a.eval s = v) (hx : a.eval x = u)
    (hrun : (Builtin.append_ #[t, t] o.type #[v, u]).run Try.prog w = .ok v' w') (h : wpList Try.prog ops Q rest (a.put o.dst v') w') : wpList Try.prog ops Q (o :: rest) a w := by
  refine wpList_step fun K hK => ?_
  simp only [hw, if_true]
  unfold Oper.wp execOp
  simp only [ho, resolve, invoke, builtin, Sem.run_bind, Sem.run_pure, Result.andThen_ok, List.map_toArray, List.map_cons, List.map_nil, hs, hx, hrun]
  exact hK _ _ h

/-- Both slices copied one behind the other. -/
theorem two8 (w : World) (l m : List Nat) (a b : Option Addr) (c d : Nat) (ha : Nums .u8 w w.heap.size a l) (hb : Nums .u8 w w.heap.size b m) (hl : l.length + m.length ≤ 1000000) :
    ∃ v1 w1 v2 w2, (Builtin.append_ #[23, 23] 23 #[.slice (some ⟨w.heap.size, 0, none⟩) 0 0, .slice a l.length c]).run Try.prog (w.alloc (.cells #[] 5)) = .ok v1 w1 ∧
      (Builtin.append_ #[23, 23] 23 #[v1, .slice b m.length d]).run Try.prog w1 = .ok v2 w2 ∧ Own8 w2 w.heap.size v2 (l ++ m) ∧ Below w.heap.size w w2 := by
  have h0 := fresh8 w
  have hb0 : Below w.heap.size w (w.alloc (.cells #[] 5)) := (Below.refl _ _).alloc (Nat.le_refl _) _
  obtain ⟨v1, w1, r1, g1⟩ := app_8 w.heap.size _ [] h0 w.heap.size l a c (ha.below hb0) (by simp; omega) hb0.size
  rw [List.nil_append] at g1
  have hb1 : Below w.heap.size w w1 := hb0.trans (g1.below h0 hb0.size)
  obtain ⟨v2, w2, r2, g2⟩ := app_8 w.heap.size v1 l g1.own w.heap.size m b d (hb.below hb1) hl hb1.size
  exact ⟨v1, w1, v2, w2, r1, r2, g2.own, hb1.trans (g2.below g1.own hb1.size)⟩
theorem twoF (w : World) (fs gs : List F) (a b : Option Addr) (c d : Nat) (ha : ∀ w' own, Below w.heap.size w w' → (∀ k, own = some k → w.heap.size ≤ k) → FSrc w' own a fs) (hb : ∀ w' own, Below w.heap.size w w' → (∀ k, own = some k → w.heap.size ≤ k) → FSrc w' own b gs) (hl : fs.length + gs.length ≤ 1000000) :
    ∃ v1 w1 v2 w2, (Builtin.append_ #[36, 36] 36 #[.slice (some ⟨w.heap.size, 0, none⟩) 0 0, .slice a fs.length c]).run Try.prog (w.alloc (.cells #[] 55)) = .ok v1 w1 ∧
      (Builtin.append_ #[36, 36] 36 #[v1, .slice b gs.length d]).run Try.prog w1 = .ok v2 w2 ∧ OwnF w2 w.heap.size v2 (fs ++ gs) ∧ Below w.heap.size w w2 := by
  have h0 := freshF w
  have hb0 : Below w.heap.size w (w.alloc (.cells #[] 55)) := (Below.refl _ _).alloc (Nat.le_refl _) _
  obtain ⟨v1, w1, r1, g1⟩ := app_fs w.heap.size _ [] h0 fs a c (ha _ _ hb0 (fun k e => (h0.lt k e).1)) (by simp; omega) hb0.size
  rw [List.nil_append] at g1
  have hb1 : Below w.heap.size w w1 := hb0.trans (g1.below h0 hb0.size)
  obtain ⟨v2, w2, r2, g2⟩ := app_fs w.heap.size v1 fs g1.own gs b d (hb _ _ hb1 (fun k e => (g1.own.lt k e).1)) hl hb1.size
  exact ⟨v1, w1, v2, w2, r1, r2, g2.own, hb1.trans (g2.below g1.own hb1.size)⟩
end Go.Proofs.Ytnlbhlobnafggaa
