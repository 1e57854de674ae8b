/- Layer 34: drop. -/
import Derived.Test.YthbgijpakjfjkaaLru3
namespace Go.Proofs.Ythbgijpakjfjkaa
open Go.RowKit
set_option linter.unusedVariables false
set_option maxRecDepth 100000

section
variable {P : Program} {ops : Array Oper} {Q : Exit → Act → World → Prop}
theorem held_del {w w' : World} {o : Oper} {a : Act} {K : Act → World → Prop} {N : Prop} (hw : Region.wanted o (yielded ops a.tmps) = true) (m x : Operand) (t k : TypeId)
    (ho : o.op = .call { callee := .builtin .delete, args := #[m, x], argTypes := #[t, k] }) (v u : Value) (hs : a.eval m = v) (hx : a.eval x = u)
    (hrun : (Builtin.delete_ #[t, k] o.type #[v, u]).run P w = .ok (.tuple #[]) w') (h : K (a.put o.dst (.tuple #[])) w') : if Region.wanted o (yielded ops a.tmps) = true then Oper.wp P o a w K Q else N := by
  simp only [hw, if_true]
  unfold Oper.wp execOp
  simp only [ho, resolve, invoke, builtin, Sem.run_bind, Sem.run_pure, Result.andThen_ok, List.map_toArray, List.map_cons, List.map_nil, hs, hx, hrun]
  exact h
end
theorem keys_mid {l1 l2 : List En} {x : En} (h : (keysOf (l1 ++ x :: l2)).Nodup) : (keysOf (l1 ++ l2)).Nodup := by
  unfold keysOf at h ⊢
  rw [List.map_append] at h ⊢
  rw [List.map_cons] at h
  exact h.sublist ((List.Sublist.refl _).append (List.sublist_cons_self _ _))
theorem blks_mid {m : Nat} {l1 l2 : List En} {x : En} (h : (m :: blks (l1 ++ x :: l2)).Nodup) : (m :: blks (l1 ++ l2)).Nodup := by
  unfold blks at h ⊢
  rw [List.map_append] at h ⊢
  rw [List.map_cons] at h
  exact h.sublist (((List.Sublist.refl _).append (List.sublist_cons_self _ _)).cons_cons _)
/-- The store of the count of bytes. -/
theorem St.stored {Y : World} {base g mp n ent sz t hh mm mark : Nat} {D : DataW Unit} {nodes : List Nat} {es : List En} {ring : List Nat} (h : St Y base g mp n (cacheCells ent sz t mp mark hh mm) D nodes es ring) {W : World} (hW : Below Y.heap.size Y W) (z : Int) (t2 : Nat) (hz : z = t2) :
    St (W.setCell ⟨g, 2, none⟩ (.int .i64 z)) base g mp n (cacheCells ent sz t2 mp mark hh mm) D nodes es ring ∧ Only (LS base Y) Y (W.setCell ⟨g, 2, none⟩ (.int .i64 z)) := by
  have h2 := h.below hW
  subst hz
  refine ⟨h2.other (c := g) (Only.setCell (S := fun b => b = g) (Only.refl _ _) (fun _ => rfl) _) (.inl rfl) ?_ ?_, ?_⟩
  · have := h2.cache.set 2 (.int .i64 (t2 : Int))
    simpa [cacheCells] using this
  · exact h2.map.setCell (fun e => h2.mp_g e) _
  · exact (Only.of_below hW (LS base Y)).trans (Only.setCell (S := LS base Y) (Only.refl _ _) (fun _ => h.ls_g) _) fun b _ e => e
def DropPost (w : World) (base g ent sz hh m : Nat) (es : List En) (e : Ending) (w' : World) : Prop := e = .returned (.tuple #[]) ∧ Lru w' base g ent sz hh m es ∧ Only (LS base w) w w'
set_option maxHeartbeats 20000000 in
theorem drop_any (g base ent sz hh m : Nat) (l1 l2 : List En) (x : En) (w : World) (H : Lru w base g ent sz hh m (l1 ++ x :: l2)) (hs : tot (l1 ++ x :: l2) ≤ 1000000000) :
    Calls Try.prog 26 #[.pointer (some ⟨g, 0, none⟩), .pointer (some ⟨x.blk, 0, none⟩)] w (DropPost w base g ent sz hh m (l1 ++ l2)) := by
  obtain ⟨mark, mp, n, D, hS, hM, hN, hKy⟩ := H.ex
  have htm := tot_mid l1 l2 x
  have hxn : x ∈ l1 ++ x :: l2 := by simp
  obtain ⟨p, q, hrc, hrem⟩ := hS.removed hN
  have Hr := Lib.hid hrc
  have Hrem := Lib.hid hrem
  have c4 : w.cell? ⟨g, 4, none⟩ = some (.pointer (some ⟨mark, 0, none⟩)) := by rw [hS.cache.cell]; rfl
  obtain ⟨v, hv⟩ : ∃ v, v = x.v := ⟨_, rfl⟩
  have hkb : x.key.size ≤ 1000000000 ∧ x.bs.length ≤ 1000000000 := by
    have : x.size = x.key.size + x.bs.length := rfl
    omega
  have hsz : x.size = x.key.size + x.bs.length := rfl
  have HM := Lib.hid hM
  have HN := Lib.hid hN
  have HK := Lib.hid hKy
  clear hrc hrem hS hM hN hKy H
  go_enter Try.func26, Try.ntmps26
  go_wp2_with fail
  refine (Hr.out).mono ?_
  rintro e X ⟨rfl, hB⟩
  obtain ⟨hS2, hO2⟩ := Hrem.out X hB
  clear hB c4
  obtain ⟨Y, hrun, hown, htur⟩ := World.ownsMap.drop (w := X.drew) (P := Try.prog) (t := 52) (e := 53) hS2.map K9 Try.underlying52 (keyOf_str x.key (by unfold maxLen; omega)) 0
  have hgY : Only (fun b => b = mp) X Y := by
    have := Only.of_grown (S := fun b => b = mp) htur.grown (fun b hb => by injection hb with hb; exact hb.symm)
    exact ⟨this.os, this.tape, this.output, this.size, this.block⟩
  have hS3 := hS2.other (w' := Y) (n' := n) (D' := D.del (kl x.key)) hgY (.inr rfl) (hS2.cache.only hgY (fun e => hS2.mp_g e.symm)) hown
  have hO3 : Only (LS base w) w Y := hO2.ls (hgY.mono fun b _ e => by rw [e]; exact hS2.ls_mp)
  have hdX := (hS2.dat x hxn).1
  have hdY := (hS3.dat x hxn).1
  have Hrun := Lib.hid hrun
  have C0 := Lib.hid (show X.drew.cell? ⟨g, 3, none⟩ = some (.map (some mp)) ∧ X.drew.cell? ⟨x.blk, 0, none⟩ = some (.string x.key) from ⟨by rw [World.cell?_drew, hS2.cache.cell]; rfl, hdX.key⟩)
  have C1 := Lib.hid (show Y.cell? ⟨g, 3, none⟩ = some (.map (some mp)) ∧ Y.cell? ⟨x.blk, 0, none⟩ = some (.string x.key) from ⟨by rw [hS3.cache.cell]; rfl, hdY.key⟩)
  have y2 : Y.cell? ⟨g, 2, none⟩ = some (.int .i64 ((tot (l1 ++ x :: l2) : Nat) : Int)) := by rw [hS3.cache.cell]; rfl
  have y2f : Y.frozen? ⟨g, 2, none⟩ = false := hS3.cache.frozen 2
  obtain ⟨a, c, hvs⟩ : ∃ a c, x.v = .slice a x.bs.length c := by
    obtain ⟨a, c, h1, _⟩ := hdY.own.nums
    exact ⟨a, c, h1⟩
  have hk0 := hdY.key
  have hk1 : Y.cell? ⟨x.blk, 1, none⟩ = some (.slice a x.bs.length c) := by rw [← hvs]; exact hdY.val
  have Hby := Lib.hid fun (W : World) (h0 : W.cell? ⟨x.blk, 0, none⟩ = some (.string x.key)) (h1 : W.cell? ⟨x.blk, 1, none⟩ = some (.slice a x.bs.length c)) => bytes_any x.blk x.key a x.bs.length c W h0 h1 hkb.1 hkb.2
  have FIN := Lib.hid fun (W : World) (hW : Below Y.heap.size Y W) (z : Int) (hz : z = ((tot (l1 ++ l2) : Nat) : Int)) => (show Lru (W.setCell ⟨g, 2, none⟩ (.int .i64 z)) base g ent sz hh m (l1 ++ l2) ∧ Only (LS base w) w (W.setCell ⟨g, 2, none⟩ (.int .i64 z)) from by
    obtain ⟨h5, h6⟩ := hS3.stored hW z (tot (l1 ++ l2)) hz
    refine ⟨⟨mark, mp, n, _, ⟨h5.cache, h5.map, h5.ch, fun b hb => h5.nds b ?_, fun e he => ⟨(h5.dat e ?_).1, ?_⟩, h5.lo, fun b hb => seq_mem hb⟩, HM.out.del HK.out, blks_mid HN.out, keys_mid HK.out⟩, hO3.ls h6⟩
    · unfold blks at hb ⊢
      simp at hb ⊢
      rcases hb with h | h | h
      · exact .inl h
      · exact .inr (.inl h)
      · exact .inr (.inr (.inr h))
    · simp at he ⊢
      rcases he with h | h
      · exact .inl h
      · exact .inr (.inr h)
    · unfold blks
      exact List.mem_cons_of_mem _ (List.mem_map_of_mem he))
  have wr : IntKind.i64.wrap (((tot (l1 ++ x :: l2) : Nat) : Int) - ((x.key.size + x.bs.length : Nat) : Int)) = ((tot (l1 ++ l2) : Nat) : Int) := by
    rw [IntWalk.i64_in _ ⟨by omega, by omega⟩]; omega
  have wr2 : IntKind.i64.wrap (((tot (l1 ++ x :: l2) : Nat) : Int) - ((x.key.size : Int) + (x.bs.length : Int))) = ((tot (l1 ++ l2) : Nat) : Int) := by
    rw [IntWalk.i64_in _ ⟨by omega, by omega⟩]; omega
  have WR := Lib.hid wr
  have WR2 := Lib.hid wr2
  clear wr wr2 hS2 hO2 hS3 hO3 hgY hown htur hdX hdY hrun hvs hv htm hsz
  go_wp2_with fail
  refine wp_region_held (S := (fun W => W.cell? ⟨g, 3, none⟩ = some (.map (some mp)) ∧ W.cell? ⟨x.blk, 0, none⟩ = some (.string x.key))) (by kernel_rfl) ?_
  refine wpAnyH_take (i := 0) (oi := { dst := some 10, op := Go.Op.move (Go.Operand.tmp 0), type := 25, pos := "lru.go:93", after := #[], guard := none }) (v := ?_) rfl (by kernel_rfl) (by kernel_rfl) (by kernel_rfl) (fun _ _ _ h => h) (Or.inl ⟨by rfl, ?_⟩) (C0.out) ?_
  rotate_left 1
  · intro w5 hSw
    go_simp; all_goals (with_reducible rfl)
  try simp only [Act.put, List.setIfInBounds_toArray, List.set_cons_zero, List.set_cons_succ]
  refine wpAnyH_take (i := 1) (oi := { dst := some 11, op := Go.Op.nilCheck (Go.Operand.tmp 10), type := 0, pos := "lru.go:93", after := #[{ on := 0, ground := Go.Ground.data }], guard := none }) (v := ?_) rfl (by kernel_rfl) (by kernel_rfl) (by kernel_rfl) (fun _ _ _ h => h) (Or.inl ⟨by rfl, ?_⟩) (C0.out) ?_
  rotate_left 1
  · intro w5 hSw
    go_simp; all_goals (with_reducible rfl)
  try simp only [Act.put, List.setIfInBounds_toArray, List.set_cons_zero, List.set_cons_succ]
  refine wpAnyH_take (i := 2) (oi := { dst := some 12, op := Go.Op.fieldAddr 58 (Go.Operand.tmp 11) 3, type := 0, pos := "lru.go:93", after := #[{ on := 1, ground := Go.Ground.data }], guard := none }) (v := ?_) rfl (by kernel_rfl) (by kernel_rfl) (by kernel_rfl) (fun _ _ _ h => h) (Or.inl ⟨by rfl, ?_⟩) (C0.out) ?_
  rotate_left 1
  · intro w5 hSw
    go_simp; all_goals (with_reducible rfl)
  try simp only [Act.put, List.setIfInBounds_toArray, List.set_cons_zero, List.set_cons_succ]
  refine wpAnyH_take (i := 3) (oi := { dst := some 13, op := Go.Op.load 52 (Go.Operand.tmp 12), type := 52, pos := "lru.go:93", after := #[{ on := 2, ground := Go.Ground.data }], guard := none }) (v := ?_) rfl (by kernel_rfl) (by kernel_rfl) (by kernel_rfl) (fun _ _ _ h => h) (Or.inl ⟨by rfl, ?_⟩) (C0.out) ?_
  rotate_left 1
  · intro w5 hSw
    obtain ⟨q1, q2⟩ := hSw
    go_simp; all_goals (with_reducible rfl)
  try simp only [Act.put, List.setIfInBounds_toArray, List.set_cons_zero, List.set_cons_succ]
  refine wpAnyH_take (i := 4) (oi := { dst := some 14, op := Go.Op.move (Go.Operand.tmp 1), type := 53, pos := "lru.go:93", after := #[], guard := none }) (v := ?_) rfl (by kernel_rfl) (by kernel_rfl) (by kernel_rfl) (fun _ _ _ h => h) (Or.inl ⟨by rfl, ?_⟩) (C0.out) ?_
  rotate_left 1
  · intro w5 hSw
    go_simp; all_goals (with_reducible rfl)
  try simp only [Act.put, List.setIfInBounds_toArray, List.set_cons_zero, List.set_cons_succ]
  refine wpAnyH_take (i := 5) (oi := { dst := some 15, op := Go.Op.nilCheck (Go.Operand.tmp 14), type := 0, pos := "lru.go:93", after := #[{ on := 4, ground := Go.Ground.data }], guard := none }) (v := ?_) rfl (by kernel_rfl) (by kernel_rfl) (by kernel_rfl) (fun _ _ _ h => h) (Or.inl ⟨by rfl, ?_⟩) (C0.out) ?_
  rotate_left 1
  · intro w5 hSw
    go_simp; all_goals (with_reducible rfl)
  try simp only [Act.put, List.setIfInBounds_toArray, List.set_cons_zero, List.set_cons_succ]
  refine wpAnyH_take (i := 6) (oi := { dst := some 16, op := Go.Op.fieldAddr 63 (Go.Operand.tmp 15) 0, type := 0, pos := "lru.go:93", after := #[{ on := 5, ground := Go.Ground.data }], guard := none }) (v := ?_) rfl (by kernel_rfl) (by kernel_rfl) (by kernel_rfl) (fun _ _ _ h => h) (Or.inl ⟨by rfl, ?_⟩) (C0.out) ?_
  rotate_left 1
  · intro w5 hSw
    go_simp; all_goals (with_reducible rfl)
  try simp only [Act.put, List.setIfInBounds_toArray, List.set_cons_zero, List.set_cons_succ]
  refine wpAnyH_take (i := 7) (oi := { dst := some 17, op := Go.Op.load 9 (Go.Operand.tmp 16), type := 9, pos := "lru.go:93", after := #[{ on := 6, ground := Go.Ground.data }], guard := none }) (v := ?_) rfl (by kernel_rfl) (by kernel_rfl) (by kernel_rfl) (fun _ _ _ h => h) (Or.inl ⟨by rfl, ?_⟩) (C0.out) ?_
  rotate_left 1
  · intro w5 hSw
    obtain ⟨q1, q2⟩ := hSw
    go_simp; all_goals (with_reducible rfl)
  try simp only [Act.put, List.setIfInBounds_toArray, List.set_cons_zero, List.set_cons_succ]
  refine wpAnyH_ready (rs := [8]) (by kernel_rfl) (by simp) ?_
  refine (AllReadyH.cons (o := { dst := none, op := Go.Op.call { callee := Go.Callee.builtin Go.Builtin.delete, args := #[Go.Operand.tmp 13, Go.Operand.tmp 17], argTypes := #[52, 9] }, type := 0, pos := "lru.go:93", after := #[{ on := 3, ground := Go.Ground.data }, { on := 7, ground := Go.Ground.data }], guard := none }) rfl (fun K hK => ?_) AllReadyH.nil)
  refine held_del (by rfl) (.tmp 13) (.tmp 17) 52 9 rfl _ _ rfl rfl Hrun.out ?_
  refine hK.out _ _ (C1.out) (fun _ => ?_)
  clear hK K
  try simp only [Act.put, List.setIfInBounds_toArray, List.set_cons_zero, List.set_cons_succ]
  refine wpAnyH_done (by kernel_rfl) ?_ _
  go_wp2_with fail
  refine wp_region_held (S := fun _ => True) (by kernel_rfl) ?_
  refine wpAnyH_take (i := 0) (oi := { dst := some 18, op := Go.Op.move (Go.Operand.tmp 0), type := 25, pos := "lru.go:94", after := #[], guard := none }) (v := ?_) rfl (by kernel_rfl) (by kernel_rfl) (by kernel_rfl) (fun _ _ _ h => h) (Or.inl ⟨by rfl, ?_⟩) (trivial) ?_
  rotate_left 1
  · intro w5 hSw
    go_simp; all_goals (with_reducible rfl)
  try simp only [Act.put, List.setIfInBounds_toArray, List.set_cons_zero, List.set_cons_succ]
  refine wpAnyH_take (i := 1) (oi := { dst := some 19, op := Go.Op.nilCheck (Go.Operand.tmp 18), type := 0, pos := "lru.go:94", after := #[{ on := 0, ground := Go.Ground.data }], guard := none }) (v := ?_) rfl (by kernel_rfl) (by kernel_rfl) (by kernel_rfl) (fun _ _ _ h => h) (Or.inl ⟨by rfl, ?_⟩) (trivial) ?_
  rotate_left 1
  · intro w5 hSw
    go_simp; all_goals (with_reducible rfl)
  try simp only [Act.put, List.setIfInBounds_toArray, List.set_cons_zero, List.set_cons_succ]
  refine wpAnyH_take (i := 2) (oi := { dst := some 20, op := Go.Op.fieldAddr 58 (Go.Operand.tmp 19) 2, type := 0, pos := "lru.go:94", after := #[{ on := 1, ground := Go.Ground.data }], guard := none }) (v := ?_) rfl (by kernel_rfl) (by kernel_rfl) (by kernel_rfl) (fun _ _ _ h => h) (Or.inl ⟨by rfl, ?_⟩) (trivial) ?_
  rotate_left 1
  · intro w5 hSw
    go_simp; all_goals (with_reducible rfl)
  try simp only [Act.put, List.setIfInBounds_toArray, List.set_cons_zero, List.set_cons_succ]
  refine wpAnyH_take (i := 4) (oi := { dst := some 22, op := Go.Op.move (Go.Operand.tmp 1), type := 53, pos := "lru.go:94", after := #[], guard := none }) (v := ?_) rfl (by kernel_rfl) (by kernel_rfl) (by kernel_rfl) (fun _ _ _ h => h) (Or.inl ⟨by rfl, ?_⟩) (trivial) ?_
  rotate_left 1
  · intro w5 hSw
    go_simp; all_goals (with_reducible rfl)
  try simp only [Act.put, List.setIfInBounds_toArray, List.set_cons_zero, List.set_cons_succ]
  refine wpAnyH_ready (rs := [3, 5]) (by kernel_rfl) (by simp) ?_
  refine (AllReadyH.cons (o := { dst := some 21, op := Go.Op.load 3 (Go.Operand.tmp 20), type := 3, pos := "lru.go:94", after := #[{ on := 2, ground := Go.Ground.data }], guard := none }) rfl (fun K hK => ?_) (AllReadyH.cons (o := { dst := some 23, op := Go.Op.call { callee := Go.Callee.value (Go.Operand.func 27), args := #[Go.Operand.tmp 22], argTypes := #[53] }, type := 3, pos := "lru.go:94", after := #[{ on := 4, ground := Go.Ground.data }], guard := none }) rfl (fun K hK => ?_) AllReadyH.nil))
  · go_simp
    refine hK.out _ _ (trivial) (fun _ => ?_)
    clear hK K
    try simp only [Act.put, List.setIfInBounds_toArray, List.set_cons_zero, List.set_cons_succ]
    refine wpAnyH_ready (rs := [5]) (by kernel_rfl) (by simp) ?_
    refine (AllReadyH.cons (o := { dst := some 23, op := Go.Op.call { callee := Go.Callee.value (Go.Operand.func 27), args := #[Go.Operand.tmp 22], argTypes := #[53] }, type := 3, pos := "lru.go:94", after := #[{ on := 4, ground := Go.Ground.data }], guard := none }) rfl (fun K hK => ?_) AllReadyH.nil)
    go_simp
    refine (Hby.out _ (by first | exact hk0 | simpa using hk0) (by first | exact hk1 | simpa using hk1)).mono ?_; rintro e Y ⟨rfl, kk, rfl⟩
    go_wp2_with fail
    refine hK.out _ _ (trivial) (fun _ => ?_)
    clear hK K
    try simp only [Act.put, List.setIfInBounds_toArray, List.set_cons_zero, List.set_cons_succ]
    refine wpAnyH_take (i := 6) (oi := { dst := some 24, op := Go.Op.binOp Go.BinOp.sub 3 (Go.Operand.tmp 21) (Go.Operand.tmp 23) 3, type := 3, pos := "lru.go:94", after := #[{ on := 3, ground := Go.Ground.data }, { on := 5, ground := Go.Ground.data }], guard := none }) (v := ?_) rfl (by kernel_rfl) (by kernel_rfl) (by kernel_rfl) (fun _ _ _ h => h) (Or.inl ⟨by rfl, ?_⟩) (trivial) ?_
    rotate_left 1
    · intro w5 hSw
      go_simp; all_goals (with_reducible rfl)
    try simp only [Act.put, List.setIfInBounds_toArray, List.set_cons_zero, List.set_cons_succ]
    refine wpAnyH_take (i := 7) (oi := { dst := some 25, op := Go.Op.nilCheck (Go.Operand.tmp 18), type := 0, pos := "lru.go:94", after := #[{ on := 0, ground := Go.Ground.data }, { on := 0, ground := Go.Ground.phase }, { on := 1, ground := Go.Ground.phase }, { on := 2, ground := Go.Ground.phase }, { on := 3, ground := Go.Ground.phase }, { on := 4, ground := Go.Ground.phase }, { on := 5, ground := Go.Ground.phase }, { on := 6, ground := Go.Ground.phase }], guard := none }) (v := ?_) rfl (by kernel_rfl) (by kernel_rfl) (by kernel_rfl) (fun _ _ _ h => h) (Or.inl ⟨by rfl, ?_⟩) (trivial) ?_
    rotate_left 1
    · intro w5 hSw
      go_simp; all_goals (with_reducible rfl)
    try simp only [Act.put, List.setIfInBounds_toArray, List.set_cons_zero, List.set_cons_succ]
    refine wpAnyH_take (i := 8) (oi := { dst := some 26, op := Go.Op.fieldAddr 58 (Go.Operand.tmp 25) 2, type := 0, pos := "lru.go:94", after := #[{ on := 7, ground := Go.Ground.data }, { on := 0, ground := Go.Ground.phase }, { on := 1, ground := Go.Ground.phase }, { on := 2, ground := Go.Ground.phase }, { on := 3, ground := Go.Ground.phase }, { on := 4, ground := Go.Ground.phase }, { on := 5, ground := Go.Ground.phase }, { on := 6, ground := Go.Ground.phase }], guard := none }) (v := ?_) rfl (by kernel_rfl) (by kernel_rfl) (by kernel_rfl) (fun _ _ _ h => h) (Or.inl ⟨by rfl, ?_⟩) (trivial) ?_
    rotate_left 1
    · intro w5 hSw
      go_simp; all_goals (with_reducible rfl)
    try simp only [Act.put, List.setIfInBounds_toArray, List.set_cons_zero, List.set_cons_succ]
    refine wpAnyH_ready (rs := [9]) (by kernel_rfl) (by simp) ?_
    refine (AllReadyH.cons (o := { dst := none, op := Go.Op.store 3 (Go.Operand.tmp 26) (Go.Operand.tmp 24), type := 0, pos := "lru.go:94", after := #[{ on := 8, ground := Go.Ground.data }, { on := 6, ground := Go.Ground.data }, { on := 5, ground := Go.Ground.chain }, { on := 0, ground := Go.Ground.phase }, { on := 1, ground := Go.Ground.phase }, { on := 2, ground := Go.Ground.phase }, { on := 3, ground := Go.Ground.phase }, { on := 4, ground := Go.Ground.phase }, { on := 5, ground := Go.Ground.phase }, { on := 6, ground := Go.Ground.phase }], guard := none }) rfl (fun K hK => ?_) AllReadyH.nil)
    go_simp
    refine hK.out _ _ (trivial) (fun _ => ?_)
    clear hK K
    try simp only [Act.put, List.setIfInBounds_toArray, List.set_cons_zero, List.set_cons_succ]
    refine wpAnyH_done (by kernel_rfl) ?_ _
    go_wp2_with fail
    go_end0
    exact ⟨rfl, FIN.out (Y.drewN (1 + kk)) ⟨rfl, rfl, rfl, Nat.le_refl _, fun _ _ => rfl⟩ _ (by first | exact WR.out | exact WR2.out)⟩
  · go_simp
    refine (Hby.out _ (by first | exact hk0 | simpa using hk0) (by first | exact hk1 | simpa using hk1)).mono ?_; rintro e Y ⟨rfl, kk, rfl⟩
    go_wp2_with fail
    refine hK.out _ _ (trivial) (fun _ => ?_)
    clear hK K
    try simp only [Act.put, List.setIfInBounds_toArray, List.set_cons_zero, List.set_cons_succ]
    refine wpAnyH_ready (rs := [3]) (by kernel_rfl) (by simp) ?_
    refine (AllReadyH.cons (o := { dst := some 21, op := Go.Op.load 3 (Go.Operand.tmp 20), type := 3, pos := "lru.go:94", after := #[{ on := 2, ground := Go.Ground.data }], guard := none }) rfl (fun K hK => ?_) AllReadyH.nil)
    go_simp
    refine hK.out _ _ (trivial) (fun _ => ?_)
    clear hK K
    try simp only [Act.put, List.setIfInBounds_toArray, List.set_cons_zero, List.set_cons_succ]
    refine wpAnyH_take (i := 6) (oi := { dst := some 24, op := Go.Op.binOp Go.BinOp.sub 3 (Go.Operand.tmp 21) (Go.Operand.tmp 23) 3, type := 3, pos := "lru.go:94", after := #[{ on := 3, ground := Go.Ground.data }, { on := 5, ground := Go.Ground.data }], guard := none }) (v := ?_) rfl (by kernel_rfl) (by kernel_rfl) (by kernel_rfl) (fun _ _ _ h => h) (Or.inl ⟨by rfl, ?_⟩) (trivial) ?_
    rotate_left 1
    · intro w5 hSw
      go_simp; all_goals (with_reducible rfl)
    try simp only [Act.put, List.setIfInBounds_toArray, List.set_cons_zero, List.set_cons_succ]
    refine wpAnyH_take (i := 7) (oi := { dst := some 25, op := Go.Op.nilCheck (Go.Operand.tmp 18), type := 0, pos := "lru.go:94", after := #[{ on := 0, ground := Go.Ground.data }, { on := 0, ground := Go.Ground.phase }, { on := 1, ground := Go.Ground.phase }, { on := 2, ground := Go.Ground.phase }, { on := 3, ground := Go.Ground.phase }, { on := 4, ground := Go.Ground.phase }, { on := 5, ground := Go.Ground.phase }, { on := 6, ground := Go.Ground.phase }], guard := none }) (v := ?_) rfl (by kernel_rfl) (by kernel_rfl) (by kernel_rfl) (fun _ _ _ h => h) (Or.inl ⟨by rfl, ?_⟩) (trivial) ?_
    rotate_left 1
    · intro w5 hSw
      go_simp; all_goals (with_reducible rfl)
    try simp only [Act.put, List.setIfInBounds_toArray, List.set_cons_zero, List.set_cons_succ]
    refine wpAnyH_take (i := 8) (oi := { dst := some 26, op := Go.Op.fieldAddr 58 (Go.Operand.tmp 25) 2, type := 0, pos := "lru.go:94", after := #[{ on := 7, ground := Go.Ground.data }, { on := 0, ground := Go.Ground.phase }, { on := 1, ground := Go.Ground.phase }, { on := 2, ground := Go.Ground.phase }, { on := 3, ground := Go.Ground.phase }, { on := 4, ground := Go.Ground.phase }, { on := 5, ground := Go.Ground.phase }, { on := 6, ground := Go.Ground.phase }], guard := none }) (v := ?_) rfl (by kernel_rfl) (by kernel_rfl) (by kernel_rfl) (fun _ _ _ h => h) (Or.inl ⟨by rfl, ?_⟩) (trivial) ?_
    rotate_left 1
    · intro w5 hSw
      go_simp; all_goals (with_reducible rfl)
    try simp only [Act.put, List.setIfInBounds_toArray, List.set_cons_zero, List.set_cons_succ]
    refine wpAnyH_ready (rs := [9]) (by kernel_rfl) (by simp) ?_
    refine (AllReadyH.cons (o := { dst := none, op := Go.Op.store 3 (Go.Operand.tmp 26) (Go.Operand.tmp 24), type := 0, pos := "lru.go:94", after := #[{ on := 8, ground := Go.Ground.data }, { on := 6, ground := Go.Ground.data }, { on := 5, ground := Go.Ground.chain }, { on := 0, ground := Go.Ground.phase }, { on := 1, ground := Go.Ground.phase }, { on := 2, ground := Go.Ground.phase }, { on := 3, ground := Go.Ground.phase }, { on := 4, ground := Go.Ground.phase }, { on := 5, ground := Go.Ground.phase }, { on := 6, ground := Go.Ground.phase }], guard := none }) rfl (fun K hK => ?_) AllReadyH.nil)
    go_simp
    refine hK.out _ _ (trivial) (fun _ => ?_)
    clear hK K
    try simp only [Act.put, List.setIfInBounds_toArray, List.set_cons_zero, List.set_cons_succ]
    refine wpAnyH_done (by kernel_rfl) ?_ _
    go_wp2_with fail
    go_end0
    exact ⟨rfl, FIN.out (Y.drewN (1 + kk)) ⟨rfl, rfl, rfl, Nat.le_refl _, fun _ _ => rfl⟩ _ (by first | exact WR.out | exact WR2.out)⟩
end Go.Proofs.Ythbgijpakjfjkaa
