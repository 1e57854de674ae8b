/- Layer 28: the window, and the points in it. -/
import Derived.Test.YtnajladngpphkaaOver2
namespace Go.Proofs.Ytnajladngpphkaa
open Go.RowKit
set_option linter.unusedVariables false
set_option maxRecDepth 100000

set_option maxHeartbeats 8000000 in
theorem scaled_any (u X Y : Nat) (E B : Int) (hu : u ≤ 14) (hX : X < 2 ^ u) (hY : Y < 2 ^ u) (hE : okE E B = true) (v : Value) (l : List P2) (hl : l.length ≤ 1000) (hin : ∀ p ∈ l, okPt p) (g0 g1 : Nat) (w : World) (hz : ZBox w g0 g1 u X Y E B) (hv : RdP w w.heap.size v l) :
    Calls Try.prog 25 #[v, .pointer (some ⟨g0, 0, none⟩), .pointer (some ⟨g1, 0, none⟩)] w (PPost w (l.map (scP ((2 ^ u : Nat) : Int) X Y E))) := by
  have HM := Lib.hid (moved_any u X Y E B hu hX hY hE v l hl hin g0 g1 w hz hv)
  obtain ⟨R, hR⟩ : ∃ R, R = l.map (scP ((2 ^ u : Nat) : Int) X Y E) := ⟨_, rfl⟩
  rw [← hR] at HM ⊢
  clear hu hX hY hE hl hin hz hv hR
  go_enter Try.func25, Try.ntmps25
  go_wp2_with fail
  refine HM.out.mono ?_
  rintro e W ⟨us, rfl, h1, h2, h3⟩
  have H1 := Lib.hid h1
  have H2 := Lib.hid h2
  have H3 := Lib.hid h3
  clear h1 h2 h3 HM
  go_wp2_with fail
  go_ret
  exact ⟨_, rfl, H1.out, H2.out, H3.out⟩
/-- The window. -/
def winC (g0 g1 : Nat) (lo hi : Int) : Array Value := #[.func (.func 25) #[] #[.pointer (some ⟨g0, 0, none⟩), .pointer (some ⟨g1, 0, none⟩)], .int .i64 lo, .int .i64 hi]

set_option maxHeartbeats 8000000 in
theorem opened_any (u X Y : Nat) (E B : Int) (hE : okE E B = true) (w : World) :
    Calls Try.prog 18 #[.agg #[.int .i64 (u : Int), .int .i64 (X : Int), .int .i64 (Y : Int), .int .i64 B], .int .i64 E] w fun e w' => e = .returned (.agg (winC w.heap.size (w.heap.size + 1) (-B) (E + B))) ∧ ZBox w' w.heap.size (w.heap.size + 1) u X Y E B ∧ Below w.heap.size w w' := by
  unfold okE at hE
  obtain ⟨h1, h2, h3, h4⟩ := of_decide_eq_true hE
  have w1 : wrap64 (-B) = -B := IntWalk.wrap64_in _ ⟨by omega, by omega⟩
  have w2 : wrap64 (E + B) = E + B := IntWalk.wrap64_in _ ⟨by omega, by omega⟩
  clear hE h1 h2 h3 h4
  obtain ⟨X0, hX0⟩ : ∃ X0, X0 = ((w.alloc (.cells #[.int .i64 (u : Int), .int .i64 (X : Int), .int .i64 (Y : Int), .int .i64 B] 25)).alloc (.cells #[.int .i64 E] 3)).alloc (.cells #[.nilFunc, .int .i64 0, .int .i64 0] 51) := ⟨_, rfl⟩
  obtain ⟨b, hb⟩ : ∃ b, b = w.heap.size := ⟨_, rfl⟩
  have hZ : ZBox X0 b (b + 1) u X Y E B := by
    rw [hX0, hb]
    refine ⟨((Whole.new w _ _).alloc _).alloc _, ?_⟩
    have := (Whole.new (w.alloc (.cells #[.int .i64 (u : Int), .int .i64 (X : Int), .int .i64 (Y : Int), .int .i64 B] 25)) 3 #[.int .i64 E]).alloc (.cells #[.nilFunc, .int .i64 0, .int .i64 0] 51)
    simpa using this
  have hO : Whole X0 (b + 2) 51 #[.nilFunc, .int .i64 0, .int .i64 0] := by
    rw [hX0, hb]
    have := Whole.new ((w.alloc (.cells #[.int .i64 (u : Int), .int .i64 (X : Int), .int .i64 (Y : Int), .int .i64 B] 25)).alloc (.cells #[.int .i64 E] 3)) 51 #[.nilFunc, .int .i64 0, .int .i64 0]
    simpa using this
  have hB : Below w.heap.size w X0 := by
    rw [hX0]
    have h1 := (Below.refl w.heap.size w).alloc (Nat.le_refl _) (.cells #[.int .i64 (u : Int), .int .i64 (X : Int), .int .i64 (Y : Int), .int .i64 B] 25)
    have h2 := h1.alloc h1.size (.cells #[.int .i64 E] 3)
    exact h2.alloc h2.size _
  have z3 : X0.cell? ⟨b, 3, none⟩ = some (.int .i64 B) := hZ.1.cell 3
  have z4 : X0.cell? ⟨b + 1, 0, none⟩ = some (.int .i64 E) := hZ.2.cell 0
  have e0 : X0.cell? ⟨b + 2, 0, none⟩ = some .nilFunc := hO.cell 0
  have e1 : X0.cell? ⟨b + 2, 1, none⟩ = some (.int .i64 0) := hO.cell 1
  have e2 : X0.cell? ⟨b + 2, 2, none⟩ = some (.int .i64 0) := hO.cell 2
  have f0 : X0.frozen? ⟨b + 2, 0, none⟩ = false := hO.frozen 0
  have f1 : X0.frozen? ⟨b + 2, 1, none⟩ = false := hO.frozen 1
  have f2 : X0.frozen? ⟨b + 2, 2, none⟩ = false := hO.frozen 2
  rw [← hb]
  have HX0 := Lib.hid hX0
  have HZ := Lib.hid hZ
  have HO := Lib.hid hO
  have HB := Lib.hid hB
  have Hb := Lib.hid hb
  clear hX0 hZ hO hB hb
  go_enter Try.func18, Try.ntmps18
  go_upto_region 1 with (fail)
  rw [← HX0.out, ← Hb.out]
  have hst := fun W => run_store Try.prog W ⟨b + 1 + 1, 0, none⟩ (.func (.func 25) #[] #[.pointer (some ⟨b, 0, none⟩), .pointer (some ⟨b + 1, 0, none⟩)]) .plain rfl
  go_wp2_with fail
  have hV := ((HO.out.set 0 (.func (.func 25) #[] #[.pointer (some ⟨b, 0, none⟩), .pointer (some ⟨b + 1, 0, none⟩)])).set 1 (.int .i64 (-B))).set 2 (.int .i64 (E + B))
  have hB1 := HB.out.setCell (p := ⟨b + 2, 0, none⟩) (by have := Hb.out; show _ ≤ b + 2; omega) (.func (.func 25) #[] #[.pointer (some ⟨b, 0, none⟩), .pointer (some ⟨b + 1, 0, none⟩)])
  have hB2 := (hB1.setCell (p := ⟨b + 2, 1, none⟩) (by have := Hb.out; show _ ≤ b + 2; omega) (.int .i64 (-B))).setCell (p := ⟨b + 2, 2, none⟩) (by have := Hb.out; show _ ≤ b + 2; omega) (.int .i64 (E + B))
  have hB3 := hB2
  rw [← Hb.out] at hB3
  refine bodyPost_ret (results_cell_row rfl _ _ (b + 1 + 1) 51 _ (0, 0) _ rfl hV Try.underlying51 rfl (by kernel_rfl)) rfl ⟨rfl, ⟨?_, ?_⟩, hB3⟩
  · exact ((HZ.out.1.far (p := ⟨b + 2, 0, none⟩) (by show b ≠ b + 2; omega) _).far (p := ⟨b + 2, 1, none⟩) (by show b ≠ b + 2; omega) _).far (p := ⟨b + 2, 2, none⟩) (by show b ≠ b + 2; omega) _
  · exact ((HZ.out.2.far (p := ⟨b + 2, 0, none⟩) (by show b + 1 ≠ b + 2; omega) _).far (p := ⟨b + 2, 1, none⟩) (by show b + 1 ≠ b + 2; omega) _).far (p := ⟨b + 2, 2, none⟩) (by show b + 1 ≠ b + 2; omega) _

/-- v is a row of one row, which reads as R; both of them lie at lo or behind it. -/
def PF (W : World) (lo : Nat) (v : Value) (R : List P2) : Prop := ∃ b cap a c, v = .slice (some ⟨b, 0, none⟩) 1 cap ∧ lo ≤ b ∧ b < W.heap.size ∧ 1 ≤ cap ∧ cap ≤ maxLen ∧ W.cell? ⟨b, 0, none⟩ = some (.slice a R.length c) ∧ R.length ≤ c ∧ c ≤ maxLen ∧
  (R = [] ∨ ∃ b2 off, a = some ⟨b2, off, none⟩ ∧ lo ≤ b2 ∧ b2 < W.heap.size ∧ ∀ i, i < (pts R).length → W.cell? ⟨b2, off + i, none⟩ = (pts R)[i]?)
theorem PF.moved {W W' : World} {lo : Nat} {v : Value} {R : List P2} (h : PF W lo v R) (hs : W.heap.size ≤ W'.heap.size) (hk : ∀ k, lo ≤ k → k < W.heap.size → W'.heap[k]? = W.heap[k]?) : PF W' lo v R := by
  obtain ⟨b, cap, a, c, h1, h2, h3, h4, h5, h6, h7, h8, h9⟩ := h
  refine ⟨b, cap, a, c, h1, h2, Nat.lt_of_lt_of_le h3 hs, h4, h5, (World.cell?_of_block (w := W) (hk b h2 h3)).trans h6, h7, h8, ?_⟩
  rcases h9 with e | ⟨b2, off, e, k1, k2, k3⟩
  · exact .inl e
  · exact .inr ⟨b2, off, e, k1, Nat.lt_of_lt_of_le k2 hs, fun i hi => (World.cell?_of_block (w := W) (hk b2 k1 k2)).trans (k3 i hi)⟩
theorem PF.mono {W : World} {lo lo' : Nat} {v : Value} {R : List P2} (h : PF W lo v R) (hl : lo' ≤ lo) : PF W lo' v R := by
  obtain ⟨b, cap, a, c, h1, h2, h3, h4, h5, h6, h7, h8, h9⟩ := h
  refine ⟨b, cap, a, c, h1, Nat.le_trans hl h2, h3, h4, h5, h6, h7, h8, ?_⟩
  rcases h9 with e | ⟨b2, off, e, k1, k2, k3⟩
  · exact .inl e
  · exact .inr ⟨b2, off, e, Nat.le_trans hl k1, k2, k3⟩
theorem PF.rd {W : World} {lo : Nat} {v : Value} {R : List P2} (h : PF W lo v R) : RdPP W W.heap.size v [R] := by
  obtain ⟨b, cap, a, c, h1, h2, h3, h4, h5, h6, h7, h8, h9⟩ := h
  refine ⟨some ⟨b, 0, none⟩, cap, [.slice a R.length c], h1, h4, h5, ⟨rfl, fun _ => ⟨b, 0, rfl, h3, fun i hi => ?_⟩⟩, fun i hi => ?_⟩
  · have e : i = 0 := by have : i < 1 := hi; omega
    subst e
    exact h6
  · have e : i = 0 := by have : i < 1 := hi; omega
    subst e
    refine ⟨_, rfl, a, c, rfl, h7, h8, pts_length R, fun hp => ?_⟩
    rcases h9 with e | ⟨b2, off, e, k1, k2, k3⟩
    · have e2 : R = [] := e
      subst e2
      exact absurd hp (by show ¬ 0 < 0; omega)
    · exact ⟨b2, off, e, k2, k3⟩
theorem PF.below {W W' : World} {lo : Nat} {v : Value} {R : List P2} (h : PF W lo v R) (hb : Below W.heap.size W W') : PF W' lo v R := h.moved hb.size (fun k _ hk => hb.block k hk)
theorem PF.made {W W' : World} {base : Nat} {v v' : Value} {a : Option Addr} {n c : Nat} {R : List P2} {xs : List Value} (hx : xs.length = 0) (hU : RdN W v.ownBlock (.slice a n c) R) (hfr : ∀ b, (Value.slice a n c).ownBlock = some b → base ≤ b)
    (h2 : W'.ownsRow base 22 1 v' 1 (xs ++ [.slice a n c])) (h3 : W.grownBy W' v.ownBlock) (h5 : v'.ownBlock = v.ownBlock ∨ ∃ g, v'.ownBlock = some g ∧ W.heap.size ≤ g) : PF W' base v' R := by
  obtain rfl : xs = [] := List.eq_nil_of_length_eq_zero hx
  have ho : Only (fun k => v.ownBlock = some k) W W' := Only.of_grown h3 (fun b e => e)
  have hn : ∀ b, b < W.heap.size → v.ownBlock ≠ some b → v'.ownBlock ≠ some b := fun b hb hk => by
    rcases h5 with e | ⟨k, e, hk'⟩
    · rw [e]; exact hk
    · rw [e]; intro e'; injection e' with e'; omega
  have hU2 := hU.only ho (fun _ h => h) hn
  obtain ⟨a2, c2, e1, k1, k2, k3⟩ := hU2
  injection e1 with e1 e2 e3
  subst e1 e2 e3
  have hlt := fun k hk => World.ownsRow.lt h2 k hk
  obtain ⟨A, C, rfl, q1, q2, q3⟩ := Vals.of_own h2
  obtain ⟨B, off, rfl, q4, q5⟩ := q3.2 (by simp)
  have h6 := q5 0 (by simp)
  have hoff : off = 0 := by
    rcases h2.2 with ⟨hh, _⟩ | ⟨g, cap, cur, hh, _⟩
    · simp at hh
    · injection hh with hh; injection hh with hh; injection hh with _ hh
  subst hoff
  refine ⟨B, C, a, c, rfl, (hlt B rfl).1, q4, q1, q2, h6, k1, k2, ?_⟩
  rcases k3 with e | ⟨b2, off, e, m1, _, m3⟩
  · exact .inl e
  · exact .inr ⟨b2, off, e, hfr b2 (by rw [e]; rfl), m1, m3⟩
def WPost (w : World) (R : List P2) (e : Ending) (w' : World) : Prop := ∃ v, e = .returned v ∧ Below w.heap.size w w' ∧ ((R = [] ∧ ∃ a c, v = .slice a 0 c) ∨ (R ≠ [] ∧ PF w' w.heap.size v R))

theorem own_cells {w : World} {base : Nat} {v : Value} {ll : List (List P2)} (h : OwnPP w base v ll) : ∃ xs, w.ownsRow base 22 1 v ll.length xs ∧ xs.length = ll.length ∧ ∀ i (h : i < ll.length), ∃ u, xs[i]? = some u ∧ RdN w v.ownBlock u ll[i] := by
  obtain ⟨xs, h1, h2⟩ := h
  exact ⟨xs, h1, by have := h1.1; omega, h2⟩

set_option maxHeartbeats 16000000 in
theorem wpoints_any (u X Y : Nat) (E B : Int) (hu : u ≤ 14) (hX : X < 2 ^ u) (hY : Y < 2 ^ u) (hE : okE E B = true) (lo hi : Int) (v : Value) (l : List P2) (hl : l.length ≤ 1000) (hin : ∀ p ∈ l, okPt p) (g0 g1 : Nat) (w : World) (hz : ZBox w g0 g1 u X Y E B) (hv : RdPP w w.heap.size v [l])
    (R : List P2) (hR : (l.map (scP ((2 ^ u : Nat) : Int) X Y E)).filter (insB lo hi) = R) :
    Calls Try.prog 20 #[.agg #[.func (.func 25) #[] #[.pointer (some ⟨g0, 0, none⟩), .pointer (some ⟨g1, 0, none⟩)], .int .i64 lo, .int .i64 hi], v] w (WPost w R) := by
  obtain ⟨i0, hi0, hz0, hz1, hz2⟩ := info_parts ppinfo
  obtain ⟨a, c, rfl, _, _, hp⟩ := hv.at
  have HSc := Lib.hid fun v W (hz : ZBox W g0 g1 u X Y E B) (hv : RdP W W.heap.size v l) => scaled_any u X Y E B hu hX hY hE v l hl hin g0 g1 W hz hv
  have HPo := Lib.hid fun v W (hv : RdP W W.heap.size v (l.map (scP ((2 ^ u : Nat) : Int) X Y E))) => points_any v _ lo hi W hv (by rw [List.length_map]; exact hl) R hR
  have hRl : R.length ≤ 1000 := by rw [← hR]; exact Nat.le_trans (List.length_filter_le _ _) (by rw [List.length_map]; exact hl)
  obtain ⟨M, hM⟩ : ∃ M, M = l.map (scP ((2 ^ u : Nat) : Int) X Y E) := ⟨_, rfl⟩
  rw [← hM] at HSc HPo
  clear hR hM hX hY hE hin hl hu hv
  have HZ := Lib.hid hz
  have HP := Lib.hid hp
  obtain ⟨n1, hn1⟩ : ∃ n, n = [l].length := ⟨_, rfl⟩
  rw [← hn1]
  have Hn1 : Hid (n1 = 1) := hn1
  clear hn1
  obtain ⟨w1, hw1⟩ : ∃ w1, w1 = w.alloc (.cells (winC g0 g1 lo hi) 51) := ⟨_, rfl⟩
  obtain ⟨g2, hg⟩ : ∃ g, g = w.heap.size := ⟨_, rfl⟩
  have hWi : Whole w1 g2 51 (winC g0 g1 lo hi) := by rw [hw1, hg]; exact Whole.new w _ _
  have hB1 : Below w.heap.size w w1 := by rw [hw1]; exact (Below.refl _ _).alloc (Nat.le_refl _) _
  have HWi1 := Lib.hid hWi
  have HB1 := Lib.hid hB1
  have Hw1 : Hid (w1 = w.alloc (.cells #[.func (.func 25) #[] #[.pointer (some ⟨g0, 0, none⟩), .pointer (some ⟨g1, 0, none⟩)], .int .i64 lo, .int .i64 hi] 51)) := hw1
  have Hg := Lib.hid hg
  have HRl := Lib.hid hRl
  clear hz hp hWi hB1 hw1 hg hRl
  go_enter Try.func20, Try.ntmps20
  go_wp2_with fail
  rw [← Hw1.out]
  go_loopw [11, 5, 7, 8] (fun i v x7 x8 W => ∃ (k : Nat) (v5 : Value), k ≤ n1 ∧ i = .int .i64 (k : Int) ∧ v5 = v ∧ Hid (Below w.heap.size w W) ∧ Hid (k = 0 → Whole W g2 51 (winC g0 g1 lo hi) ∧ OwnPP W w.heap.size v5 []) ∧ Hid (k = 1 → (R = [] ∧ ∃ a c, v5 = .slice a 0 c) ∨ (R ≠ [] ∧ PF W w.heap.size v5 R))) (fun i _ _ _ _ => n1 - (intOf i).toNat)
  case atStart => exact ⟨0, _, Nat.zero_le _, rfl, rfl, HB1, fun _ => ⟨HWi1, OwnPP.nil_ _ _⟩, fun h => absurd h (by omega)⟩
  case round =>
    obtain ⟨k, v5, hk, rfl, rfl, HB, Hs0, Hs1⟩ := hrel
    by_cases hlt : k < n1
    · have hk0 : k = 0 := by have := Hn1.out; omega
      subst hk0
      obtain ⟨hWi, hO⟩ := Hs0.out rfl
      have HO := Lib.hid hO
      clear hO
      obtain ⟨b1, o1, u0, rfl, h1, p0, hu0⟩ := (HP.out.below HB.out) 0 (by show 0 < 1; omega)
      have p0 : wr.cell? ⟨b1, o1, none⟩ = some u0 := p0
      have HV := Lib.hid ((show RdP wr w.heap.size u0 l from hu0).more HB.out.size)
      have HZ := Lib.hid (HZ.out.kept HB.out)
      have HWi := Lib.hid hWi
      have hlt1 : (0 : Int) < (n1 : Int) := by have := Hn1.out; omega
      clear hWi hu0 Hs0 Hs1
      rw [← Hg.out]
      go_upto_region 5 with (fail)
      have HO : Hid (OwnPP wr.drew w.heap.size v5 []) := HO.out
      have HV : Hid (RdP wr.drew wr.drew.heap.size u0 l) := HV.out
      have HZ : Hid (ZBox wr.drew g0 g1 u X Y E B) := HZ.out
      have HWi : Hid (Whole wr.drew g2 51 (winC g0 g1 lo hi)) := HWi.out
      have HB : Hid (Below w.heap.size w wr.drew) := ⟨HB.out.os, HB.out.tape, HB.out.output, HB.out.size, HB.out.block⟩
      refine held_start (by kernel_rfl) ?_
      refine wpAnyH_take (i := 0) (oi := { dst := some 15, op := Go.Op.fieldAddr 51 (Go.Operand.tmp 2) 0, type := 0, pos := "over.go:82", after := #[], guard := none }) (v := ?_) rfl (by kernel_rfl) (by kernel_rfl) (by kernel_rfl) (fun _ _ _ h => h) (Or.inl ⟨by rfl, ?_⟩) (Kp.refl _) ?_
      rotate_left 1
      · intro w5 hSw
        go_simp; all_goals (with_reducible rfl)
      try simp only [Act.put, List.setIfInBounds_toArray, List.set_cons_zero, List.set_cons_succ]
      refine wpAnyH_take (i := 1) (oi := { dst := some 16, op := Go.Op.load 49 (Go.Operand.tmp 15), type := 49, pos := "over.go:82", after := #[{ on := 0, ground := Go.Ground.data }], guard := none }) (v := ?_) rfl (by kernel_rfl) (by kernel_rfl) (by kernel_rfl) (fun _ _ _ h => h) (Or.inl ⟨by rfl, ?_⟩) (Kp.refl _) ?_
      rotate_left 1
      · intro w5 hSw
        have c : w5.cell? ⟨g2, 0, none⟩ = some (.func (.func 25) #[] #[.pointer (some ⟨g0, 0, none⟩), .pointer (some ⟨g1, 0, none⟩)]) := (HWi.out.below hSw HWi.out.lt).cell 0
        go_simp; all_goals (with_reducible rfl)
      try simp only [Act.put, List.setIfInBounds_toArray, List.set_cons_zero, List.set_cons_succ]
      refine wpAnyH_take (i := 2) (oi := { dst := some 17, op := Go.Op.move (Go.Operand.tmp 7), type := 22, pos := "over.go:82", after := #[], guard := none }) (v := ?_) rfl (by kernel_rfl) (by kernel_rfl) (by kernel_rfl) (fun _ _ _ h => h) (Or.inl ⟨by rfl, ?_⟩) (Kp.refl _) ?_
      rotate_left 1
      · intro w5 hSw
        go_simp; all_goals (with_reducible rfl)
      try simp only [Act.put, List.setIfInBounds_toArray, List.set_cons_zero, List.set_cons_succ]
      refine wpAnyH_take (i := 4) (oi := { dst := some 19, op := Go.Op.fieldAddr 51 (Go.Operand.tmp 2) 1, type := 0, pos := "over.go:82", after := #[], guard := none }) (v := ?_) rfl (by kernel_rfl) (by kernel_rfl) (by kernel_rfl) (fun _ _ _ h => h) (Or.inl ⟨by rfl, ?_⟩) (Kp.refl _) ?_
      rotate_left 1
      · intro w5 hSw
        go_simp; all_goals (with_reducible rfl)
      try simp only [Act.put, List.setIfInBounds_toArray, List.set_cons_zero, List.set_cons_succ]
      refine wpAnyH_take (i := 5) (oi := { dst := some 20, op := Go.Op.load 3 (Go.Operand.tmp 19), type := 3, pos := "over.go:82", after := #[{ on := 4, ground := Go.Ground.data }], guard := none }) (v := ?_) rfl (by kernel_rfl) (by kernel_rfl) (by kernel_rfl) (fun _ _ _ h => h) (Or.inl ⟨by rfl, ?_⟩) (Kp.refl _) ?_
      rotate_left 1
      · intro w5 hSw
        have c : w5.cell? ⟨g2, 1, none⟩ = some (.int .i64 lo) := (HWi.out.below hSw HWi.out.lt).cell 1
        go_simp; all_goals (with_reducible rfl)
      try simp only [Act.put, List.setIfInBounds_toArray, List.set_cons_zero, List.set_cons_succ]
      refine wpAnyH_take (i := 6) (oi := { dst := some 21, op := Go.Op.fieldAddr 51 (Go.Operand.tmp 2) 2, type := 0, pos := "over.go:82", after := #[], guard := none }) (v := ?_) rfl (by kernel_rfl) (by kernel_rfl) (by kernel_rfl) (fun _ _ _ h => h) (Or.inl ⟨by rfl, ?_⟩) (Kp.refl _) ?_
      rotate_left 1
      · intro w5 hSw
        go_simp; all_goals (with_reducible rfl)
      try simp only [Act.put, List.setIfInBounds_toArray, List.set_cons_zero, List.set_cons_succ]
      refine wpAnyH_take (i := 7) (oi := { dst := some 22, op := Go.Op.load 3 (Go.Operand.tmp 21), type := 3, pos := "over.go:82", after := #[{ on := 6, ground := Go.Ground.data }], guard := none }) (v := ?_) rfl (by kernel_rfl) (by kernel_rfl) (by kernel_rfl) (fun _ _ _ h => h) (Or.inl ⟨by rfl, ?_⟩) (Kp.refl _) ?_
      rotate_left 1
      · intro w5 hSw
        have c : w5.cell? ⟨g2, 2, none⟩ = some (.int .i64 hi) := (HWi.out.below hSw HWi.out.lt).cell 2
        go_simp; all_goals (with_reducible rfl)
      try simp only [Act.put, List.setIfInBounds_toArray, List.set_cons_zero, List.set_cons_succ]
      refine wpAnyH_ready (rs := [3]) (by kernel_rfl) (by simp) ?_
      refine AllReadyH.cons (o := { dst := some 18, op := Go.Op.call { callee := Go.Callee.value (Go.Operand.tmp 16), args := #[Go.Operand.tmp 17], argTypes := #[22] }, type := 22, pos := "over.go:82", after := #[{ on := 1, ground := Go.Ground.data }, { on := 2, ground := Go.Ground.data }], guard := none }) rfl (fun K hK => ?_) AllReadyH.nil
      go_simp
      refine (HSc.out _ _ HZ.out HV.out).mono ?_; rintro e Y ⟨us, rfl, hus, hb, hfr⟩; have HUs := Lib.hid hus; have HWi := Lib.hid (HWi.out.below hb HWi.out.lt); have HB := Lib.hid (keepBelow hb HB.out); have HBY := HB; have HO := Lib.hid (HO.out.below hb); have HK1 := Lib.hid hb; clear hb hus hfr
      go_wp2_with fail
      refine hK.out _ _ (HK1.out) (fun _ => held_more (HK1.out) ?_)
      clear hK K
      try simp only [Act.put, List.setIfInBounds_toArray, List.set_cons_zero, List.set_cons_succ]
      refine wpAnyH_ready (rs := [8]) (by kernel_rfl) (by simp) ?_
      refine AllReadyH.cons (o := { dst := some 23, op := Go.Op.call { callee := Go.Callee.value (Go.Operand.func 28), args := #[Go.Operand.tmp 18, Go.Operand.tmp 20, Go.Operand.tmp 22], argTypes := #[22, 3, 3] }, type := 22, pos := "over.go:82", after := #[{ on := 3, ground := Go.Ground.data }, { on := 5, ground := Go.Ground.data }, { on := 7, ground := Go.Ground.data }, { on := 3, ground := Go.Ground.chain }], guard := none }) rfl (fun K hK => ?_) AllReadyH.nil
      go_simp
      refine (HPo.out _ _ HUs.out).mono ?_; rintro e Y2 ⟨ui, rfl, hui, hb, hfr⟩; have HUi := Lib.hid hui; have HWi := Lib.hid (HWi.out.below hb HWi.out.lt); have HB := Lib.hid (keepBelow hb HB.out); have hne : ∀ b, ui.ownBlock = some b → v5.ownBlock ≠ some b := (fun b e1 e2 => by have h1 := hfr b e1; have h2 := (HO.out.lt b e2).2; omega); have HFr : Hid (∀ b, ui.ownBlock = some b → w.heap.size ≤ b) := (fun b e1 => Nat.le_trans HBY.out.size (hfr b e1)); have HO := Lib.hid (HO.out.below hb); have HNe := Lib.hid hne; have HK2 := Lib.hid hb; clear hb hui hfr hne
      go_wp2_with fail
      refine hK.out _ _ (HK2.out) (fun _ => held_more (HK2.out) ?_)
      clear hK K
      try simp only [Act.put, List.setIfInBounds_toArray, List.set_cons_zero, List.set_cons_succ]
      refine wpAnyH_take (i := 9) (oi := { dst := some 8, op := Go.Op.assign (Go.Operand.tmp 23), type := 22, pos := "over.go:82", after := #[{ on := 8, ground := Go.Ground.data }, { on := 8, ground := Go.Ground.chain }, { on := 0, ground := Go.Ground.phase }, { on := 1, ground := Go.Ground.phase }, { on := 2, ground := Go.Ground.phase }, { on := 3, ground := Go.Ground.phase }, { on := 4, ground := Go.Ground.phase }, { on := 5, ground := Go.Ground.phase }, { on := 6, ground := Go.Ground.phase }, { on := 7, ground := Go.Ground.phase }, { on := 8, ground := Go.Ground.phase }], guard := none }) (v := ?_) rfl (by kernel_rfl) (by kernel_rfl) (by kernel_rfl) (fun _ _ _ h => h) (Or.inl ⟨by rfl, ?_⟩) (Kp.refl _) ?_
      rotate_left 1
      · intro w5 hSw
        go_simp; all_goals (with_reducible rfl)
      try simp only [Act.put, List.setIfInBounds_toArray, List.set_cons_zero, List.set_cons_succ]
      refine wpAnyH_done (by kernel_rfl) ?_ _
      have huo := rdp_one HUi.out
      have HU := Lib.hid (RdN.of_rd HUi.out HNe.out)
      obtain ⟨sa, sc, rfl, _, _, _⟩ := HUi.out
      obtain ⟨M, hM⟩ : ∃ M, M = R.length := ⟨_, rfl⟩
      have HM := Lib.hid hM
      rw [← hM] at HU huo HFr ⊢
      clear HUi HNe hM HK1 HK2 HV HSc HPo HUs
      by_cases h0 : 0 < M
      · have d1 : decide ((0 : Int) < (M : Int)) = true := decide_eq_true (by omega)
        have d2 : decide (0 < M) = true := decide_eq_true h0
        have hRn : Hid (R ≠ []) := fun e => by have := HM.out; rw [e] at this; simp at this; omega
        obtain ⟨xs, hown, hxl, hx⟩ := own_cells HO.out
        clear hx h0
        go_wp2_with (at_builtin; refine app_one rfl (.tmp 27) (.tmp 29) 26 rfl w.heap.size 22 i0 _ 24 Try.underlying26 hi0 hz0 hz1 hz2 rfl v5 _ _ rfl hown (.slice sa M sc) 1 rfl huo (by show 0 + 1 ≤ _; unfold maxLen; omega) (by show (0 + 1) * 24 ≤ _; omega) HB.out.size ?_)
        intro v3 w3 h2 h3 h5
        have hG := PF.made hxl HU.out HFr.out h2 h3 h5
        have HG := Lib.hid hG
        have HB3 := Lib.hid (HB.out.trans (below_of_grown (base := w.heap.size) (Below.refl w.heap.size Y2) hown h3 HB.out.size))
        clear h2 h3 h5 hG hown hxl
        go_wp2_with fail
        go_roundw
        case rel => rw [Hg.out]; exact ⟨1, v3, by have := Hn1.out; omega, rfl, rfl, HB3, fun h => absurd h (by omega), fun _ => .inr ⟨hRn.out, HG.out⟩⟩
        case measure => simp [intOf]; omega
      · have d1 : decide ((0 : Int) < (M : Int)) = false := decide_eq_false (by omega)
        have d2 : decide (0 < M) = false := decide_eq_false h0
        have hR0 : Hid (R = []) := List.eq_nil_of_length_eq_zero (by have := HM.out; omega)
        have hV5 : Hid (∃ a c, v5 = .slice a 0 c) := by
          obtain ⟨a, c, e, _⟩ := HO.out.rd.at
          exact ⟨a, c, e⟩
        clear h0
        go_wp2_with fail
        go_roundw
        case rel => rw [Hg.out]; exact ⟨1, v5, by have := Hn1.out; omega, rfl, rfl, HB, fun h => absurd h (by omega), fun _ => .inl ⟨hR0.out, hV5.out⟩⟩
        case measure => simp [intOf]; omega
    · have hF := Lib.hid (Hs1.out (by have := Hn1.out; omega))
      obtain rfl : k = n1 := by omega
      clear Hs0 Hs1
      go_wp2_with fail
      go_ret
      exact ⟨_, rfl, HB.out, hF.out⟩
end Go.Proofs.Ytnajladngpphkaa
