/- Layer 28: the closures that scale, and moved. -/
import Derived.Test.YtnajladngpphkaaOver1
namespace Go.Proofs.Ytnajladngpphkaa
open Go.RowKit
set_option linter.unusedVariables false
set_option maxRecDepth 100000

theorem pts_set : ∀ (l : List P2) (i : Nat) (x y : Int), ((pts l).set (i * 2) (.int .i64 x)).set (i * 2 + 1) (.int .i64 y) = pts (l.set i (x, y))
  | [], i, x, y => by simp [pts]
  | p :: l, 0, x, y => by simp [pts]
  | p :: l, i + 1, x, y => by
    have e1 : ∀ (q : P2) (m : List P2), pts (q :: m) = .int .i64 q.1 :: .int .i64 q.2 :: pts m := fun q m => by simp [pts]
    rw [List.set_cons_succ, e1, e1, show (i + 1) * 2 = i * 2 + 1 + 1 by omega, show i * 2 + 1 + 1 + 1 = (i * 2 + 1) + 1 + 1 by omega]
    simp only [List.set_cons_succ]
    rw [pts_set l i x y]
theorem whole_pt {w : World} {g : Nat} {t : TypeId} {m : List P2} (h : Whole w g t (pts m).toArray) (i : Nat) (x y : Int) : Whole ((w.setCell ⟨g, i * 2, none⟩ (.int .i64 x)).setCell ⟨g, i * 2 + 1, none⟩ (.int .i64 y)) g t (pts (m.set i (x, y))).toArray := by
  have h1 := (h.set (i * 2) (.int .i64 x)).set (i * 2 + 1) (.int .i64 y)
  rw [List.setIfInBounds_toArray, List.setIfInBounds_toArray, pts_set] at h1
  exact h1
theorem pts_rep : ∀ n, pts (List.replicate n (0, 0)) = List.replicate (n * 2) (.int .i64 0)
  | 0 => rfl
  | n + 1 => by
    have ih := pts_rep n
    have e1 : ∀ (q : P2) (m : List P2), pts (q :: m) = .int .i64 q.1 :: .int .i64 q.2 :: pts m := fun q m => by simp [pts]
    rw [List.replicate_succ, e1, ih, show (n + 1) * 2 = n * 2 + 1 + 1 by omega, List.replicate_succ, List.replicate_succ]
theorem made_pts (n : Nat) : madeCells #[Value.int .i64 0, Value.int .i64 0] (n * 2) = (pts (List.replicate n (0, 0))).toArray := by
  rw [pts_rep]
  apply Array.ext
  · simp [madeCells]
  · intro i h1 h2
    have h3 : i % 2 < 2 := Nat.mod_lt _ (by omega)
    simp only [madeCells, Array.getElem_ofFn, List.getElem_toArray, List.getElem_replicate]
    rcases (by omega : i % 2 = 0 ∨ i % 2 = 1) with e | e <;> simp [e]
theorem make_pts (n : Nat) (hn : n ≤ 1000000) (W : World) :
    (Instr.makeSlice 22 (.int .i64 (n : Int)) (.int .i64 (n : Int))).run Try.prog W = .ok (.slice (some ⟨W.heap.size, 0, none⟩) n n) (W.alloc (.cells (pts (List.replicate n (0, 0))).toArray 41)) := by
  obtain ⟨i1, hi1, hy0, hy1, hy2⟩ := info_parts ptinfo
  have := run_make (P := Try.prog) W 22 41 i1 _ Try.underlying22 hi1 hy0 .i64 .i64 (n : Int) (n : Int) (by omega) (Int.le_refl _) (by rw [hy2]; omega) (by omega)
  rw [hy1, show (Value.agg #[.int .i64 0, .int .i64 0]).cells = #[.int .i64 0, .int .i64 0] from rfl, Int.toNat_natCast] at this
  rw [← made_pts]
  exact this

/-- A point in the tile below. -/
def scP (m X Y E : Int) (p : P2) : P2 := (sc1 m X E p.1, sc1 m Y E p.2)
def okPt (p : P2) : Prop := (-1048576 ≤ p.1 ∧ p.1 ≤ 1048576) ∧ (-1048576 ≤ p.2 ∧ p.2 ≤ 1048576)
/-- The blocks that the closures hold. -/
def ZBox (W : World) (g0 g1 u X Y : Nat) (E B : Int) : Prop := Whole W g0 25 #[.int .i64 (u : Int), .int .i64 (X : Int), .int .i64 (Y : Int), .int .i64 B] ∧ Whole W g1 3 #[.int .i64 E]
theorem ZBox.below {W W' : World} {g0 g1 u X Y : Nat} {E B : Int} {b : Nat} (h : ZBox W g0 g1 u X Y E B) (hb : Below b W W') (h0 : g0 < b) (h1 : g1 < b) : ZBox W' g0 g1 u X Y E B := ⟨h.1.below hb h0, h.2.below hb h1⟩
theorem ZBox.alloc {W : World} {g0 g1 u X Y : Nat} {E B : Int} (h : ZBox W g0 g1 u X Y E B) (o : Obj) : ZBox (W.alloc o) g0 g1 u X Y E B := ⟨h.1.alloc o, h.2.alloc o⟩
theorem ZBox.kept {W W' : World} {g0 g1 u X Y : Nat} {E B : Int} (h : ZBox W g0 g1 u X Y E B) (hb : Below W.heap.size W W') : ZBox W' g0 g1 u X Y E B := ⟨h.1.below hb h.1.lt, h.2.below hb h.2.lt⟩

set_option maxHeartbeats 8000000 in
theorem pscale_any (u X Y : Nat) (E B : Int) (hu : u ≤ 14) (hX : X < 2 ^ u) (hY : Y < 2 ^ u) (hE : okE E B = true) (p : P2) (hp : okPt p) (g0 g1 : Nat) (w : World) (hz : ZBox w g0 g1 u X Y E B) :
    Calls Try.prog 27 #[.agg #[.int .i64 p.1, .int .i64 p.2], .pointer (some ⟨g0, 0, none⟩), .pointer (some ⟨g1, 0, none⟩)] w fun e w' => e = .returned (.agg #[.int .i64 (scP ((2 ^ u : Nat) : Int) X Y E p).1, .int .i64 (scP ((2 ^ u : Nat) : Int) X Y E p).2]) ∧ Below w.heap.size w w' := by
  obtain ⟨x, y⟩ := p
  have HS := Lib.hid fun W => scale_any u X Y E B x y W hu hX hY hE hp.1 hp.2
  show Calls Try.prog _ _ w fun e w' => e = .returned (.agg #[.int .i64 (sc1 ((2 ^ u : Nat) : Int) X E x), .int .i64 (sc1 ((2 ^ u : Nat) : Int) Y E y)]) ∧ Below w.heap.size w w'
  obtain ⟨R, hR⟩ : ∃ R, R = sc1 ((2 ^ u : Nat) : Int) X E x := ⟨_, rfl⟩
  obtain ⟨S, hS⟩ : ∃ S, S = sc1 ((2 ^ u : Nat) : Int) Y E y := ⟨_, rfl⟩
  rw [← hR, ← hS] at HS ⊢
  clear hR hS hE hX hY hp
  obtain ⟨X0, hX0⟩ : ∃ X0, X0 = (w.alloc (.cells #[.int .i64 x, .int .i64 y] 41)).alloc (.cells #[.int .i64 0, .int .i64 0] 41) := ⟨_, rfl⟩
  have hZ : ZBox X0 g0 g1 u X Y E B := by rw [hX0]; exact (hz.alloc _).alloc _
  have hP : Whole X0 w.heap.size 41 #[.int .i64 x, .int .i64 y] := by rw [hX0]; exact (Whole.new w _ _).alloc _
  have hO : Whole X0 (w.heap.size + 1) 41 #[.int .i64 0, .int .i64 0] := by
    rw [hX0]
    have := Whole.new (w.alloc (.cells #[.int .i64 x, .int .i64 y] 41)) 41 #[.int .i64 0, .int .i64 0]
    simpa using this
  have hB : Below w.heap.size w X0 := by
    rw [hX0]
    have h1 := (Below.refl w.heap.size w).alloc (Nat.le_refl _) (.cells #[.int .i64 x, .int .i64 y] 41)
    exact h1.alloc h1.size _
  obtain ⟨b, hb⟩ : ∃ b, b = w.heap.size := ⟨_, rfl⟩
  rw [← hb] at hP hO
  have c0 : X0.cell? ⟨b, 0, none⟩ = some (.int .i64 x) := hP.cell 0
  have c1 : X0.cell? ⟨b, 1, none⟩ = some (.int .i64 y) := hP.cell 1
  have z0 : X0.cell? ⟨g0, 0, none⟩ = some (.int .i64 (u : Int)) := hZ.1.cell 0
  have z1 : X0.cell? ⟨g0, 1, none⟩ = some (.int .i64 (X : Int)) := hZ.1.cell 1
  have z2 : X0.cell? ⟨g0, 2, none⟩ = some (.int .i64 (Y : Int)) := hZ.1.cell 2
  have z3 : X0.cell? ⟨g0, 3, none⟩ = some (.int .i64 B) := hZ.1.cell 3
  have z4 : X0.cell? ⟨g1, 0, none⟩ = some (.int .i64 E) := hZ.2.cell 0
  have HX0 := Lib.hid hX0
  have HO := Lib.hid hO
  have HB := Lib.hid hB
  have Hb := Lib.hid hb
  clear hX0 hZ hP hO hB hb hz
  go_enter Try.func27, Try.ntmps27
  go_upto_region 1 with (fail)
  rw [← HX0.out, ← Hb.out]
  go_wp2_with fail
  refine (HS.out _).mono ?_
  rintro e W ⟨rfl, hW⟩
  have HO := Lib.hid (HO.out.below hW HO.out.lt)
  have HB := Lib.hid (keepBelow hW HB.out)
  have e0 : W.cell? ⟨b + 1, 0, none⟩ = some (.int .i64 0) := HO.out.cell 0
  have e1 : W.cell? ⟨b + 1, 1, none⟩ = some (.int .i64 0) := HO.out.cell 1
  have f0 : W.frozen? ⟨b + 1, 0, none⟩ = false := HO.out.frozen 0
  have f1 : W.frozen? ⟨b + 1, 1, none⟩ = false := HO.out.frozen 1
  clear hW HS HX0 c0 c1 z0 z1 z2 z3 z4
  go_wp2_with fail
  have hV : Whole ((W.setCell ⟨b + 1, 0, none⟩ (.int .i64 R)).setCell ⟨b + 1, 1, none⟩ (.int .i64 S)) (b + 1) 41 #[.int .i64 R, .int .i64 S] := (HO.out.set 0 _).set 1 _
  have hBV : Below w.heap.size w ((W.setCell ⟨b + 1, 0, none⟩ (.int .i64 R)).setCell ⟨b + 1, 1, none⟩ (.int .i64 S)) :=
    (HB.out.setCell (p := ⟨b + 1, 0, none⟩) (by have := Hb.out; show _ ≤ b + 1; omega) (.int .i64 R)).setCell (p := ⟨b + 1, 1, none⟩) (by have := Hb.out; show _ ≤ b + 1; omega) (.int .i64 S)
  exact bodyPost_ret (results_cell_row rfl _ _ (b + 1) 41 _ (0, 0) _ rfl hV Try.underlying41 rfl (by kernel_rfl)) rfl ⟨rfl, hBV⟩

set_option maxHeartbeats 8000000 in
theorem moved_any (u X Y : Nat) (E B : Int) (hu : u ≤ 14) (hX : X < 2 ^ u) (hY : Y < 2 ^ u) (hE : okE E B = true) (v : Value) (l : List P2) (hl : l.length ≤ 1000) (hin : ∀ p ∈ l, okPt p) (g0 g1 : Nat) (w : World) (hz : ZBox w g0 g1 u X Y E B) (hv : RdP w w.heap.size v l) :
    Calls Try.prog 26 #[v, .func (.func 27) #[] #[.pointer (some ⟨g0, 0, none⟩), .pointer (some ⟨g1, 0, none⟩)]] w (PPost w (l.map (scP ((2 ^ u : Nat) : Int) X Y E))) := by
  obtain ⟨a, c, rfl, _, _, hp⟩ := hv
  have hmk := fun W => make_pts l.length (by omega) W
  obtain ⟨F, hF⟩ : ∃ F, F = scP ((2 ^ u : Nat) : Int) X Y E := ⟨_, rfl⟩
  have HS := Lib.hid fun (p : P2) (hp : p ∈ l) W (h : ZBox W g0 g1 u X Y E B) => pscale_any u X Y E B hu hX hY hE p (hin p hp) g0 g1 W h
  rw [← hF] at HS ⊢
  clear hF hX hY hE hin hu
  have HZ := Lib.hid hz
  have HP := Lib.hid hp
  obtain ⟨L, hL⟩ : ∃ L, L = l.length := ⟨_, rfl⟩
  have HL := Lib.hid hL
  rw [← hL] at hl hmk ⊢
  obtain ⟨w1, hw1⟩ : ∃ w1, w1 = w.alloc (.cells (pts (List.replicate L (0, 0))).toArray 41) := ⟨_, rfl⟩
  obtain ⟨g, hg⟩ : ∃ g, g = w.heap.size := ⟨_, rfl⟩
  have hW1 : Whole w1 g 41 (pts (List.replicate L (0, 0))).toArray := by rw [hw1, hg]; exact Whole.new w _ _
  have hB1 : Below w.heap.size w w1 := by rw [hw1]; exact (Below.refl _ _).alloc (Nat.le_refl _) _
  have Hg := Lib.hid hg
  have HW1 := Lib.hid hW1
  have HB1 := Lib.hid hB1
  have Hw1 := Lib.hid hw1
  clear hz hp hL hW1 hB1 hg hw1
  go_enter Try.func26, Try.ntmps26
  go_wp2_with fail
  rw [← Hw1.out, ← Hg.out]
  clear hmk
  go_loopw [13, 6, 7] (fun i x6 x7 W => ∃ (k : Nat) (m : List P2), k ≤ L ∧ i = .int .i64 (k : Int) ∧ Hid (m.length = L) ∧ Hid (Whole W g 41 (pts m).toArray) ∧ Hid (Below w.heap.size w W) ∧ Hid (∀ j, j < k → ∀ h : j < l.length, m[j]? = some (F l[j]))) (fun i _ _ _ => L - (intOf i).toNat)
  case atStart => exact ⟨0, _, Nat.zero_le _, rfl, List.length_replicate .., HW1, HB1, fun j h => by omega⟩
  case round =>
    obtain ⟨k, m, hk, rfl, hm, hW, hB, hs⟩ := hrel
    by_cases hlt : k < L
    · have hkl : k < l.length := by have := HL.out; omega
      have hkm : k < m.length := by have := hm.out; omega
      obtain ⟨b1, o1, rfl, h1, p0, p1⟩ := (HP.out.below hB.out).at k hkl
      have hcall := HS.out l[k] (List.getElem_mem hkl) (wr.alloc (.cells #[.int .i64 l[k].1, .int .i64 l[k].2] 41)) ((HZ.out.kept hB.out).alloc _)
      obtain ⟨q, hq⟩ : ∃ q, q = l[k] := ⟨_, rfl⟩
      obtain ⟨r, hr⟩ : ∃ r, r = F q := ⟨_, rfl⟩
      rw [← hq] at p0 p1 hcall
      rw [← hr] at hcall
      rw [hq] at hr
      have Hr : Hid (∀ h : k < l.length, r = F (l[k]'h)) := fun _ => hr
      clear hq hr
      obtain ⟨x, y⟩ := q
      obtain ⟨rx, ry⟩ := r
      simp only at p0 p1 hcall
      obtain ⟨s0, s1⟩ := pts_get m k hkm
      generalize m[k]'hkm = mk at s0 s1
      obtain ⟨m0, m1⟩ := mk
      simp only at s0 s1
      have hk0 : (0 : Int) ≤ (k : Int) := by omega
      have hk1 : (k : Int) < (L : Int) := by omega
      have hA1 : Below wr.heap.size wr (wr.alloc (.cells #[.int .i64 x, .int .i64 y] 41)) := (Below.refl _ _).alloc (Nat.le_refl _) _
      have Hcall := Lib.hid hcall
      have HA1 := Lib.hid hA1
      have Hs0 := Lib.hid s0
      have Hs1 := Lib.hid s1
      have Hkl := Lib.hid hkl
      have Hkm := Lib.hid hkm
      clear hcall hA1 s0 s1 hkl hkm
      go_wp2_with fail
      refine Hcall.out.mono ?_
      rintro e W2 ⟨rfl, hX⟩
      have hW2 := (hW.out.alloc (.cells #[.int .i64 x, .int .i64 y] 41)).below hX (hW.out.alloc _).lt
      have hB2 := hB.out.trans ((HA1.out.trans (hX.mono HA1.out.size)).mono hB.out.size)
      have c0 : W2.cell? ⟨g, k * 2, none⟩ = some (.int .i64 m0) := by rw [hW2.cell]; simpa using Hs0.out
      have c1 : W2.cell? ⟨g, k * 2 + 1, none⟩ = some (.int .i64 m1) := by rw [hW2.cell]; simpa using Hs1.out
      have f0 : W2.frozen? ⟨g, k * 2, none⟩ = false := hW2.frozen _
      have f1 : W2.frozen? ⟨g, k * 2 + 1, none⟩ = false := hW2.frozen _
      have HW2 := Lib.hid hW2
      have HB2 := Lib.hid hB2
      clear hX hW2 hB2 Hcall HA1 hW hB p0 p1 Hs0 Hs1
      go_wp2_with fail
      have hW3 := Lib.hid (whole_pt HW2.out k rx ry)
      have hB3 := Lib.hid ((HB2.out.setCell (p := ⟨g, k * 2, none⟩) (by have := Hg.out; show _ ≤ g; omega) (.int .i64 rx)).setCell (p := ⟨g, k * 2 + 1, none⟩) (by have := Hg.out; show _ ≤ g; omega) (.int .i64 ry))
      go_roundw
      case rel =>
        refine ⟨k + 1, m.set k (rx, ry), by omega, by go_num, (by show (m.set k (rx, ry)).length = L; rw [List.length_set]; exact hm.out), hW3, hB3, fun j hj h => ?_⟩
        rw [List.getElem?_set]
        by_cases e : k = j
        · subst e
          rw [if_pos rfl, if_pos (by have := Hkm.out; omega), Hr.out h]
        · rw [if_neg e]
          exact hs.out j (by omega) h
      case measure => simp [intOf]; omega
    · obtain rfl : k = L := by omega
      have hml : m = l.map F := by
        apply List.ext_getElem?
        intro j
        by_cases hj : j < l.length
        · rw [hs.out j (by have := HL.out; omega) hj, List.getElem?_map, List.getElem?_eq_getElem hj]; rfl
        · rw [List.getElem?_eq_none (by have := hm.out; have := HL.out; omega), List.getElem?_eq_none (by rw [List.length_map]; omega)]
      subst hml
      have Hk := Lib.hid hk
      clear hs hk
      go_wp2_with fail
      go_ret
      have e : (l.map F).length = k := hm.out
      refine ⟨_, rfl, ⟨some ⟨g, 0, none⟩, k, (by show Value.slice _ k k = _; rw [e]), by omega, by unfold maxLen; omega, Vals.of_block hW.out (pts_length _)⟩, hB.out, fun b hb => ?_⟩
      have h2 : some g = some b := hb
      have := Hg.out
      simp at h2
      omega
end Go.Proofs.Ytnajladngpphkaa
