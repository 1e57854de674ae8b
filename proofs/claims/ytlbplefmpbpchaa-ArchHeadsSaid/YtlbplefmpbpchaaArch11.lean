/- Layer 13: PutHead. -/
import Derived.Test.YtlbplefmpbpchaaArch10
import Derived.Lib.SmallJoins
namespace Go.Proofs.Ytlbplefmpbpchaa
open Go.RowKit
set_option linter.unusedVariables false
set_option maxRecDepth 100000

def cI (h : Hd) : Int := if h.cl then 1 else 0
/-- The bytes of a header, part by part. -/
def pc (h : Hd) : Nat → List Nat
  | 0 => lowD h.r0 8
  | 1 => lowD h.r1 8
  | 2 => lowD h.m0 8
  | 3 => lowD h.m1 8
  | 4 => lowD h.l0 8
  | 5 => lowD h.l1 8
  | 6 => lowD h.d0 8
  | 7 => lowD h.d1 8
  | 8 => lowD h.c0 8
  | 9 => lowD h.c1 8
  | 10 => lowD h.c2 8
  | 11 => lowD (u64N (cI h)) 1
  | 12 => lowD (u64N (h.inn)) 1
  | 13 => lowD (u64N (h.out)) 1
  | 14 => lowD (u64N (h.kind)) 1
  | 15 => lowD (u64N (h.zmin)) 1
  | 16 => lowD (u64N (h.zmax)) 1
  | 17 => lowD (u64N h.x0) 4
  | 18 => lowD (u64N h.y0) 4
  | 19 => lowD (u64N h.x1) 4
  | 20 => lowD (u64N h.y1) 4
  | 21 => lowD (u64N h.mid) 1
  | 22 => lowD (u64N h.cx) 4
  | 23 => lowD (u64N h.cy) 4
  | _ => []
theorem pc_len (h : Hd) (k : Nat) : (pc h k).length ≤ 8 := by
  unfold pc
  split <;> (first | (rw [lowD_length]; omega) | simp)
def catP (h : Hd) : Nat → List Nat
  | 0 => magicL
  | k + 1 => catP h k ++ pc h k
theorem catP_len (h : Hd) : ∀ k, (catP h k).length ≤ 8 + 8 * k
  | 0 => by show magicL.length ≤ _; decide
  | k + 1 => by show (catP h k ++ pc h k).length ≤ _; rw [List.length_append]; have := catP_len h k; have := pc_len h k; omega
theorem lowD_lt : ∀ (n v : Nat), ∀ x ∈ lowD v n, x < 256
  | 0, v, x, hx => absurd hx (by show ¬ x ∈ ([] : List Nat); simp)
  | n + 1, v, x, hx => by
    rcases List.mem_cons.1 (show x ∈ v % 256 :: lowD (v / 256) n from hx) with rfl | hx
    · exact Nat.mod_lt _ (by decide)
    · exact lowD_lt n _ x hx
theorem pc_lt (h : Hd) (k : Nat) : ∀ x ∈ pc h k, x < 256 := by
  unfold pc
  split <;> (first | exact lowD_lt _ _ | (intro x hx; cases hx))
theorem catP_lt (h : Hd) : ∀ k, ∀ x ∈ catP h k, x < 256
  | 0, x, hx => by
    have : ∀ y ∈ magicL, y < 256 := by decide
    exact this x hx
  | k + 1, x, hx => by
    rcases List.mem_append.1 (show x ∈ catP h k ++ pc h k from hx) with hx | hx
    · exact catP_lt h k x hx
    · exact pc_lt h k x hx
/-- While a header is written: k parts are there. -/
structure PS (w : World) (base g b0 : Nat) (h : Hd) (k : Nat) (W : World) : Prop where
  wa : WA base g (catP h k) W
  hd : Whole W b0 29 h.cells
  below : Below w.heap.size w W
  nb : w.heap.size ≤ base ∧ base ≤ W.heap.size ∧ base ≤ g ∧ b0 < base
section
variable {w W : World} {base g b0 k : Nat} {h : Hd}
theorem PS.kw {k' : Nat} {W' : World} (H : PS w base g b0 h k W) (hk : KW base W W') (hw : WA base g (catP h k') W') : PS w base g b0 h k' W' :=
  ⟨hw, H.hd.below hk.below H.nb.2.2.2, H.below.trans (hk.below.mono H.nb.1), H.nb.1, Nat.le_trans H.nb.2.1 hk.below.size, H.nb.2.2⟩
theorem PS.alloc (H : PS w base g b0 h k W) (o : Obj) : PS w base g b0 h k (W.alloc o) := by
  obtain ⟨v, h1, h2, h3⟩ := H.wa
  exact H.kw (KW.alloc o H.nb.2.1) ⟨v, h1.alloc _, h2.alloc _, h3⟩
theorem PS.set (H : PS w base g b0 h k W) {b i : Nat} {v : Value} {t : TypeId} {cs : Array Value} (hb : Whole W b t cs) (hbb : base ≤ b) (h1 : t ≠ 50) (h2 : t ≠ 5) : PS w base g b0 h k (W.setCell ⟨b, i, none⟩ v) := by
  obtain ⟨u, q1, q2, q3⟩ := H.wa
  have hbg : g ≠ b := fun e => by
    subst e
    have := q1.symm.trans hb
    injection this with this
    injection this with _ q
    exact h1 q.symm
  refine ⟨⟨u, q1.far hbg _, Row8.only q2 (Only.setCell (S := fun k => k = b) (Only.refl _ _) (p := ⟨b, i, none⟩) (fun _ => rfl) _) (fun k hk e => ?_), q3⟩, H.hd.far (by have := H.nb.2.2.2; show b0 ≠ b; omega) _, H.below.setCell (p := ⟨b, i, none⟩) (Nat.le_trans H.nb.1 hbb) _, H.nb.1, by simpa [World.setCell] using H.nb.2.1, H.nb.2.2⟩
  subst e
  obtain ⟨cur, fr, hc⟩ := q2.block hk
  have := hc.symm.trans hb
  injection this with this
  injection this with _ q
  exact h2 q.symm
theorem PS.num (H : PS w base g b0 h k W) {V n : Nat} (hp : pc h k = lowD V n) (hn : n ≤ 8) (hk : k ≤ 30) :
    Calls Try.prog 15 #[.pointer (some ⟨g, 0, none⟩), .int .u64 (V : Int), .int .i64 (n : Int)] W fun e W' => e = .returned (.tuple #[]) ∧ PS w base g b0 h (k + 1) W' ∧ KW base W W' := by
  have := catP_len h k
  refine (wnumber_any base g V n _ W H.wa H.nb.2.1 H.nb.2.2.1 hn (by omega)).mono ?_
  rintro e Y ⟨rfl, h1, h2⟩
  exact ⟨rfl, H.kw h2 (by show WA base g (catP h k ++ pc h k) Y; rw [hp]; exact h1), h2⟩
theorem PS.point (H : PS w base g b0 h k W) {x y : Int} (hp : pc h k = lowD (u64N x) 4) (hp2 : pc h (k + 1) = lowD (u64N y) 4) (hk : k ≤ 30) :
    Calls Try.prog 16 #[.pointer (some ⟨g, 0, none⟩), .agg #[.int .i64 x, .int .i64 y]] W fun e W' => e = .returned (.tuple #[]) ∧ PS w base g b0 h (k + 2) W' ∧ KW base W W' := by
  have := catP_len h k
  refine (wpoint_any base g x y _ W H.wa H.nb.2.1 H.nb.2.2.1 (by omega)).mono ?_
  rintro e Y ⟨rfl, h1, h2⟩
  exact ⟨rfl, H.kw h2 (by show WA base g (catP h k ++ pc h k ++ pc h (k + 1)) Y; rw [hp, hp2]; exact h1), h2⟩
end
theorem idx0 (x y z : Int) : ∀ w : World, (Instr.index 25 (.agg #[.int .u64 x, .int .u64 y, .int .u64 z]) (.int .i64 0)).run Try.prog w = .ok (.int .u64 x) w := fun _ => by kernel_rfl
theorem idx1 (x y z : Int) : ∀ w : World, (Instr.index 25 (.agg #[.int .u64 x, .int .u64 y, .int .u64 z]) (.int .i64 1)).run Try.prog w = .ok (.int .u64 y) w := fun _ => by kernel_rfl
theorem idx2 (x y z : Int) : ∀ w : World, (Instr.index 25 (.agg #[.int .u64 x, .int .u64 y, .int .u64 z]) (.int .i64 2)).run Try.prog w = .ok (.int .u64 z) w := fun _ => by kernel_rfl
set_option maxHeartbeats 32000000 in
theorem putHead_any (h : Hd) (w : World) :
    Calls Try.prog 8 #[hdV h] w (fun e w' => ∃ a c, e = .returned (.slice a (catP h 24).length c) ∧ Nums .u8 w' w'.heap.size a (catP h 24) ∧ Below w.heap.size w w') := by
  obtain ⟨b0, hb0⟩ : ∃ b, b = w.heap.size := ⟨_, rfl⟩
  obtain ⟨X0, hX0⟩ : ∃ X, X = w.alloc (.cells h.cells 29) := ⟨_, rfl⟩
  have hs0 : X0.heap.size = b0 + 1 := by rw [hX0, hb0]; simp
  obtain ⟨base, hbase⟩ : ∃ b, b = X0.heap.size := ⟨_, rfl⟩
  obtain ⟨X1, hX1⟩ : ∃ X, X = X0.alloc (.cells #[.int .u8 80, .int .u8 77, .int .u8 84, .int .u8 105, .int .u8 108, .int .u8 101, .int .u8 115, .int .u8 3] 5 (8, 9)) := ⟨_, rfl⟩
  have hs1 : X1.heap.size = base + 1 := by rw [hX1, hbase]; simp
  obtain ⟨g, hg⟩ : ∃ b, b = X1.heap.size := ⟨_, rfl⟩
  obtain ⟨X2, hX2⟩ : ∃ X, X = X1.alloc (.cells #[.slice (some ⟨base, 0, none⟩) 8 8] 50) := ⟨_, rfl⟩
  have hPS : PS w base g b0 h 0 X2 := by
    have hW1 : X1.heap[base]? = some (.cells #[.int .u8 80, .int .u8 77, .int .u8 84, .int .u8 105, .int .u8 108, .int .u8 101, .int .u8 115, .int .u8 3] 5 (8, 9)) := by rw [hX1, hbase]; exact heap_alloc_new X0 _
    have hOwn : Row8 X1 base (.slice (some ⟨base, 0, none⟩) 8 8) magicL := .inr ⟨base, _, _, rfl, Nat.le_refl _, hW1, rfl⟩
    refine ⟨⟨_, by rw [hX2, hg]; exact Whole.new X1 _ _, by rw [hX2]; exact hOwn.alloc _, fun e => ?_⟩, ?_, ?_, by rw [hbase, hs0, hb0]; omega, by rw [hX2]; simp; omega, by omega, by omega⟩
    · injection e with e; have e2 : base = g := e; omega
    · rw [hX2, hX1, hX0, hb0]; exact ((Whole.new w _ _).alloc _).alloc _
    · have h0 : Below w.heap.size w X0 := by rw [hX0]; exact (Below.refl _ _).alloc (Nat.le_refl _) _
      have h1 : Below w.heap.size w X1 := by rw [hX1]; exact h0.alloc h0.size _
      rw [hX2]; exact h1.alloc h1.size _
  have HX0 := Lib.hid hX0
  have HX1 := Lib.hid hX1
  have HX2 := Lib.hid hX2
  have Hb0 := Lib.hid hb0
  have Hbase := Lib.hid hbase
  have Hg := Lib.hid hg
  have HS := Lib.hid hPS
  have hX2' : Hid (X1.alloc (.cells #[.slice (some ⟨w.heap.size + 1, 0, none⟩) 8 8] 50) = X2) := by show _ = _; rw [hX2, show w.heap.size + 1 = base by omega]
  have hX1' : Hid (X0.alloc (.cells #[.int .u8 80, .int .u8 77, .int .u8 84, .int .u8 105, .int .u8 108, .int .u8 101, .int .u8 115, .int .u8 3] 5 (8, 9)) = X1) := hX1.symm
  have hg' : Hid (w.heap.size + 1 + 1 = g) := by show _ = _; omega
  have hb' : Hid (w.heap.size + 1 = base) := by show _ = _; omega
  clear hX0 hX1 hX2 hb0 hbase hg hs0 hs1 hPS
  have kc := Go.Joins.run_convert_bytes_const_at (P := Try.prog) (w.alloc (.cells h.cells 29)) 22 5 #[.int .u8 80, .int .u8 77, .int .u8 84, .int .u8 105, .int .u8 108, .int .u8 101, .int .u8 115, .int .u8 3] 8 8 (w.heap.size + 1) (by simp) Try.underlying22 Try.underlying5
  unfold hdV
  go_enter Try.func8, Try.ntmps8
  go_upto_region 2 with (fail)
  rw [← HX0.out, hX1'.out, hX2'.out, hg'.out, hb'.out, ← Hb0.out]
  clear HX0 HX1 HX2 Hb0 Hbase Hg hX1' hX2' hg' hb' kc
  have q0 : X2.cell? ⟨b0, 0, none⟩ = some (.int .u64 (h.r0 : Int)) := HS.out.hd.cell 0
  have q1 : X2.cell? ⟨b0, 1, none⟩ = some (.int .u64 (h.r1 : Int)) := HS.out.hd.cell 1
  have q2 : X2.cell? ⟨b0, 2, none⟩ = some (.int .u64 (h.m0 : Int)) := HS.out.hd.cell 2
  have q3 : X2.cell? ⟨b0, 3, none⟩ = some (.int .u64 (h.m1 : Int)) := HS.out.hd.cell 3
  have q4 : X2.cell? ⟨b0, 4, none⟩ = some (.int .u64 (h.l0 : Int)) := HS.out.hd.cell 4
  have q5 : X2.cell? ⟨b0, 5, none⟩ = some (.int .u64 (h.l1 : Int)) := HS.out.hd.cell 5
  have q6 : X2.cell? ⟨b0, 6, none⟩ = some (.int .u64 (h.d0 : Int)) := HS.out.hd.cell 6
  have q7 : X2.cell? ⟨b0, 7, none⟩ = some (.int .u64 (h.d1 : Int)) := HS.out.hd.cell 7
  go_upto_region 3 with (fail)
  obtain ⟨s8, hs8⟩ : ∃ s, s = X2.heap.size := ⟨_, rfl⟩
  obtain ⟨X3, hX3⟩ : ∃ X, X = X2.alloc (.cells #[.int .u64 (h.r0 : Int), .int .u64 (h.r1 : Int), .int .u64 (h.m0 : Int), .int .u64 (h.m1 : Int), .int .u64 (h.l0 : Int), .int .u64 (h.l1 : Int), .int .u64 (h.d0 : Int), .int .u64 (h.d1 : Int)] 24) := ⟨_, rfl⟩
  have HR : Hid (Whole X3 s8 24 #[.int .u64 (h.r0 : Int), .int .u64 (h.r1 : Int), .int .u64 (h.m0 : Int), .int .u64 (h.m1 : Int), .int .u64 (h.l0 : Int), .int .u64 (h.l1 : Int), .int .u64 (h.d0 : Int), .int .u64 (h.d1 : Int)]) := by show Whole _ _ _ _; rw [hX3, hs8]; exact Whole.new X2 _ _
  have HS3 : Hid (PS w base g b0 h (2 * 0) X3) := by show PS _ _ _ _ _ _ _; rw [hX3]; exact HS.out.alloc _
  rw [← hX3, ← hs8]
  clear hX3 hs8 HS q0 q1 q2 q3 q4 q5 q6 q7
  go_loopw [5, 25] (fun x5 x25 W => ∃ k : Nat, k ≤ 4 ∧ x25 = .int .i64 (k : Int) ∧ Hid (PS w base g b0 h (2 * k) W) ∧ Hid (Whole W s8 24 #[.int .u64 (h.r0 : Int), .int .u64 (h.r1 : Int), .int .u64 (h.m0 : Int), .int .u64 (h.m1 : Int), .int .u64 (h.l0 : Int), .int .u64 (h.l1 : Int), .int .u64 (h.d0 : Int), .int .u64 (h.d1 : Int)])) (fun x5 x25 _ => 4 - (intOf x25).toNat)
  case atStart => exact ⟨0, by omega, rfl, HS3, HR⟩
  case round =>
    clear HS3 HR
    obtain ⟨k, hk, rfl, HS, HR⟩ := hrel
    have hk5 : k = 0 ∨ k = 1 ∨ k = 2 ∨ k = 3 ∨ k = 4 := by omega
    rcases hk5 with rfl | rfl | rfl | rfl | rfl
    · have c0 : wr.cell? ⟨s8, 0, none⟩ = some (.int .u64 (h.r0 : Int)) := HR.out.cell 0
      have c1 : wr.cell? ⟨s8, 1, none⟩ = some (.int .u64 (h.r1 : Int)) := HR.out.cell 1
      have HS2 : Hid (PS w base g b0 h 0 (wr.alloc (.cells #[.int .u64 (h.r0 : Int), .int .u64 (h.r1 : Int)] 24))) := PS.alloc HS.out _
      have HR2 := Lib.hid (HR.out.alloc (.cells #[.int .u64 (h.r0 : Int), .int .u64 (h.r1 : Int)] 24))
      have H5 := Lib.hid (Whole.new wr 24 #[.int .u64 (h.r0 : Int), .int .u64 (h.r1 : Int)])
      clear HS HR
      go_wp2_with fail
      refine (HS2.out.num (k := 0) (V := h.r0) (n := 8) rfl (by omega) (by omega)).mono ?_
      rintro e Y ⟨rfl, h1, h2⟩
      have HS3 := Lib.hid h1
      have HR3 := Lib.hid (HR2.out.kw h2 (by decide) (by decide))
      have q1 : Y.cell? ⟨wr.heap.size, 1, none⟩ = some (.int .u64 (h.r1 : Int)) := (H5.out.kw h2 (by decide) (by decide)).cell 1
      clear h1 h2 HS2 HR2 c0 c1 H5
      go_wp2_with fail
      refine (HS3.out.num (k := 1) (V := h.r1) (n := 8) rfl (by omega) (by omega)).mono ?_
      rintro e Z ⟨rfl, h1, h2⟩
      have HS4 : Hid (PS w base g b0 h (2 * 1) Z) := h1
      have HR4 := Lib.hid (HR3.out.kw h2 (by decide) (by decide))
      clear h1 h2 HS3 HR3 q1
      go_wp2_with fail
      exact ⟨⟨1, by omega, rfl, HS4, HR4⟩, by decide⟩
    · have c0 : wr.cell? ⟨s8, 2, none⟩ = some (.int .u64 (h.m0 : Int)) := HR.out.cell 2
      have c1 : wr.cell? ⟨s8, 3, none⟩ = some (.int .u64 (h.m1 : Int)) := HR.out.cell 3
      have HS2 : Hid (PS w base g b0 h 2 (wr.alloc (.cells #[.int .u64 (h.m0 : Int), .int .u64 (h.m1 : Int)] 24))) := PS.alloc HS.out _
      have HR2 := Lib.hid (HR.out.alloc (.cells #[.int .u64 (h.m0 : Int), .int .u64 (h.m1 : Int)] 24))
      have H5 := Lib.hid (Whole.new wr 24 #[.int .u64 (h.m0 : Int), .int .u64 (h.m1 : Int)])
      clear HS HR
      go_wp2_with fail
      refine (HS2.out.num (k := 2) (V := h.m0) (n := 8) rfl (by omega) (by omega)).mono ?_
      rintro e Y ⟨rfl, h1, h2⟩
      have HS3 := Lib.hid h1
      have HR3 := Lib.hid (HR2.out.kw h2 (by decide) (by decide))
      have q1 : Y.cell? ⟨wr.heap.size, 1, none⟩ = some (.int .u64 (h.m1 : Int)) := (H5.out.kw h2 (by decide) (by decide)).cell 1
      clear h1 h2 HS2 HR2 c0 c1 H5
      go_wp2_with fail
      refine (HS3.out.num (k := 3) (V := h.m1) (n := 8) rfl (by omega) (by omega)).mono ?_
      rintro e Z ⟨rfl, h1, h2⟩
      have HS4 : Hid (PS w base g b0 h (2 * 2) Z) := h1
      have HR4 := Lib.hid (HR3.out.kw h2 (by decide) (by decide))
      clear h1 h2 HS3 HR3 q1
      go_wp2_with fail
      exact ⟨⟨2, by omega, rfl, HS4, HR4⟩, by decide⟩
    · have c0 : wr.cell? ⟨s8, 4, none⟩ = some (.int .u64 (h.l0 : Int)) := HR.out.cell 4
      have c1 : wr.cell? ⟨s8, 5, none⟩ = some (.int .u64 (h.l1 : Int)) := HR.out.cell 5
      have HS2 : Hid (PS w base g b0 h 4 (wr.alloc (.cells #[.int .u64 (h.l0 : Int), .int .u64 (h.l1 : Int)] 24))) := PS.alloc HS.out _
      have HR2 := Lib.hid (HR.out.alloc (.cells #[.int .u64 (h.l0 : Int), .int .u64 (h.l1 : Int)] 24))
      have H5 := Lib.hid (Whole.new wr 24 #[.int .u64 (h.l0 : Int), .int .u64 (h.l1 : Int)])
      clear HS HR
      go_wp2_with fail
      refine (HS2.out.num (k := 4) (V := h.l0) (n := 8) rfl (by omega) (by omega)).mono ?_
      rintro e Y ⟨rfl, h1, h2⟩
      have HS3 := Lib.hid h1
      have HR3 := Lib.hid (HR2.out.kw h2 (by decide) (by decide))
      have q1 : Y.cell? ⟨wr.heap.size, 1, none⟩ = some (.int .u64 (h.l1 : Int)) := (H5.out.kw h2 (by decide) (by decide)).cell 1
      clear h1 h2 HS2 HR2 c0 c1 H5
      go_wp2_with fail
      refine (HS3.out.num (k := 5) (V := h.l1) (n := 8) rfl (by omega) (by omega)).mono ?_
      rintro e Z ⟨rfl, h1, h2⟩
      have HS4 : Hid (PS w base g b0 h (2 * 3) Z) := h1
      have HR4 := Lib.hid (HR3.out.kw h2 (by decide) (by decide))
      clear h1 h2 HS3 HR3 q1
      go_wp2_with fail
      exact ⟨⟨3, by omega, rfl, HS4, HR4⟩, by decide⟩
    · have c0 : wr.cell? ⟨s8, 6, none⟩ = some (.int .u64 (h.d0 : Int)) := HR.out.cell 6
      have c1 : wr.cell? ⟨s8, 7, none⟩ = some (.int .u64 (h.d1 : Int)) := HR.out.cell 7
      have HS2 : Hid (PS w base g b0 h 6 (wr.alloc (.cells #[.int .u64 (h.d0 : Int), .int .u64 (h.d1 : Int)] 24))) := PS.alloc HS.out _
      have HR2 := Lib.hid (HR.out.alloc (.cells #[.int .u64 (h.d0 : Int), .int .u64 (h.d1 : Int)] 24))
      have H5 := Lib.hid (Whole.new wr 24 #[.int .u64 (h.d0 : Int), .int .u64 (h.d1 : Int)])
      clear HS HR
      go_wp2_with fail
      refine (HS2.out.num (k := 6) (V := h.d0) (n := 8) rfl (by omega) (by omega)).mono ?_
      rintro e Y ⟨rfl, h1, h2⟩
      have HS3 := Lib.hid h1
      have HR3 := Lib.hid (HR2.out.kw h2 (by decide) (by decide))
      have q1 : Y.cell? ⟨wr.heap.size, 1, none⟩ = some (.int .u64 (h.d1 : Int)) := (H5.out.kw h2 (by decide) (by decide)).cell 1
      clear h1 h2 HS2 HR2 c0 c1 H5
      go_wp2_with fail
      refine (HS3.out.num (k := 7) (V := h.d1) (n := 8) rfl (by omega) (by omega)).mono ?_
      rintro e Z ⟨rfl, h1, h2⟩
      have HS4 : Hid (PS w base g b0 h (2 * 4) Z) := h1
      have HR4 := Lib.hid (HR3.out.kw h2 (by decide) (by decide))
      clear h1 h2 HS3 HR3 q1
      go_wp2_with fail
      exact ⟨⟨4, by omega, rfl, HS4, HR4⟩, by decide⟩
    · have HS8 : Hid (PS w base g b0 h 8 wr) := HS
      have q8 : wr.cell? ⟨b0, 8, none⟩ = some (.int .u64 (h.c0 : Int)) := HS8.out.hd.cell 8
      have q9 : wr.cell? ⟨b0, 9, none⟩ = some (.int .u64 (h.c1 : Int)) := HS8.out.hd.cell 9
      have q10 : wr.cell? ⟨b0, 10, none⟩ = some (.int .u64 (h.c2 : Int)) := HS8.out.hd.cell 10
      clear HS HR
      rw [show ((4 : Nat) : Int) = 4 from rfl]
      go_upto_region 9 with (fail)
      have HS9 : Hid (PS w base g b0 h (8 + 0) wr) := HS8
      clear HS8 q8 q9 q10
      go_loopw [7, 40] (fun x7 x40 W => ∃ k : Nat, k ≤ 3 ∧ x40 = .int .i64 (k : Int) ∧ Hid (PS w base g b0 h (8 + k) W)) (fun x7 x40 _ => 3 - (intOf x40).toNat)
      case atStart => exact ⟨0, by omega, rfl, HS9⟩
      case round =>
        clear HS9
        obtain ⟨k, hk, rfl, HS⟩ := hrel
        have hk5 : k = 0 ∨ k = 1 ∨ k = 2 ∨ k = 3 := by omega
        rcases hk5 with rfl | rfl | rfl | rfl
        · have HS2 : Hid (PS w base g b0 h 8 wr) := HS
          have hix := idx0 (h.c0 : Int) (h.c1 : Int) (h.c2 : Int)
          clear HS
          go_wp2_with fail
          refine (HS2.out.num (k := 8) (V := h.c0) (n := 8) rfl (by omega) (by omega)).mono ?_
          rintro e Y ⟨rfl, h1, h2⟩
          have HS3 : Hid (PS w base g b0 h (8 + 1) Y) := h1
          clear h1 h2 HS2
          go_wp2_with fail
          go_roundw
          case rel => exact ⟨1, by omega, rfl, HS3⟩
          case measure => simp [intOf]
        · have HS2 : Hid (PS w base g b0 h 9 wr) := HS
          have hix := idx1 (h.c0 : Int) (h.c1 : Int) (h.c2 : Int)
          clear HS
          go_wp2_with fail
          refine (HS2.out.num (k := 9) (V := h.c1) (n := 8) rfl (by omega) (by omega)).mono ?_
          rintro e Y ⟨rfl, h1, h2⟩
          have HS3 : Hid (PS w base g b0 h (8 + 2) Y) := h1
          clear h1 h2 HS2
          go_wp2_with fail
          go_roundw
          case rel => exact ⟨2, by omega, rfl, HS3⟩
          case measure => simp [intOf]
        · have HS2 : Hid (PS w base g b0 h 10 wr) := HS
          have hix := idx2 (h.c0 : Int) (h.c1 : Int) (h.c2 : Int)
          clear HS
          go_wp2_with fail
          refine (HS2.out.num (k := 10) (V := h.c2) (n := 8) rfl (by omega) (by omega)).mono ?_
          rintro e Y ⟨rfl, h1, h2⟩
          have HS3 : Hid (PS w base g b0 h (8 + 3) Y) := h1
          clear h1 h2 HS2
          go_wp2_with fail
          go_roundw
          case rel => exact ⟨3, by omega, rfl, HS3⟩
          case measure => simp [intOf]
        · have HS11 : Hid (PS w base g b0 h 11 wr) := HS
          clear HS
          rw [show ((3 : Nat) : Int) = 3 from rfl]
          have q11 : wr.cell? ⟨b0, 11, none⟩ = some (.bool h.cl) := HS11.out.hd.cell 11
          go_upto_if 48 with (fail)
          obtain ⟨w5, hw5⟩ : ∃ X, X = wr := ⟨_, rfl⟩
          go_cut [8] (fun x8 W => x8 = .int .i64 (cI h) ∧ w5 = W)
          case first =>
            cases hcl : h.cl with
            | true =>
              have hci : Hid (cI h = 1) := by show cI h = 1; unfold cI; rw [hcl]; rfl
              try rw [hcl]
              go_wp2_with fail
              go_meet
              exact ⟨by rw [hci.out], hw5⟩
            | false =>
              have hci : Hid (cI h = 0) := by show cI h = 0; unfold cI; rw [hcl]; rfl
              try rw [hcl]
              go_wp2_with fail
              go_meet
              exact ⟨by rw [hci.out], hw5⟩
          case rest =>
            obtain ⟨rfl, rfl⟩ := hcut
            subst hw5
            clear q11
            have q12 : w5.cell? ⟨b0, 12, none⟩ = some (.int .i64 h.inn) := HS11.out.hd.cell 12
            have q13 : w5.cell? ⟨b0, 13, none⟩ = some (.int .i64 h.out) := HS11.out.hd.cell 13
            have q14 : w5.cell? ⟨b0, 14, none⟩ = some (.int .i64 h.kind) := HS11.out.hd.cell 14
            have q15 : w5.cell? ⟨b0, 15, none⟩ = some (.int .i64 h.zmin) := HS11.out.hd.cell 15
            have q16 : w5.cell? ⟨b0, 16, none⟩ = some (.int .i64 h.zmax) := HS11.out.hd.cell 16
            go_upto_region 17 with (fail)
            obtain ⟨s6, hs6⟩ : ∃ s, s = w5.heap.size := ⟨_, rfl⟩
            obtain ⟨X6, hX6⟩ : ∃ X, X = w5.alloc (.cells #[.int .i64 (cI h), .int .i64 (h.inn), .int .i64 (h.out), .int .i64 (h.kind), .int .i64 (h.zmin), .int .i64 (h.zmax)] 3) := ⟨_, rfl⟩
            have HR6 : Hid (Whole X6 s6 3 #[.int .i64 (cI h), .int .i64 (h.inn), .int .i64 (h.out), .int .i64 (h.kind), .int .i64 (h.zmin), .int .i64 (h.zmax)]) := by show Whole _ _ _ _; rw [hX6, hs6]; exact Whole.new w5 _ _
            have HS6 : Hid (PS w base g b0 h (11 + 0) X6) := by show PS _ _ _ _ _ _ _; rw [hX6]; exact HS11.out.alloc _
            rw [← hX6, ← hs6]
            clear hX6 hs6 HS11 q12 q13 q14 q15 q16
            go_loopw [10, 62] (fun x10 x62 W => ∃ k : Nat, k ≤ 6 ∧ x62 = .int .i64 (k : Int) ∧ Hid (PS w base g b0 h (11 + k) W) ∧ Hid (Whole W s6 3 #[.int .i64 (cI h), .int .i64 (h.inn), .int .i64 (h.out), .int .i64 (h.kind), .int .i64 (h.zmin), .int .i64 (h.zmax)])) (fun x10 x62 _ => 6 - (intOf x62).toNat)
            case atStart => exact ⟨0, by omega, rfl, HS6, HR6⟩
            case round =>
              clear HS6 HR6
              obtain ⟨k, hk, rfl, HS, HR⟩ := hrel
              have hk5 : k = 0 ∨ k = 1 ∨ k = 2 ∨ k = 3 ∨ k = 4 ∨ k = 5 ∨ k = 6 := by omega
              rcases hk5 with rfl | rfl | rfl | rfl | rfl | rfl | rfl
              · have HS2 : Hid (PS w base g b0 h 11 wr) := HS
                have c0 : wr.cell? ⟨s6, 0, none⟩ = some (.int .i64 (cI h)) := HR.out.cell 0
                have u1 := u64N_wrap (cI h)
                have u2 := u64N_mod (cI h)
                clear HS
                go_wp2_with fail
                refine (HS2.out.num (k := 11) (V := u64N (cI h)) (n := 1) rfl (by omega) (by omega)).mono ?_
                rintro e Y ⟨rfl, h1, h2⟩
                have HS3 : Hid (PS w base g b0 h (11 + 1) Y) := h1
                have HR3 := Lib.hid (Whole.kw (t := 3) HR.out h2 (by decide) (by decide))
                clear h1 h2 HS2 HR c0 u1 u2
                go_wp2_with fail
                go_roundw
                case rel => exact ⟨1, by omega, rfl, HS3, HR3⟩
                case measure => simp [intOf]
              · have HS2 : Hid (PS w base g b0 h 12 wr) := HS
                have c0 : wr.cell? ⟨s6, 1, none⟩ = some (.int .i64 (h.inn)) := HR.out.cell 1
                have u1 := u64N_wrap (h.inn)
                have u2 := u64N_mod (h.inn)
                clear HS
                go_wp2_with fail
                refine (HS2.out.num (k := 12) (V := u64N (h.inn)) (n := 1) rfl (by omega) (by omega)).mono ?_
                rintro e Y ⟨rfl, h1, h2⟩
                have HS3 : Hid (PS w base g b0 h (11 + 2) Y) := h1
                have HR3 := Lib.hid (Whole.kw (t := 3) HR.out h2 (by decide) (by decide))
                clear h1 h2 HS2 HR c0 u1 u2
                go_wp2_with fail
                go_roundw
                case rel => exact ⟨2, by omega, rfl, HS3, HR3⟩
                case measure => simp [intOf]
              · have HS2 : Hid (PS w base g b0 h 13 wr) := HS
                have c0 : wr.cell? ⟨s6, 2, none⟩ = some (.int .i64 (h.out)) := HR.out.cell 2
                have u1 := u64N_wrap (h.out)
                have u2 := u64N_mod (h.out)
                clear HS
                go_wp2_with fail
                refine (HS2.out.num (k := 13) (V := u64N (h.out)) (n := 1) rfl (by omega) (by omega)).mono ?_
                rintro e Y ⟨rfl, h1, h2⟩
                have HS3 : Hid (PS w base g b0 h (11 + 3) Y) := h1
                have HR3 := Lib.hid (Whole.kw (t := 3) HR.out h2 (by decide) (by decide))
                clear h1 h2 HS2 HR c0 u1 u2
                go_wp2_with fail
                go_roundw
                case rel => exact ⟨3, by omega, rfl, HS3, HR3⟩
                case measure => simp [intOf]
              · have HS2 : Hid (PS w base g b0 h 14 wr) := HS
                have c0 : wr.cell? ⟨s6, 3, none⟩ = some (.int .i64 (h.kind)) := HR.out.cell 3
                have u1 := u64N_wrap (h.kind)
                have u2 := u64N_mod (h.kind)
                clear HS
                go_wp2_with fail
                refine (HS2.out.num (k := 14) (V := u64N (h.kind)) (n := 1) rfl (by omega) (by omega)).mono ?_
                rintro e Y ⟨rfl, h1, h2⟩
                have HS3 : Hid (PS w base g b0 h (11 + 4) Y) := h1
                have HR3 := Lib.hid (Whole.kw (t := 3) HR.out h2 (by decide) (by decide))
                clear h1 h2 HS2 HR c0 u1 u2
                go_wp2_with fail
                go_roundw
                case rel => exact ⟨4, by omega, rfl, HS3, HR3⟩
                case measure => simp [intOf]
              · have HS2 : Hid (PS w base g b0 h 15 wr) := HS
                have c0 : wr.cell? ⟨s6, 4, none⟩ = some (.int .i64 (h.zmin)) := HR.out.cell 4
                have u1 := u64N_wrap (h.zmin)
                have u2 := u64N_mod (h.zmin)
                clear HS
                go_wp2_with fail
                refine (HS2.out.num (k := 15) (V := u64N (h.zmin)) (n := 1) rfl (by omega) (by omega)).mono ?_
                rintro e Y ⟨rfl, h1, h2⟩
                have HS3 : Hid (PS w base g b0 h (11 + 5) Y) := h1
                have HR3 := Lib.hid (Whole.kw (t := 3) HR.out h2 (by decide) (by decide))
                clear h1 h2 HS2 HR c0 u1 u2
                go_wp2_with fail
                go_roundw
                case rel => exact ⟨5, by omega, rfl, HS3, HR3⟩
                case measure => simp [intOf]
              · have HS2 : Hid (PS w base g b0 h 16 wr) := HS
                have c0 : wr.cell? ⟨s6, 5, none⟩ = some (.int .i64 (h.zmax)) := HR.out.cell 5
                have u1 := u64N_wrap (h.zmax)
                have u2 := u64N_mod (h.zmax)
                clear HS
                go_wp2_with fail
                refine (HS2.out.num (k := 16) (V := u64N (h.zmax)) (n := 1) rfl (by omega) (by omega)).mono ?_
                rintro e Y ⟨rfl, h1, h2⟩
                have HS3 : Hid (PS w base g b0 h (11 + 6) Y) := h1
                have HR3 := Lib.hid (Whole.kw (t := 3) HR.out h2 (by decide) (by decide))
                clear h1 h2 HS2 HR c0 u1 u2
                go_wp2_with fail
                go_roundw
                case rel => exact ⟨6, by omega, rfl, HS3, HR3⟩
                case measure => simp [intOf]
              · have HS17 : Hid (PS w base g b0 h 17 wr) := HS
                clear HS HR
                have qa : wr.cell? ⟨b0, 17, none⟩ = some (.int .i64 h.x0) := HS17.out.hd.cell 17
                have qb : wr.cell? ⟨b0, 18, none⟩ = some (.int .i64 h.y0) := HS17.out.hd.cell 18
                go_wp2_with fail
                refine (HS17.out.point (k := 17) (x := h.x0) (y := h.y0) rfl rfl (by omega)).mono ?_
                rintro e Y0 ⟨rfl, h1, h2⟩
                have HP0 := Lib.hid h1
                clear h1 h2 qa qb HS17
                have qa : Y0.cell? ⟨b0, 19, none⟩ = some (.int .i64 h.x1) := HP0.out.hd.cell 19
                have qb : Y0.cell? ⟨b0, 20, none⟩ = some (.int .i64 h.y1) := HP0.out.hd.cell 20
                go_wp2_with fail
                refine (HP0.out.point (k := 19) (x := h.x1) (y := h.y1) rfl rfl (by omega)).mono ?_
                rintro e Y1 ⟨rfl, h1, h2⟩
                have HP1 := Lib.hid h1
                clear h1 h2 qa qb HP0
                have qa : Y1.cell? ⟨b0, 23, none⟩ = some (.int .i64 h.mid) := HP1.out.hd.cell 23
                have u1 := u64N_wrap h.mid
                have u2 := u64N_mod h.mid
                go_wp2_with fail
                refine (HP1.out.num (k := 21) (V := u64N h.mid) (n := 1) rfl (by omega) (by omega)).mono ?_
                rintro e Y2 ⟨rfl, h1, h2⟩
                have HP2 := Lib.hid h1
                clear h1 h2 qa u1 u2 HP1
                have qa : Y2.cell? ⟨b0, 21, none⟩ = some (.int .i64 h.cx) := HP2.out.hd.cell 21
                have qb : Y2.cell? ⟨b0, 22, none⟩ = some (.int .i64 h.cy) := HP2.out.hd.cell 22
                go_wp2_with fail
                refine (HP2.out.point (k := 22) (x := h.cx) (y := h.cy) rfl rfl (by omega)).mono ?_
                rintro e Y3 ⟨rfl, h1, h2⟩
                obtain ⟨v, hv1, hv2, hv3⟩ := h1.wa
                obtain ⟨a, c, rfl, hN⟩ := hv2.form
                have qg := hv1.cell 0
                obtain ⟨n, hn⟩ : ∃ n, n = (catP h (22 + 2)).length := ⟨_, rfl⟩
                rw [← hn] at qg
                have hF : Hid (Nums .u8 Y3 Y3.heap.size a (catP h 24) ∧ Below w.heap.size w Y3) := ⟨hN, h1.below⟩
                have Hn := Lib.hid hn
                simp only [List.getElem?_toArray, List.getElem?_cons_zero, List.getElem?_cons_succ] at qg
                clear h1 h2 qa qb HP2 hv1 hv2 hv3 hN hn
                go_wp2_with fail
                go_ret
                exact ⟨a, c, by rw [Hn.out]; rfl, hF.out.1, hF.out.2⟩
end Go.Proofs.Ytlbplefmpbpchaa
