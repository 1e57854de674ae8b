/- Layer 13: a header read. -/
import Derived.Test.YtlbplefmpbpchaaArch6
namespace Go.Proofs.Ytlbplefmpbpchaa
open Go.RowKit
set_option linter.unusedVariables false
set_option maxRecDepth 100000

def num (l : List Nat) (k : Nat) : Nat := lowV ((l.drop k).take 8)
def deg (l : List Nat) (k : Nat) : Int := sgn32 (lowV ((l.drop k).take 4))
def byt (l : List Nat) (k : Nat) : Nat := l.getD k 0
/-- The header that the bytes behind the magic ones say. -/
def hdOf (l : List Nat) : Hd := ⟨num l 0, num l 8, num l 16, num l 24, num l 32, num l 40, num l 48, num l 56, num l 64, num l 72, num l 80, decide ((byt l 88 : Int) = 1), (byt l 89 : Int), (byt l 90 : Int), (byt l 91 : Int), (byt l 92 : Int), (byt l 93 : Int), deg l 94, deg l 98, deg l 102, deg l 106, deg l 111, deg l 115, (byt l 110 : Int)⟩
def zHd : Hd := ⟨0, 0, 0, 0, 0, 0, 0, 0, 0, 0, 0, false, 0, 0, 0, 0, 0, 0, 0, 0, 0, 0, 0, 0⟩
theorem hd_all (h : Hd) : h.cells.all (·.oneCell') = true := by simp [Hd.cells, Value.oneCell']
theorem hd_info : (Try.prog.info? 29).map (·.size) = some 24 := by kernel_rfl
theorem hd_infoc (h : Hd) : (Try.prog.info? 29).map (·.size) = some h.cells.size := hd_info
theorem results_hd2 {fn : Func} (h : fn.results = #[.cell 2 29, .tmp 3]) (tmps : Array Value) (w : World) (g : Nat) (H : Hd) (x : Value)
    (hp : tmps.getD 2 undef = .pointer (some ⟨g, 0, none⟩)) (hx : tmps.getD 3 undef = x) (hg : Whole w g 29 H.cells) :
    (results fn tmps).run Try.prog w = .ok (.tuple #[hdV H, x]) w := by
  have hp' : tmps[2]?.getD undef = .pointer (some ⟨g, 0, none⟩) := by simpa using hp
  have hx' : tmps[3]?.getD undef = x := by simpa using hx
  simp [results, h, hp', hx', asAddr, run_loadVar_row w g 29 29 H.cells (0, 0) _ hg Try.underlying29 rfl (hd_infoc H), hdV]
/-- While a header is read: the reader at block g, the result at r, the header at s. -/
structure HdS (w : World) (g b r s : Nat) (h : Hd) (l : List Nat) (W : World) : Prop where
  rd : ∃ p c, RdA W g b p c l
  res : Whole W r 29 zHd.cells
  hd : Whole W s 29 h.cells
  only : Only (fun k => k = g) w W
  ne : g ≠ r ∧ g ≠ s ∧ b ≠ s ∧ r ≠ s ∧ b ≠ r
  new : w.heap.size ≤ r ∧ w.heap.size ≤ s
section
variable {w W : World} {g b r s : Nat} {h h' : Hd} {l : List Nat}
theorem HdS.call {k n m : Nat} {W' : World} (H : HdS w g b r s h (l.drop k) W) (h1 : ∃ p' c', RdA W' g b p' c' ((l.drop k).drop n)) (h2 : Only (fun k => k = g) W W') (e : m = k + n) : HdS w g b r s h (l.drop m) W' := by
  subst e
  rw [List.drop_drop] at h1
  exact ⟨h1, H.res.only h2 (fun e => H.ne.1 e.symm), H.hd.only h2 (fun e => H.ne.2.1 e.symm), H.only.trans h2 (fun _ _ h => h), H.ne, H.new⟩
theorem HdS.put (H : HdS w g b r s h l W) (i : Nat) (v : Value) (e : h.cells.setIfInBounds i v = h'.cells) : HdS w g b r s h' l (W.setCell ⟨s, i, none⟩ v) := by
  obtain ⟨p, c, hr⟩ := H.rd
  exact ⟨⟨p, c, hr.far ⟨fun e => H.ne.2.1 e.symm, fun e => H.ne.2.2.1 e.symm⟩ _⟩, H.res.far H.ne.2.2.2.1 _, by rw [← e]; exact H.hd.set i v,
    H.only.setCell (p := ⟨s, i, none⟩) (fun hlt => absurd hlt (by have := H.new.2; show ¬ s < _; omega)) v, H.ne, H.new⟩
theorem HdS.part {k k2 m : Nat} (H : HdS w g b r s h (l.drop k) W) (hk : m ≤ l.length) (e : m = k + 16) (e2 : k2 = k + 8) :
    Calls Try.prog 24 #[.pointer (some ⟨g, 0, none⟩)] W fun e W' => e = .returned (.agg #[.int .u64 (num l k : Int), .int .u64 (num l k2 : Int)]) ∧ HdS w g b r s h (l.drop m) W' := by
  obtain ⟨p, c, hr⟩ := H.rd
  refine (part_any g b p c _ W hr (by rw [List.length_drop]; omega)).mono ?_
  rintro e Y ⟨rfl, h1, h2⟩
  exact ⟨by subst e2; unfold num; rw [List.drop_drop], H.call h1 h2 e⟩
theorem HdS.num_ {k m : Nat} (H : HdS w g b r s h (l.drop k) W) (hk : m ≤ l.length) (e : m = k + 8) :
    Calls Try.prog 25 #[.pointer (some ⟨g, 0, none⟩), .int .i64 8] W fun e W' => e = .returned (.int .u64 (num l k : Int)) ∧ HdS w g b r s h (l.drop m) W' := by
  obtain ⟨p, c, hr⟩ := H.rd
  refine (number_any g b p c 8 _ W hr (by omega) (by rw [List.length_drop]; omega)).mono ?_
  rintro e Y ⟨rfl, h1, h2⟩
  exact ⟨rfl, H.call h1 h2 e⟩
theorem HdS.small {k m : Nat} (H : HdS w g b r s h (l.drop k) W) (hk : m ≤ l.length) (e : m = k + 1) :
    Calls Try.prog 26 #[.pointer (some ⟨g, 0, none⟩)] W fun e W' => e = .returned (.int .i64 (byt l k : Int)) ∧ HdS w g b r s h (l.drop m) W' := by
  obtain ⟨p, c, hr⟩ := H.rd
  refine (small_any g b p c _ W hr (by rw [List.length_drop]; omega)).mono ?_
  rintro e Y ⟨rfl, h1, h2⟩
  exact ⟨by unfold byt; rw [getD_drop, Nat.add_zero], H.call h1 h2 e⟩
theorem HdS.point {k k2 m : Nat} (H : HdS w g b r s h (l.drop k) W) (hk : m ≤ l.length) (e : m = k + 8) (e2 : k2 = k + 4) :
    Calls Try.prog 27 #[.pointer (some ⟨g, 0, none⟩)] W fun e W' => e = .returned (.agg #[.int .i64 (deg l k), .int .i64 (deg l k2)]) ∧ HdS w g b r s h (l.drop m) W' := by
  obtain ⟨p, c, hr⟩ := H.rd
  refine (point_any g b p c _ W hr (by rw [List.length_drop]; omega)).mono ?_
  rintro e Y ⟨rfl, h1, h2⟩
  exact ⟨by subst e2; unfold deg; rw [List.drop_drop], H.call h1 h2 e⟩
theorem HdS.old (H : HdS w g b r s h l W) (i : Nat) (hi : i < 24) : ∃ v, W.cell? ⟨s, i, none⟩ = some v := by
  rw [H.hd.cell i]; exact ⟨_, Array.getElem?_eq_getElem hi⟩
end
theorem Only.setRow {S : Nat → Prop} {w w' : World} {r : Nat} (h : Only S w w') (hr : w.heap.size ≤ r) (cs : Array Value) : Only S w (w'.setRow r cs) :=
  ⟨h.os, h.tape, h.output, by have := h.size; unfold World.setRow; simpa using this, fun b hb hn => (setRow_other w' r b cs (by omega)).trans (h.block b hb hn)⟩
def upTo (k j v : Nat) : Nat := if j < k then v else 0
set_option maxHeartbeats 32000000 in
theorem header_any (g b p c : Nat) (l : List Nat) (w : World) (h : RdA w g b p c l) (hnl : 119 ≤ l.length) :
    Calls Try.prog 12 #[.pointer (some ⟨g, 0, none⟩)] w (fun e w' => e = .returned (.tuple #[hdV (hdOf l), .bool (decide ((byt l 88 : Int) ≤ 1))]) ∧ Only (fun k => k = g) w w') := by
  obtain ⟨r, hr⟩ : ∃ r, r = w.heap.size := ⟨_, rfl⟩
  obtain ⟨X0, hX0⟩ : ∃ X, X = w.alloc (.cells zHd.cells 29) := ⟨_, rfl⟩
  have hR0 : Whole X0 r 29 zHd.cells := by rw [hX0, hr]; exact Whole.new w _ _
  have HX0 : Hid (w.alloc (.cells #[.int .u64 0, .int .u64 0, .int .u64 0, .int .u64 0, .int .u64 0, .int .u64 0, .int .u64 0, .int .u64 0, .int .u64 0, .int .u64 0, .int .u64 0, .bool false, .int .i64 0, .int .i64 0, .int .i64 0, .int .i64 0, .int .i64 0, .int .i64 0, .int .i64 0, .int .i64 0, .int .i64 0, .int .i64 0, .int .i64 0, .int .i64 0] 29) = X0) := hX0.symm
  have Hr := Lib.hid hr
  have hs : Hid (X0.heap.size = r + 1) := by show _ = _; rw [hX0, hr]; simp
  have hX0S : Hid (HdS w g b r (r + 1) zHd (l.drop 0) ((X0.alloc (.cells zHd.cells 29)).setRow (r + 1) zHd.cells)) := by
    have hg := h.whole.lt
    have hb := h.bl
    rw [← hs.out]
    have e1 : X0.heap.size = r + 1 := hs.out
    have ho0 : Only (fun k => k = g) w X0 := by rw [hX0]; exact (Only.refl _ _).alloc _
    have ho1 : Only (fun k => k = g) X0 ((X0.alloc (.cells zHd.cells 29)).setRow X0.heap.size zHd.cells) := by
      have := below_setRow (g := X0.heap.size) ((Below.refl X0.heap.size X0).alloc (Nat.le_refl _) (.cells zHd.cells 29)) (Nat.le_refl _) zHd.cells
      exact Only.of_below this _
    have ho := ho0.trans ho1 (fun _ _ h => h)
    have ne0 : r ≠ g := by omega
    refine ⟨⟨p, c, ?_⟩, hR0.only ho1 ne0, Whole.row (heap_alloc_new X0 _) _, ho, ⟨by omega, by omega, by omega, by omega, by omega⟩, by omega, by omega⟩
    rw [List.drop_zero]
    refine ⟨?_, ?_, Nat.lt_of_lt_of_le h.bl ho.size, h.ne, h.lt, h.len, h.most⟩
    · have hb2 := below_setRow (g := X0.heap.size) ((Below.refl X0.heap.size X0).alloc (Nat.le_refl _) (.cells zHd.cells 29)) (Nat.le_refl _) zHd.cells
      have h0 : Whole X0 g 43 #[.slice (some ⟨b, p, none⟩) l.length c] := by rw [hX0]; exact h.whole.alloc _
      exact h0.below hb2 (by omega)
    · intro i hi
      rw [ho.cell (p := ⟨b, p + i, none⟩) h.bl h.ne.symm]
      exact h.cell i hi
  clear hX0 hr hR0 h
  go_enter Try.func12, Try.ntmps12
  go_upto_region 1 with (fail)
  rw [HX0.out, ← Hr.out]
  obtain ⟨s, hss⟩ : ∃ s, s = r + 1 := ⟨_, rfl⟩
  rw [← hss] at hs hX0S
  clear hss
  go_cut [4, 7] (fun x4 x7 W => x4 = .pointer (some ⟨s, 0, none⟩) ∧ Hid (HdS w g b r s zHd (l.drop 0) W))
  case first =>
    have hN := heap_alloc_new X0 (.cells zHd.cells 29)
    have hN1 := Lib.hid hN
    clear hN
    go_wp2_with (refine wpList_store_row rfl 29 (.tmp 4) (.tmp 7) rfl X0.heap.size zHd.cells rfl rfl 29 zHd.cells hN1.out hd_info rfl (hd_all zHd) ?_)
    go_meet
    rw [hs.out]
    exact ⟨rfl, hX0S.out⟩
  case rest =>
    obtain ⟨rfl, HS⟩ := hcut
    clear hX0S hs HX0 Hr
    go_wp2_with fail
    refine (HS.out.part (k := 0) (k2 := 8) (m := 16) (by omega) rfl rfl).mono ?_
    rintro e Y0 ⟨rfl, h1⟩
    clear HS
    obtain ⟨v0, q0⟩ := h1.old 0 (by decide)
    have f0 := h1.hd.frozen 0
    obtain ⟨v1, q1⟩ := h1.old 1 (by decide)
    have f1 := h1.hd.frozen 1
    have HS := Lib.hid ((h1.put (h' := ⟨num l 0, 0, 0, 0, 0, 0, 0, 0, 0, 0, 0, false, 0, 0, 0, 0, 0, 0, 0, 0, 0, 0, 0, 0⟩) 0 (.int .u64 (num l 0 : Int)) rfl).put (h' := ⟨num l 0, num l 8, 0, 0, 0, 0, 0, 0, 0, 0, 0, false, 0, 0, 0, 0, 0, 0, 0, 0, 0, 0, 0, 0⟩) 1 (.int .u64 (num l 8 : Int)) rfl)
    clear h1
    go_wp2_with fail
    refine (HS.out.part (k := 16) (k2 := 24) (m := 32) (by omega) rfl rfl).mono ?_
    rintro e Y1 ⟨rfl, h1⟩
    clear HS
    obtain ⟨v2, q2⟩ := h1.old 2 (by decide)
    have f2 := h1.hd.frozen 2
    obtain ⟨v3, q3⟩ := h1.old 3 (by decide)
    have f3 := h1.hd.frozen 3
    have HS := Lib.hid ((h1.put (h' := ⟨num l 0, num l 8, num l 16, 0, 0, 0, 0, 0, 0, 0, 0, false, 0, 0, 0, 0, 0, 0, 0, 0, 0, 0, 0, 0⟩) 2 (.int .u64 (num l 16 : Int)) rfl).put (h' := ⟨num l 0, num l 8, num l 16, num l 24, 0, 0, 0, 0, 0, 0, 0, false, 0, 0, 0, 0, 0, 0, 0, 0, 0, 0, 0, 0⟩) 3 (.int .u64 (num l 24 : Int)) rfl)
    clear h1
    go_wp2_with fail
    refine (HS.out.part (k := 32) (k2 := 40) (m := 48) (by omega) rfl rfl).mono ?_
    rintro e Y2 ⟨rfl, h1⟩
    clear HS
    obtain ⟨v4, q4⟩ := h1.old 4 (by decide)
    have f4 := h1.hd.frozen 4
    obtain ⟨v5, q5⟩ := h1.old 5 (by decide)
    have f5 := h1.hd.frozen 5
    have HS := Lib.hid ((h1.put (h' := ⟨num l 0, num l 8, num l 16, num l 24, num l 32, 0, 0, 0, 0, 0, 0, false, 0, 0, 0, 0, 0, 0, 0, 0, 0, 0, 0, 0⟩) 4 (.int .u64 (num l 32 : Int)) rfl).put (h' := ⟨num l 0, num l 8, num l 16, num l 24, num l 32, num l 40, 0, 0, 0, 0, 0, false, 0, 0, 0, 0, 0, 0, 0, 0, 0, 0, 0, 0⟩) 5 (.int .u64 (num l 40 : Int)) rfl)
    clear h1
    go_wp2_with fail
    refine (HS.out.part (k := 48) (k2 := 56) (m := 64) (by omega) rfl rfl).mono ?_
    rintro e Y3 ⟨rfl, h1⟩
    clear HS
    obtain ⟨v6, q6⟩ := h1.old 6 (by decide)
    have f6 := h1.hd.frozen 6
    obtain ⟨v7, q7⟩ := h1.old 7 (by decide)
    have f7 := h1.hd.frozen 7
    have HS := Lib.hid ((h1.put (h' := ⟨num l 0, num l 8, num l 16, num l 24, num l 32, num l 40, num l 48, 0, 0, 0, 0, false, 0, 0, 0, 0, 0, 0, 0, 0, 0, 0, 0, 0⟩) 6 (.int .u64 (num l 48 : Int)) rfl).put (h' := ⟨num l 0, num l 8, num l 16, num l 24, num l 32, num l 40, num l 48, num l 56, 0, 0, 0, false, 0, 0, 0, 0, 0, 0, 0, 0, 0, 0, 0, 0⟩) 7 (.int .u64 (num l 56 : Int)) rfl)
    clear h1
    go_wp2_with fail
    go_loopw [5, 20] (fun x5 x20 W => ∃ k : Nat, k ≤ 3 ∧ x20 = .int .i64 (k : Int) ∧ Hid (HdS w g b r s ⟨num l 0, num l 8, num l 16, num l 24, num l 32, num l 40, num l 48, num l 56, upTo k 0 (num l 64), upTo k 1 (num l 72), upTo k 2 (num l 80), false, 0, 0, 0, 0, 0, 0, 0, 0, 0, 0, 0, 0⟩ (l.drop (64 + 8 * k)) W)) (fun x5 x20 _ => 3 - (intOf x20).toNat)
    case atStart => exact ⟨0, by omega, rfl, HS⟩
    case round =>
      clear HS
      obtain ⟨k, hk, rfl, HS⟩ := hrel
      have hk5 : k = 0 ∨ k = 1 ∨ k = 2 ∨ k = 3 := by omega
      rcases hk5 with rfl | rfl | rfl | rfl
      · have HS1 : Hid (HdS w g b r s ⟨num l 0, num l 8, num l 16, num l 24, num l 32, num l 40, num l 48, num l 56, upTo 0 0 (num l 64), upTo 0 1 (num l 72), upTo 0 2 (num l 80), false, 0, 0, 0, 0, 0, 0, 0, 0, 0, 0, 0, 0⟩ (l.drop 64) wr) := HS
        clear HS
        go_wp2_with fail
        refine (HS1.out.num_ (k := 64) (m := 72) (by omega) rfl).mono ?_
        rintro e Y ⟨rfl, h1⟩
        clear HS1
        obtain ⟨v, q⟩ := h1.old 8 (by decide)
        have f := h1.hd.frozen 8
        have HS : Hid (HdS w g b r s ⟨num l 0, num l 8, num l 16, num l 24, num l 32, num l 40, num l 48, num l 56, upTo 1 0 (num l 64), upTo 1 1 (num l 72), upTo 1 2 (num l 80), false, 0, 0, 0, 0, 0, 0, 0, 0, 0, 0, 0, 0⟩ (l.drop (64 + 8 * 1)) (Y.setCell ⟨s, 8, none⟩ (.int .u64 (num l 64 : Int)))) := h1.put 8 _ rfl
        clear h1
        go_wp2_with fail
        refine ⟨⟨1, by omega, rfl, HS⟩, by decide⟩
      · have HS1 : Hid (HdS w g b r s ⟨num l 0, num l 8, num l 16, num l 24, num l 32, num l 40, num l 48, num l 56, upTo 1 0 (num l 64), upTo 1 1 (num l 72), upTo 1 2 (num l 80), false, 0, 0, 0, 0, 0, 0, 0, 0, 0, 0, 0, 0⟩ (l.drop 72) wr) := HS
        clear HS
        go_wp2_with fail
        refine (HS1.out.num_ (k := 72) (m := 80) (by omega) rfl).mono ?_
        rintro e Y ⟨rfl, h1⟩
        clear HS1
        obtain ⟨v, q⟩ := h1.old 9 (by decide)
        have f := h1.hd.frozen 9
        have HS : Hid (HdS w g b r s ⟨num l 0, num l 8, num l 16, num l 24, num l 32, num l 40, num l 48, num l 56, upTo 2 0 (num l 64), upTo 2 1 (num l 72), upTo 2 2 (num l 80), false, 0, 0, 0, 0, 0, 0, 0, 0, 0, 0, 0, 0⟩ (l.drop (64 + 8 * 2)) (Y.setCell ⟨s, 9, none⟩ (.int .u64 (num l 72 : Int)))) := h1.put 9 _ rfl
        clear h1
        go_wp2_with fail
        refine ⟨⟨2, by omega, rfl, HS⟩, by decide⟩
      · have HS1 : Hid (HdS w g b r s ⟨num l 0, num l 8, num l 16, num l 24, num l 32, num l 40, num l 48, num l 56, upTo 2 0 (num l 64), upTo 2 1 (num l 72), upTo 2 2 (num l 80), false, 0, 0, 0, 0, 0, 0, 0, 0, 0, 0, 0, 0⟩ (l.drop 80) wr) := HS
        clear HS
        go_wp2_with fail
        refine (HS1.out.num_ (k := 80) (m := 88) (by omega) rfl).mono ?_
        rintro e Y ⟨rfl, h1⟩
        clear HS1
        obtain ⟨v, q⟩ := h1.old 10 (by decide)
        have f := h1.hd.frozen 10
        have HS : Hid (HdS w g b r s ⟨num l 0, num l 8, num l 16, num l 24, num l 32, num l 40, num l 48, num l 56, upTo 3 0 (num l 64), upTo 3 1 (num l 72), upTo 3 2 (num l 80), false, 0, 0, 0, 0, 0, 0, 0, 0, 0, 0, 0, 0⟩ (l.drop (64 + 8 * 3)) (Y.setCell ⟨s, 10, none⟩ (.int .u64 (num l 80 : Int)))) := h1.put 10 _ rfl
        clear h1
        go_wp2_with fail
        refine ⟨⟨3, by omega, rfl, HS⟩, by decide⟩
      · have HS1 : Hid (HdS w g b r s ⟨num l 0, num l 8, num l 16, num l 24, num l 32, num l 40, num l 48, num l 56, num l 64, num l 72, num l 80, false, 0, 0, 0, 0, 0, 0, 0, 0, 0, 0, 0, 0⟩ (l.drop 88) wr) := HS
        clear HS
        have HS := HS1
        clear HS1
        go_wp2_with fail
        refine (HS.out.small (k := 88) (m := 89) (by omega) rfl).mono ?_
        rintro e Y ⟨rfl, h1⟩
        clear HS
        obtain ⟨cb, hcb⟩ : ∃ cb, ((byt l 88 : Int) == 1) = cb := ⟨_, rfl⟩
        have hcb2 : Hid (decide ((byt l 88 : Int) = 1) = cb) := by show _ = _; rw [← hcb]; exact (Bool.beq_eq_decide_eq _ _).symm
        obtain ⟨v11, q11⟩ := h1.old 11 (by decide)
        have f11 := h1.hd.frozen 11
        have HS := Lib.hid (h1.put (h' := ⟨num l 0, num l 8, num l 16, num l 24, num l 32, num l 40, num l 48, num l 56, num l 64, num l 72, num l 80, decide ((byt l 88 : Int) = 1), 0, 0, 0, 0, 0, 0, 0, 0, 0, 0, 0, 0⟩) 11 (.bool cb) (by rw [hcb2.out]; rfl))
        have HCB := hcb2
        clear h1 hcb2
        go_wp2_with fail
        refine (HS.out.small (k := 89) (m := 90) (by omega) rfl).mono ?_
        rintro e Y4 ⟨rfl, h1⟩
        clear HS
        obtain ⟨v12, q12⟩ := h1.old 12 (by decide)
        have f12 := h1.hd.frozen 12
        have HS := Lib.hid (h1.put (h' := ⟨num l 0, num l 8, num l 16, num l 24, num l 32, num l 40, num l 48, num l 56, num l 64, num l 72, num l 80, decide ((byt l 88 : Int) = 1), (byt l 89 : Int), 0, 0, 0, 0, 0, 0, 0, 0, 0, 0, 0⟩) 12 (.int .i64 ((byt l 89 : Int))) rfl)
        clear h1
        clear hcb
        go_wp2_with fail
        refine (HS.out.small (k := 90) (m := 91) (by omega) rfl).mono ?_
        rintro e Y5 ⟨rfl, h1⟩
        clear HS
        obtain ⟨v13, q13⟩ := h1.old 13 (by decide)
        have f13 := h1.hd.frozen 13
        have HS := Lib.hid (h1.put (h' := ⟨num l 0, num l 8, num l 16, num l 24, num l 32, num l 40, num l 48, num l 56, num l 64, num l 72, num l 80, decide ((byt l 88 : Int) = 1), (byt l 89 : Int), (byt l 90 : Int), 0, 0, 0, 0, 0, 0, 0, 0, 0, 0⟩) 13 (.int .i64 ((byt l 90 : Int))) rfl)
        clear h1
        go_wp2_with fail
        refine (HS.out.small (k := 91) (m := 92) (by omega) rfl).mono ?_
        rintro e Y6 ⟨rfl, h1⟩
        clear HS
        obtain ⟨v14, q14⟩ := h1.old 14 (by decide)
        have f14 := h1.hd.frozen 14
        have HS := Lib.hid (h1.put (h' := ⟨num l 0, num l 8, num l 16, num l 24, num l 32, num l 40, num l 48, num l 56, num l 64, num l 72, num l 80, decide ((byt l 88 : Int) = 1), (byt l 89 : Int), (byt l 90 : Int), (byt l 91 : Int), 0, 0, 0, 0, 0, 0, 0, 0, 0⟩) 14 (.int .i64 ((byt l 91 : Int))) rfl)
        clear h1
        go_wp2_with fail
        refine (HS.out.small (k := 92) (m := 93) (by omega) rfl).mono ?_
        rintro e Y7 ⟨rfl, h1⟩
        clear HS
        obtain ⟨v15, q15⟩ := h1.old 15 (by decide)
        have f15 := h1.hd.frozen 15
        have HS := Lib.hid (h1.put (h' := ⟨num l 0, num l 8, num l 16, num l 24, num l 32, num l 40, num l 48, num l 56, num l 64, num l 72, num l 80, decide ((byt l 88 : Int) = 1), (byt l 89 : Int), (byt l 90 : Int), (byt l 91 : Int), (byt l 92 : Int), 0, 0, 0, 0, 0, 0, 0, 0⟩) 15 (.int .i64 ((byt l 92 : Int))) rfl)
        clear h1
        go_wp2_with fail
        refine (HS.out.small (k := 93) (m := 94) (by omega) rfl).mono ?_
        rintro e Y8 ⟨rfl, h1⟩
        clear HS
        obtain ⟨v16, q16⟩ := h1.old 16 (by decide)
        have f16 := h1.hd.frozen 16
        have HS := Lib.hid (h1.put (h' := ⟨num l 0, num l 8, num l 16, num l 24, num l 32, num l 40, num l 48, num l 56, num l 64, num l 72, num l 80, decide ((byt l 88 : Int) = 1), (byt l 89 : Int), (byt l 90 : Int), (byt l 91 : Int), (byt l 92 : Int), (byt l 93 : Int), 0, 0, 0, 0, 0, 0, 0⟩) 16 (.int .i64 ((byt l 93 : Int))) rfl)
        clear h1
        go_wp2_with fail
        refine (HS.out.point (k := 94) (k2 := 98) (m := 102) (by omega) rfl rfl).mono ?_
        rintro e Y9 ⟨rfl, h1⟩
        clear HS
        obtain ⟨v17, q17⟩ := h1.old 17 (by decide)
        have f17 := h1.hd.frozen 17
        obtain ⟨v18, q18⟩ := h1.old 18 (by decide)
        have f18 := h1.hd.frozen 18
        have HS := Lib.hid ((h1.put (h' := ⟨num l 0, num l 8, num l 16, num l 24, num l 32, num l 40, num l 48, num l 56, num l 64, num l 72, num l 80, decide ((byt l 88 : Int) = 1), (byt l 89 : Int), (byt l 90 : Int), (byt l 91 : Int), (byt l 92 : Int), (byt l 93 : Int), deg l 94, 0, 0, 0, 0, 0, 0⟩) 17 (.int .i64 (deg l 94)) rfl).put (h' := ⟨num l 0, num l 8, num l 16, num l 24, num l 32, num l 40, num l 48, num l 56, num l 64, num l 72, num l 80, decide ((byt l 88 : Int) = 1), (byt l 89 : Int), (byt l 90 : Int), (byt l 91 : Int), (byt l 92 : Int), (byt l 93 : Int), deg l 94, deg l 98, 0, 0, 0, 0, 0⟩) 18 (.int .i64 (deg l 98)) rfl)
        clear h1
        go_wp2_with fail
        refine (HS.out.point (k := 102) (k2 := 106) (m := 110) (by omega) rfl rfl).mono ?_
        rintro e Y10 ⟨rfl, h1⟩
        clear HS
        obtain ⟨v19, q19⟩ := h1.old 19 (by decide)
        have f19 := h1.hd.frozen 19
        obtain ⟨v20, q20⟩ := h1.old 20 (by decide)
        have f20 := h1.hd.frozen 20
        have HS := Lib.hid ((h1.put (h' := ⟨num l 0, num l 8, num l 16, num l 24, num l 32, num l 40, num l 48, num l 56, num l 64, num l 72, num l 80, decide ((byt l 88 : Int) = 1), (byt l 89 : Int), (byt l 90 : Int), (byt l 91 : Int), (byt l 92 : Int), (byt l 93 : Int), deg l 94, deg l 98, deg l 102, 0, 0, 0, 0⟩) 19 (.int .i64 (deg l 102)) rfl).put (h' := ⟨num l 0, num l 8, num l 16, num l 24, num l 32, num l 40, num l 48, num l 56, num l 64, num l 72, num l 80, decide ((byt l 88 : Int) = 1), (byt l 89 : Int), (byt l 90 : Int), (byt l 91 : Int), (byt l 92 : Int), (byt l 93 : Int), deg l 94, deg l 98, deg l 102, deg l 106, 0, 0, 0⟩) 20 (.int .i64 (deg l 106)) rfl)
        clear h1
        go_wp2_with fail
        refine (HS.out.small (k := 110) (m := 111) (by omega) rfl).mono ?_
        rintro e Y11 ⟨rfl, h1⟩
        clear HS
        obtain ⟨v23, q23⟩ := h1.old 23 (by decide)
        have f23 := h1.hd.frozen 23
        have HS := Lib.hid (h1.put (h' := ⟨num l 0, num l 8, num l 16, num l 24, num l 32, num l 40, num l 48, num l 56, num l 64, num l 72, num l 80, decide ((byt l 88 : Int) = 1), (byt l 89 : Int), (byt l 90 : Int), (byt l 91 : Int), (byt l 92 : Int), (byt l 93 : Int), deg l 94, deg l 98, deg l 102, deg l 106, 0, 0, (byt l 110 : Int)⟩) 23 (.int .i64 ((byt l 110 : Int))) rfl)
        clear h1
        go_wp2_with fail
        refine (HS.out.point (k := 111) (k2 := 115) (m := 119) (by omega) rfl rfl).mono ?_
        rintro e Y12 ⟨rfl, h1⟩
        clear HS
        obtain ⟨v21, q21⟩ := h1.old 21 (by decide)
        have f21 := h1.hd.frozen 21
        obtain ⟨v22, q22⟩ := h1.old 22 (by decide)
        have f22 := h1.hd.frozen 22
        have HS := Lib.hid ((h1.put (h' := ⟨num l 0, num l 8, num l 16, num l 24, num l 32, num l 40, num l 48, num l 56, num l 64, num l 72, num l 80, decide ((byt l 88 : Int) = 1), (byt l 89 : Int), (byt l 90 : Int), (byt l 91 : Int), (byt l 92 : Int), (byt l 93 : Int), deg l 94, deg l 98, deg l 102, deg l 106, deg l 111, 0, (byt l 110 : Int)⟩) 21 (.int .i64 (deg l 111)) rfl).put (h' := ⟨num l 0, num l 8, num l 16, num l 24, num l 32, num l 40, num l 48, num l 56, num l 64, num l 72, num l 80, decide ((byt l 88 : Int) = 1), (byt l 89 : Int), (byt l 90 : Int), (byt l 91 : Int), (byt l 92 : Int), (byt l 93 : Int), deg l 94, deg l 98, deg l 102, deg l 106, deg l 111, deg l 115, (byt l 110 : Int)⟩) 22 (.int .i64 (deg l 115)) rfl)
        clear h1
        obtain ⟨ok, hok⟩ : ∃ ok, decide ((byt l 88 : Int) ≤ 1) = ok := ⟨_, rfl⟩
        have hT := Lib.hid (show HdS w g b r s (hdOf l) _ _ from HS.out)
        clear HS
        go_wp2_with (first | (refine wpList_load_g 29 (.tmp 4) rfl (by rfl) s rfl 29 (hdOf l).cells (0, 0) _ hT.out.hd Try.underlying29 rfl (hd_infoc _) ?_) | (refine wpList_store_row rfl 29 (.tmp 2) (.tmp 61) rfl r (hdOf l).cells rfl rfl 29 zHd.cells hT.out.res (hd_infoc _) rfl (hd_all _) ?_))
        have ho := hT.out.only.setRow hT.out.new.1 (hdOf l).cells
        exact bodyPost_ret (results_hd2 rfl _ _ r (hdOf l) _ rfl rfl (hT.out.res.row _)) rfl ⟨by rw [hok]; rfl, ho⟩
end Go.Proofs.Ytlbplefmpbpchaa
