/- InfA -/
import Derived.Test.YtngnhkghpnamoaaInf8
namespace Go.Proofs.Ytngnhkghpnamoaa
open Go.RowKit Huff Bit
set_option linter.unusedVariables false
set_option maxRecDepth 100000

theorem fixLits_eq : Inf.fixLits = fixL := rfl
theorem fix_code : Inf.codeB fixL false = true := by decide +kernel
theorem five_code : Inf.codeB Inf.fixFars false = true := by decide +kernel
section
variable {X : Cx} {F : Option Addr × Option Addr} {out : List Nat} {p : Nat} {w : World}
def Fix (F : Option Addr × Option Addr) (w : World) : Prop := F = (none, none) ∨ ∃ gl gf, F = (some ⟨gl, 0, none⟩, some ⟨gf, 0, none⟩) ∧ CodeK gl Inf.fixLits w ∧ CodeK gf Inf.fixFars w
theorem Fix.dk {B : Nat} {W' : World} (h : Fix F w) (hk : DK B w W') : Fix F W' := by
  rcases h with h | ⟨gl, gf, h1, h2, h3⟩
  · exact .inl h
  · exact .inr ⟨gl, gf, h1, h2.dk hk, h3.dk hk⟩
def FPost (X : Cx) (w : World) (out : List Nat) (p : Nat) (e : Ending) (w' : World) : Prop := ∃ gl gf, e = .returned (.agg #[.pointer (some ⟨gl, 0, none⟩), .pointer (some ⟨gf, 0, none⟩)]) ∧ CodeK gl Inf.fixLits w' ∧ CodeK gf Inf.fixFars w' ∧
  Dec X (some ⟨gl, 0, none⟩, some ⟨gf, 0, none⟩) out p w' ∧ DK X.B w w'
/-- The decoder keeps its codes. -/
theorem Dec.fixed (hX : X.Ok) (h : Dec X F out p w) (G : Option Addr × Option Addr) :
    Dec X G out p ((w.setCell ⟨X.d, 3, none⟩ (.pointer G.1)).setCell ⟨X.d, 4, none⟩ (.pointer G.2)) ∧ DK X.B w ((w.setCell ⟨X.d, 3, none⟩ (.pointer G.1)).setCell ⟨X.d, 4, none⟩ (.pointer G.2)) := by
  obtain ⟨v, h1, h2⟩ := h.dec
  have ho : Only (fun k => k = X.d) w ((w.setCell ⟨X.d, 3, none⟩ (.pointer G.1)).setCell ⟨X.d, 4, none⟩ (.pointer G.2)) := (setCell_only (W := w) (g := X.d)).trans setCell_only (fun _ _ h => h)
  have hd := hX.dn
  refine ⟨⟨⟨v, by simpa using (h1.set 3 (.pointer G.1)).set 4 (.pointer G.2), h2.only ho (fun b hb e => by have := (h2.lt b hb).1; omega)⟩, h.rd.only ho (fun e => h.ne e.symm), h.nums.onlyIf ho h.size (fun b u x hc hb e => ?_), Nat.le_trans h.size ho.size, h.at_⟩,
    DK.only ho (h.le hX) (fun k e => by subst e; exact hX.bd) (fun k e => by subst e; exact ⟨_, _, _, h1, .inr (.inl rfl)⟩)⟩
  subst e
  obtain ⟨a0, c0, rfl, _⟩ := h2.nums
  rw [h1.cell] at hc
  rcases u with _ | _ | _ | _ | _ | u <;> simp at hc
theorem pair_out (hX : X.Ok) {Y : World} {q gl gf : Nat} {l1 l2 : List Nat} {cs : Array Value} (hs : cs.size = 2) (hW : Whole Y w.heap.size 110 cs) (h1 : CodeK gl l1 Y) (h2 : CodeK gf l2 Y) (hD : Dec X F out q Y) (hK : DK X.B w Y) (hnn : X.n ≤ w.heap.size) (hle : X.B ≤ w.heap.size)
    (Z : World) (hZ : Z = (Y.setCell ⟨w.heap.size, 0, none⟩ (.pointer (some ⟨gl, 0, none⟩))).setCell ⟨w.heap.size, 1, none⟩ (.pointer (some ⟨gf, 0, none⟩))) :
    (CodeK gl l1 Z ∧ CodeK gf l2 Z ∧ Dec X F out q Z ∧ DK X.B w Z) ∧ Z.cell? ⟨w.heap.size, 0, none⟩ = some (.pointer (some ⟨gl, 0, none⟩)) ∧ Z.cell? ⟨w.heap.size, 1, none⟩ = some (.pointer (some ⟨gf, 0, none⟩)) := by
  obtain ⟨x, y, rfl⟩ : ∃ x y, cs = #[x, y] := by
    obtain ⟨l⟩ := cs
    rcases l with _ | ⟨x, _ | ⟨y, _ | ⟨z, l⟩⟩⟩ <;> simp at hs
    exact ⟨x, y, rfl⟩
  have hO : Only (fun b => b = w.heap.size) Y Z := by rw [hZ]; exact (setCell_only (W := Y) (g := w.heap.size)).trans setCell_only (fun _ _ h => h)
  have hS : ∀ k, k = w.heap.size → ∃ cs e fz, Y.heap[k]? = some (Obj.cells cs e fz) ∧ e = 110 := fun k e => by subst e; exact ⟨_, _, _, hW, rfl⟩
  have hW2 : Whole Z w.heap.size 110 #[.pointer (some ⟨gl, 0, none⟩), .pointer (some ⟨gf, 0, none⟩)] := by rw [hZ]; simpa using (hW.set 0 (.pointer (some ⟨gl, 0, none⟩))).set 1 (.pointer (some ⟨gf, 0, none⟩))
  refine ⟨⟨h1.other hO fun k hk => ?_, h2.other hO fun k hk => ?_, hD.other hO (fun k hk => ?_) hX, hK.grow hO (fun k hk => by subst hk; exact Nat.le_refl _) hle⟩, hW2.cell 0, hW2.cell 1⟩
  all_goals
    obtain ⟨cs, e, fz, h1, h2⟩ := hS k hk
    subst h2
  · exact ⟨cs, _, fz, h1, by decide, by decide, by decide⟩
  · exact ⟨cs, _, fz, h1, by decide, by decide, by decide⟩
  · exact ⟨by subst hk; exact hnn, cs, _, fz, h1, by decide⟩
set_option maxHeartbeats 8000000 in
theorem dfixed_any (hX : X.Ok) (h : Dec X F out p w) (hF : Fix F w) :
    Calls Try.prog 84 #[.pointer (some ⟨X.d, 0, none⟩)] w (FPost X w out p) := by
  obtain ⟨X1, hX1⟩ : ∃ X, X = w.alloc (.cells #[.pointer none, .pointer none] 110) := ⟨_, rfl⟩
  have hB0 : Below w.heap.size w X1 := by rw [hX1]; exact (Below.refl _ _).alloc (Nat.le_refl _) _
  have hle := h.le hX
  have HW1 : Hid (Whole X1 w.heap.size 110 #[.pointer none, .pointer none]) := by rw [hX1]; exact Whole.new w _ _
  have hd1 := h.below hX hB0
  have hk1 : DK X.B w X1 := DK.of_below hB0 hle
  have HF1 := hF.dk hk1
  have HD1 := Lib.hid hd1
  have HK1 := Lib.hid hk1
  have HX := Lib.hid hX
  have Hle := Lib.hid hle
  have Hnn := Lib.hid h.size
  obtain ⟨v, h1, h2⟩ := hd1.dec
  have c3 : X1.cell? ⟨X.d, 3, none⟩ = some (.pointer F.1) := h1.cell 3
  have c4 : X1.cell? ⟨X.d, 4, none⟩ = some (.pointer F.2) := h1.cell 4
  have f0 := HW1.out.frozen 0
  have f1 := HW1.out.frozen 1
  have r0 : X1.cell? ⟨w.heap.size, 0, none⟩ = some (.pointer none) := HW1.out.cell 0
  have r1 : X1.cell? ⟨w.heap.size, 1, none⟩ = some (.pointer none) := HW1.out.cell 1
  clear hd1 hk1 h h1 h2 hX hle hF hB0
  rcases HF1 with rfl | ⟨gl, gf, rfl, hc1, hc2⟩
  · obtain ⟨i1, hi1, hy0, hy1, hy2⟩ := info_parts i64info
    obtain ⟨A1, hA1⟩ : ∃ A, A = i64s (List.replicate 32 0) := ⟨_, rfl⟩
    have hm1 : ∀ W, (Instr.makeSlice 57 (.int .i64 32) (.int .i64 32)).run Try.prog W = .ok (.slice (some ⟨W.heap.size, 0, none⟩) 32 32) (W.alloc (.cells A1.toArray 3)) := fun W => by
      have := run_make (P := Try.prog) W 57 3 i1 _ Try.underlying57 hi1 hy0 .i64 .i64 32 32 (by omega) (Int.le_refl _) (by rw [hy2]; omega) (by omega)
      rw [hy1, show (Value.int .i64 0).cells = #[.int .i64 0] from rfl, Nat.mul_one, show ((32 : Int)).toNat = 32 from rfl, imade, ← hA1] at this
      exact this
    have HA1 := Lib.hid hA1
    have Hfx := Lib.hid (fixed_any X1)
    unfold FixedPost at Hfx
    clear hA1
    go_enter Try.func84, Try.ntmps84
    go_upto_region 1 with (fail)
    rw [← hX1]
    clear hX1
    go_wp2_with fail
    refine Hfx.out.mono ?_
    rintro e W2 ⟨g5, rfl, hL, _, hB2⟩
    have HL2 := Lib.hid hL
    have HB2 := Lib.hid hB2
    clear hL hB2 Hfx c3 c4 r0 r1 f0 f1
    obtain ⟨W3, hW3⟩ : ∃ W3, W3 = W2.alloc (.cells A1.toArray 3) := ⟨_, rfl⟩
    have hB3 : Below W2.heap.size W2 W3 := by rw [hW3]; exact (Below.refl _ _).alloc (Nat.le_refl _) _
    have hG3 : Whole W3 W2.heap.size 3 (i64s (fillTo 32 0 fun _ => 5)).toArray := by rw [hW3, fillTo_start, ← HA1.out]; exact Whole.new W2 _ _
    have HB3 := Lib.hid (keepBelow hB3 HB2.out)
    have HG3 := Lib.hid hG3
    have HX2 : Hid (X1.heap.size ≤ W2.heap.size) := HB2.out.size
    have HL3 := Lib.hid (HL2.out.below hB3 HL2.out.lt)
    clear hB3 hG3
    go_wp2_with fail
    rw [← hW3]
    clear hW3 hm1
    go_loopw [20] (fun y W => ∃ k : Nat, k ≤ 32 ∧ y = .int .i64 (k : Int) ∧ Hid (Whole W W2.heap.size 3 (i64s (fillTo 32 k fun _ => 5)).toArray) ∧ Hid (Whole W X1.heap.size 3 (i64s fixL).toArray) ∧ Hid (Below X1.heap.size X1 W)) (fun y _ => 32 - (intOf y).toNat)
    case atStart => exact ⟨0, by omega, rfl, HG3, HL3, HB3⟩
    case round =>
      obtain ⟨k, hk, rfl, HG, HL, HB⟩ := hrel
      clear HG3 HL3 HB3
      by_cases hlt : k < 32
      · have k0 : (0 : Int) ≤ (k : Int) := by omega
        have k1 : (k : Int) < 32 := by omega
        have g0 : wr.cell? ⟨W2.heap.size, k, none⟩ = some (.int .i64 (((fillTo 32 k fun _ => 5).getD k 0 : Nat) : Int)) := by
          rw [HG.out.cell, List.getElem?_toArray]
          have : k < (fillTo 32 k fun _ => 5).length := by rw [fillTo_length]; exact hlt
          simp [i64s, this]
        have f0 := HG.out.frozen k
        have HG4 := Lib.hid (HG.out.seti k 5)
        rw [fillTo_next 32 k (fun _ => 5) hlt] at HG4
        have HL4 := Lib.hid (HL.out.far (p := ⟨W2.heap.size, k, none⟩) (by have := HL2.out.lt; show X1.heap.size ≠ W2.heap.size; omega) (.int .i64 5))
        have HB4 := Lib.hid (HB.out.setCell (p := ⟨W2.heap.size, k, none⟩) HX2.out (.int .i64 5))
        go_wp2_with fail
        go_roundw
        case rel => exact ⟨k + 1, by omega, by go_num, HG4, HL4, HB4⟩
        case measure => simp [intOf]; omega
      · obtain rfl : k = 32 := by omega
        have HN1 := icode_yes (some ⟨X1.heap.size, 0, none⟩) 288 fixL false wr HL.out.nums64 (by simp [fixL]) fix_code
        rw [show fixL.length = 288 by simp [fixL]] at HN1
        have HN1 := Lib.hid HN1
        have e5 : (fillTo 32 32 fun _ => 5) = Inf.fixFars := by decide
        have hG := HG.out
        rw [e5] at hG
        have HN2 := Lib.hid fun W (hb : Below wr.heap.size wr W) => by
          have := icode_yes (some ⟨W2.heap.size, 0, none⟩) 32 Inf.fixFars false W (hG.below hb hG.lt).nums64 (by decide) five_code
          rw [show Inf.fixFars.length = 32 by decide] at this
          exact this
        clear hG e5 HG HL hlt
        go_wp2_with fail
        refine HN1.out.mono ?_
        rintro e Y1 ⟨gl, rfl, hc1, hb1⟩
        have HC1 := Lib.hid hc1
        have HY1 := Lib.hid (keepBelow hb1 HB.out) 
        have HN3 := Lib.hid (HN2.out Y1 hb1)
        clear hc1 hb1
        go_wp2_with fail
        refine HN3.out.mono ?_
        rintro e Y2 ⟨gf, rfl, hc2, hb2⟩
        have HY2 := keepBelow hb2 HY1.out
        have hd2 : Dec X (none, none) out p Y2 := HD1.out.below HX.out HY2
        have hk2 : DK X.B w Y2 := HK1.out.trans (DK.of_below HY2 (HD1.out.le HX.out))
        have hw2 := HW1.out.below HY2 HW1.out.lt
        have hc1 := HC1.out.below hb2
        obtain ⟨hd3, hk3⟩ := hd2.fixed HX.out (some ⟨gl, 0, none⟩, some ⟨gf, 0, none⟩)
        simp only at hd3 hk3
        obtain ⟨vd, h1, h2⟩ := hd2.dec
        have y3 : Y2.cell? ⟨X.d, 3, none⟩ = some (.pointer none) := h1.cell 3
        have y4 : Y2.cell? ⟨X.d, 4, none⟩ = some (.pointer none) := h1.cell 4
        have yf3 := h1.frozen 3
        have yf4 := h1.frozen 4
        obtain ⟨vd3, h31, h32⟩ := hd3.dec
        have z3 := h31.cell 3
        have z4 := h31.cell 4
        have hw3 := hw2.dk (hk3) (by decide) (by decide) (by decide)
        have r0 := hw3.cell 0
        have r1 := hw3.cell 1
        have rf0 := hw3.frozen 0
        have rf1 := hw3.frozen 1
        obtain ⟨Y3, hY3⟩ : ∃ Y3, Y3 = (Y2.setCell ⟨X.d, 3, none⟩ (.pointer (some ⟨gl, 0, none⟩))).setCell ⟨X.d, 4, none⟩ (.pointer (some ⟨gf, 0, none⟩)) := ⟨_, rfl⟩
        rw [← hY3] at hd3 hk3 z3 z4 hw3 r0 r1 rf0 rf1
        have z3 : Y3.cell? ⟨X.d, 3, none⟩ = some (.pointer (some ⟨gl, 0, none⟩)) := z3
        have z4 : Y3.cell? ⟨X.d, 4, none⟩ = some (.pointer (some ⟨gf, 0, none⟩)) := z4
        have r0 : Y3.cell? ⟨w.heap.size, 0, none⟩ = some (.pointer none) := r0
        have r1 : Y3.cell? ⟨w.heap.size, 1, none⟩ = some (.pointer none) := r1
        obtain ⟨Z, hZ⟩ : ∃ Z, Z = (Y3.setCell ⟨w.heap.size, 0, none⟩ (.pointer (some ⟨gl, 0, none⟩))).setCell ⟨w.heap.size, 1, none⟩ (.pointer (some ⟨gf, 0, none⟩)) := ⟨_, rfl⟩
        obtain ⟨hf, z0, z1⟩ := pair_out HX.out rfl hw3 (hc1.dk hk3) (hc2.dk hk3) hd3 (hk2.trans hk3) Hnn.out Hle.out Z hZ
        have HF := Lib.hid (show FPost X w out p (.returned (.agg #[.pointer (some ⟨gl, 0, none⟩), .pointer (some ⟨gf, 0, none⟩)])) Z from ⟨gl, gf, rfl, hf⟩)
        clear hd2 hk2 hw2 hc1 hc2 hd3 hk3 h1 h2 h31 h32 hw3 hf hb2 HY2
        go_upto_region 10 with (fail)
        rw [← hY3]
        clear hY3
        go_wp2_with fail
        rw [← hZ]
        exact bodyPost_ret (v := .agg #[.pointer (some ⟨gl, 0, none⟩), .pointer (some ⟨gf, 0, none⟩)]) (by simp [results, Try.results84, asAddr, z0, z1, go_sem]) rfl HF.out
  · have HC1 := Lib.hid hc1
    have HC2 := Lib.hid hc2
    clear hc1 hc2
    go_enter Try.func84, Try.ntmps84
    go_upto_region 1 with (fail)
    rw [← hX1]
    clear hX1
    obtain ⟨Z, hZ⟩ : ∃ Z, Z = (X1.setCell ⟨w.heap.size, 0, none⟩ (.pointer (some ⟨gl, 0, none⟩))).setCell ⟨w.heap.size, 1, none⟩ (.pointer (some ⟨gf, 0, none⟩)) := ⟨_, rfl⟩
    obtain ⟨hf, z0, z1⟩ := pair_out HX.out rfl HW1.out HC1.out HC2.out HD1.out HK1.out Hnn.out Hle.out Z hZ
    have HF := Lib.hid (show FPost X w out p (.returned (.agg #[.pointer (some ⟨gl, 0, none⟩), .pointer (some ⟨gf, 0, none⟩)])) Z from ⟨gl, gf, rfl, hf⟩)
    clear hf
    go_wp2_with fail
    rw [← hZ]
    exact bodyPost_ret (v := .agg #[.pointer (some ⟨gl, 0, none⟩), .pointer (some ⟨gf, 0, none⟩)]) (by simp [results, Try.results84, asAddr, z0, z1, go_sem]) rfl HF.out
end
end Go.Proofs.Ytngnhkghpnamoaa

namespace Go.Proofs.Ytngnhkghpnamoaa
open Go.RowKit Huff Bit
set_option linter.unusedVariables false
set_option maxRecDepth 100000

section
variable {X : Cx} {F : Option Addr × Option Addr} {out : List Nat} {p : Nat} {w : World}
def BPost (X : Cx) (w : World) (R : Except Nat ((Nat × List Nat) × Nat)) (e : Ending) (w' : World) : Prop :=
  match R with
  | .ok a => e = .returned (.bool (a.1.1 == 1)) ∧ (∃ F, Dec X F a.1.2 a.2 w' ∧ Fix F w') ∧ DK X.B w w'
  | .error n => e = .panicked (pan n) ∧ Below X.B w w'
set_option maxHeartbeats 8000000 in
theorem dblock_any (hX : X.Ok) (h : Dec X F out p w) (hF : Fix F w) :
    Calls Try.prog 76 #[.pointer (some ⟨X.d, 0, none⟩)] w (BPost X w (X.run (Inf.blockP X.most out) p)) := by
  obtain ⟨R, hR⟩ : ∃ R, X.run (Inf.blockP X.most out) p = R := ⟨_, rfl⟩
  rw [hR]
  have HX := Lib.hid hX
  have HF := Lib.hid hF
  have Hb := dbits_any hX h 1 (by omega)
  unfold Inf.blockP at hR
  clear h hX hF
  cases hR1 : X.run (Inf.bitsP 1) p with
  | error E =>
    rw [run_err hR1] at hR
    subst hR
    rw [hR1] at Hb
    have HB := Lib.hid Hb
    clear Hb hR1
    go_enter Try.func76, Try.ntmps76
    go_wp2_with fail
    refine HB.out.mono ?_
    rintro e W ⟨rfl, hB⟩
    have HB := Lib.hid hB
    clear hB
    go_wp2_with fail
    exact ⟨rfl, rfl, HB.out⟩
  | ok x =>
    obtain ⟨la, q1⟩ := x
    rw [run_ok hR1] at hR
    have hla := run_bits_lt hR1
    simp only at hla
    rw [hR1] at Hb
    have HB := Lib.hid Hb
    have e1 : Hid (((la : Int) == 1) = (la == 1)) := by
      show _ = _
      rcases (show la = 0 ∨ la = 1 by omega) with rfl | rfl <;> rfl
    have HR := Lib.hid hR
    clear Hb hR1 hla hR
    go_enter Try.func76, Try.ntmps76
    go_wp2_with fail
    refine HB.out.mono ?_
    rintro e W1 ⟨rfl, hD1, hK1⟩
    have HD1 := Lib.hid hD1
    have HK1 := Lib.hid hK1
    have HF1 := Lib.hid (HF.out.dk hK1)
    have Hb := dbits_any HX.out hD1 2 (by omega)
    have hR := HR.out
    clear hD1 hK1 HB HF HR
    cases hR1 : X.run (Inf.bitsP 2) q1 with
    | error E =>
      rw [run_err hR1] at hR
      subst hR
      rw [hR1] at Hb
      have HB := Lib.hid Hb
      clear Hb hR1
      go_wp2_with fail
      refine HB.out.mono ?_
      rintro e W ⟨rfl, hB⟩
      have HB := Lib.hid (HK1.out.below.trans hB)
      clear hB
      go_wp2_with fail
      exact ⟨rfl, rfl, HB.out⟩
    | ok x =>
      obtain ⟨k, q2⟩ := x
      rw [run_ok hR1] at hR
      have hk4 := run_bits_lt hR1
      simp only at hk4
      rw [hR1] at Hb
      have HB := Lib.hid Hb
      unfold Inf.kindP at hR
      clear Hb hR1
      by_cases k0 : k = 0
      · subst k0
        rw [if_pos rfl] at hR
        have HR := Lib.hid hR
        clear hR hk4
        go_wp2_with fail
        refine HB.out.mono ?_
        rintro e W2 ⟨rfl, hD2, hK2⟩
        have HK2 := Lib.hid (HK1.out.trans hK2)
        have HF2 := Lib.hid (HF1.out.dk hK2)
        have Hst := dstored_any HX.out hD2
        have hR := HR.out
        clear hD2 hK2 HB HF1 HR
        cases hR1 : X.run (Inf.storedP X.most out) q2 with
        | error E =>
          rw [run_err hR1] at hR
          subst hR
          rw [hR1] at Hst
          have HB := Lib.hid Hst
          clear Hst hR1
          go_wp2_with fail
          refine HB.out.mono ?_
          rintro e W ⟨rfl, hB⟩
          have HB := Lib.hid (HK2.out.below.trans hB)
          clear hB
          go_wp2_with fail
          exact ⟨rfl, rfl, HB.out⟩
        | ok x =>
          obtain ⟨o, q3⟩ := x
          rw [run_ok hR1] at hR
          have hE : Except.ok ((la, o), q3) = R := hR
          subst hE
          rw [hR1] at Hst
          have HB := Lib.hid Hst
          clear Hst hR1 hR
          go_wp2_with fail
          refine HB.out.mono ?_
          rintro e W3 ⟨rfl, hD3, hK3⟩
          have HD3 := Lib.hid hD3
          have HK3 := Lib.hid (HK2.out.trans hK3)
          have HF3 := Lib.hid (HF2.out.dk hK3)
          clear hD3 hK3 HB HF2
          go_wp2_with fail
          go_ret
          exact ⟨congrArg (fun b => Ending.returned (.bool b)) e1.out, ⟨_, HD3.out, HF3.out⟩, HK3.out⟩
      · rw [if_neg k0] at hR
        have d0 : ((k : Int) == 0) = false := by simp; omega
        by_cases k1 : k = 1
        · subst k1
          rw [if_pos rfl] at hR
          have HR := Lib.hid hR
          clear hR hk4 k0
          go_wp2_with fail
          refine HB.out.mono ?_
          rintro e W2 ⟨rfl, hD2, hK2⟩
          have HK2 := Lib.hid (HK1.out.trans hK2)
          have Hfx := Lib.hid (dfixed_any HX.out hD2 (HF1.out.dk hK2))
          clear hD2 hK2 HB HF1
          go_wp2_with fail
          refine Hfx.out.mono ?_
          rintro e W3 ⟨gl, gf, rfl, hc1, hc2, hD3, hK3⟩
          have HK3 := Lib.hid (HK2.out.trans hK3)
          have HC1 := Lib.hid hc1
          have HC2 := Lib.hid hc2
          have Hsy := dsymbols_any HX.out hD3 gl gf Inf.fixLits Inf.fixFars hc1 hc2
          have hR := HR.out
          clear hD3 hK3 hc1 hc2 Hfx HR HK2
          cases hR1 : X.run (Inf.symsP Inf.fixLits Inf.fixFars X.most Inf.fuel out) q2 with
          | error E =>
            rw [run_err hR1] at hR
            subst hR
            rw [hR1] at Hsy
            have HB := Lib.hid Hsy
            clear Hsy hR1
            go_wp2_with fail
            refine HB.out.mono ?_
            rintro e W ⟨rfl, hB⟩
            have HB := Lib.hid (HK3.out.below.trans hB)
            clear hB
            go_wp2_with fail
            exact ⟨rfl, rfl, HB.out⟩
          | ok x =>
            obtain ⟨o, q3⟩ := x
            rw [run_ok hR1] at hR
            have hE : Except.ok ((la, o), q3) = R := hR
            subst hE
            rw [hR1] at Hsy
            have HB := Lib.hid Hsy
            clear Hsy hR1 hR
            go_wp2_with fail
            refine HB.out.mono ?_
            rintro e W4 ⟨rfl, hD4, hK4⟩
            have HD4 := Lib.hid hD4
            have HK4 := Lib.hid (HK3.out.trans hK4)
            have HF4 : Hid (Fix (some ⟨gl, 0, none⟩, some ⟨gf, 0, none⟩) W4) := .inr ⟨gl, gf, rfl, HC1.out.dk hK4, HC2.out.dk hK4⟩
            clear hD4 hK4 HB
            go_wp2_with fail
            go_ret
            exact ⟨congrArg (fun b => Ending.returned (.bool b)) e1.out, ⟨_, HD4.out, HF4.out⟩, HK4.out⟩
        · rw [if_neg k1] at hR
          have d1 : ((k : Int) == 1) = false := by simp; omega
          by_cases k2 : k = 2
          · subst k2
            rw [if_pos rfl, bnd_assoc] at hR
            have HR := Lib.hid hR
            clear hR hk4 k0 k1
            go_wp2_with fail
            refine HB.out.mono ?_
            rintro e W2 ⟨rfl, hD2, hK2⟩
            have HK2 := Lib.hid (HK1.out.trans hK2)
            have HF2 := Lib.hid (HF1.out.dk hK2)
            have Hdy := ddyn_any HX.out hD2
            have hR := HR.out
            clear hD2 hK2 HB HF1 HR
            cases hR1 : X.run Inf.dynP q2 with
            | error E =>
              rw [run_err hR1] at hR
              subst hR
              rw [hR1] at Hdy
              have HB := Lib.hid Hdy
              clear Hdy hR1
              go_wp2_with fail
              refine HB.out.mono ?_
              rintro e W ⟨rfl, hB⟩
              have HB := Lib.hid (HK2.out.below.trans hB)
              clear hB
              go_wp2_with fail
              exact ⟨rfl, rfl, HB.out⟩
            | ok x =>
              obtain ⟨⟨l1, l2⟩, q3⟩ := x
              rw [run_ok hR1] at hR
              rw [hR1] at Hdy
              have HB := Lib.hid Hdy
              have HR := Lib.hid hR
              clear Hdy hR1 hR
              go_wp2_with fail
              refine HB.out.mono ?_
              rintro e W3 ⟨gl, gf, rfl, hc1, hc2, hD3, hK3⟩
              have HK3 := Lib.hid (HK2.out.trans hK3)
              have HF3 := Lib.hid (HF2.out.dk hK3)
              have Hsy := dsymbols_any HX.out hD3 gl gf l1 l2 hc1 hc2
              have hR := HR.out
              clear hD3 hK3 hc1 hc2 HR HK2 HF2 HB
              cases hR1 : X.run (Inf.symsP l1 l2 X.most Inf.fuel out) q3 with
              | error E =>
                rw [run_err hR1] at hR
                subst hR
                rw [hR1] at Hsy
                have HB := Lib.hid Hsy
                clear Hsy hR1
                go_wp2_with fail
                refine HB.out.mono ?_
                rintro e W ⟨rfl, hB⟩
                have HB := Lib.hid (HK3.out.below.trans hB)
                clear hB
                go_wp2_with fail
                exact ⟨rfl, rfl, HB.out⟩
              | ok x =>
                obtain ⟨o, q4⟩ := x
                rw [run_ok hR1] at hR
                have hE : Except.ok ((la, o), q4) = R := hR
                subst hE
                rw [hR1] at Hsy
                have HB := Lib.hid Hsy
                clear Hsy hR1 hR
                go_wp2_with fail
                refine HB.out.mono ?_
                rintro e W4 ⟨rfl, hD4, hK4⟩
                have HD4 := Lib.hid hD4
                have HK4 := Lib.hid (HK3.out.trans hK4)
                have HF4 := Lib.hid (HF3.out.dk hK4)
                clear hD4 hK4 HB HF3
                go_wp2_with fail
                go_ret
                exact ⟨congrArg (fun b => Ending.returned (.bool b)) e1.out, ⟨_, HD4.out, HF4.out⟩, HK4.out⟩
          · rw [if_neg k2] at hR
            have hE : Except.error 3 = R := hR
            subst hE
            have d2 : ((k : Int) == 2) = false := by simp; omega
            clear hR hk4 k0 k1 k2
            go_wp2_with fail
            refine HB.out.mono ?_
            rintro e W2 ⟨rfl, hD2, hK2⟩
            have HK2 := Lib.hid (HK1.out.trans hK2)
            clear hD2 hK2 HB
            go_wp2_with fail
            exact ⟨rfl, rfl, HK2.out.below⟩
end
end Go.Proofs.Ytngnhkghpnamoaa
