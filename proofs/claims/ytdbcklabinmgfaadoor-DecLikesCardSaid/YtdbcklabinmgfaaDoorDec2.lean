/- Layer 16: read. -/
import Derived.Test.YtdbcklabinmgfaaDoorDec2A
namespace Go.Proofs.YtdbcklabinmgfaaDoor
open Go.RowKit
set_option linter.unusedVariables false
set_option maxRecDepth 100000

set_option maxHeartbeats 16000000 in
theorem read_any (s : ByteArray) (w : World) (hs : s.size ≤ 1000000) :
    Calls Tryd.prog 22 #[.string s] w (ReadP (bs s) w) := by
  obtain ⟨l, hl⟩ : ∃ l, l = bs s := ⟨_, rfl⟩
  have Hl := Lib.hid hl
  have HO45 := Lib.hid fun i gA gS W hi h => one_c 45 (by decide) ⟨#[45]⟩ s rfl i gA gS W hi hs h
  have HO48 := Lib.hid fun i gA gS W hi h => one_c 48 (by decide) ⟨#[48]⟩ s rfl i gA gS W hi hs h
  have HO46 := Lib.hid fun i gA gS W hi h => one_c 46 (by decide) ⟨#[46]⟩ s rfl i gA gS W hi hs h
  have HOE := Lib.hid fun i gA gS W hi h => one_cd 101 69 (by decide) (by decide) ⟨#[101, 69]⟩ s rfl i gA gS W hi hs h
  have HOS := Lib.hid fun i gA gS W hi h => one_cd 43 45 (by decide) (by decide) ⟨#[43, 45]⟩ s rfl i gA gS W hi hs h
  have HP0s : Hid (∀ p, p = place0 l → p ≤ s.size) := fun p hp => by rw [hp]; unfold place0; by_cases h : l.getD 0 0 = 45; rw [if_pos h]; have := getD_lt_len h (by decide); rw [hl, bs_length] at this; omega; rw [if_neg h]; omega
  have HDg := Lib.hid fun i gA gS W hi hn h => digits_any s i gA gS W hi hs hn h
  obtain ⟨X0, hX0⟩ : ∃ X0, X0 = ((w.alloc (.cells #[.string s] 9)).alloc (.cells #[.bool false, .string ⟨#[]⟩, .string ⟨#[]⟩, .int .i64 0] 44)).alloc (.cells #[.int .i64 0] 3) := ⟨_, rfl⟩
  obtain ⟨gS, hg⟩ : ∃ g, g = w.heap.size := ⟨_, rfl⟩
  have hX : RX w X0 (gS + 1) (gS + 1 + 1) gS s 0 false ⟨#[]⟩ ⟨#[]⟩ 0 := by
    rw [hX0, hg]
    refine ⟨⟨?_, ((Whole.new w _ _).alloc _).alloc _⟩, ?_, ?_, by omega, by omega, by omega, by omega, by omega⟩
    · have := Whole.new ((w.alloc (.cells #[.string s] 9)).alloc (.cells #[.bool false, .string ⟨#[]⟩, .string ⟨#[]⟩, .int .i64 0] 44)) 3 #[.int .i64 0]
      rw [show ((w.alloc (.cells #[.string s] 9)).alloc (.cells #[.bool false, .string ⟨#[]⟩, .string ⟨#[]⟩, .int .i64 0] 44)).heap.size = w.heap.size + 2 by simp] at this
      exact this
    · have := (Whole.new (w.alloc (.cells #[.string s] 9)) 44 #[.bool false, .string ⟨#[]⟩, .string ⟨#[]⟩, .int .i64 0]).alloc (.cells #[.int .i64 0] 3)
      rw [show (w.alloc (.cells #[.string s] 9)).heap.size = w.heap.size + 1 by simp] at this
      exact this
    · have h1 := (Below.refl w.heap.size w).alloc (Nat.le_refl _) (.cells #[.string s] 9)
      have h2 := h1.alloc h1.size (.cells #[.bool false, .string ⟨#[]⟩, .string ⟨#[]⟩, .int .i64 0] 44)
      exact h2.alloc h2.size _
  have HX0 := Lib.hid hX0
  have HX := Lib.hid hX
  have Hg := Lib.hid hg
  clear hX0 hX hg hl
  go_enter Tryd.func22, Tryd.ntmps22
  go_upto_region 3 with (fail)
  rw [← HX0.out, ← Hg.out]
  obtain ⟨gA, hgA⟩ : ∃ g, g = gS + 1 + 1 := ⟨_, rfl⟩
  rw [← hgA] at HX ⊢
  obtain ⟨gX, hgX⟩ : ∃ g, g = gS + 1 := ⟨_, rfl⟩
  rw [← hgX] at HX ⊢
  clear hgA hgX HX0 Hg
  go_wp2_with fail
  refine (HO45.out 0 gA gS X0 (Nat.zero_le _) HX.out.rs).mono ?_
  rintro e W1 ⟨rfl, hp⟩
  have HX := Lib.hid (HX.out.one hp)
  rw [← Hl.out, place0_if] at HX
  rw [← Hl.out]
  obtain ⟨ng, hng⟩ : ∃ b, b = decide (l.getD 0 0 = 45) := ⟨_, rfl⟩
  have Hng := Lib.hid hng
  rw [← hng]
  clear hp hng HO45
  obtain ⟨p0, hp0⟩ : ∃ p, p = place0 l := ⟨_, rfl⟩
  have Hp0 := Lib.hid hp0
  rw [← hp0] at HX
  clear hp0
  have hp0s : p0 ≤ s.size := HP0s.out p0 Hp0.out
  have a0 : W1.cell? ⟨gA, 0, none⟩ = some (.int .i64 (p0 : Int)) := HX.out.rs.a.cell 0
  have s0 : W1.cell? ⟨gS, 0, none⟩ = some (.string s) := HX.out.rs.s.cell 0
  have fa : W1.frozen? ⟨gA, 0, none⟩ = false := HX.out.rs.a.frozen 0
  have x0 : W1.cell? ⟨gX, 0, none⟩ = some (.bool false) := HX.out.x.cell 0
  have fx0 : W1.frozen? ⟨gX, 0, none⟩ = false := HX.out.x.frozen 0
  have x1 : W1.cell? ⟨gX, 1, none⟩ = some (.string ⟨#[]⟩) := HX.out.x.cell 1
  have fx1 : W1.frozen? ⟨gX, 1, none⟩ = false := HX.out.x.frozen 1
  have x2 : W1.cell? ⟨gX, 2, none⟩ = some (.string ⟨#[]⟩) := HX.out.x.cell 2
  have fx2 : W1.frozen? ⟨gX, 2, none⟩ = false := HX.out.x.frozen 2
  have x3 : W1.cell? ⟨gX, 3, none⟩ = some (.int .i64 0) := HX.out.x.cell 3
  have fx3 : W1.frozen? ⟨gX, 3, none⟩ = false := HX.out.x.frozen 3
  go_upto_region 4 with (fail)
  clear a0 s0 fa x0 fx0 x1 fx1 x2 fx2 x3 fx3
  obtain ⟨W2, hW2⟩ : ∃ V, V = W1.setCell ⟨gX, 0, none⟩ (.bool ng) := ⟨_, rfl⟩
  have HX := Lib.hid (HX.out.set0 ng)
  rw [← hW2] at HX ⊢
  clear hW2
  have a0 : W2.cell? ⟨gA, 0, none⟩ = some (.int .i64 (p0 : Int)) := HX.out.rs.a.cell 0
  have s0 : W2.cell? ⟨gS, 0, none⟩ = some (.string s) := HX.out.rs.s.cell 0
  have fa : W2.frozen? ⟨gA, 0, none⟩ = false := HX.out.rs.a.frozen 0
  have x0 : W2.cell? ⟨gX, 0, none⟩ = some (.bool ng) := HX.out.x.cell 0
  have fx0 : W2.frozen? ⟨gX, 0, none⟩ = false := HX.out.x.frozen 0
  have x1 : W2.cell? ⟨gX, 1, none⟩ = some (.string ⟨#[]⟩) := HX.out.x.cell 1
  have fx1 : W2.frozen? ⟨gX, 1, none⟩ = false := HX.out.x.frozen 1
  have x2 : W2.cell? ⟨gX, 2, none⟩ = some (.string ⟨#[]⟩) := HX.out.x.cell 2
  have fx2 : W2.frozen? ⟨gX, 2, none⟩ = false := HX.out.x.frozen 2
  have x3 : W2.cell? ⟨gX, 3, none⟩ = some (.int .i64 0) := HX.out.x.cell 3
  have fx3 : W2.frozen? ⟨gX, 3, none⟩ = false := HX.out.x.frozen 3
  go_upto_region 5 with (fail)
  obtain ⟨p1, hp1⟩ : ∃ p, p = place1 l := ⟨_, rfl⟩
  have Hp1 := Lib.hid hp1
  have hp1s : p1 ≤ s.size := by rw [hp1]; exact place1_le Hl.out
  have hp01 : p0 ≤ p1 := by rw [hp1, Hp0.out]; exact place1_ge l
  clear hp1
  have HO := Lib.hid (HO48.out p0 gA gS W2 hp0s HX.out.rs)
  rw [← Hl.out] at HO
  go_wp2_with fail
  refine HO.out.mono ?_
  rintro e W3 ⟨rfl, hp⟩
  have HX := Lib.hid (HX.out.one hp)
  obtain ⟨b1, hb1⟩ : ∃ b, b = decide (l.getD p0 0 = 48) := ⟨_, rfl⟩
  rw [← hb1] at HX ⊢
  have Hb1 := Lib.hid hb1
  clear hp HO hb1
  clear a0 s0 fa x0 fx0 x1 fx1 x2 fx2 x3 fx3
  go_upto_if 18 with (fail)
  go_cut [] (fun W => ∃ wh : ByteArray, Hid (RX w W gX gA gS s p1 ng wh ⟨#[]⟩ 0) ∧ Hid (wh = strOf (wholeD l)))
  case first =>
    by_cases h0 : l.getD p0 0 = 48
    · have hpl : p1 = p0 + 1 := by rw [Hp1.out, p1_whole (by rw [← Hp0.out]; exact h0), ← Hp0.out]
      have hlt : p0 < s.size := by have := getD_lt_len h0 (by decide); rw [Hl.out, bs_length] at this; exact this
      have hb1 : b1 = true := by rw [Hb1.out]; exact decide_eq_true h0
      subst hb1
      rw [if_pos rfl] at HX
      have Hwh : Hid (s.extract p0 (p0 + 1) = strOf (wholeD l)) := by show _ = _; rw [ext_bs, ← Hl.out]; unfold wholeD; rw [← Hp1.out, hpl, ← Hp0.out]; rfl
      rw [← hpl] at HX
      have Hpl := Lib.hid hpl
      clear h0 hpl
      have a0 : W3.cell? ⟨gA, 0, none⟩ = some (.int .i64 (p1 : Int)) := HX.out.rs.a.cell 0
      have s0 : W3.cell? ⟨gS, 0, none⟩ = some (.string s) := HX.out.rs.s.cell 0
      have fa : W3.frozen? ⟨gA, 0, none⟩ = false := HX.out.rs.a.frozen 0
      have x0 : W3.cell? ⟨gX, 0, none⟩ = some (.bool ng) := HX.out.x.cell 0
      have fx0 : W3.frozen? ⟨gX, 0, none⟩ = false := HX.out.x.frozen 0
      have x1 : W3.cell? ⟨gX, 1, none⟩ = some (.string ⟨#[]⟩) := HX.out.x.cell 1
      have fx1 : W3.frozen? ⟨gX, 1, none⟩ = false := HX.out.x.frozen 1
      have x2 : W3.cell? ⟨gX, 2, none⟩ = some (.string ⟨#[]⟩) := HX.out.x.cell 2
      have fx2 : W3.frozen? ⟨gX, 2, none⟩ = false := HX.out.x.frozen 2
      have x3 : W3.cell? ⟨gX, 3, none⟩ = some (.int .i64 0) := HX.out.x.cell 3
      have fx3 : W3.frozen? ⟨gX, 3, none⟩ = false := HX.out.x.frozen 3
      have hsl0 : (p0 : Int) ≤ (p1 : Int) := by omega
      have hsl1 : (p1 : Int) ≤ (s.size : Int) := by omega
      go_wp2_with fail
      go_meet
      exact ⟨_, HX.out.set1 _, by show _ = _; rw [Hpl.out]; exact Hwh.out⟩
    · have hpl : p1 = dEnd l p0 := by rw [Hp1.out, p1_digits (by rw [← Hp0.out]; exact h0), ← Hp0.out]
      have hb1 : b1 = false := by rw [Hb1.out]; exact decide_eq_false h0
      subst hb1
      rw [if_neg (by decide)] at HX
      clear h0
      have a0 : W3.cell? ⟨gA, 0, none⟩ = some (.int .i64 (p0 : Int)) := HX.out.rs.a.cell 0
      have s0 : W3.cell? ⟨gS, 0, none⟩ = some (.string s) := HX.out.rs.s.cell 0
      have fa : W3.frozen? ⟨gA, 0, none⟩ = false := HX.out.rs.a.frozen 0
      have x0 : W3.cell? ⟨gX, 0, none⟩ = some (.bool ng) := HX.out.x.cell 0
      have fx0 : W3.frozen? ⟨gX, 0, none⟩ = false := HX.out.x.frozen 0
      have x1 : W3.cell? ⟨gX, 1, none⟩ = some (.string ⟨#[]⟩) := HX.out.x.cell 1
      have fx1 : W3.frozen? ⟨gX, 1, none⟩ = false := HX.out.x.frozen 1
      have x2 : W3.cell? ⟨gX, 2, none⟩ = some (.string ⟨#[]⟩) := HX.out.x.cell 2
      have fx2 : W3.frozen? ⟨gX, 2, none⟩ = false := HX.out.x.frozen 2
      have x3 : W3.cell? ⟨gX, 3, none⟩ = some (.int .i64 0) := HX.out.x.cell 3
      have fx3 : W3.frozen? ⟨gX, 3, none⟩ = false := HX.out.x.frozen 3
      go_wp2_with fail
      refine (HDg.out p0 gA gS W3 hp0s HX.out.as_ HX.out.rs).mono ?_
      rintro e W4 ⟨rfl, hr, ho⟩
      have HX := Lib.hid (HX.out.only hr ho)
      clear hr ho
      clear a0 s0 fa x0 fx0 x1 fx1 x2 fx2 x3 fx3
      rw [← Hl.out] at HX ⊢
      rw [← hpl] at HX ⊢
      clear hpl
      have a0 : W4.cell? ⟨gA, 0, none⟩ = some (.int .i64 (p1 : Int)) := HX.out.rs.a.cell 0
      have s0 : W4.cell? ⟨gS, 0, none⟩ = some (.string s) := HX.out.rs.s.cell 0
      have fa : W4.frozen? ⟨gA, 0, none⟩ = false := HX.out.rs.a.frozen 0
      have x0 : W4.cell? ⟨gX, 0, none⟩ = some (.bool ng) := HX.out.x.cell 0
      have fx0 : W4.frozen? ⟨gX, 0, none⟩ = false := HX.out.x.frozen 0
      have x1 : W4.cell? ⟨gX, 1, none⟩ = some (.string ⟨#[]⟩) := HX.out.x.cell 1
      have fx1 : W4.frozen? ⟨gX, 1, none⟩ = false := HX.out.x.frozen 1
      have x2 : W4.cell? ⟨gX, 2, none⟩ = some (.string ⟨#[]⟩) := HX.out.x.cell 2
      have fx2 : W4.frozen? ⟨gX, 2, none⟩ = false := HX.out.x.frozen 2
      have x3 : W4.cell? ⟨gX, 3, none⟩ = some (.int .i64 0) := HX.out.x.cell 3
      have fx3 : W4.frozen? ⟨gX, 3, none⟩ = false := HX.out.x.frozen 3
      go_wp2_with fail
      go_meet
      exact ⟨_, HX.out.set1 _, by show _ = _; unfold wholeD; rw [← Hp1.out, ← Hp0.out]⟩
  case rest =>
    clear HX
    obtain ⟨wh, HX, Hwh⟩ := hcut
    have a0 : wc.cell? ⟨gA, 0, none⟩ = some (.int .i64 (p1 : Int)) := HX.out.rs.a.cell 0
    have s0 : wc.cell? ⟨gS, 0, none⟩ = some (.string s) := HX.out.rs.s.cell 0
    have fa : wc.frozen? ⟨gA, 0, none⟩ = false := HX.out.rs.a.frozen 0
    have x0 : wc.cell? ⟨gX, 0, none⟩ = some (.bool ng) := HX.out.x.cell 0
    have fx0 : wc.frozen? ⟨gX, 0, none⟩ = false := HX.out.x.frozen 0
    have x1 : wc.cell? ⟨gX, 1, none⟩ = some (.string wh) := HX.out.x.cell 1
    have fx1 : wc.frozen? ⟨gX, 1, none⟩ = false := HX.out.x.frozen 1
    have x2 : wc.cell? ⟨gX, 2, none⟩ = some (.string ⟨#[]⟩) := HX.out.x.cell 2
    have fx2 : wc.frozen? ⟨gX, 2, none⟩ = false := HX.out.x.frozen 2
    have x3 : wc.cell? ⟨gX, 3, none⟩ = some (.int .i64 0) := HX.out.x.cell 3
    have fx3 : wc.frozen? ⟨gX, 3, none⟩ = false := HX.out.x.frozen 3
    by_cases hz0 : p1 = p0
    · have hwe : wh = ⟨#[]⟩ := by rw [Hwh.out]; unfold wholeD; rw [← Hp1.out, ← Hp0.out, hz0, seg_empty _ (Nat.le_refl _)]; rfl
      have hz1 : dEnd l p0 = p0 := by rw [Hp0.out]; exact dEnd_none (by rw [← Hp1.out, ← Hp0.out]; exact hz0)
      have Hz1 := Lib.hid hz1
      subst hwe
      clear hz1 hz0
      have ax1 := HX.out.ax
      have ax2 := Ne.symm HX.out.ax
      go_wp2_with fail
      have HXf : RX w (((((wc.setCell ⟨gX, 0, none⟩ (.bool false)).setCell ⟨gX, 1, none⟩ (.string ⟨#[]⟩)).setCell ⟨gX, 2, none⟩ (.string ⟨#[]⟩)).setCell ⟨gX, 3, none⟩ (.int .i64 0)).setCell ⟨gA, 0, none⟩ (.int .i64 0)) gX gA gS s 0 false ⟨#[]⟩ ⟨#[]⟩ 0 := ((((HX.out.set0 false).set1 ⟨#[]⟩).set2 ⟨#[]⟩).set3 0).setA 0
      generalize (((((wc.setCell ⟨gX, 0, none⟩ (.bool false)).setCell ⟨gX, 1, none⟩ (.string ⟨#[]⟩)).setCell ⟨gX, 2, none⟩ (.string ⟨#[]⟩)).setCell ⟨gX, 3, none⟩ (.int .i64 0)).setCell ⟨gA, 0, none⟩ (.int .i64 0)) = V9 at HXf ⊢
      have y0 := HXf.x.cell 0
      have y1 := HXf.x.cell 1
      have y2 := HXf.x.cell 2
      have y3 := HXf.x.cell 3
      have ya := HXf.rs.a.cell 0
      simp only [List.getElem?_toArray, List.getElem?_cons_zero, List.getElem?_cons_succ] at y0 y1 y2 y3 ya
      refine bodyPost_ret (v := .tuple #[.agg #[.bool false, .string ⟨#[]⟩, .string ⟨#[]⟩, .int .i64 0], .int .i64 0, .bool false]) (by simp [results, Tryd.results22, go_sem, y0, y1, y2, y3, ya]) rfl ⟨HXf.b, ?_⟩
      exact .inl ⟨by rw [← Hl.out, ← Hp0.out]; exact Hz1.out, rfl⟩
    · have Hz : Hid (dEnd l p0 ≠ p0) := by show _ ≠ _; rw [Hp0.out]; exact fun e => hz0 (by rw [Hp1.out, Hp0.out]; exact place1_none e)
      have hwn : wh ≠ ⟨#[]⟩ := by rw [Hwh.out]; unfold wholeD; rw [← Hp1.out, ← Hp0.out]; exact strOf_ne (seg_ne (by omega) (by rw [Hl.out, bs_length]; exact hp1s))
      have q1 := str_beq hwn
      have q2 := str_nil hwn
      clear hz0 hp01
      have HO := Lib.hid (HO46.out p1 gA gS wc hp1s HX.out.rs)
      rw [← Hl.out] at HO
      go_wp2_with fail
      refine HO.out.mono ?_
      rintro e W12 ⟨rfl, hp⟩
      have HX := Lib.hid (HX.out.one hp)
      obtain ⟨b2, hb2⟩ : ∃ b, b = decide (l.getD p1 0 = 46) := ⟨_, rfl⟩
      rw [← hb2] at HX ⊢
      have Hb2 := Lib.hid hb2
      clear hp HO hb2
      clear a0 s0 fa x0 fx0 x1 fx1 x2 fx2 x3 fx3
      go_upto_if 33 with (fail)
      clear q1 q2 hwn
      go_cut [] (fun W => ∃ (i : Nat) (pt : ByteArray), Hid (RX w W gX gA gS s i ng wh pt 0) ∧ Hid (i ≤ s.size) ∧ Hid ((pt = ⟨#[]⟩ ∧ p1 = place2 l ∧ partD l = []) ∨ (pt ≠ ⟨#[]⟩ ∧ i = place2 l ∧ pt = strOf (partD l))))
      case first =>
        by_cases hd : l.getD p1 0 = 46
        · have hdl : p1 + 1 ≤ s.size := by have := getD_lt_len hd (by decide); rw [Hl.out, bs_length] at this; omega
          have hb2 : b2 = true := by rw [Hb2.out]; exact decide_eq_true hd
          subst hb2
          rw [if_pos rfl] at HX
          have a0 : W12.cell? ⟨gA, 0, none⟩ = some (.int .i64 ((p1 + 1 : Nat) : Int)) := HX.out.rs.a.cell 0
          have s0 : W12.cell? ⟨gS, 0, none⟩ = some (.string s) := HX.out.rs.s.cell 0
          have fa : W12.frozen? ⟨gA, 0, none⟩ = false := HX.out.rs.a.frozen 0
          have x0 : W12.cell? ⟨gX, 0, none⟩ = some (.bool ng) := HX.out.x.cell 0
          have fx0 : W12.frozen? ⟨gX, 0, none⟩ = false := HX.out.x.frozen 0
          have x1 : W12.cell? ⟨gX, 1, none⟩ = some (.string wh) := HX.out.x.cell 1
          have fx1 : W12.frozen? ⟨gX, 1, none⟩ = false := HX.out.x.frozen 1
          have x2 : W12.cell? ⟨gX, 2, none⟩ = some (.string ⟨#[]⟩) := HX.out.x.cell 2
          have fx2 : W12.frozen? ⟨gX, 2, none⟩ = false := HX.out.x.frozen 2
          have x3 : W12.cell? ⟨gX, 3, none⟩ = some (.int .i64 0) := HX.out.x.cell 3
          have fx3 : W12.frozen? ⟨gX, 3, none⟩ = false := HX.out.x.frozen 3
          go_wp2_with fail
          refine (HDg.out (p1 + 1) gA gS W12 hdl HX.out.as_ HX.out.rs).mono ?_
          rintro e W13 ⟨rfl, hr, ho⟩
          have HX := Lib.hid (HX.out.only hr ho)
          clear hr ho
          clear a0 s0 fa x0 fx0 x1 fx1 x2 fx2 x3 fx3
          rw [← Hl.out] at HX ⊢
          obtain ⟨E1, hE1⟩ : ∃ E, E = dEnd l (p1 + 1) := ⟨_, rfl⟩
          rw [← hE1] at HX ⊢
          have hE1s : E1 ≤ s.size := by rw [hE1]; have := dEnd_le (l := l) (i := p1 + 1) (by rw [Hl.out, bs_length]; exact hdl); rw [Hl.out, bs_length] at this; rw [← Hl.out] at this; exact this
          have hE1g : p1 + 1 ≤ E1 := by rw [hE1]; exact dEnd_ge _ _
          have Hrel : Hid ((strOf (seg l (p1 + 1) E1) = ⟨#[]⟩ ∧ p1 = place2 l ∧ partD l = []) ∨ (strOf (seg l (p1 + 1) E1) ≠ ⟨#[]⟩ ∧ E1 = place2 l ∧ strOf (seg l (p1 + 1) E1) = strOf (partD l))) := by
            show _ ∨ _
            by_cases hz : E1 = p1 + 1
            · have h2 : p1 = place2 l := by rw [p2_none (by rw [← Hp1.out, ← hE1, hz]; omega)]; exact Hp1.out
              exact .inl ⟨by rw [hz, seg_empty _ (Nat.le_refl _)]; rfl, h2, by unfold partD; rw [← Hp1.out, ← h2, seg_empty _ (by omega)]⟩
            · have h2 : E1 = place2 l := by rw [p2_part (by rw [← Hp1.out]; exact hd) (by rw [← Hp1.out, ← hE1]; omega), ← Hp1.out]; exact hE1
              exact .inr ⟨strOf_ne (seg_ne (by omega) (by rw [Hl.out, bs_length]; exact hE1s)), h2, by unfold partD; rw [← Hp1.out, ← h2]⟩
          clear hE1 hd
          have a0 : W13.cell? ⟨gA, 0, none⟩ = some (.int .i64 (E1 : Int)) := HX.out.rs.a.cell 0
          have s0 : W13.cell? ⟨gS, 0, none⟩ = some (.string s) := HX.out.rs.s.cell 0
          have fa : W13.frozen? ⟨gA, 0, none⟩ = false := HX.out.rs.a.frozen 0
          have x0 : W13.cell? ⟨gX, 0, none⟩ = some (.bool ng) := HX.out.x.cell 0
          have fx0 : W13.frozen? ⟨gX, 0, none⟩ = false := HX.out.x.frozen 0
          have x1 : W13.cell? ⟨gX, 1, none⟩ = some (.string wh) := HX.out.x.cell 1
          have fx1 : W13.frozen? ⟨gX, 1, none⟩ = false := HX.out.x.frozen 1
          have x2 : W13.cell? ⟨gX, 2, none⟩ = some (.string ⟨#[]⟩) := HX.out.x.cell 2
          have fx2 : W13.frozen? ⟨gX, 2, none⟩ = false := HX.out.x.frozen 2
          have x3 : W13.cell? ⟨gX, 3, none⟩ = some (.int .i64 0) := HX.out.x.cell 3
          have fx3 : W13.frozen? ⟨gX, 3, none⟩ = false := HX.out.x.frozen 3
          go_wp2_with fail
          go_meet
          exact ⟨E1, _, HX.out.set2 _, hE1s, Hrel⟩
        · have h2 : p1 = place2 l := by rw [p2_none (fun h => hd (by rw [Hp1.out]; exact h.1))]; exact Hp1.out
          have Hh2 := Lib.hid h2
          have hb2 : b2 = false := by rw [Hb2.out]; exact decide_eq_false hd
          subst hb2
          rw [if_neg (by decide)] at HX
          clear h2 hd
          go_wp2_with fail
          go_meet
          exact ⟨p1, _, HX, hp1s, .inl ⟨rfl, Hh2.out, by unfold partD; rw [← Hp1.out, ← Hh2.out, seg_empty _ (by omega)]⟩⟩
      case rest =>
        clear HX
        obtain ⟨i, pt, HX, hi, Hrel⟩ := hcut
        obtain ⟨p2, hp2⟩ : ∃ p, p = place2 l := ⟨_, rfl⟩
        have Hp2 := Lib.hid hp2
        rw [← hp2] at Hrel
        clear hp2
        have a0 : wc.cell? ⟨gA, 0, none⟩ = some (.int .i64 (i : Int)) := HX.out.rs.a.cell 0
        have s0 : wc.cell? ⟨gS, 0, none⟩ = some (.string s) := HX.out.rs.s.cell 0
        have fa : wc.frozen? ⟨gA, 0, none⟩ = false := HX.out.rs.a.frozen 0
        have x0 : wc.cell? ⟨gX, 0, none⟩ = some (.bool ng) := HX.out.x.cell 0
        have fx0 : wc.frozen? ⟨gX, 0, none⟩ = false := HX.out.x.frozen 0
        have x1 : wc.cell? ⟨gX, 1, none⟩ = some (.string wh) := HX.out.x.cell 1
        have fx1 : wc.frozen? ⟨gX, 1, none⟩ = false := HX.out.x.frozen 1
        have x2 : wc.cell? ⟨gX, 2, none⟩ = some (.string pt) := HX.out.x.cell 2
        have fx2 : wc.frozen? ⟨gX, 2, none⟩ = false := HX.out.x.frozen 2
        have x3 : wc.cell? ⟨gX, 3, none⟩ = some (.int .i64 0) := HX.out.x.cell 3
        have fx3 : wc.frozen? ⟨gX, 3, none⟩ = false := HX.out.x.frozen 3
        go_upto_if 39 with (fail)
        clear a0 s0 fa x0 fx0 x1 fx1 x2 fx2 x3 fx3
        obtain ⟨c4, hc4⟩ : ∃ c, c = pt.toList.isEmpty := ⟨_, rfl⟩
        rw [← hc4]
        have Hc4 := Lib.hid hc4
        clear hc4
        go_cut [] (fun W => ∃ pt : ByteArray, Hid (RX w W gX gA gS s p2 ng wh pt 0) ∧ Hid (pt = strOf (partD l)) ∧ Hid (p2 ≤ s.size))
        case first =>
          rcases Hrel.out with ⟨r1, r2, r3⟩ | ⟨r1, r2, r3⟩
          · have h4 : c4 = true := by rw [Hc4.out, r1, ByteArray.toList_eq]; rfl
            subst h4
            clear Hc4
            subst r1
            have Hr2 := Lib.hid r2
            have Hr3 := Lib.hid r3
            clear r2 r3 Hrel
            have a0 : wc.cell? ⟨gA, 0, none⟩ = some (.int .i64 (i : Int)) := HX.out.rs.a.cell 0
            have s0 : wc.cell? ⟨gS, 0, none⟩ = some (.string s) := HX.out.rs.s.cell 0
            have fa : wc.frozen? ⟨gA, 0, none⟩ = false := HX.out.rs.a.frozen 0
            have x0 : wc.cell? ⟨gX, 0, none⟩ = some (.bool ng) := HX.out.x.cell 0
            have fx0 : wc.frozen? ⟨gX, 0, none⟩ = false := HX.out.x.frozen 0
            have x1 : wc.cell? ⟨gX, 1, none⟩ = some (.string wh) := HX.out.x.cell 1
            have fx1 : wc.frozen? ⟨gX, 1, none⟩ = false := HX.out.x.frozen 1
            have x2 : wc.cell? ⟨gX, 2, none⟩ = some (.string ⟨#[]⟩) := HX.out.x.cell 2
            have fx2 : wc.frozen? ⟨gX, 2, none⟩ = false := HX.out.x.frozen 2
            have x3 : wc.cell? ⟨gX, 3, none⟩ = some (.int .i64 0) := HX.out.x.cell 3
            have fx3 : wc.frozen? ⟨gX, 3, none⟩ = false := HX.out.x.frozen 3
            go_wp2_with fail
            go_meet
            exact ⟨_, by rw [← Hr2.out]; exact HX.out.setA p1, by show _ = _; rw [Hr3.out]; rfl, by show _ ≤ _; rw [← Hr2.out]; exact hp1s⟩
          · have h4 : c4 = false := by rw [Hc4.out]; exact str_isEmpty r1
            subst h4
            clear Hc4
            have Hr2 := Lib.hid r2
            have Hr3 := Lib.hid r3
            clear r1 r2 r3 Hrel
            have a0 : wc.cell? ⟨gA, 0, none⟩ = some (.int .i64 (i : Int)) := HX.out.rs.a.cell 0
            have s0 : wc.cell? ⟨gS, 0, none⟩ = some (.string s) := HX.out.rs.s.cell 0
            have fa : wc.frozen? ⟨gA, 0, none⟩ = false := HX.out.rs.a.frozen 0
            have x0 : wc.cell? ⟨gX, 0, none⟩ = some (.bool ng) := HX.out.x.cell 0
            have fx0 : wc.frozen? ⟨gX, 0, none⟩ = false := HX.out.x.frozen 0
            have x1 : wc.cell? ⟨gX, 1, none⟩ = some (.string wh) := HX.out.x.cell 1
            have fx1 : wc.frozen? ⟨gX, 1, none⟩ = false := HX.out.x.frozen 1
            have x2 : wc.cell? ⟨gX, 2, none⟩ = some (.string pt) := HX.out.x.cell 2
            have fx2 : wc.frozen? ⟨gX, 2, none⟩ = false := HX.out.x.frozen 2
            have x3 : wc.cell? ⟨gX, 3, none⟩ = some (.int .i64 0) := HX.out.x.cell 3
            have fx3 : wc.frozen? ⟨gX, 3, none⟩ = false := HX.out.x.frozen 3
            go_wp2_with fail
            go_meet
            exact ⟨_, by rw [← Hr2.out]; exact HX, Hr3, by show _ ≤ _; rw [← Hr2.out]; exact hi.out⟩
        case rest =>
          clear HX Hrel hi
          obtain ⟨pt, HX, Hpd, hp2s⟩ := hcut
          have hp2s := hp2s.out
          have a0 : wc.cell? ⟨gA, 0, none⟩ = some (.int .i64 (p2 : Int)) := HX.out.rs.a.cell 0
          have s0 : wc.cell? ⟨gS, 0, none⟩ = some (.string s) := HX.out.rs.s.cell 0
          have fa : wc.frozen? ⟨gA, 0, none⟩ = false := HX.out.rs.a.frozen 0
          have x0 : wc.cell? ⟨gX, 0, none⟩ = some (.bool ng) := HX.out.x.cell 0
          have fx0 : wc.frozen? ⟨gX, 0, none⟩ = false := HX.out.x.frozen 0
          have x1 : wc.cell? ⟨gX, 1, none⟩ = some (.string wh) := HX.out.x.cell 1
          have fx1 : wc.frozen? ⟨gX, 1, none⟩ = false := HX.out.x.frozen 1
          have x2 : wc.cell? ⟨gX, 2, none⟩ = some (.string pt) := HX.out.x.cell 2
          have fx2 : wc.frozen? ⟨gX, 2, none⟩ = false := HX.out.x.frozen 2
          have x3 : wc.cell? ⟨gX, 3, none⟩ = some (.int .i64 0) := HX.out.x.cell 3
          have fx3 : wc.frozen? ⟨gX, 3, none⟩ = false := HX.out.x.frozen 3
          have HO := Lib.hid (HOE.out p2 gA gS wc hp2s HX.out.rs)
          rw [← Hl.out] at HO
          go_wp2_with fail
          refine HO.out.mono ?_
          rintro e W20 ⟨rfl, hp⟩
          have HX := Lib.hid (HX.out.one hp)
          obtain ⟨b3, hb3⟩ : ∃ b, b = decide (l.getD p2 0 = 101 ∨ l.getD p2 0 = 69) := ⟨_, rfl⟩
          rw [← hb3] at HX ⊢
          have Hb3 := Lib.hid hb3
          clear hp HO hb3
          clear a0 s0 fa x0 fx0 x1 fx1 x2 fx2 x3 fx3
          go_upto_if 43 with (fail)
          go_cut [8, 9, 10] (fun x8 x9 x10 W => ∃ (i : Nat) (ex : Int), x8 = .int .i64 (placeN l : Int) ∧ Hid (RX w W gX gA gS s i ng wh pt ex) ∧ Hid (ex = sgn (negE l) (capC 0 (powD l))))
          case first =>
            by_cases hx : l.getD p2 0 = 101 ∨ l.getD p2 0 = 69
            · have Hx := Lib.hid hx
              have hxl : p2 + 1 ≤ s.size := by have : p2 < l.length := lt_of_getD (by rcases hx with h | h <;> rw [h] <;> decide); rw [Hl.out, bs_length] at this; omega
              have hb3 : b3 = true := by rw [Hb3.out]; exact decide_eq_true hx
              subst hb3
              rw [if_pos rfl] at HX
              clear hx
              have a0 : W20.cell? ⟨gA, 0, none⟩ = some (.int .i64 ((p2 + 1 : Nat) : Int)) := HX.out.rs.a.cell 0
              have s0 : W20.cell? ⟨gS, 0, none⟩ = some (.string s) := HX.out.rs.s.cell 0
              have fa : W20.frozen? ⟨gA, 0, none⟩ = false := HX.out.rs.a.frozen 0
              have x0 : W20.cell? ⟨gX, 0, none⟩ = some (.bool ng) := HX.out.x.cell 0
              have fx0 : W20.frozen? ⟨gX, 0, none⟩ = false := HX.out.x.frozen 0
              have x1 : W20.cell? ⟨gX, 1, none⟩ = some (.string wh) := HX.out.x.cell 1
              have fx1 : W20.frozen? ⟨gX, 1, none⟩ = false := HX.out.x.frozen 1
              have x2 : W20.cell? ⟨gX, 2, none⟩ = some (.string pt) := HX.out.x.cell 2
              have fx2 : W20.frozen? ⟨gX, 2, none⟩ = false := HX.out.x.frozen 2
              have x3 : W20.cell? ⟨gX, 3, none⟩ = some (.int .i64 0) := HX.out.x.cell 3
              have fx3 : W20.frozen? ⟨gX, 3, none⟩ = false := HX.out.x.frozen 3
              obtain ⟨ne, hne⟩ : ∃ b, b = negE l := ⟨_, rfl⟩
              have Hne := Lib.hid hne
              have hne2 : ne = decide (l.getD (p2 + 1) 0 = 45) := by rw [hne]; unfold negE; rw [← Hp2.out]
              clear hne
              by_cases hq : p2 + 1 < s.size
              · have d1 : decide (((p2 + 1 : Nat) : Int) < (s.size : Int)) = true := decide_eq_true (by omega)
                have d2 : decide ((p2 : Int) + 1 < (s.size : Int)) = true := decide_eq_true (by omega)
                have hk0 : (0 : Int) ≤ (p2 : Int) + 1 := by omega
                have hk1 : (p2 : Int) + 1 < (s.size : Int) := by omega
                obtain ⟨c, hc⟩ : ∃ c, (s[p2 + 1]'hq).toNat = c := ⟨_, rfl⟩
                have hcb : l.getD (p2 + 1) 0 = c := by rw [Hl.out, ← bs_get s (p2 + 1) hq]; exact hc
                rw [hcb] at hne2
                have hce : ((c : Int) == 45) = ne := by rw [hne2]; by_cases h : c = 45; rw [h]; rfl; rw [decide_eq_false h]; exact beq_eq_false_iff_ne.mpr (by omega)
                have hce3 : (c == 45) = ne := by rw [hne2]; by_cases h : c = 45; rw [h]; rfl; rw [decide_eq_false h]; exact beq_eq_false_iff_ne.mpr h
                have hce2 : decide (c = 45) = ne := hne2.symm
                clear hcb hne2
                have HO := Lib.hid (HOS.out (p2 + 1) gA gS W20 hxl HX.out.rs)
                rw [← Hl.out] at HO
                go_wp2_with fail
                refine HO.out.mono ?_
                rintro e W11 ⟨rfl, hp⟩
                have HX := Lib.hid (HX.out.one hp)
                clear hp HO
                clear a0 s0 fa x0 fx0 x1 fx1 x2 fx2 x3 fx3
                clear d1 d2 hk0 hk1 hc hce hce2 hce3
                rw [placeK_if l p2 Hp2.out] at HX
                obtain ⟨K, hK⟩ : ∃ K, K = placeK l := ⟨_, rfl⟩
                have HK := Lib.hid hK
                rw [← hK] at HX
                have hKs : K ≤ s.size := by rw [hK]; exact placeK_le Hl.out (by rw [← Hp2.out]; exact hxl)
                clear hK
                have a0 : W11.cell? ⟨gA, 0, none⟩ = some (.int .i64 (K : Int)) := HX.out.rs.a.cell 0
                have s0 : W11.cell? ⟨gS, 0, none⟩ = some (.string s) := HX.out.rs.s.cell 0
                have fa : W11.frozen? ⟨gA, 0, none⟩ = false := HX.out.rs.a.frozen 0
                have x0 : W11.cell? ⟨gX, 0, none⟩ = some (.bool ng) := HX.out.x.cell 0
                have fx0 : W11.frozen? ⟨gX, 0, none⟩ = false := HX.out.x.frozen 0
                have x1 : W11.cell? ⟨gX, 1, none⟩ = some (.string wh) := HX.out.x.cell 1
                have fx1 : W11.frozen? ⟨gX, 1, none⟩ = false := HX.out.x.frozen 1
                have x2 : W11.cell? ⟨gX, 2, none⟩ = some (.string pt) := HX.out.x.cell 2
                have fx2 : W11.frozen? ⟨gX, 2, none⟩ = false := HX.out.x.frozen 2
                have x3 : W11.cell? ⟨gX, 3, none⟩ = some (.int .i64 0) := HX.out.x.cell 3
                have fx3 : W11.frozen? ⟨gX, 3, none⟩ = false := HX.out.x.frozen 3
                go_wp2_with fail
                refine (HDg.out K gA gS W11 hKs HX.out.as_ HX.out.rs).mono ?_
                rintro e W12 ⟨rfl, hr, ho⟩
                have HX := Lib.hid (HX.out.only hr ho)
                clear hr ho
                clear a0 s0 fa x0 fx0 x1 fx1 x2 fx2 x3 fx3
                rw [← Hl.out] at HX ⊢
                obtain ⟨E2, hE2⟩ : ∃ E, E = dEnd l K := ⟨_, rfl⟩
                rw [← hE2] at HX ⊢
                have HE2 := Lib.hid hE2
                have hE2g : K ≤ E2 := by rw [hE2]; exact dEnd_ge _ _
                have hE2s : E2 ≤ s.size := by rw [hE2]; have := dEnd_le (l := l) (i := K) (by rw [Hl.out, bs_length]; exact hKs); rw [Hl.out, bs_length] at this; rw [← Hl.out] at this; exact this
                clear hE2
                obtain ⟨pw, hpw⟩ : ∃ t, t = strOf (seg l K E2) := ⟨_, rfl⟩
                rw [← hpw]
                have Hpw := Lib.hid hpw
                clear hpw
                by_cases hz : E2 = K
                · have hpe : pw = ⟨#[]⟩ := by rw [Hpw.out, hz, seg_empty _ (Nat.le_refl _)]; rfl
                  subst hpe
                  have HhE : Hid (hasE l = false) := hasE_dry (by rw [← HK.out, ← HE2.out]; exact hz)
                  clear hz
                  go_wp2_with fail
                  go_meet
                  exact ⟨E2, 0, by rw [(pn_none HhE.out).1, ← Hp2.out], HX, by show _ = _; rw [(pn_none HhE.out).2, sgn_zero]⟩
                · have hpe : pw ≠ ⟨#[]⟩ := by rw [Hpw.out]; exact strOf_ne (seg_ne (by omega) (by rw [Hl.out, bs_length]; exact hE2s))
                  have HhE : Hid (hasE l = true) := hasE_yes (by rw [← Hp2.out]; exact Hx.out) (by rw [← HK.out, ← HE2.out]; omega)
                  have hpb : bs pw = powD l := by rw [Hpw.out, (pn_some HhE.out).2, ← HK.out, ← HE2.out]; exact bs_strOf _ (fun x hx => by have := seg_mem hx; rw [Hl.out] at this; exact bs_lt s x this)
                  have Hex := Lib.hid (exponent_any pw ne)
                  have Hex2 : Hid (∀ W, Calls Tryd.prog 45 #[.string pw, .bool ne] W fun e w' => e = .returned (.int .i64 (sgn ne (capC 0 (powD l)))) ∧ W = w') := fun W => by rw [← hpb]; exact Hex.out W (by rw [hpb, (pn_some HhE.out).2]; exact seg_digits _ _) (by rw [← bs_length, hpb, (pn_some HhE.out).2]; have := seg_length_le l (placeK l) (dEnd l (placeK l)); rw [Hl.out, bs_length] at this; rw [← Hl.out] at this; omega)
                  obtain ⟨xx, hxx⟩ : ∃ x, x = sgn ne (capC 0 (powD l)) := ⟨_, rfl⟩
                  rw [← hxx] at Hex2
                  have Hxx := Lib.hid hxx
                  have q1 := str_beq hpe
                  have q2 := str_nil hpe
                  clear hz hpe hpb Hex hxx
                  have a0 : W12.cell? ⟨gA, 0, none⟩ = some (.int .i64 (E2 : Int)) := HX.out.rs.a.cell 0
                  have s0 : W12.cell? ⟨gS, 0, none⟩ = some (.string s) := HX.out.rs.s.cell 0
                  have fa : W12.frozen? ⟨gA, 0, none⟩ = false := HX.out.rs.a.frozen 0
                  have x0 : W12.cell? ⟨gX, 0, none⟩ = some (.bool ng) := HX.out.x.cell 0
                  have fx0 : W12.frozen? ⟨gX, 0, none⟩ = false := HX.out.x.frozen 0
                  have x1 : W12.cell? ⟨gX, 1, none⟩ = some (.string wh) := HX.out.x.cell 1
                  have fx1 : W12.frozen? ⟨gX, 1, none⟩ = false := HX.out.x.frozen 1
                  have x2 : W12.cell? ⟨gX, 2, none⟩ = some (.string pt) := HX.out.x.cell 2
                  have fx2 : W12.frozen? ⟨gX, 2, none⟩ = false := HX.out.x.frozen 2
                  have x3 : W12.cell? ⟨gX, 3, none⟩ = some (.int .i64 0) := HX.out.x.cell 3
                  have fx3 : W12.frozen? ⟨gX, 3, none⟩ = false := HX.out.x.frozen 3
                  have ax1 := HX.out.ax
                  have ax2 := Ne.symm HX.out.ax
                  go_wp2_with fail
                  refine (Hex2.out _).mono ?_
                  rintro e V ⟨rfl, rfl⟩
                  go_wp2_with fail
                  go_meet
                  exact ⟨E2, xx, by rw [(pn_some HhE.out).1, ← HK.out, ← HE2.out], HX.out.set3 xx, by show _ = _; rw [Hxx.out, Hne.out]⟩
              · have hcb : l.getD (p2 + 1) 0 = 0 := getD_out (by rw [Hl.out, bs_length]; omega)
                rw [hcb] at hne2
                have hne3 : ne = false := hne2
                have HnE : Hid (negE l = false) := by show _ = _; rw [← Hne.out]; exact hne3
                clear hne3 Hne
                have d1 : decide (((p2 + 1 : Nat) : Int) < (s.size : Int)) = false := decide_eq_false (by omega)
                have d2 : decide ((p2 : Int) + 1 < (s.size : Int)) = false := decide_eq_false (by omega)
                clear hcb hne2 hq
                have HO := Lib.hid (HOS.out (p2 + 1) gA gS W20 hxl HX.out.rs)
                rw [← Hl.out] at HO
                go_wp2_with fail
                refine HO.out.mono ?_
                rintro e W13 ⟨rfl, hp⟩
                have HX := Lib.hid (HX.out.one hp)
                clear hp HO
                clear a0 s0 fa x0 fx0 x1 fx1 x2 fx2 x3 fx3
                clear d1 d2
                rw [placeK_if l p2 Hp2.out] at HX
                obtain ⟨K, hK⟩ : ∃ K, K = placeK l := ⟨_, rfl⟩
                have HK := Lib.hid hK
                rw [← hK] at HX
                have hKs : K ≤ s.size := by rw [hK]; exact placeK_le Hl.out (by rw [← Hp2.out]; exact hxl)
                clear hK
                have a0 : W13.cell? ⟨gA, 0, none⟩ = some (.int .i64 (K : Int)) := HX.out.rs.a.cell 0
                have s0 : W13.cell? ⟨gS, 0, none⟩ = some (.string s) := HX.out.rs.s.cell 0
                have fa : W13.frozen? ⟨gA, 0, none⟩ = false := HX.out.rs.a.frozen 0
                have x0 : W13.cell? ⟨gX, 0, none⟩ = some (.bool ng) := HX.out.x.cell 0
                have fx0 : W13.frozen? ⟨gX, 0, none⟩ = false := HX.out.x.frozen 0
                have x1 : W13.cell? ⟨gX, 1, none⟩ = some (.string wh) := HX.out.x.cell 1
                have fx1 : W13.frozen? ⟨gX, 1, none⟩ = false := HX.out.x.frozen 1
                have x2 : W13.cell? ⟨gX, 2, none⟩ = some (.string pt) := HX.out.x.cell 2
                have fx2 : W13.frozen? ⟨gX, 2, none⟩ = false := HX.out.x.frozen 2
                have x3 : W13.cell? ⟨gX, 3, none⟩ = some (.int .i64 0) := HX.out.x.cell 3
                have fx3 : W13.frozen? ⟨gX, 3, none⟩ = false := HX.out.x.frozen 3
                go_wp2_with fail
                refine (HDg.out K gA gS W13 hKs HX.out.as_ HX.out.rs).mono ?_
                rintro e W14 ⟨rfl, hr, ho⟩
                have HX := Lib.hid (HX.out.only hr ho)
                clear hr ho
                clear a0 s0 fa x0 fx0 x1 fx1 x2 fx2 x3 fx3
                rw [← Hl.out] at HX ⊢
                obtain ⟨E2, hE2⟩ : ∃ E, E = dEnd l K := ⟨_, rfl⟩
                rw [← hE2] at HX ⊢
                have HE2 := Lib.hid hE2
                have hE2g : K ≤ E2 := by rw [hE2]; exact dEnd_ge _ _
                have hE2s : E2 ≤ s.size := by rw [hE2]; have := dEnd_le (l := l) (i := K) (by rw [Hl.out, bs_length]; exact hKs); rw [Hl.out, bs_length] at this; rw [← Hl.out] at this; exact this
                clear hE2
                obtain ⟨pw, hpw⟩ : ∃ t, t = strOf (seg l K E2) := ⟨_, rfl⟩
                rw [← hpw]
                have Hpw := Lib.hid hpw
                clear hpw
                by_cases hz : E2 = K
                · have hpe : pw = ⟨#[]⟩ := by rw [Hpw.out, hz, seg_empty _ (Nat.le_refl _)]; rfl
                  subst hpe
                  have HhE : Hid (hasE l = false) := hasE_dry (by rw [← HK.out, ← HE2.out]; exact hz)
                  clear hz
                  go_wp2_with fail
                  go_meet
                  exact ⟨E2, 0, by rw [(pn_none HhE.out).1, ← Hp2.out], HX, by show _ = _; rw [(pn_none HhE.out).2, sgn_zero]⟩
                · have hpe : pw ≠ ⟨#[]⟩ := by rw [Hpw.out]; exact strOf_ne (seg_ne (by omega) (by rw [Hl.out, bs_length]; exact hE2s))
                  have HhE : Hid (hasE l = true) := hasE_yes (by rw [← Hp2.out]; exact Hx.out) (by rw [← HK.out, ← HE2.out]; omega)
                  have hpb : bs pw = powD l := by rw [Hpw.out, (pn_some HhE.out).2, ← HK.out, ← HE2.out]; exact bs_strOf _ (fun x hx => by have := seg_mem hx; rw [Hl.out] at this; exact bs_lt s x this)
                  have Hex := Lib.hid (exponent_any pw false)
                  have Hex2 : Hid (∀ W, Calls Tryd.prog 45 #[.string pw, .bool false] W fun e w' => e = .returned (.int .i64 (sgn false (capC 0 (powD l)))) ∧ W = w') := fun W => by rw [← hpb]; exact Hex.out W (by rw [hpb, (pn_some HhE.out).2]; exact seg_digits _ _) (by rw [← bs_length, hpb, (pn_some HhE.out).2]; have := seg_length_le l (placeK l) (dEnd l (placeK l)); rw [Hl.out, bs_length] at this; rw [← Hl.out] at this; omega)
                  obtain ⟨xx, hxx⟩ : ∃ x, x = sgn false (capC 0 (powD l)) := ⟨_, rfl⟩
                  rw [← hxx] at Hex2
                  have Hxx := Lib.hid hxx
                  have q1 := str_beq hpe
                  have q2 := str_nil hpe
                  clear hz hpe hpb Hex hxx
                  have a0 : W14.cell? ⟨gA, 0, none⟩ = some (.int .i64 (E2 : Int)) := HX.out.rs.a.cell 0
                  have s0 : W14.cell? ⟨gS, 0, none⟩ = some (.string s) := HX.out.rs.s.cell 0
                  have fa : W14.frozen? ⟨gA, 0, none⟩ = false := HX.out.rs.a.frozen 0
                  have x0 : W14.cell? ⟨gX, 0, none⟩ = some (.bool ng) := HX.out.x.cell 0
                  have fx0 : W14.frozen? ⟨gX, 0, none⟩ = false := HX.out.x.frozen 0
                  have x1 : W14.cell? ⟨gX, 1, none⟩ = some (.string wh) := HX.out.x.cell 1
                  have fx1 : W14.frozen? ⟨gX, 1, none⟩ = false := HX.out.x.frozen 1
                  have x2 : W14.cell? ⟨gX, 2, none⟩ = some (.string pt) := HX.out.x.cell 2
                  have fx2 : W14.frozen? ⟨gX, 2, none⟩ = false := HX.out.x.frozen 2
                  have x3 : W14.cell? ⟨gX, 3, none⟩ = some (.int .i64 0) := HX.out.x.cell 3
                  have fx3 : W14.frozen? ⟨gX, 3, none⟩ = false := HX.out.x.frozen 3
                  have ax1 := HX.out.ax
                  have ax2 := Ne.symm HX.out.ax
                  go_wp2_with fail
                  refine (Hex2.out _).mono ?_
                  rintro e V ⟨rfl, rfl⟩
                  go_wp2_with fail
                  go_meet
                  exact ⟨E2, xx, by rw [(pn_some HhE.out).1, ← HK.out, ← HE2.out], HX.out.set3 xx, by show _ = _; rw [Hxx.out, HnE.out]⟩
            · have HhE : Hid (hasE l = false) := hasE_no (by rw [← Hp2.out]; exact hx)
              have hb3 : b3 = false := by rw [Hb3.out]; exact decide_eq_false hx
              subst hb3
              rw [if_neg (by decide)] at HX
              clear hx
              go_wp2_with fail
              go_meet
              exact ⟨p2, 0, by rw [(pn_none HhE.out).1, ← Hp2.out], HX, by show _ = _; rw [(pn_none HhE.out).2, sgn_zero]⟩
          case rest =>
            clear HX
            obtain ⟨i, ex, rfl, HX, Hex⟩ := hcut
            obtain ⟨q, hq⟩ : ∃ q, q = placeN l := ⟨_, rfl⟩
            have Hq := Lib.hid hq
            rw [← hq]
            clear hq
            have a0 : wc.cell? ⟨gA, 0, none⟩ = some (.int .i64 (i : Int)) := HX.out.rs.a.cell 0
            have s0 : wc.cell? ⟨gS, 0, none⟩ = some (.string s) := HX.out.rs.s.cell 0
            have fa : wc.frozen? ⟨gA, 0, none⟩ = false := HX.out.rs.a.frozen 0
            have x0 : wc.cell? ⟨gX, 0, none⟩ = some (.bool ng) := HX.out.x.cell 0
            have fx0 : wc.frozen? ⟨gX, 0, none⟩ = false := HX.out.x.frozen 0
            have x1 : wc.cell? ⟨gX, 1, none⟩ = some (.string wh) := HX.out.x.cell 1
            have fx1 : wc.frozen? ⟨gX, 1, none⟩ = false := HX.out.x.frozen 1
            have x2 : wc.cell? ⟨gX, 2, none⟩ = some (.string pt) := HX.out.x.cell 2
            have fx2 : wc.frozen? ⟨gX, 2, none⟩ = false := HX.out.x.frozen 2
            have x3 : wc.cell? ⟨gX, 3, none⟩ = some (.int .i64 ex) := HX.out.x.cell 3
            have fx3 : wc.frozen? ⟨gX, 3, none⟩ = false := HX.out.x.frozen 3
            have ax1 := HX.out.ax
            have ax2 := Ne.symm HX.out.ax
            go_wp2_with fail
            have HXf : RX w (((((wc.setCell ⟨gX, 0, none⟩ (.bool ng)).setCell ⟨gX, 1, none⟩ (.string wh)).setCell ⟨gX, 2, none⟩ (.string pt)).setCell ⟨gX, 3, none⟩ (.int .i64 ex)).setCell ⟨gA, 0, none⟩ (.int .i64 (q : Int))) gX gA gS s q ng wh pt ex := ((((HX.out.set0 ng).set1 wh).set2 pt).set3 ex).setA q
            generalize (((((wc.setCell ⟨gX, 0, none⟩ (.bool ng)).setCell ⟨gX, 1, none⟩ (.string wh)).setCell ⟨gX, 2, none⟩ (.string pt)).setCell ⟨gX, 3, none⟩ (.int .i64 ex)).setCell ⟨gA, 0, none⟩ (.int .i64 (q : Int))) = V9 at HXf ⊢
            have y0 := HXf.x.cell 0
            have y1 := HXf.x.cell 1
            have y2 := HXf.x.cell 2
            have y3 := HXf.x.cell 3
            have ya := HXf.rs.a.cell 0
            simp only [List.getElem?_toArray, List.getElem?_cons_zero, List.getElem?_cons_succ] at y0 y1 y2 y3 ya
            refine bodyPost_ret (v := .tuple #[.agg #[.bool ng, .string wh, .string pt, .int .i64 ex], .int .i64 (q : Int), .bool true]) (by simp [results, Tryd.results22, go_sem, y0, y1, y2, y3, ya]) rfl ⟨HXf.b, ?_⟩
            refine .inr ⟨by rw [← Hl.out, ← Hp0.out]; exact Hz.out, ?_⟩
            rw [← Hl.out, ← Hng.out, ← Hwh.out, ← Hpd.out, ← Hq.out, ← Hex.out]
            rfl
end Go.Proofs.YtdbcklabinmgfaaDoor
