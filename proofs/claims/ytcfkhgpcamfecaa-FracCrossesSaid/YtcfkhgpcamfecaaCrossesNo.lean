/- Layer 23: the walk over the statement FracCrosses: where there is no crossing. -/
import Derived.Test.YtcfkhgpcamfecaaIs
import Derived.Deep.DeepCutAuto
import Derived.Deep.RegionHeld3
namespace Go.Proofs.Ytcfkhgpcamfecaa
open Go.RowKit Big
set_option linter.unusedVariables false
set_option maxRecDepth 100000

/-- The law's boxes: both points, both answers. -/
def LawSt (w W : World) (g m n : Nat) (a b e f x y z : Int) : Prop :=
  Whole W g 63 #[.int .i64 a, .int .i64 b] ∧ Whole W (g + 1) 63 #[.int .i64 e, .int .i64 f] ∧ Whole W m 46 #[.int .i64 x, .int .u64 y, .int .u64 z] ∧ Whole W n 46 #[.int .i64 x, .int .u64 y, .int .u64 z] ∧ Below w.heap.size w W ∧ w.heap.size ≤ g ∧ g + 1 < m ∧ g + 1 < n
section
variable {w W W' : World} {g m n : Nat} {a b e f x y z : Int}
theorem LawSt.keep (H : LawSt w W g m n a b e f x y z) (hb : Below W.heap.size W W') : LawSt w W' g m n a b e f x y z :=
  ⟨H.1.below hb H.1.lt, H.2.1.below hb H.2.1.lt, H.2.2.1.below hb H.2.2.1.lt, H.2.2.2.1.below hb H.2.2.2.1.lt, below_then H.2.2.2.2.1 hb H.2.2.2.2.1.size, H.2.2.2.2.2⟩
theorem LawSt.drew (H : LawSt w W g m n a b e f x y z) : LawSt w W.drew g m n a b e f x y z := H.keep (Below.refl _ _).drew
theorem LawSt.cells (H : LawSt w W g m n a b e f x y z) : W.cell? ⟨g, 0, none⟩ = some (.int .i64 a) ∧ W.cell? ⟨g, 1, none⟩ = some (.int .i64 b) ∧ W.cell? ⟨g + 1, 0, none⟩ = some (.int .i64 e) ∧ W.cell? ⟨g + 1, 1, none⟩ = some (.int .i64 f) ∧
    W.cell? ⟨m, 0, none⟩ = some (.int .i64 x) ∧ W.cell? ⟨m, 1, none⟩ = some (.int .u64 y) ∧ W.cell? ⟨m, 2, none⟩ = some (.int .u64 z) :=
  ⟨H.1.cell 0, H.1.cell 1, H.2.1.cell 0, H.2.1.cell 1, H.2.2.1.cell 0, H.2.2.1.cell 1, H.2.2.1.cell 2⟩
theorem LawSt.others (H : LawSt w W g m n a b e f x y z) : W.cell? ⟨n, 0, none⟩ = some (.int .i64 x) ∧ W.cell? ⟨n, 1, none⟩ = some (.int .u64 y) ∧ W.cell? ⟨n, 2, none⟩ = some (.int .u64 z) ∧
    W.frozen? ⟨g, 0, none⟩ = false ∧ W.frozen? ⟨g, 1, none⟩ = false ∧ W.frozen? ⟨g + 1, 0, none⟩ = false ∧ W.frozen? ⟨g + 1, 1, none⟩ = false :=
  ⟨H.2.2.2.1.cell 0, H.2.2.2.1.cell 1, H.2.2.2.1.cell 2, H.1.frozen 0, H.1.frozen 1, H.2.1.frozen 0, H.2.1.frozen 1⟩
theorem LawSt.points (H : LawSt w W g m n a b e f x y z) (A B E F : Int) :
    LawSt w ((((W.setCell ⟨g, 0, none⟩ (.int .i64 A)).setCell ⟨g, 1, none⟩ (.int .i64 B)).setCell ⟨g + 1, 0, none⟩ (.int .i64 E)).setCell ⟨g + 1, 1, none⟩ (.int .i64 F)) g m n A B E F x y z := by
  obtain ⟨h1, h2, h3, h4, h5, h6, h7, h8⟩ := H
  refine ⟨(((h1.set 0 (.int .i64 A)).set 1 (.int .i64 B)).far (p := ⟨g + 1, 0, none⟩) (by simp) (.int .i64 E)).far (p := ⟨g + 1, 1, none⟩) (by simp) (.int .i64 F), (((h2.far (p := ⟨g, 0, none⟩) (by simp) (.int .i64 A)).far (p := ⟨g, 1, none⟩) (by simp) (.int .i64 B)).set 0 (.int .i64 E)).set 1 (.int .i64 F),
    (((h3.far (p := ⟨g, 0, none⟩) (by simp; omega) (.int .i64 A)).far (p := ⟨g, 1, none⟩) (by simp; omega) (.int .i64 B)).far (p := ⟨g + 1, 0, none⟩) (by simp; omega) (.int .i64 E)).far (p := ⟨g + 1, 1, none⟩) (by simp; omega) (.int .i64 F),
    (((h4.far (p := ⟨g, 0, none⟩) (by simp; omega) (.int .i64 A)).far (p := ⟨g, 1, none⟩) (by simp; omega) (.int .i64 B)).far (p := ⟨g + 1, 0, none⟩) (by simp; omega) (.int .i64 E)).far (p := ⟨g + 1, 1, none⟩) (by simp; omega) (.int .i64 F),
    (((h5.setCell h6 _).setCell h6 _).setCell (show w.heap.size ≤ g + 1 by omega) _).setCell (show w.heap.size ≤ g + 1 by omega) _, h6, h7, h8⟩
end

set_option maxHeartbeats 16000000 in
theorem fracCrosses_out (px py qx qy c : Int) (up : Bool) (w : World) (hall : okAll px py qx qy c = false) :
    Calls Try.prog 8 #[.agg #[.int .i64 px, .int .i64 py], .agg #[.int .i64 qx, .int .i64 qy], .int .i64 c, .bool up] w fun e' w' => e' = .returned (.bool true) ∧ Below w.heap.size w w' := by
  have H1 := Lib.hid fun W => cross_any px py qx qy c up W
  have H2 := Lib.hid fun W => cross_any qx qy px py c up W
  rw [crossV_sym px py qx qy c up] at H2
  have hV : crossV px py qx qy c up = .tuple #[.agg #[.int .i64 0, .int .u64 0, .int .u64 0], .int .i64 8] := by rw [crossV, hall]; rfl
  rw [hV] at H1 H2
  have hsp : okQ px = false ∨ (okQ px = true ∧ okQ py = false) ∨ (okQ px = true ∧ okQ py = true ∧ okQ qx = false) ∨ (okQ px = true ∧ okQ py = true ∧ okQ qx = true ∧ okQ qy = false) ∨ (okQ px = true ∧ okQ py = true ∧ okQ qx = true ∧ okQ qy = true ∧ okQ c = false) := by
    unfold okAll at hall
    cases h1 : okQ px <;> cases h2 : okQ py <;> cases h3 : okQ qx <;> cases h4 : okQ qy <;> cases h5 : okQ c <;> simp_all
  have Hsp := Lib.hid hsp
  clear hsp hall hV
  have hneq := neq_frac 0 0 0
  have hlv := Lib.hid fun W => flive_any W
  go_enter Try.func8, Try.ntmps8
  go_wp2_with fail
  refine (H1.out _).mono ?_
  rintro e' W1 ⟨rfl, hb1⟩
  obtain ⟨hA, hB, hbw, hsz⟩ := two_kept hb1
  have HA := Lib.hid (hA.alloc (.cells #[.int .i64 0, .int .u64 0, .int .u64 0] 46))
  have HB := Lib.hid (hB.alloc (.cells #[.int .i64 0, .int .u64 0, .int .u64 0] 46))
  have HM := Lib.hid (Whole.new W1 46 #[.int .i64 0, .int .u64 0, .int .u64 0])
  have HW := Lib.hid (hbw.alloc hbw.size (.cells #[.int .i64 0, .int .u64 0, .int .u64 0] 46))
  have hsz0 : w.heap.size + 1 < W1.heap.size := hsz
  have Hsz := Lib.hid hsz0
  obtain ⟨X1, hX1⟩ : ∃ X1, X1 = W1.alloc (.cells #[.int .i64 0, .int .u64 0, .int .u64 0] 46) := ⟨_, rfl⟩
  obtain ⟨m, hm⟩ : ∃ m, m = W1.heap.size := ⟨_, rfl⟩
  obtain ⟨g, hg⟩ : ∃ g, g = w.heap.size := ⟨_, rfl⟩
  have HX1 := Lib.hid hX1
  have Hm := Lib.hid hm
  have Hg := Lib.hid hg
  clear hb1 hA hB hbw hsz hsz0 hX1 hm hg
  go_upto_region 2 with (fail)
  rw [← HX1.out, ← Hm.out, ← Hg.out]
  rw [← HX1.out] at HA HB HM HW
  rw [← Hg.out] at HA HB Hsz
  rw [← Hm.out] at HM Hsz
  have ca := HA.out.cell 0
  have cb := HA.out.cell 1
  have ce := HB.out.cell 0
  have cf := HB.out.cell 1
  simp only [List.getElem?_toArray, List.getElem?_cons_zero, List.getElem?_cons_succ] at ca cb ce cf
  clear HX1 Hm
  go_wp2_with fail
  refine (H2.out _).mono ?_
  rintro e' W2 ⟨rfl, hb2⟩
  have hst : LawSt w (W2.alloc (.cells #[.int .i64 0, .int .u64 0, .int .u64 0] 46)) g m W2.heap.size px py qx qy 0 0 0 := by
    have hb3 := below_then HW.out hb2 HW.out.size
    refine ⟨(HA.out.below hb2 HA.out.lt).alloc _, (HB.out.below hb2 HB.out.lt).alloc _, (HM.out.below hb2 HM.out.lt).alloc _, Whole.new _ _ _, hb3.alloc hb3.size _, Nat.le_of_eq Hg.out.symm, Hsz.out, ?_⟩
    have h1 := (HB.out.below hb2 HB.out.lt).lt
    exact h1
  obtain ⟨X2, hX2⟩ : ∃ X2, X2 = W2.alloc (.cells #[.int .i64 0, .int .u64 0, .int .u64 0] 46) := ⟨_, rfl⟩
  obtain ⟨n, hn⟩ : ∃ n, n = W2.heap.size := ⟨_, rfl⟩
  go_upto_region 3 with (fail)
  rw [← hX2, ← hn] at hst ⊢
  have HS := Lib.hid hst
  clear hst hX2 hn hb2 HA HB HM HW ca cb ce cf H1 H2 Hsz
  obtain ⟨ca, cb, ce, cf, m0, m1, m2⟩ := HS.out.cells
  obtain ⟨n0, n1, n2, f0, f1, f2, f3⟩ := HS.out.others
  have hez := eq_frac 0 0 0 0 0 0
  rcases Hsp.out with k1 | ⟨k1, k2⟩ | ⟨k1, k2, k3⟩ | ⟨k1, k2, k3, k4⟩ | ⟨k1, k2, k3, k4, k5⟩
  all_goals
    go_wp2_with (first | (go_at_call 39; refine (lout_any _ _).mono ?_; rintro e' w' ⟨rfl, rfl⟩) | (go_at_call 30; refine (lcode_any _ _).mono ?_; rintro e' w' ⟨rfl, rfl⟩))
    refine (hlv.out _).mono ?_
    rintro e' W9 ⟨rfl, hb9⟩
    go_wp2_with fail
    go_ret
    exact ⟨rfl, (HS.out.keep hb9).2.2.2.2.1⟩

set_option maxHeartbeats 16000000 in
theorem fracCrosses_none (px py qx qy c : Int) (up : Bool) (w : World) (hall : okAll px py qx qy c = true) (a b e f : Int) (hup1 : up = true → a = py ∧ b = px ∧ e = qy ∧ f = qx) (hup0 : up = false → a = px ∧ b = py ∧ e = qx ∧ f = qy) (hn : a = e ∨ (c < a ∧ c < e) ∨ (a < c ∧ e < c)) :
    Calls Try.prog 8 #[.agg #[.int .i64 px, .int .i64 py], .agg #[.int .i64 qx, .int .i64 qy], .int .i64 c, .bool up] w fun e' w' => e' = .returned (.bool true) ∧ Below w.heap.size w w' := by
  have hk : okQ px = true ∧ okQ py = true ∧ okQ qx = true ∧ okQ qy = true ∧ okQ c = true := by
    simp only [okAll, Bool.and_eq_true] at hall
    obtain ⟨⟨⟨⟨h1, h2⟩, h3⟩, h4⟩, h5⟩ := hall
    exact ⟨h1, h2, h3, h4, h5⟩
  have hvs : crossV px py qx qy c up = crossS a b e f c := by
    rw [crossV, if_pos hall]
    cases up
    · obtain ⟨rfl, rfl, rfl, rfl⟩ := hup0 rfl; rfl
    · obtain ⟨rfl, rfl, rfl, rfl⟩ := hup1 rfl; rfl
  have H1 := Lib.hid fun W => cross_any px py qx qy c up W
  have H2 := Lib.hid fun W => cross_any qx qy px py c up W
  rw [crossV_sym px py qx qy c up] at H2
  have hV : crossV px py qx qy c up = .tuple #[.agg #[.int .i64 0, .int .u64 0, .int .u64 0], .int .i64 6] := by rw [hvs]; exact cross_none a b e f c hn
  rw [hV] at H1 H2
  have Hup1 := Lib.hid hup1
  have Hup0 := Lib.hid hup0
  obtain ⟨k1, k2, k3, k4, k5⟩ := hk
  have hsp : a = e ∨ (a ≠ e ∧ c < a ∧ c < e) ∨ (a ≠ e ∧ ¬ c < a ∧ a < c ∧ e < c) := by omega
  have Hsp := Lib.hid hsp
  clear hsp hn hV hvs hall hup0 hup1
  have hneq := neq_frac 0 0 0
  have hlv := Lib.hid fun W => flive_any W
  go_enter Try.func8, Try.ntmps8
  go_wp2_with fail
  refine (H1.out _).mono ?_
  rintro e' W1 ⟨rfl, hb1⟩
  obtain ⟨hA, hB, hbw, hsz⟩ := two_kept hb1
  have HA := Lib.hid (hA.alloc (.cells #[.int .i64 0, .int .u64 0, .int .u64 0] 46))
  have HB := Lib.hid (hB.alloc (.cells #[.int .i64 0, .int .u64 0, .int .u64 0] 46))
  have HM := Lib.hid (Whole.new W1 46 #[.int .i64 0, .int .u64 0, .int .u64 0])
  have HW := Lib.hid (hbw.alloc hbw.size (.cells #[.int .i64 0, .int .u64 0, .int .u64 0] 46))
  have hsz0 : w.heap.size + 1 < W1.heap.size := hsz
  have Hsz := Lib.hid hsz0
  obtain ⟨X1, hX1⟩ : ∃ X1, X1 = W1.alloc (.cells #[.int .i64 0, .int .u64 0, .int .u64 0] 46) := ⟨_, rfl⟩
  obtain ⟨m, hm⟩ : ∃ m, m = W1.heap.size := ⟨_, rfl⟩
  obtain ⟨g, hg⟩ : ∃ g, g = w.heap.size := ⟨_, rfl⟩
  have HX1 := Lib.hid hX1
  have Hm := Lib.hid hm
  have Hg := Lib.hid hg
  clear hb1 hA hB hbw hsz hsz0 hX1 hm hg
  go_upto_region 2 with (fail)
  rw [← HX1.out, ← Hm.out, ← Hg.out]
  rw [← HX1.out] at HA HB HM HW
  rw [← Hg.out] at HA HB Hsz
  rw [← Hm.out] at HM Hsz
  have ca := HA.out.cell 0
  have cb := HA.out.cell 1
  have ce := HB.out.cell 0
  have cf := HB.out.cell 1
  simp only [List.getElem?_toArray, List.getElem?_cons_zero, List.getElem?_cons_succ] at ca cb ce cf
  clear HX1 Hm
  go_wp2_with fail
  refine (H2.out _).mono ?_
  rintro e' W2 ⟨rfl, hb2⟩
  have hst : LawSt w (W2.alloc (.cells #[.int .i64 0, .int .u64 0, .int .u64 0] 46)) g m W2.heap.size px py qx qy 0 0 0 := by
    have hb3 := below_then HW.out hb2 HW.out.size
    refine ⟨(HA.out.below hb2 HA.out.lt).alloc _, (HB.out.below hb2 HB.out.lt).alloc _, (HM.out.below hb2 HM.out.lt).alloc _, Whole.new _ _ _, hb3.alloc hb3.size _, Nat.le_of_eq Hg.out.symm, Hsz.out, ?_⟩
    have h1 := (HB.out.below hb2 HB.out.lt).lt
    exact h1
  obtain ⟨X2, hX2⟩ : ∃ X2, X2 = W2.alloc (.cells #[.int .i64 0, .int .u64 0, .int .u64 0] 46) := ⟨_, rfl⟩
  obtain ⟨n, hn⟩ : ∃ n, n = W2.heap.size := ⟨_, rfl⟩
  go_upto_region 3 with (fail)
  rw [← hX2, ← hn] at hst ⊢
  have HS := Lib.hid hst
  clear hst hX2 hn hb2 HA HB HM HW ca cb ce cf H1 H2 Hsz
  obtain ⟨ca, cb, ce, cf, m0, m1, m2⟩ := HS.out.cells
  obtain ⟨n0, n1, n2, f0, f1, f2, f3⟩ := HS.out.others
  go_upto_if 72 with (first | (go_at_call 39; refine (lout_any _ _).mono ?_; rintro e' w' ⟨rfl, rfl⟩) | (go_at_call 30; refine (lcode_any _ _).mono ?_; rintro e' w' ⟨rfl, rfl⟩))
  go_cut [] (fun W => LawSt w W g m n a b e f 0 0 0)
  case first =>
    cases up
    · go_wp2_with fail
      go_meet
      case rel =>
        obtain ⟨rfl, rfl, rfl, rfl⟩ := Hup0.out (by trivial)
        exact HS.out
    · have hfin := Lib.hid (HS.out.drew.points py px qy qx)
      go_wp2_with fail
      go_region
      all_goals
        go_wp2_with fail
        go_meet
        case rel =>
          obtain ⟨rfl, rfl, rfl, rfl⟩ := Hup1.out (by trivial)
          exact hfin.out
  case rest =>
    clear HS Hup1 Hup0 ca cb ce cf m0 m1 m2 n0 n1 n2 f0 f1 f2 f3 k1 k2 k3 k4 k5
    have HS := Lib.hid hcut
    clear hcut
    obtain ⟨ca, cb, ce, cf, m0, m1, m2⟩ := HS.out.cells
    have hez := eq_frac 0 0 0 0 0 0
    rcases Hsp.out with h | ⟨h, h1, h2⟩ | ⟨h, h1, h2, h3⟩
    · subst h
      go_wp2_with (go_at_call 30; refine (lcode_any _ _).mono ?_; rintro e' w' ⟨rfl, rfl⟩)
      refine (hlv.out _).mono ?_
      rintro e' W9 ⟨rfl, hb9⟩
      go_wp2_with fail
      go_ret
      exact ⟨rfl, (HS.out.keep hb9).2.2.2.2.1⟩
    · have hb : (a == e) = false := by simpa using h
      clear h
      go_wp2_with (go_at_call 30; refine (lcode_any _ _).mono ?_; rintro e' w' ⟨rfl, rfl⟩)
      refine (hlv.out _).mono ?_
      rintro e' W9 ⟨rfl, hb9⟩
      go_wp2_with fail
      go_ret
      exact ⟨rfl, (HS.out.keep hb9).2.2.2.2.1⟩
    · have hb : (a == e) = false := by simpa using h
      clear h
      go_wp2_with (go_at_call 30; refine (lcode_any _ _).mono ?_; rintro e' w' ⟨rfl, rfl⟩)
      refine (hlv.out _).mono ?_
      rintro e' W9 ⟨rfl, hb9⟩
      go_wp2_with fail
      go_ret
      exact ⟨rfl, (HS.out.keep hb9).2.2.2.2.1⟩

end Go.Proofs.Ytcfkhgpcamfecaa
