/- Walks over layer 9: live; the law of sameness. -/
import Derived.Test.YtohgdlhijgjdkaaPathLive
namespace Go.Proofs.Ytohgdlhijgjdkaa
open Go.RowKit
set_option linter.unusedVariables false
set_option maxRecDepth 100000

theorem below_then {B : Nat} {w w1 W : World} (h : Below B w w1) (h2 : Below w1.heap.size w1 W) (hB : B ≤ w1.heap.size) : Below B w W := h.trans (h2.mono hB)
theorem within25 (w : World) : Calls Try.prog 36 #[.int .i64 25] w fun e w' => e = .returned (.bool true) ∧ w = w' := by
  go_enter Try.func36, Try.ntmps36
  go_wp2_with fail
  go_ret
  exact ⟨rfl, rfl⟩
theorem within17 (w : World) : Calls Try.prog 36 #[.int .i64 17] w fun e w' => e = .returned (.bool true) ∧ w = w' := by
  go_enter Try.func36, Try.ntmps36
  go_wp2_with fail
  go_ret
  exact ⟨rfl, rfl⟩
theorem outside_live (w : World) : Calls Try.prog 25 #[.agg #[.int .i64 25, .int .i64 17]] w fun e w' => e = .returned (.bool false) ∧ Below w.heap.size w w' := by
  go_enter Try.func25, Try.ntmps25
  go_wp2_with fail
  refine (within25 _).mono ?_
  rintro e X ⟨rfl, rfl⟩
  go_wp2_with fail
  refine (within17 _).mono ?_
  rintro e X ⟨rfl, rfl⟩
  go_wp2_with fail
  go_ret
  exact ⟨rfl, (Below.refl _ _).alloc (Nat.le_refl _) _⟩
set_option maxHeartbeats 2000000 in
theorem indexFunc_live (a : Option Addr) (c : Nat) (w : World) (hp : PAt w w.heap.size a [(25, 17)]) : Calls Try.prog 35 #[.slice a 1 c, .func (.func 25) #[] #[]] w fun e w' => e = .returned (.int .i64 (-1)) ∧ Below w.heap.size w w' := by
  obtain ⟨b1, o1, rfl, hb1, p0, p1⟩ := hp.at 0 (by simp)
  simp only [Nat.zero_mul, Nat.add_zero, List.getElem_cons_zero] at p0 p1
  clear hp
  go_enter Try.func35, Try.ntmps35
  go_wp2_with fail
  refine wp_loop_rounds 2 ?_
  rw [rounds_succ]
  go_wp2_with fail
  refine (outside_live _).mono ?_
  rintro e X ⟨rfl, hX⟩
  have HX := Lib.hid hX
  clear hX p0 p1
  go_wp2_with fail
  rw [rounds_succ]
  go_wp2_with fail
  go_ret
  exact ⟨rfl, HX.out⟩
theorem containsFunc_live (a : Option Addr) (c : Nat) (w : World) (hp : PAt w w.heap.size a [(25, 17)]) : Calls Try.prog 24 #[.slice a 1 c, .func (.func 25) #[] #[]] w fun e w' => e = .returned (.bool false) ∧ Below w.heap.size w w' := by
  have Hq := Lib.hid (indexFunc_live a c w hp)
  clear hp
  go_enter Try.func24, Try.ntmps24
  go_wp2_with fail
  refine Hq.out.mono ?_
  rintro e X ⟨rfl, hX⟩
  have HX := Lib.hid hX
  clear hX
  go_wp2_with fail
  go_ret
  exact ⟨rfl, HX.out⟩
theorem least_live (w : World) : Calls Try.prog 23 #[.int .i64 1] w fun e w' => e = .returned (.int .i64 1) ∧ w = w' := by
  go_enter Try.func23, Try.ntmps23
  go_wp2_with fail
  go_ret
  exact ⟨rfl, rfl⟩
set_option maxHeartbeats 2000000 in
theorem right_live (b : Nat) (a : Option Addr) (c d : Nat) (w : World) (hb : b < w.heap.size) (h0 : w.cell? ⟨b, 0, none⟩ = some (.slice a 1 c)) (hp : PAt w w.heap.size a [(25, 17)]) :
    Calls Try.prog 14 #[.int .i64 1, .slice (some ⟨b, 0, none⟩) 1 d] w fun e w' => e = .returned (.int .i64 0) ∧ Below w.heap.size w w' := by
  have HP := Lib.hid hp
  clear hp
  go_enter Try.func14, Try.ntmps14
  go_wp2_with fail
  refine wp_loop_rounds 2 ?_
  rw [rounds_succ]
  go_wp2_with fail
  refine (least_live _).mono ?_
  rintro e X ⟨rfl, rfl⟩
  go_wp2_with fail
  rw [rounds_succ]
  go_wp2_with fail
  refine wp_loop_rounds 2 ?_
  rw [rounds_succ]
  go_wp2_with fail
  refine (containsFunc_live a c w HP.out).mono ?_
  rintro e X ⟨rfl, hX⟩
  have HX := Lib.hid hX
  clear hX
  go_wp2_with fail
  rw [rounds_succ]
  go_wp2_with fail
  go_ret
  exact ⟨rfl, HX.out⟩
theorem path_live (base g : Nat) (w : World) (a : Option Addr) (c : Nat) (h : Wp w base g (.slice none 0 0) [] 0 0) (hr : RdP w base (.slice a 1 c) [(25, 17)]) (hB : base ≤ w.heap.size) (hg : base ≤ g) :
    Calls Try.prog 22 #[.pointer (some ⟨g, 0, none⟩), .int .i64 1, .slice a 1 c] w fun e w' => e = .returned (.tuple #[]) ∧ ∃ v', Wp w' base g v' [9, 50, 34] 25 17 ∧ Below base w w' := by
  have Hq := Lib.hid (run_live base g w a c h hr hB hg)
  clear h hr
  go_enter Try.func22, Try.ntmps22
  go_wp2_with fail
  refine Hq.out.mono ?_
  rintro e X ⟨rfl, hX⟩
  have HX := Lib.hid hX
  clear hX
  go_wp2_with fail
  (exact bodyPost_ret (v := .tuple #[]) (by simp [results, Try.results22, go_sem]) rfl ⟨rfl, HX.out⟩)
set_option maxHeartbeats 2000000 in
theorem encode_live (b : Nat) (a : Option Addr) (c d : Nat) (w : World) (hb : b < w.heap.size) (h0 : w.cell? ⟨b, 0, none⟩ = some (.slice a 1 c)) (hp : PAt w w.heap.size a [(25, 17)]) (hc : 1 ≤ c ∧ c ≤ maxLen) :
    Calls Try.prog 11 #[.int .i64 1, .slice (some ⟨b, 0, none⟩) 1 d] w fun e w' => ∃ v, e = .returned (.tuple #[v, .int .i64 0]) ∧ Own32 w' w.heap.size v [9, 50, 34] ∧ Below w.heap.size w w' := by
  have Hr := Lib.hid (right_live b a c d w hb h0 hp)
  have HP := Lib.hid hp
  have H0 := Lib.hid h0
  have Hb := Lib.hid hb
  have Hc := Lib.hid hc
  clear hp h0 hb hc
  go_enter Try.func11, Try.ntmps11
  go_wp2_with fail
  refine Hr.out.mono ?_
  rintro e X ⟨rfl, hX⟩
  have HX := Lib.hid hX
  clear hX Hr
  go_upto_region 5 with (fail)
  obtain ⟨g, hg⟩ : ∃ g, g = X.heap.size := ⟨_, rfl⟩
  obtain ⟨X2, hX2⟩ : ∃ Y, Y = X.alloc (.cells #[.slice none 0 0, .int .i64 0, .int .i64 0] 53) := ⟨_, rfl⟩
  have HW : Hid (Wp X2 w.heap.size g (.slice none 0 0) [] 0 0) := by rw [hX2, hg]; exact ⟨Whole.new X _ _, Own32.nil_ _ _, by simp [Value.ownBlock]⟩
  have HB : Hid (Below w.heap.size w X2) := by rw [hX2]; exact below_then HX.out ((Below.refl _ _).alloc (Nat.le_refl _) _) HX.out.size
  have Hg : Hid (w.heap.size ≤ g) := by show _ ≤ _; rw [hg]; exact HX.out.size
  have h0 := (HB.out.cell (p := ⟨b, 0, none⟩) Hb.out).trans H0.out
  have Hq := Lib.hid (path_live w.heap.size g X2 a c HW.out ⟨a, c, rfl, Hc.out.1, Hc.out.2, HP.out.below HB.out⟩ HB.out.size Hg.out)
  rw [← hX2, ← hg]
  clear hX2 hg
  go_wp2_with fail
  refine wp_loop_rounds 2 ?_
  rw [rounds_succ]
  go_wp2_with fail
  refine Hq.out.mono ?_
  rintro e Y ⟨rfl, v, hW, hY⟩
  have HY := Lib.hid (HB.out.trans hY)
  have HO := Lib.hid hW.2.1
  have d0 := hW.1.cell 0
  simp only [List.getElem?_toArray, List.getElem?_cons_zero, List.getElem?_cons_succ] at d0
  clear hW hY Hq h0
  go_wp2_with fail
  rw [rounds_succ]
  go_wp2_with fail
  go_ret2
  exact ⟨v, rfl, HO.out, HY.out⟩

set_option maxHeartbeats 4000000 in
theorem live9_any (w : World) : Calls Try.prog 6 #[] w fun e w' => e = .returned (.bool true) ∧ Below w.heap.size w w' := by
  obtain ⟨W, hW⟩ : ∃ W, W = (w.alloc (.cells #[.int .i64 25, .int .i64 17] 42)).alloc (.cells #[.slice (some ⟨w.heap.size, 0, none⟩) 1 1] 43) := ⟨_, rfl⟩
  have hB1 : Below w.heap.size w (w.alloc (.cells #[.int .i64 25, .int .i64 17] 42)) := (Below.refl _ _).alloc (Nat.le_refl _) _
  have HB : Hid (Below w.heap.size w W) := by rw [hW]; exact hB1.alloc hB1.size _
  have hw2 : Whole W (w.heap.size + 1) 43 #[.slice (some ⟨w.heap.size, 0, none⟩) 1 1] := by
    rw [hW]
    have := Whole.new (w.alloc (.cells #[.int .i64 25, .int .i64 17] 42)) 43 #[.slice (some ⟨w.heap.size, 0, none⟩) 1 1]
    simpa using this
  have hp : PAt W W.heap.size (some ⟨w.heap.size, 0, none⟩) [(25, 17)] := by
    have h1 : PAt (w.alloc (.cells #[.int .i64 25, .int .i64 17] 42)) (w.alloc (.cells #[.int .i64 25, .int .i64 17] 42)).heap.size (some ⟨w.heap.size, 0, none⟩) [(25, 17)] := Vals.of_block (xs := pts [(25, 17)]) (heap_alloc_new w _) rfl
    rw [hW]
    exact (h1.below ((Below.refl _ _).alloc (Nat.le_refl _) _)).more (by simp)
  have Hq := Lib.hid (encode_live (w.heap.size + 1) (some ⟨w.heap.size, 0, none⟩) 1 1 W hw2.lt (hw2.cell 0) hp ⟨by omega, by unfold maxLen; omega⟩)
  have HW := Lib.hid hW
  clear hW hB1 hw2 hp
  go_enter Try.func6, Try.ntmps6
  go_wp2_with fail
  rw [← HW.out]
  refine Hq.out.mono ?_
  rintro e X ⟨v, rfl, hv, hX⟩
  have HX := Lib.hid (below_then HB.out hX HB.out.size)
  obtain ⟨a, c, rfl, _, _, _, hN⟩ := hv.nums
  have HN := Lib.hid hN
  clear hX Hq hv hN
  go_wp2_with fail
  refine (code9_any 0 _).mono ?_
  rintro e Y ⟨rfl, rfl⟩
  have hXX : Below X.heap.size X (X.alloc (.cells #[.int .u32 9, .int .u32 50, .int .u32 34] 44)) := (Below.refl _ _).alloc (Nat.le_refl _) _
  have HXX := Lib.hid (below_then HX.out hXX HX.out.size)
  have hn2 : Nums .u32 (X.alloc (.cells #[.int .u32 9, .int .u32 50, .int .u32 34] 44)) (X.alloc (.cells #[.int .u32 9, .int .u32 50, .int .u32 34] 44)).heap.size (some ⟨X.heap.size, 0, none⟩) [9, 50, 34] :=
    Vals.to_nums (n := 3) (Vals.of_block (xs := u32s [9, 50, 34]) (heap_alloc_new X _) rfl)
  have Hs := Lib.hid (sameInts_eq a (some ⟨X.heap.size, 0, none⟩) c 3 [9, 50, 34] _ ((HN.out.below hXX).more hXX.size) hn2 (by simp))
  clear hXX hn2
  go_wp2_with fail
  refine Hs.out.mono ?_
  rintro e Y ⟨rfl, hY⟩
  have HY := Lib.hid (below_then HXX.out hY HXX.out.size)
  clear hY Hs
  go_wp2_with fail
  go_ret
  exact ⟨rfl, HY.out⟩

set_option maxHeartbeats 4000000 in
theorem pathSames_walk (u v : Value) (w : World) (hu : ∃ l, RdPP w w.heap.size u l) (hv : ∃ m, RdPP w w.heap.size v m) :
    Calls Try.prog 5 #[u, v] w fun e w' => e = .returned (.bool true) ∧ Below w.heap.size w w' := by
  obtain ⟨l, hu⟩ := hu
  obtain ⟨m, hv⟩ := hv
  have Hl := Lib.hid live9_any
  have HU := Lib.hid hu
  have HV := Lib.hid hv
  obtain ⟨t1, ht1⟩ : ∃ t, muchE l.length 0 0 l = t := ⟨_, rfl⟩
  obtain ⟨t2, ht2⟩ : ∃ t, muchE m.length 0 0 m = t := ⟨_, rfl⟩
  have H1 := Lib.hid fun W hW => much_any u l W hW t1 ht1
  have H2 := Lib.hid fun W hW => much_any v m W hW t2 ht2
  have H3 := Lib.hid fun W hU hV => same_any u v l m W hU hV
  have H4 := Lib.hid fun W hU hV => refSame_any u v l m W hU hV
  have H5 := Lib.hid fun W hU => same_any u u l l W hU hU
  obtain ⟨a, c, rfl, _, _, _⟩ := hu.at
  obtain ⟨b, d, rfl, _, _, _⟩ := hv.at
  generalize decide (l = m) = t at *
  have e : decide (l = l) = true := decide_eq_true rfl
  rw [e] at H5
  clear hu hv ht1 ht2 e
  cases t1
  · cases t2
    · go_enter Try.func5, Try.ntmps5
      go_wp2_with fail
      refine (H1.out _ HU.out).mono ?_
      rintro e X1 ⟨rfl, hX⟩
      have HB1 := Lib.hid hX
      clear hX
      go_wp2_with fail
      refine (H2.out _ ((HV.out.below HB1.out).more HB1.out.size)).mono ?_
      rintro e X2 ⟨rfl, hX⟩
      have HB2 := Lib.hid (below_then HB1.out hX HB1.out.size)
      clear hX
      go_wp2_with fail
      refine (H3.out _ ((HU.out.below HB2.out).more HB2.out.size) ((HV.out.below HB2.out).more HB2.out.size)).mono ?_
      rintro e X3 ⟨rfl, hX⟩
      have HB3 := Lib.hid (below_then HB2.out hX HB2.out.size)
      clear hX
      go_wp2_with fail
      refine (H4.out _ ((HU.out.below HB3.out).more HB3.out.size) ((HV.out.below HB3.out).more HB3.out.size)).mono ?_
      rintro e X4 ⟨rfl, hX⟩
      have HB4 := Lib.hid (below_then HB3.out hX HB3.out.size)
      clear hX
      cases t
      all_goals
        go_wp2_with fail
        refine (H5.out _ ((HU.out.below HB4.out).more HB4.out.size)).mono ?_
        rintro e X5 ⟨rfl, hX⟩
        have HB5 := Lib.hid (below_then HB4.out hX HB4.out.size)
        clear hX
        go_wp2_with fail
        refine (Hl.out _).mono ?_
        rintro e X6 ⟨rfl, hX⟩
        have HB6 := Lib.hid (below_then HB5.out hX HB5.out.size)
        clear hX
        go_wp2_with fail
        go_ret
        exact ⟨rfl, HB6.out⟩
    · go_enter Try.func5, Try.ntmps5
      go_wp2_with fail
      refine (H1.out _ HU.out).mono ?_
      rintro e X1 ⟨rfl, hX⟩
      have HB1 := Lib.hid hX
      clear hX
      go_wp2_with fail
      refine (H2.out _ ((HV.out.below HB1.out).more HB1.out.size)).mono ?_
      rintro e X2 ⟨rfl, hX⟩
      have HB2 := Lib.hid (below_then HB1.out hX HB1.out.size)
      clear hX
      go_wp2_with fail
      refine (Hl.out _).mono ?_
      rintro e X6 ⟨rfl, hX⟩
      have HB6 := Lib.hid (below_then HB2.out hX HB2.out.size)
      clear hX
      go_wp2_with fail
      go_ret
      exact ⟨rfl, HB6.out⟩
  · go_enter Try.func5, Try.ntmps5
    go_wp2_with fail
    refine (H1.out _ HU.out).mono ?_
    rintro e X1 ⟨rfl, hX⟩
    have HB1 := Lib.hid hX
    clear hX
    go_wp2_with fail
    refine (Hl.out _).mono ?_
    rintro e X6 ⟨rfl, hX⟩
    have HB6 := Lib.hid (below_then HB1.out hX HB1.out.size)
    clear hX
    go_wp2_with fail
    go_ret
    exact ⟨rfl, HB6.out⟩
end Go.Proofs.Ytohgdlhijgjdkaa
