/- Walks over layer 12: live, and the law of finding. -/
import Derived.Test.YtaafcmgkmdbefaaDirPut2
import Derived.Test.YtaafcmgkmdbefaaStr
namespace Go.Proofs.Ytaafcmgkmdbefaa
open Go.RowKit Var
set_option linter.unusedVariables false
set_option maxRecDepth 100000

theorem code12_any (n : Int) (w : World) : Calls Try.prog 12 #[.int .i64 n] w fun e w' => e = .returned (.int .i64 n) ∧ w = w' := by
  go_enter Try.func12, Try.ntmps12
  go_wp2_with fail
  go_ret
  exact ⟨rfl, rfl⟩
theorem str8 {w : World} {base : Nat} {v : Value} {l : List Nat} (h : Own8 w base v l) (hl : ∀ x ∈ l, x < 256) :
    (convert 24 9 v).run Try.prog w = .ok (.string (strOf l)) w := by
  obtain ⟨a, c, rfl, _, _, _, hN⟩ := h.nums
  exact str_of_nums w w.heap.size 24 9 5 a c l Try.underlying24 Try.underlying5 Try.underlying9 hN hl
theorem rde_new (w : World) (l : List En) (n c : Nat) (cs : List Value) (hn : l.length = n) (hc : ents l = cs) (hnc : n ≤ c) (hcm : c ≤ 1000) (hok : ∀ s ∈ l, s.ok) : RdE (w.alloc (.cells cs.toArray 39)) (w.alloc (.cells cs.toArray 39)).heap.size (.slice (some ⟨w.heap.size, 0, none⟩) n c) l := by
  subst hn hc
  exact ⟨_, c, rfl, hnc, by unfold maxLen; omega, Vals.of_block (heap_alloc_new w _) (ents_length l), hok⟩
theorem live_put : putE [⟨5, 0, 10, 1⟩, ⟨7, 10, 3, 2⟩] = [2, 5, 2, 1, 2, 10, 3, 1, 0] := by
  simp [putE, vbs, gaps, offs, offE, vb_small]

set_option maxHeartbeats 4000000 in
theorem live12_any (w : World) : Calls Try.prog 6 #[] w fun e w' => e = .returned (.bool true) ∧ Below w.heap.size w w' := by
  have hr := rde_new w [⟨5, 0, 10, 1⟩, ⟨7, 10, 3, 2⟩] 2 2 [.int .u64 5, .int .u64 0, .int .u64 10, .int .u64 1, .int .u64 7, .int .u64 10, .int .u64 3, .int .u64 2] rfl rfl (by omega) (by omega) (by simp [En.ok])
  have hs := dput_yes _ _ _ hr (by decide) (by decide) _ live_put
  have HB : Hid (Below w.heap.size w (w.alloc (.cells #[.int .u64 5, .int .u64 0, .int .u64 10, .int .u64 1, .int .u64 7, .int .u64 10, .int .u64 3, .int .u64 2] 39))) := (Below.refl _ _).alloc (Nat.le_refl _) _
  have Hs := Lib.hid hs
  clear hr hs
  go_enter Try.func6, Try.ntmps6
  go_wp2_with fail
  refine Hs.out.mono ?_
  rintro e X ⟨u, rfl, hu, hX⟩
  have HX := Lib.hid (below_then HB.out hX HB.out.size)
  have hst := str8 hu (by decide)
  clear hX Hs
  go_wp2_with fail
  refine (code12_any 0 _).mono ?_
  rintro e Y ⟨rfl, rfl⟩
  have hse : (strOf [2, 5, 2, 1, 2, 10, 3, 1, 0]) = ⟨#[2, 5, 2, 1, 2, 10, 3, 1, 0]⟩ := rfl
  rw [hse] at hst
  go_wp2_with fail
  go_ret
  exact ⟨rfl, HX.out⟩

theorem last_any (l : List En) (x : Nat) : ∃ m, lastE l x m := by
  by_cases h : ∃ m, ∃ h : m < l.length, (l[m]).id ≤ x
  · obtain ⟨m0, h0, h1⟩ := h
    have key : ∀ d m (hm : m < l.length), (l[m]).id ≤ x → l.length - m ≤ d → ∃ m, lastE l x (some m) := by
      intro d
      induction d with
      | zero => intro m hm _ hd; omega
      | succ d ih =>
        intro m hm hle hd
        by_cases h2 : ∃ q, ∃ hq : q < l.length, m < q ∧ (l[q]).id ≤ x
        · obtain ⟨q, hq, hmq, hqx⟩ := h2
          exact ih q hq hqx (by omega)
        · refine ⟨m, hm, hle, fun q hq hmq => ?_⟩
          by_cases h3 : x < (l[q]).id
          · exact h3
          · exact absurd ⟨q, hq, hmq, by omega⟩ h2
    obtain ⟨m, hm⟩ := key l.length m0 h0 h1 (by omega)
    exact ⟨some m, hm⟩
  · exact ⟨none, fun q hq => by
      by_cases h3 : x < (l[q]).id
      · exact h3
      · exact absurd ⟨q, hq, by omega⟩ h⟩
theorem both_find (v : Value) (l : List En) (x : Nat) (hl : l.length ≤ 100000000) (hx : x < 18446744073709551616) : ∃ R, ∀ W, RdE W W.heap.size v l →
    Calls Try.prog 16 #[v, .int .u64 (x : Int)] W (FPost W R) ∧ Calls Try.prog 17 #[v, .int .u64 (x : Int)] W (FPost W R) := by
  cases hr : rightE l
  · exact ⟨noneE, fun W h => ⟨find_no v l x W h hl hr, refFind_no v l x W h hl hr⟩⟩
  · obtain ⟨m, hm⟩ := last_any l x
    exact ⟨ansE l x m, fun W h => ⟨find_yes v l x W h hl hr m hm _ rfl, refFind_yes v l x W h hl hx hr m hm _ rfl⟩⟩

set_option maxHeartbeats 4000000 in
theorem dirFinds_walk (v : Value) (x : Nat) (w : World) (hv : ∃ l, RdE w w.heap.size v l) (hx : x < 18446744073709551616) :
    Calls Try.prog 5 #[v, .int .u64 (x : Int)] w fun e w' => e = .returned (.bool true) ∧ Below w.heap.size w w' := by
  obtain ⟨l, hvl⟩ := hv
  have Hl := Lib.hid live12_any
  have HV := Lib.hid hvl
  obtain ⟨a, c, rfl, _, _, _, _⟩ := hvl
  by_cases h1 : 100 < l.length
  · have d1 : decide ((100 : Int) < (l.length : Int)) = true := decide_eq_true (by omega)
    have d2 : decide (100 < l.length) = true := decide_eq_true (by omega)
    go_enter Try.func5, Try.ntmps5
    go_wp2_with fail
    refine (Hl.out _).mono ?_
    rintro e X ⟨rfl, hX⟩
    have HX := Lib.hid hX
    clear hX
    go_wp2_with fail
    go_ret
    exact ⟨rfl, HX.out⟩
  · have d1 : decide ((100 : Int) < (l.length : Int)) = false := decide_eq_false (by omega)
    have d2 : decide (100 < l.length) = false := decide_eq_false (by omega)
    obtain ⟨⟨⟨id, off, len, run⟩, t⟩, hb⟩ := both_find (.slice a l.length c) l x (by omega) hx
    obtain ⟨L, hL⟩ : ∃ L, L = l.length := ⟨_, rfl⟩
    rw [← hL] at hb HV d1 d2 h1 ⊢
    have H1 := Lib.hid fun W h => (hb W h).1
    have H2 := Lib.hid fun W h => (hb W h).2
    clear hb h1 hL
    go_enter Try.func5, Try.ntmps5
    go_wp2_with fail
    refine (H1.out _ HV.out).mono ?_
    rintro e X1 ⟨rfl, hX⟩
    have HB1 := Lib.hid hX
    unfold resV
    clear hX H1
    go_upto_region 4 with (fail)
    obtain ⟨g1, hg1⟩ : ∃ g, g = X1.heap.size := ⟨_, rfl⟩
    obtain ⟨X2, hX2⟩ : ∃ X, X = X1.alloc (.cells #[.int .u64 (id : Int), .int .u64 (off : Int), .int .u64 (len : Int), .int .u64 (run : Int)] 39) := ⟨_, rfl⟩
    have HW2 : Hid (Whole X2 g1 39 #[.int .u64 (id : Int), .int .u64 (off : Int), .int .u64 (len : Int), .int .u64 (run : Int)]) := by rw [hX2, hg1]; exact Whole.new X1 _ _
    have HB2 : Hid (Below w.heap.size w X2) := by rw [hX2]; exact below_then HB1.out ((Below.refl _ _).alloc (Nat.le_refl _) _) HB1.out.size
    rw [← hX2, ← hg1]
    clear hX2 hg1
    go_wp2_with fail
    refine (H2.out _ ((HV.out.below HB2.out).more HB2.out.size)).mono ?_
    rintro e X3 ⟨rfl, hX⟩
    have HB3 := Lib.hid (below_then HB2.out hX HB2.out.size)
    have HW3 := Lib.hid (HW2.out.below hX HW2.out.lt)
    unfold resV
    clear hX H2
    go_upto_region 5 with (fail)
    obtain ⟨g2, hg2⟩ : ∃ g, g = X3.heap.size := ⟨_, rfl⟩
    obtain ⟨X4, hX4⟩ : ∃ X, X = X3.alloc (.cells #[.int .u64 (id : Int), .int .u64 (off : Int), .int .u64 (len : Int), .int .u64 (run : Int)] 39) := ⟨_, rfl⟩
    have HW4 : Hid (Whole X4 g2 39 #[.int .u64 (id : Int), .int .u64 (off : Int), .int .u64 (len : Int), .int .u64 (run : Int)]) := by rw [hX4, hg2]; exact Whole.new X3 _ _
    have HW5 : Hid (Whole X4 g1 39 #[.int .u64 (id : Int), .int .u64 (off : Int), .int .u64 (len : Int), .int .u64 (run : Int)]) := by rw [hX4]; exact HW3.out.alloc _
    have HB4 : Hid (Below w.heap.size w X4) := by rw [hX4]; exact below_then HB3.out ((Below.refl _ _).alloc (Nat.le_refl _) _) HB3.out.size
    rw [← hX4, ← hg2]
    clear hX4 hg2
    have a0 := HW4.out.cell 0
    have a1 := HW4.out.cell 1
    have a2 := HW4.out.cell 2
    have a3 := HW4.out.cell 3
    have b0 := HW5.out.cell 0
    have b1 := HW5.out.cell 1
    have b2 := HW5.out.cell 2
    have b3 := HW5.out.cell 3
    simp only [List.getElem?_toArray, List.getElem?_cons_zero, List.getElem?_cons_succ] at a0 a1 a2 a3 b0 b1 b2 b3
    cases t
    all_goals
      go_wp2_with fail
      refine (Hl.out _).mono ?_
      rintro e X5 ⟨rfl, hX⟩
      have HB5 := Lib.hid (below_then HB4.out hX HB4.out.size)
      clear hX
      go_wp2_with fail
      go_ret
      exact ⟨rfl, HB5.out⟩
end Go.Proofs.Ytaafcmgkmdbefaa
