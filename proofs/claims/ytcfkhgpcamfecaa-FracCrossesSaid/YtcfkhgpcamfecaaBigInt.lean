/- The reference's big numbers: Int; the law's two. -/
import Derived.Test.YtcfkhgpcamfecaaBigSub
import Derived.Test.YtcfkhgpcamfecaaBigMul
import Derived.Outline
namespace Go.Proofs.Ytcfkhgpcamfecaa
open Go.RowKit Big
set_option linter.unusedVariables false
set_option maxRecDepth 100000

theorem word_at (N : Nat) (i : Int) (w : World) (hN : N < 18446744073709551616) (hi : i = (N : Int)) : Calls Try.prog 14 #[.int .u64 i] w (BigPost w (N : Int) 4) := by
  subst hi
  exact word_any N w hN
theorem mul_any (v1 v2 : Value) (z1 z2 : Int) (k1 k2 : Nat) (w : World) (h1 : IsBig w w.heap.size v1 z1 k1) (h2 : IsBig w w.heap.size v2 z2 k2) (hk1 : k1 ≤ 1000) (hk2 : k2 ≤ 1000) :
    Calls Try.prog 13 #[v1, v2] w (BigPost w (z1 * z2) (k1 + k2)) := by
  obtain ⟨n1, a, c, la, rfl, ha, na, hla, rfl, _⟩ := h1
  obtain ⟨n2, a', c', lb, rfl, hb, nb, hlb, rfl, _⟩ := h2
  refine (mul_words n1 n2 a c la a' c' lb w ha hb (by omega) (by omega)).mono ?_
  rintro e w' ⟨v, rfl, hI, hb⟩
  exact ⟨v, rfl, hI.more (Nat.le_refl _) (by omega), hb⟩

theorem one_new (w : World) (n1 : Bool) (s1 : Value) : Whole (w.alloc (.cells #[.bool n1, s1] 29)) w.heap.size 29 #[.bool n1, s1] ∧ Below w.heap.size w (w.alloc (.cells #[.bool n1, s1] 29)) ∧
    (w.alloc (.cells #[.bool n1, s1] 29)).heap.size = w.heap.size + 1 :=
  ⟨Whole.new w _ _, (Below.refl _ _).alloc (Nat.le_refl _) _, by simp⟩

set_option maxHeartbeats 4000000 in
theorem int_any (z : Int) (w : World) (hz : -9223372036854775808 ≤ z ∧ z < 9223372036854775808) :
    Calls Try.prog 17 #[.int .i64 z] w (BigPost w z 5) := by
  obtain ⟨hR, hb1, hs1⟩ := one_new w false (.slice none 0 0)
  obtain ⟨w1, hw1⟩ : ∃ w1, w1 = w.alloc (.cells #[.bool false, .slice none 0 0] 29) := ⟨_, rfl⟩
  by_cases h0 : z < 0
  · obtain ⟨N, hN⟩ : ∃ N : Nat, z = -(N : Int) - 1 := ⟨(-z - 1).toNat, by omega⟩
    have hNl : N < 9223372036854775808 := by omega
    have Hw := Lib.hid fun i W hi => word_at N i W (by omega) hi
    have Hw1 := Lib.hid fun i W hi => word_at 1 i W (by omega) hi
    have HN := Lib.hid hN
    have Hww := Lib.hid hw1
    have HR := Lib.hid hR
    have Hb1 := Lib.hid hb1
    have hx1 : z + 1 = -(N : Int) := by omega
    have hx2 : wrap64 (z + 1) = -(N : Int) := by rw [IntWalk.wrap64_in _ ⟨by omega, by omega⟩]; omega
    clear hN hw1 hR hb1 hs1 hz
    go_enter Try.func17, Try.ntmps17
    go_wp2_with fail
    rw [← Hww.out] at HR Hb1 ⊢
    refine (Hw.out _ _ rfl).mono ?_
    rintro e W1 ⟨v, rfl, ⟨n', a2, c2, l', rfl, hrest⟩, hb2⟩
    have hI1 : IsBig W1 W1.heap.size (.agg #[.bool n', .slice a2 l'.length c2]) (N : Int) 4 := ⟨n', a2, c2, l', rfl, hrest⟩
    obtain ⟨hT, hbT, _⟩ := one_new W1 n' (.slice a2 l'.length c2)
    have hI2 := (hI1.keep hbT).more hbT.size (Nat.le_refl _)
    have HT0 := Lib.hid hT
    have HbT := Lib.hid hbT
    have t0 := hT.cell 0
    have t1 := hT.cell 1
    simp only [List.getElem?_toArray, List.getElem?_cons_zero, List.getElem?_cons_succ] at t0 t1
    have Hn := Lib.hid (neg_any _ _ _ _ hI2)
    have hR1 := HR.out.below hb2 HR.out.lt
    have HR1 := Lib.hid (hR1.below hbT hR1.lt)
    have HB2 := Lib.hid (below_then (below_then Hb1.out hb2 Hb1.out.size) hbT (Nat.le_trans Hb1.out.size hb2.size))
    clear hrest hI1 hI2 hbT hT hR1 hb2 hx1 hx2
    go_wp2_with fail
    refine Hn.out.mono ?_
    rintro e W2 ⟨v2, rfl, hI2, hb2⟩
    have HI2 := Lib.hid hI2
    have HR2 := Lib.hid (HR1.out.below hb2 HR1.out.lt)
    have HB3 := Lib.hid (below_then HB2.out hb2 HB2.out.size)
    clear hI2 hb2 t0 t1
    go_wp2_with fail
    refine (Hw1.out _ _ rfl).mono ?_
    rintro e W3 ⟨v3, rfl, hI3, hb3⟩
    have hs := sub_any v2 v3 (-(N : Int)) 1 4 4 4 W3 ((HI2.out.keep hb3).more hb3.size (Nat.le_refl _)) hI3 (Nat.le_refl _) (Nat.le_refl _) (by omega)
    rw [← HN.out] at hs
    have Hs := Lib.hid hs
    have HR3 := Lib.hid (HR2.out.below hb3 HR2.out.lt)
    have HB4 := Lib.hid (below_then HB3.out hb3 HB3.out.size)
    clear hs hI3 hb3
    go_wp2_with fail
    refine Hs.out.mono ?_
    rintro e W4 ⟨v4, rfl, ⟨n4, a4, c4, l4, rfl, hrest⟩, hb4⟩
    have hR4 := HR3.out.below hb4 HR3.out.lt
    have hI4 := Lib.hid (show IsBig W4 W4.heap.size (.agg #[.bool n4, .slice a4 l4.length c4]) _ _ from ⟨n4, a4, c4, l4, rfl, hrest⟩)
    have hB5 := below_then HB4.out hb4 HB4.out.size
    have r0 := hR4.cell 0
    have r1 := hR4.cell 1
    have f0 := hR4.frozen 0
    have f1 := hR4.frozen 1
    simp only [List.getElem?_toArray, List.getElem?_cons_zero, List.getElem?_cons_succ] at r0 r1
    clear hrest
    go_wp2_with fail
    obtain ⟨k1, k2⟩ := big_put hR4 hI4.out
    exact bodyPost_ret (results_cell_row rfl _ _ w.heap.size 29 _ (0, 0) _ rfl k2 Try.underlying29 rfl (by kernel_rfl)) rfl ⟨_, rfl, k1, (hB5.setCell (Nat.le_refl _) _).setCell (Nat.le_refl _) _⟩
  · obtain ⟨N, hN⟩ : ∃ N : Nat, z = (N : Int) := ⟨z.toNat, by omega⟩
    subst hN
    have hNl : N < 9223372036854775808 := by omega
    have Hw := Lib.hid fun i W hi => word_at N i W (by omega) hi
    have Hww := Lib.hid hw1
    have HR := Lib.hid hR
    have Hb1 := Lib.hid hb1
    clear hw1 hR hb1 hs1 hz h0
    go_enter Try.func17, Try.ntmps17
    go_wp2_with fail
    rw [← Hww.out] at HR Hb1 ⊢
    refine (Hw.out _ _ rfl).mono ?_
    rintro e W1 ⟨v, rfl, ⟨n', a2, c2, l', rfl, hrest⟩, hb2⟩
    have hI1 := Lib.hid (show IsBig W1 W1.heap.size (.agg #[.bool n', .slice a2 l'.length c2]) (N : Int) 4 from ⟨n', a2, c2, l', rfl, hrest⟩)
    have hR4 := HR.out.below hb2 HR.out.lt
    have hB5 := below_then Hb1.out hb2 Hb1.out.size
    have r0 := hR4.cell 0
    have r1 := hR4.cell 1
    have f0 := hR4.frozen 0
    have f1 := hR4.frozen 1
    simp only [List.getElem?_toArray, List.getElem?_cons_zero, List.getElem?_cons_succ] at r0 r1
    clear hrest
    go_wp2_with fail
    obtain ⟨k1, k2⟩ := big_put hR4 hI1.out
    exact bodyPost_ret (results_cell_row rfl _ _ w.heap.size 29 _ (0, 0) _ rfl k2 Try.underlying29 rfl (by kernel_rfl)) rfl ⟨_, rfl, k1.more (Nat.le_refl _) (by omega), (hB5.setCell (Nat.le_refl _) _).setCell (Nat.le_refl _) _⟩

/-- What the region of 'two' reads. -/
theorem box_of {W : World} {g : Nat} {b1 : Bool} {s1 : Value} (hA : Whole W g 29 #[.bool b1, s1]) : W.cell? ⟨g, 0, none⟩ = some (.bool b1) ∧ W.cell? ⟨g, 1, none⟩ = some s1 := ⟨hA.cell 0, hA.cell 1⟩

set_option maxHeartbeats 4000000 in
theorem two_any (hi lo : Nat) (w : World) (hh : hi < 18446744073709551616) (hl : lo < 18446744073709551616) :
    Calls Try.prog 12 #[.int .u64 (hi : Int), .int .u64 (lo : Int)] w (BigPost w ((hi : Int) * (4294967296 * 4294967296) + (lo : Int)) 13) := by
  obtain ⟨hR, hb1, hs1⟩ := one_new w false (.slice none 0 0)
  obtain ⟨w1, hw1⟩ : ∃ w1, w1 = w.alloc (.cells #[.bool false, .slice none 0 0] 29) := ⟨_, rfl⟩
  have Hk := Lib.hid fun i W hi => word_at 4294967296 i W (by omega) hi
  have Hh := Lib.hid fun W => word_any hi W hh
  have Hl := Lib.hid fun W => word_any lo W hl
  have Hww := Lib.hid hw1
  have HR := Lib.hid hR
  have Hb1 := Lib.hid hb1
  clear hw1 hR hb1 hs1 hh hl
  go_enter Try.func12, Try.ntmps12
  go_wp2_with fail
  rw [← Hww.out] at HR Hb1 ⊢
  refine (Hk.out _ _ rfl).mono ?_
  rintro e W1 ⟨v1, rfl, hI1, hb2⟩
  have HI1 := Lib.hid hI1
  have HR1 := Lib.hid (HR.out.below hb2 HR.out.lt)
  have HB1 := Lib.hid (below_then Hb1.out hb2 Hb1.out.size)
  clear hI1 hb2
  go_wp2_with fail
  refine (Hk.out _ _ rfl).mono ?_
  rintro e W2 ⟨v2, rfl, hI2, hb2⟩
  have Hm := Lib.hid (mul_any v1 v2 _ _ 4 4 W2 ((HI1.out.keep hb2).more hb2.size (Nat.le_refl _)) hI2 (by omega) (by omega))
  have HR2 := Lib.hid (HR1.out.below hb2 HR1.out.lt)
  have HB2 := Lib.hid (below_then HB1.out hb2 HB1.out.size)
  clear hI2 hb2
  go_wp2_with fail
  refine Hm.out.mono ?_
  rintro e W3 ⟨v, rfl, ⟨n', a2, c2, l', rfl, hrest⟩, hb2⟩
  have hI3 : IsBig W3 W3.heap.size (.agg #[.bool n', .slice a2 l'.length c2]) _ _ := ⟨n', a2, c2, l', rfl, hrest⟩
  obtain ⟨hT, hbT, _⟩ := one_new W3 n' (.slice a2 l'.length c2)
  have hI4 := (hI3.keep hbT).more hbT.size (Nat.le_refl _)
  have hR3 := HR2.out.below hb2 HR2.out.lt
  have HR4 := Lib.hid (hR3.below hbT hR3.lt)
  have HB4 := Lib.hid (below_then (below_then HB2.out hb2 HB2.out.size) hbT (Nat.le_trans HB2.out.size hb2.size))
  obtain ⟨G, hG⟩ : ∃ G, G = W3.heap.size := ⟨_, rfl⟩
  obtain ⟨W4, hW4⟩ : ∃ W4, W4 = W3.alloc (.cells #[.bool n', .slice a2 l'.length c2] 29) := ⟨_, rfl⟩
  go_wp2_with fail
  rw [← hW4] at hT hI4 HR4 HB4 ⊢
  rw [← hG] at hT ⊢
  have HI4 := Lib.hid hI4
  have hAdd : Hid (∀ W x y, IsBig W W.heap.size x ((hi : Int) * (4294967296 * 4294967296)) 12 → IsBig W W.heap.size y (lo : Int) 4 → Calls Try.prog 43 #[x, y] W (BigPost W ((hi : Int) * (4294967296 * 4294967296) + (lo : Int)) 13)) := fun W x y hx hy => add_any x y _ _ 12 4 12 W hx hy (by omega) (by omega) (by omega)
  have hGn : Hid (G ≠ w.heap.size) := by
    have := hR3.lt
    show G ≠ _
    omega
  clear hI3 hI4 hrest hb2 hW4 hbT hR3 hG
  go_region_held3 (fun W => W.cell? ⟨G, 0, none⟩ = some (.bool n') ∧ W.cell? ⟨G, 1, none⟩ = some (.slice a2 l'.length c2))
    (first | exact box_of hT.drew | exact box_of hT5 | exact box_of hT6 | exact box_of hT7 | exact box_of hT8 | exact box_of ((hT8.far hGn.out _).far hGn.out _))
    (first
      | (go_at_call 14; have _tk := HI4; refine (Hh.out _).mono ?_; rintro e W5 ⟨v5, rfl, hI5, hb5⟩; (have hT5 := hT.drew.below hb5 hT.lt); (have HR5 := Lib.hid (HR4.out.drew.below hb5 HR4.out.lt)); (have HB5 := Lib.hid (below_then HB4.out.drew hb5 HB4.out.size)); (have Hm5 := Lib.hid (mul_any v5 _ _ _ 4 8 W5 hI5 ((HI4.out.keep (below_then (Below.refl _ _).drew hb5 (Nat.le_refl _))).more hb5.size (Nat.le_refl _)) (by omega) (by omega))); clear HI4)
      | (go_at_call 13; refine Hm5.out.mono ?_; rintro e W6 ⟨v6, rfl, hI6, hb6⟩; (have hT6 := hT5.below hb6 hT5.lt); (have HR6 := Lib.hid (HR5.out.below hb6 HR5.out.lt)); (have HB6 := Lib.hid (below_then HB5.out hb6 HB5.out.size)))
      | (go_at_call 14; refine (Hl.out _).mono ?_; rintro e W7 ⟨v7, rfl, hI7, hb7⟩; (have hT7 := hT6.below hb7 hT6.lt); (have HR7 := Lib.hid (HR6.out.below hb7 HR6.out.lt)); (have HB7 := Lib.hid (below_then HB6.out hb7 HB6.out.size)))
      | (go_at_call 43; refine (hAdd.out _ _ _ ((hI6.keep hb7).more hb7.size (Nat.le_refl _)) hI7).mono ?_; rintro e W8 ⟨v8, rfl, ⟨n8, a8, c8, l8, rfl, hrest⟩, hb8⟩; (have hT8 := hT7.below hb8 hT7.lt); (have hR8 := HR7.out.below hb8 HR7.out.lt); (have HB8 := Lib.hid (below_then HB7.out hb8 HB7.out.size)); (have r0 := hR8.cell 0); (have r1 := hR8.cell 1); (have f0 := hR8.frozen 0); (have f1 := hR8.frozen 1); simp only [List.getElem?_toArray, List.getElem?_cons_zero, List.getElem?_cons_succ] at r0 r1))
  go_wp2_with fail
  have HI8 := Lib.hid (show IsBig W8 W8.heap.size (.agg #[.bool n8, .slice a8 l8.length c8]) _ _ from ⟨n8, a8, c8, l8, rfl, hrest⟩)
  obtain ⟨k1, k2⟩ := big_put hR8 HI8.out
  exact bodyPost_ret (results_cell_row rfl _ _ w.heap.size 29 _ (0, 0) _ rfl k2 Try.underlying29 rfl (by kernel_rfl)) rfl ⟨_, rfl, k1, (HB8.out.setCell (Nat.le_refl _) _).setCell (Nat.le_refl _) _⟩
end Go.Proofs.Ytcfkhgpcamfecaa
