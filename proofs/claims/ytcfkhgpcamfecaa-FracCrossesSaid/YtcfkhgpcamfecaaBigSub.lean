/- The reference's big numbers: Sub, Cmp. -/
import Derived.Test.YtcfkhgpcamfecaaBigAdd
namespace Go.Proofs.Ytcfkhgpcamfecaa
open Go.RowKit Big
set_option linter.unusedVariables false
set_option maxRecDepth 100000

set_option maxHeartbeats 4000000 in
theorem sub_any (v1 v2 : Value) (z1 z2 : Int) (k1 k2 M : Nat) (w : World) (h1 : IsBig w w.heap.size v1 z1 k1) (h2 : IsBig w w.heap.size v2 z2 k2) (hk1 : k1 ≤ M) (hk2 : k2 ≤ M) (hM : M ≤ 1000) :
    Calls Try.prog 21 #[v1, v2] w (BigPost w (z1 - z2) (M + 1)) := by
  have h1' := h1
  have h2' := h2
  obtain ⟨n1, a, c, la, rfl, -⟩ := h1
  obtain ⟨n2, a', c', lb, rfl, -⟩ := h2
  obtain ⟨hA, hB, hR, hb3, hs3⟩ := three_new w n1 n2 (.slice a la.length c) (.slice a' lb.length c')
  obtain ⟨w3, hw3⟩ : ∃ w3, w3 = (((w.alloc (.cells #[.bool n1, .slice a la.length c] 29)).alloc (.cells #[.bool n2, .slice a' lb.length c'] 29)).alloc (.cells #[.bool false, .slice none 0 0] 29)) := ⟨_, rfl⟩
  have hn := neg_any _ z2 M w3.drew (by rw [hw3]; exact (h2'.keep hb3).more hb3.size hk2)
  have Hn := Lib.hid hn
  have Hadd : Hid (∀ W v, Below w3.heap.size w3 W → IsBig W W.heap.size v (-z2) M → Calls Try.prog 43 #[.agg #[.bool n1, .slice a la.length c], v] W (BigPost W (z1 - z2) (M + 1))) := fun W v h hv => by
    have := add_any _ v z1 (-z2) M M M W ((h1'.keep (below_then hb3 (by rw [← hw3]; exact h) hb3.size)).more (Nat.le_trans hb3.size (by rw [← hw3]; exact h.size)) hk1) hv (Nat.le_refl _) (Nat.le_refl _) hM
    rwa [← Int.sub_eq_add_neg] at this
  have Hw3 := Lib.hid hw3
  have Hs3 := Lib.hid hs3
  clear hn hw3 hs3 h1' h2'
  go_enter Try.func21, Try.ntmps21
  go_wp2_with fail
  rw [← Hw3.out] at hA hB hR hb3 Hs3 ⊢
  clear Hw3
  go_region_held3 (fun W => W.cell? ⟨w.heap.size, 0, none⟩ = some (.bool n1) ∧ W.cell? ⟨w.heap.size, 1, none⟩ = some (.slice a la.length c) ∧ W.cell? ⟨w.heap.size + 1, 0, none⟩ = some (.bool n2) ∧ W.cell? ⟨w.heap.size + 1, 1, none⟩ = some (.slice a' lb.length c'))
    (first | exact boxes_of hA.drew hB.drew | exact boxes_of hA1 hB1 | exact boxes_of hA2 hB2 | exact boxes_put hA2 hB2 _ _)
    (first
      | (go_at_call 24; refine Hn.out.mono ?_; rintro e W1 ⟨v', rfl, hI1, hb1⟩; (have hA1 := hA.drew.below hb1 hA.lt); (have hB1 := hB.drew.below hb1 hB.lt); (have hR1 := hR.drew.below hb1 hR.lt); (have HI1 := Lib.hid hI1); clear hI1)
      | (go_at_call 43; refine (Hadd.out _ _ (below_then (Below.refl _ _).drew hb1 (Nat.le_refl _)) HI1.out).mono ?_; rintro e W2 ⟨v, rfl, ⟨n', a2, c2, l', rfl, hrest⟩, hb2⟩; (have hA2 := hA1.below hb2 hA1.lt); (have hB2 := hB1.below hb2 hB1.lt); (have hR2 := hR1.below hb2 hR1.lt); (have r0 := hR2.cell 0); (have r1 := hR2.cell 1); (have f0 := hR2.frozen 0); (have f1 := hR2.frozen 1); simp only [List.getElem?_toArray, List.getElem?_cons_zero, List.getElem?_cons_succ] at r0 r1))
  go_wp2_with fail
  obtain ⟨k1, k2⟩ := big_put hR2 ⟨n', a2, c2, l', rfl, hrest⟩
  have hbW : Below w.heap.size w W2 := below_then (below_then hb3.drew hb1 hb3.size) hb2 (Nat.le_trans hb3.size hb1.size)
  exact bodyPost_ret (results_cell_row rfl _ _ (w.heap.size + 2) 29 _ (0, 0) _ rfl k2 Try.underlying29 rfl (by kernel_rfl)) rfl ⟨_, rfl, k1, (hbW.setCell (by simp; omega) _).setCell (by simp; omega) _⟩

theorem two_new (w : World) (n1 n2 : Bool) (s1 s2 : Value) :
    Whole ((w.alloc (.cells #[.bool n1, s1] 29)).alloc (.cells #[.bool n2, s2] 29)) w.heap.size 29 #[.bool n1, s1] ∧
    Whole ((w.alloc (.cells #[.bool n1, s1] 29)).alloc (.cells #[.bool n2, s2] 29)) (w.heap.size + 1) 29 #[.bool n2, s2] ∧
    Below w.heap.size w ((w.alloc (.cells #[.bool n1, s1] 29)).alloc (.cells #[.bool n2, s2] 29)) := by
  refine ⟨(Whole.new w _ _).alloc _, ?_, ((Below.refl _ _).alloc (Nat.le_refl _) _).alloc (by simp) _⟩
  have := Whole.new (w.alloc (.cells #[.bool n1, s1] 29)) 29 #[.bool n2, s2]
  simpa using this

set_option maxHeartbeats 4000000 in
theorem cmp_any (v1 v2 : Value) (z1 z2 : Int) (k1 k2 M : Nat) (w : World) (h1 : IsBig w w.heap.size v1 z1 k1) (h2 : IsBig w w.heap.size v2 z2 k2) (hk1 : k1 ≤ M) (hk2 : k2 ≤ M) (hM : M ≤ 1000) :
    Calls Try.prog 11 #[v1, v2] w fun e w' => e = .returned (.int .i64 (signI (z1 - z2))) ∧ Below w.heap.size w w' := by
  have h1' := h1
  have h2' := h2
  obtain ⟨n1, a, c, la, rfl, -⟩ := h1
  obtain ⟨n2, a', c', lb, rfl, -⟩ := h2
  obtain ⟨hA, hB, hb3⟩ := two_new w n1 n2 (.slice a la.length c) (.slice a' lb.length c')
  have a0 := hA.cell 0
  have a1 := hA.cell 1
  have b0 := hB.cell 0
  have b1 := hB.cell 1
  simp only [List.getElem?_toArray, List.getElem?_cons_zero, List.getElem?_cons_succ] at a0 a1 b0 b1
  have hs := sub_any _ _ z1 z2 k1 k2 M _ ((h1'.keep hb3).more hb3.size (Nat.le_refl _)) ((h2'.keep hb3).more hb3.size (Nat.le_refl _)) hk1 hk2 hM
  have Hs := Lib.hid hs
  have Hb := Lib.hid hb3
  clear hs h1' h2' hA hB hb3
  go_enter Try.func11, Try.ntmps11
  go_wp2_with fail
  refine Hs.out.mono ?_
  rintro e W ⟨v, rfl, hI, hb⟩
  have Hsg := Lib.hid (sign_any v _ _ W hI)
  have Hb2 := Lib.hid (below_then Hb.out hb Hb.out.size)
  clear hI hb
  go_wp2_with fail
  refine Hsg.out.mono ?_
  rintro e W2 ⟨rfl, hb⟩
  go_wp2_with fail
  go_ret
  exact ⟨rfl, below_then Hb2.out hb Hb2.out.size⟩
end Go.Proofs.Ytcfkhgpcamfecaa
