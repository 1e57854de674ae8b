/- The reference's big numbers: Add, Sub, Cmp. -/
import Derived.Test.YtcfkhgpcamfecaaBigLess
import Derived.Test.YtcfkhgpcamfecaaBigSize
namespace Go.Proofs.Ytcfkhgpcamfecaa
open Go.RowKit Big
set_option linter.unusedVariables false
set_option maxRecDepth 100000

def bx (n : Bool) (s : Value) : Obj := .cells #[.bool n, s] 29
theorem boxes_of {W : World} {g : Nat} {b1 b2 : Bool} {s1 s2 : Value} (hA : Whole W g 29 #[.bool b1, s1]) (hB : Whole W (g + 1) 29 #[.bool b2, s2]) :
    W.cell? ⟨g, 0, none⟩ = some (.bool b1) ∧ W.cell? ⟨g, 1, none⟩ = some s1 ∧ W.cell? ⟨g + 1, 0, none⟩ = some (.bool b2) ∧ W.cell? ⟨g + 1, 1, none⟩ = some s2 :=
  ⟨hA.cell 0, hA.cell 1, hB.cell 0, hB.cell 1⟩
theorem boxes_put {W : World} {g : Nat} {b1 b2 : Bool} {s1 s2 : Value} (hA : Whole W g 29 #[.bool b1, s1]) (hB : Whole W (g + 1) 29 #[.bool b2, s2]) (u u' : Value) :
    ((W.setCell ⟨g + 2, 0, none⟩ u).setCell ⟨g + 2, 1, none⟩ u').cell? ⟨g, 0, none⟩ = some (.bool b1) ∧ ((W.setCell ⟨g + 2, 0, none⟩ u).setCell ⟨g + 2, 1, none⟩ u').cell? ⟨g, 1, none⟩ = some s1 ∧
    ((W.setCell ⟨g + 2, 0, none⟩ u).setCell ⟨g + 2, 1, none⟩ u').cell? ⟨g + 1, 0, none⟩ = some (.bool b2) ∧ ((W.setCell ⟨g + 2, 0, none⟩ u).setCell ⟨g + 2, 1, none⟩ u').cell? ⟨g + 1, 1, none⟩ = some s2 :=
  boxes_of ((hA.far (by simp) _).far (by simp) _) ((hB.far (by simp) _).far (by simp) _)
/-- Three blocks that the call has made. -/
theorem three_new (w : World) (n1 n2 : Bool) (s1 s2 : Value) :
    Whole (((w.alloc (.cells #[.bool n1, s1] 29)).alloc (.cells #[.bool n2, s2] 29)).alloc (.cells #[.bool false, .slice none 0 0] 29)) w.heap.size 29 #[.bool n1, s1] ∧
    Whole (((w.alloc (.cells #[.bool n1, s1] 29)).alloc (.cells #[.bool n2, s2] 29)).alloc (.cells #[.bool false, .slice none 0 0] 29)) (w.heap.size + 1) 29 #[.bool n2, s2] ∧
    Whole (((w.alloc (.cells #[.bool n1, s1] 29)).alloc (.cells #[.bool n2, s2] 29)).alloc (.cells #[.bool false, .slice none 0 0] 29)) (w.heap.size + 2) 29 #[.bool false, .slice none 0 0] ∧
    Below w.heap.size w (((w.alloc (.cells #[.bool n1, s1] 29)).alloc (.cells #[.bool n2, s2] 29)).alloc (.cells #[.bool false, .slice none 0 0] 29)) ∧
    (((w.alloc (.cells #[.bool n1, s1] 29)).alloc (.cells #[.bool n2, s2] 29)).alloc (.cells #[.bool false, .slice none 0 0] 29)).heap.size = w.heap.size + 3 := by
  refine ⟨((Whole.new w _ _).alloc _).alloc _, ?_, ?_, (((Below.refl _ _).alloc (Nat.le_refl _) _).alloc (by simp) _).alloc (by simp; omega) _, by simp⟩
  · have := (Whole.new (w.alloc (.cells #[.bool n1, s1] 29)) 29 #[.bool n2, s2]).alloc (.cells #[.bool false, .slice none 0 0] 29)
    simpa using this
  · have := Whole.new ((w.alloc (.cells #[.bool n1, s1] 29)).alloc (.cells #[.bool n2, s2] 29)) 29 #[.bool false, .slice none 0 0]
    simpa using this
theorem below_then {B : Nat} {w w1 W : World} (h : Below B w w1) (h2 : Below w1.heap.size w1 W) (hB : B ≤ w1.heap.size) : Below B w W := h.trans (h2.mono hB)
theorem sv_plus (n : Bool) (la lb l : List Nat) (h : val l = val la + val lb) : sv n l = sv n la + sv n lb := by
  unfold sv
  rw [h]
  cases n <;> simp <;> omega
theorem sv_less (n1 n2 : Bool) (la lb l : List Nat) (hn : n1 ≠ n2) (hle : val lb ≤ val la) (h : val l = val la - val lb) : sv n1 l = sv n1 la + sv n2 lb := by
  unfold sv
  rw [h]
  cases n1 <;> cases n2 <;> simp at hn ⊢ <;> omega

set_option maxHeartbeats 4000000 in
theorem add_same (n1 n2 : Bool) (a : Option Addr) (c : Nat) (la : List Nat) (a' : Option Addr) (c' : Nat) (lb : List Nat) (M : Nat) (w : World) (he : (n1 == n2) = true)
    (ha : Wd w w.heap.size a c la) (hb : Wd w w.heap.size a' c' lb) (hla : la.length ≤ M) (hlb : lb.length ≤ M) (hM : M ≤ 1000) :
    Calls Try.prog 43 #[.agg #[.bool n1, .slice a la.length c], .agg #[.bool n2, .slice a' lb.length c']] w (BigPost w (sv n1 la + sv n2 lb) (M + 1)) := by
  obtain ⟨hA, hB, hR, hb3, hs3⟩ := three_new w n1 n2 (.slice a la.length c) (.slice a' lb.length c')
  have a0 := hA.cell 0
  have a1 := hA.cell 1
  have b0 := hB.cell 0
  have b1 := hB.cell 1
  simp only [List.getElem?_toArray, List.getElem?_cons_zero, List.getElem?_cons_succ] at a0 a1 b0 b1
  obtain ⟨w3, hw3⟩ : ∃ w3, w3 = (((w.alloc (.cells #[.bool n1, .slice a la.length c] 29)).alloc (.cells #[.bool n2, .slice a' lb.length c'] 29)).alloc (.cells #[.bool false, .slice none 0 0] 29)) := ⟨_, rfl⟩
  have hplus := plus_any M a c la a' c' lb w3.drew (by rw [hw3]; exact (ha.keep hb3).more hb3.size) (by rw [hw3]; exact (hb.keep hb3).more hb3.size) hla hlb hM
  have Hplus := Lib.hid hplus
  have Hz : Hid (∀ O, val O = val la + val lb → sv n1 O = sv n1 la + sv n2 lb) := fun O h => by
    have : n1 = n2 := by simpa using he
    subst this
    exact sv_plus _ _ _ _ h
  have Hw3 := Lib.hid hw3
  have Hs3 := Lib.hid hs3
  clear hplus hw3 hs3 ha hb
  go_enter Try.func43, Try.ntmps43
  go_wp2_with fail
  rw [← Hw3.out] at hA hB hR hb3 a0 a1 b0 b1 Hs3 ⊢
  clear Hw3
  have hSS := Lib.hid (boxes_of hA.drew hB.drew)
  go_region_held3 (fun W => W.cell? ⟨w.heap.size, 0, none⟩ = some (.bool n1) ∧ W.cell? ⟨w.heap.size, 1, none⟩ = some (.slice a la.length c) ∧ W.cell? ⟨w.heap.size + 1, 0, none⟩ = some (.bool n2) ∧ W.cell? ⟨w.heap.size + 1, 1, none⟩ = some (.slice a' lb.length c'))
    (first | exact boxes_of hA.drew hB.drew | exact boxes_of hA1 hB1 | exact boxes_of hA2 hB2 | exact boxes_put hA2 hB2 _ _)
    (first
      | (go_at_call 61; refine Hplus.out.mono ?_; rintro e W1 ⟨a1, c1, O, rfl, hWd1, ⟨hv, hl⟩, hb1⟩; (have hA1 := hA.drew.below hb1 (by have := Hs3.out; simp; omega)); (have hB1 := hB.drew.below hb1 (by have := Hs3.out; simp; omega)); (have hR1 := hR.drew.below hb1 (by have := Hs3.out; simp; omega)))
      | (go_at_call 44; refine (made_any n1 a1 c1 (M + 1) O _ hWd1 hl).mono ?_; rintro e W2 ⟨v, rfl, ⟨n', a2, c2, l', rfl, hrest⟩, hb2⟩; (have hA2 := hA1.below hb2 hA1.lt); (have hB2 := hB1.below hb2 hB1.lt); (have hR2 := hR1.below hb2 hR1.lt); (have r0 := hR2.cell 0); (have r1 := hR2.cell 1); (have f0 := hR2.frozen 0); (have f1 := hR2.frozen 1); simp only [List.getElem?_toArray, List.getElem?_cons_zero, List.getElem?_cons_succ] at r0 r1))
  go_wp2_with fail
  obtain ⟨k1, k2⟩ := big_put hR2 ⟨n', a2, c2, l', rfl, hrest⟩
  rw [Hz.out O hv] at k1
  have hbW : Below w.heap.size w W2 := below_then (below_then hb3.drew hb1 hb3.size) hb2 (Nat.le_trans hb3.size hb1.size)
  exact bodyPost_ret (results_cell_row rfl _ _ (w.heap.size + 2) 29 _ (0, 0) _ rfl k2 Try.underlying29 rfl (by kernel_rfl)) rfl ⟨_, rfl, k1, (hbW.setCell (by simp; omega) _).setCell (by simp; omega) _⟩

set_option maxHeartbeats 4000000 in
theorem add_ge (n1 n2 : Bool) (a : Option Addr) (c : Nat) (la : List Nat) (a' : Option Addr) (c' : Nat) (lb : List Nat) (M : Nat) (w : World) (he : (n1 == n2) = false)
    (ha : Wd w w.heap.size a c la) (hb : Wd w w.heap.size a' c' lb) (na : Norm la) (nb : Norm lb) (hla : la.length ≤ M) (hlb : lb.length ≤ M) (hM : M ≤ 1000) (hle : val lb ≤ val la) :
    Calls Try.prog 43 #[.agg #[.bool n1, .slice a la.length c], .agg #[.bool n2, .slice a' lb.length c']] w (BigPost w (sv n1 la + sv n2 lb) (M + 1)) := by
  obtain ⟨hA, hB, hR, hb3, hs3⟩ := three_new w n1 n2 (.slice a la.length c) (.slice a' lb.length c')
  have a0 := hA.cell 0
  have a1 := hA.cell 1
  have b0 := hB.cell 0
  have b1 := hB.cell 1
  simp only [List.getElem?_toArray, List.getElem?_cons_zero, List.getElem?_cons_succ] at a0 a1 b0 b1
  obtain ⟨w3, hw3⟩ : ∃ w3, w3 = (((w.alloc (.cells #[.bool n1, .slice a la.length c] 29)).alloc (.cells #[.bool n2, .slice a' lb.length c'] 29)).alloc (.cells #[.bool false, .slice none 0 0] 29)) := ⟨_, rfl⟩
  have ha3 : Wd w3 w3.heap.size a c la := by rw [hw3]; exact (ha.keep hb3).more hb3.size
  have hb3' : Wd w3 w3.heap.size a' c' lb := by rw [hw3]; exact (hb.keep hb3).more hb3.size
  have hsz := size_any a c la a' c' lb w3 ha3 hb3' na nb
  have hlen : lb.length ≤ la.length := by
    refine Classical.byContradiction fun hn => ?_
    have := shorter_less na.1 nb (by omega)
    omega
  have Hless : Hid (∀ W, Below w3.heap.size w3 W → Calls Try.prog 63 #[.slice a la.length c, .slice a' lb.length c'] W (SlPost W fun O => val O = val la - val lb ∧ O.length = la.length)) := fun W h =>
    less_any a c la a' c' lb W ((ha3.keep h).more h.size) ((hb3'.keep h).more h.size) hlen (by omega) (by omega)
  have hR0 : 0 ≤ cmpN (val la) (val lb) := by
    unfold cmpN
    rw [if_neg (by omega)]; split <;> omega
  have Hsz := Lib.hid hsz
  have Hz : Hid (∀ O, val O = val la - val lb → sv n1 O = sv n1 la + sv n2 lb) := fun O h => by
    have : n1 ≠ n2 := by intro e; subst e; simp at he
    exact sv_less _ _ _ _ _ this (by omega) h
  have HlxM : Hid (la.length ≤ M) := hla
  have Hw3 := Lib.hid hw3
  have Hs3 := Lib.hid hs3
  generalize cmpN (val la) (val lb) = R at hR0 Hsz
  clear hw3 hs3 ha hb hsz ha3 hb3' hle hlen na nb hla hlb
  go_enter Try.func43, Try.ntmps43
  go_wp2_with fail
  rw [← Hw3.out] at hA hB hR hb3 a0 a1 b0 b1 Hs3 ⊢
  clear Hw3
  refine Hsz.out.mono ?_
  rintro e w4 ⟨rfl, hb4⟩
  have hlss := Lib.hid (Hless.out w4.drew hb4.drew)
  have hA4 := hA.below hb4 (by have := Hs3.out; omega)
  have hB4 := hB.below hb4 (by have := Hs3.out; omega)
  have hR4 := hR.below hb4 (by have := Hs3.out; omega)
  have hb5 := below_then hb3 hb4 hb3.size
  have a0' := hA4.cell 0
  have a1' := hA4.cell 1
  have b0' := hB4.cell 0
  have b1' := hB4.cell 1
  simp only [List.getElem?_toArray, List.getElem?_cons_zero, List.getElem?_cons_succ] at a0' a1' b0' b1'
  clear a0 a1 b0 b1
  go_wp2_with fail
  go_region_held3 (fun W => W.cell? ⟨w.heap.size, 0, none⟩ = some (.bool n1) ∧ W.cell? ⟨w.heap.size, 1, none⟩ = some (.slice a la.length c) ∧ W.cell? ⟨w.heap.size + 1, 0, none⟩ = some (.bool n2) ∧ W.cell? ⟨w.heap.size + 1, 1, none⟩ = some (.slice a' lb.length c'))
    (first | exact boxes_of hA4.drew hB4.drew | exact boxes_of hA1 hB1 | exact boxes_of hA2 hB2 | exact boxes_put hA2 hB2 _ _)
    (first
      | (go_at_call 63; refine hlss.out.mono ?_; rintro e W1 ⟨a1, c1, O, rfl, hWd1, ⟨hv, hl⟩, hb1⟩; (have hA1 := hA4.drew.below hb1 hA4.lt); (have hB1 := hB4.drew.below hb1 hB4.lt); (have hR1 := hR4.drew.below hb1 hR4.lt); (have Hv := Lib.hid hv); (have hl2 : O.length ≤ M + 1 := by have := HlxM.out; omega); (have Hl2 := Lib.hid hl2); clear hv hl hl2)
      | (go_at_call 44; refine (made_any n1 a1 c1 (M + 1) O _ hWd1 Hl2.out).mono ?_; rintro e W2 ⟨v, rfl, ⟨n', a2, c2, l', rfl, hrest⟩, hb2⟩; (have hA2 := hA1.below hb2 hA1.lt); (have hB2 := hB1.below hb2 hB1.lt); (have hR2 := hR1.below hb2 hR1.lt); (have r0 := hR2.cell 0); (have r1 := hR2.cell 1); (have f0 := hR2.frozen 0); (have f1 := hR2.frozen 1); simp only [List.getElem?_toArray, List.getElem?_cons_zero, List.getElem?_cons_succ] at r0 r1))
  go_wp2_with fail
  obtain ⟨k1, k2⟩ := big_put hR2 ⟨n', a2, c2, l', rfl, hrest⟩
  rw [Hz.out O Hv.out] at k1
  have hbW : Below w.heap.size w W2 := below_then (below_then hb5.drew hb1 hb5.size) hb2 (Nat.le_trans hb5.size hb1.size)
  exact bodyPost_ret (results_cell_row rfl _ _ (w.heap.size + 2) 29 _ (0, 0) _ rfl k2 Try.underlying29 rfl (by kernel_rfl)) rfl ⟨_, rfl, k1, (hbW.setCell (by simp; omega) _).setCell (by simp; omega) _⟩

set_option maxHeartbeats 4000000 in
theorem add_lt (n1 n2 : Bool) (a : Option Addr) (c : Nat) (la : List Nat) (a' : Option Addr) (c' : Nat) (lb : List Nat) (M : Nat) (w : World) (he : (n1 == n2) = false)
    (ha : Wd w w.heap.size a c la) (hb : Wd w w.heap.size a' c' lb) (na : Norm la) (nb : Norm lb) (hla : la.length ≤ M) (hlb : lb.length ≤ M) (hM : M ≤ 1000) (hle : val la < val lb) :
    Calls Try.prog 43 #[.agg #[.bool n1, .slice a la.length c], .agg #[.bool n2, .slice a' lb.length c']] w (BigPost w (sv n1 la + sv n2 lb) (M + 1)) := by
  obtain ⟨hA, hB, hR, hb3, hs3⟩ := three_new w n1 n2 (.slice a la.length c) (.slice a' lb.length c')
  have a0 := hA.cell 0
  have a1 := hA.cell 1
  have b0 := hB.cell 0
  have b1 := hB.cell 1
  simp only [List.getElem?_toArray, List.getElem?_cons_zero, List.getElem?_cons_succ] at a0 a1 b0 b1
  obtain ⟨w3, hw3⟩ : ∃ w3, w3 = (((w.alloc (.cells #[.bool n1, .slice a la.length c] 29)).alloc (.cells #[.bool n2, .slice a' lb.length c'] 29)).alloc (.cells #[.bool false, .slice none 0 0] 29)) := ⟨_, rfl⟩
  have ha3 : Wd w3 w3.heap.size a c la := by rw [hw3]; exact (ha.keep hb3).more hb3.size
  have hb3' : Wd w3 w3.heap.size a' c' lb := by rw [hw3]; exact (hb.keep hb3).more hb3.size
  have hsz := size_any a c la a' c' lb w3 ha3 hb3' na nb
  have hlen : la.length ≤ lb.length := by
    refine Classical.byContradiction fun hn => ?_
    have := shorter_less nb.1 na (by omega)
    omega
  have Hless : Hid (∀ W, Below w3.heap.size w3 W → Calls Try.prog 63 #[.slice a' lb.length c', .slice a la.length c] W (SlPost W fun O => val O = val lb - val la ∧ O.length = lb.length)) := fun W h =>
    less_any a' c' lb a c la W ((hb3'.keep h).more h.size) ((ha3.keep h).more h.size) hlen (by omega) (by omega)
  have hR0 : cmpN (val la) (val lb) < 0 := by
    unfold cmpN
    rw [if_pos hle]; omega
  have Hsz := Lib.hid hsz
  have Hz : Hid (∀ O, val O = val lb - val la → sv n2 O = sv n1 la + sv n2 lb) := fun O h => by
    have : n2 ≠ n1 := by intro e; subst e; simp at he
    rw [Int.add_comm]; exact sv_less _ _ _ _ _ this (by omega) h
  have HlxM : Hid (lb.length ≤ M) := hlb
  have Hw3 := Lib.hid hw3
  have Hs3 := Lib.hid hs3
  generalize cmpN (val la) (val lb) = R at hR0 Hsz
  clear hw3 hs3 ha hb hsz ha3 hb3' hle hlen na nb hla hlb
  go_enter Try.func43, Try.ntmps43
  go_wp2_with fail
  rw [← Hw3.out] at hA hB hR hb3 a0 a1 b0 b1 Hs3 ⊢
  clear Hw3
  refine Hsz.out.mono ?_
  rintro e w4 ⟨rfl, hb4⟩
  have hlss := Lib.hid (Hless.out w4.drew hb4.drew)
  have hA4 := hA.below hb4 (by have := Hs3.out; omega)
  have hB4 := hB.below hb4 (by have := Hs3.out; omega)
  have hR4 := hR.below hb4 (by have := Hs3.out; omega)
  have hb5 := below_then hb3 hb4 hb3.size
  have a0' := hA4.cell 0
  have a1' := hA4.cell 1
  have b0' := hB4.cell 0
  have b1' := hB4.cell 1
  simp only [List.getElem?_toArray, List.getElem?_cons_zero, List.getElem?_cons_succ] at a0' a1' b0' b1'
  clear a0 a1 b0 b1
  go_wp2_with fail
  go_region_held3 (fun W => W.cell? ⟨w.heap.size, 0, none⟩ = some (.bool n1) ∧ W.cell? ⟨w.heap.size, 1, none⟩ = some (.slice a la.length c) ∧ W.cell? ⟨w.heap.size + 1, 0, none⟩ = some (.bool n2) ∧ W.cell? ⟨w.heap.size + 1, 1, none⟩ = some (.slice a' lb.length c'))
    (first | exact boxes_of hA4.drew hB4.drew | exact boxes_of hA1 hB1 | exact boxes_of hA2 hB2 | exact boxes_put hA2 hB2 _ _)
    (first
      | (go_at_call 63; refine hlss.out.mono ?_; rintro e W1 ⟨a1, c1, O, rfl, hWd1, ⟨hv, hl⟩, hb1⟩; (have hA1 := hA4.drew.below hb1 hA4.lt); (have hB1 := hB4.drew.below hb1 hB4.lt); (have hR1 := hR4.drew.below hb1 hR4.lt); (have Hv := Lib.hid hv); (have hl2 : O.length ≤ M + 1 := by have := HlxM.out; omega); (have Hl2 := Lib.hid hl2); clear hv hl hl2)
      | (go_at_call 44; refine (made_any n2 a1 c1 (M + 1) O _ hWd1 Hl2.out).mono ?_; rintro e W2 ⟨v, rfl, ⟨n', a2, c2, l', rfl, hrest⟩, hb2⟩; (have hA2 := hA1.below hb2 hA1.lt); (have hB2 := hB1.below hb2 hB1.lt); (have hR2 := hR1.below hb2 hR1.lt); (have r0 := hR2.cell 0); (have r1 := hR2.cell 1); (have f0 := hR2.frozen 0); (have f1 := hR2.frozen 1); simp only [List.getElem?_toArray, List.getElem?_cons_zero, List.getElem?_cons_succ] at r0 r1))
  go_wp2_with fail
  obtain ⟨k1, k2⟩ := big_put hR2 ⟨n', a2, c2, l', rfl, hrest⟩
  rw [Hz.out O Hv.out] at k1
  have hbW : Below w.heap.size w W2 := below_then (below_then hb5.drew hb1 hb5.size) hb2 (Nat.le_trans hb5.size hb1.size)
  exact bodyPost_ret (results_cell_row rfl _ _ (w.heap.size + 2) 29 _ (0, 0) _ rfl k2 Try.underlying29 rfl (by kernel_rfl)) rfl ⟨_, rfl, k1, (hbW.setCell (by simp; omega) _).setCell (by simp; omega) _⟩

theorem add_any (v1 v2 : Value) (z1 z2 : Int) (k1 k2 M : Nat) (w : World) (h1 : IsBig w w.heap.size v1 z1 k1) (h2 : IsBig w w.heap.size v2 z2 k2) (hk1 : k1 ≤ M) (hk2 : k2 ≤ M) (hM : M ≤ 1000) :
    Calls Try.prog 43 #[v1, v2] w (BigPost w (z1 + z2) (M + 1)) := by
  obtain ⟨n1, a, c, la, rfl, ha, na, hla, rfl, _⟩ := h1
  obtain ⟨n2, a', c', lb, rfl, hb, nb, hlb, rfl, _⟩ := h2
  by_cases he : (n1 == n2) = true
  · exact add_same n1 n2 a c la a' c' lb M w he ha hb (by omega) (by omega) hM
  · have he' : (n1 == n2) = false := by simpa using he
    by_cases hv : val lb ≤ val la
    · exact add_ge n1 n2 a c la a' c' lb M w he' ha hb na nb (by omega) (by omega) hM hv
    · exact add_lt n1 n2 a c la a' c' lb M w he' ha hb na nb (by omega) (by omega) hM (by omega)
end Go.Proofs.Ytcfkhgpcamfecaa
