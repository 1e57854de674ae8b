/- Walks over layer 27: Area. -/
import Derived.RangeFuncNested
import Derived.RangeFuncBound
import Derived.RangeFuncBox
import Derived.RangeFuncCalls
import Derived.RangeFuncLeaves
import Derived.Shelf.Abstract
import Derived.WalkKit
import Derived.OwnWalkIn
import Derived.TacticsInMore
import Derived.LoopNIn
import Derived.LoopIn
import Derived.BigRegionIn
import Derived.IntWalk
import Derived.Test.YtlmnmilefggmpaaWind2
namespace Go.Proofs.Ytlmnmilefggmpaa
open Go.RowKit Go.Shelf
set_option linter.unusedVariables false
set_option maxRecDepth 100000
attribute [local go_sem] Oper.semAt_some

theorem edges_in (F : Fence) (n : Nat) (h5 : F.fn 16) (hro : F.round = none) (a : Option Addr) (len cap : Nat) (w : World) :
    CallsIn F n Try.prog 16 #[.slice a len cap] w fun e w' => e = .returned (.func (.func 23) #[] #[.pointer (some ⟨w.heap.size, 0, none⟩)]) ∧ w' = w.alloc (.cells #[.slice a len cap] 22) := by
  refine callsIn_of_wp Try.func16 rfl h5 ?_ hro
  simp only [Try.ntmps16, List.size_toArray, List.length_cons, List.length_nil, Nat.reduceAdd, Nat.reduceSub, Array.replicate_succ, Array.replicate_zero, List.push_toArray, List.append_toArray, List.nil_append, List.cons_append]
  gi_wp2
  go_ret
  exact ⟨rfl, rfl⟩


theorem box_kept {B : Nat} {A C : World} {b : Nat} {t : TypeId} {v : Value} {row : Option Nat} (h : Boxed A b t v) (hg : A.grownBy C row) (hr : ∀ r, row = some r → B ≤ r ∧ ∃ o : Obj, A.heap[r]? = some o ∧ o.isCells = false) : Boxed C b t v := by
  have hb := h.lt
  have : C.heap[b]? = A.heap[b]? := hg.block b hb (fun e => by
    obtain ⟨_, o, ho, hn⟩ := hr b e.symm
    rw [show A.heap[b]? = _ from h] at ho
    injection ho with ho
    subst ho
    cases hn)
  show C.heap[b]? = _
  rw [this]; exact h
theorem whole_kept {B : Nat} {A C : World} {b : Nat} {t : TypeId} {cs : Array Value} {row : Option Nat} (h : Whole A b t cs) (hg : A.grownBy C row) (hr : ∀ r, row = some r → B ≤ r ∧ ∃ o : Obj, A.heap[r]? = some o ∧ o.isCells = false) : Whole C b t cs := by
  have hb := h.lt
  have : C.heap[b]? = A.heap[b]? := hg.block b hb (fun e => by
    obtain ⟨_, o, ho, hn⟩ := hr b e.symm
    rw [show A.heap[b]? = _ from h] at ho
    injection ho with ho
    subst ho
    cases hn)
  show C.heap[b]? = _
  rw [this]; exact h
def areaI (w : World) (n0 : Nat) (pre : List Ed) (W : World) : Prop := (Boxed W n0 3 (.int .i64 (sumC pre)) ∧ n0 + 1 < W.heap.size) ∧ Below w.heap.size w W
set_option maxHeartbeats 4000000 in
theorem area_go (v : Value) (l : List P2) (w : World) (h : RdP w w.heap.size v l) (hok : okR l = true) :
    CallsIn Fence.wide 9 Try.prog 7 #[v] w fun e w' => e = .returned (.tuple #[.int .i64 (area l), .bool true]) ∧ Below w.heap.size w w' := by
  have hL := (okR_all hok).2
  have Hb := Lib.hid (bounded_any v l w h (by omega) true hok)
  have Hok := Lib.hid hok
  obtain ⟨a, c, rfl, _, _, ha⟩ := h
  have HA := Lib.hid ha
  obtain ⟨L, hLl⟩ : ∃ L, L = l.length := ⟨_, rfl⟩
  have HL := Lib.hid hLl
  rw [← hLl] at hL Hb ⊢
  clear ha hok hLl
  refine callsIn_of_wp_marks Try.func7 rfl trivial ?_ rfl
  simp only [Try.ntmps7, List.size_toArray, List.length_cons, List.length_nil, Nat.reduceAdd, Nat.reduceSub, Array.replicate_succ, Array.replicate_zero, List.push_toArray, List.append_toArray, List.nil_append, List.cons_append]
  gi_wp2_with fail
  refine ⟨trivial, ?_⟩
  refine (callsIn_wide.2 Hb.out).mono ?_
  rintro e X ⟨rfl, hX⟩
  have HX := Lib.hid hX
  clear hX
  gi_wp2_with fail
  refine ⟨trivial, ?_⟩
  refine (edges_in _ _ trivial rfl _ _ _ _).mono ?_
  rintro e w' ⟨rfl, rfl⟩
  gi_wp2
  obtain ⟨n0, hn0⟩ : ∃ k, k = X.heap.size := ⟨_, rfl⟩
  obtain ⟨W0, hW0⟩ : ∃ W0, W0 = (X.alloc (.cells #[.int .i64 0] 3)).alloc (.cells #[.slice a L c] 22) := ⟨_, rfl⟩
  have bS : Boxed W0 n0 3 (.int .i64 0) := by rw [hW0, hn0]; exact (Boxed.new X _ _).alloc _
  have bN : Boxed W0 (n0 + 1) 22 (.slice a L c) := by
    rw [hW0, hn0]
    have := Boxed.new (X.alloc (.cells #[.int .i64 0] 3)) 22 (.slice a L c)
    rwa [World.size_alloc] at this
  have hB0 : Below w.heap.size w W0 := by rw [hW0]; exact ((HX.out).alloc HX.out.size _).alloc (by simp; have := HX.out.size; omega) _
  have hsz : W0.heap.size = n0 + 2 := by rw [hW0, hn0]; simp
  have hwn : w.heap.size ≤ n0 := by rw [hn0]; exact HX.out.size
  rw [← hW0, ← hn0]
  clear hW0 hn0
  have HS := edges_stops (9 - 1) (by omega) (n0 + 1) w.heap.size a c l Hok.out W0 (by omega) (by omega) (by rw [← HL.out]; exact bN.cell) (HA.out.below hB0)
  refine wpIn_rangeFunc_ownH rfl (by omega) (gf := 23) (lb := #[.pointer (some ⟨n0 + 1, 0, none⟩)]) rfl trivial (enters_of Try.func23 (by kernel_rfl) rfl)
    HS (fun h k => kb_trans h k) (fun W l o o' hl ho hc hw => ?kb) (Below.refl _ _) (fun _ => rfl)
    (areaI w n0) (fun _ _ _ => False) ?hI (fun _ _ _ _ _ h _ _ => h) ⟨⟨bS, by omega⟩, hB0⟩
    (fun x a' W => ∃ Bp Bq, n0 + 1 < Bp ∧ n0 + 1 < Bq ∧ Whole W Bp 25 #[.int .i64 x.1.1.1, .int .i64 x.1.1.2] ∧ Whole W Bq 25 #[.int .i64 x.1.2.1, .int .i64 x.1.2.2] ∧
      a' = { tmps := #[.slice a L c, undef, .int .i64 0, .bool false, .pointer (some ⟨n0, 0, none⟩), .pointer (some ⟨Bp, 0, none⟩), .pointer (some ⟨Bq, 0, none⟩), .slice a L c, .bool true, .bool false, .slice a L c, .func (.func 23) #[] #[.pointer (some ⟨n0 + 1, 0, none⟩)], ptv x.1.1, ptv x.1.2, undef, undef, undef, undef, undef, undef, undef, undef, undef, undef, undef, undef, undef, undef], defers := [] })
    ?hAx ?assign ?body ?done ?stop
  case kb => exact ⟨belowK_b (w := W0) (by omega) W l o o' hl ho hc hw, World.putObj_heap_other (by omega)⟩
  case hI => exact fun s A C row hs hg hr => ⟨⟨box_kept hs.1.1 hg hr, Nat.lt_of_lt_of_le hs.1.2 hg.size⟩, hs.2.grown hg hs.2.size (fun k hk => by have := (hr k hk).1; omega)⟩
  case hAx => exact fun x a' s A C row ⟨Bp, Bq, h1, h2, h3, h4, h5⟩ hg hr => ⟨Bp, Bq, h1, h2, whole_kept h3 hg hr, whole_kept h4 hg hr, h5⟩
  case assign =>
    rintro l pre x W K hi hK
    have Hi := Lib.hid hi
    have HK := Lib.hid hK
    clear hi hK
    unfold ptv
    gi_wp2
    have hn := Hi.out.1.2
    refine HK.out _ _ (((KeepsOthers.alloc _ _).trans (KeepsOthers.alloc _ _)).from _) (kb_below (((Below.refl _ _).alloc (Nat.le_refl _) _).alloc (by simp) _) (by have := Hi.out.2.size; omega) hn)
      ⟨⟨(Hi.out.1.1.alloc _).alloc _, by simp; omega⟩, (Hi.out.2.alloc Hi.out.2.size _).alloc (by have := Hi.out.2.size; simp; omega) _⟩ ⟨W.heap.size, W.heap.size + 1, hn, by omega, (Whole.new W _ _).alloc _, ?_, rfl⟩
    have := Whole.new (W.alloc (.cells #[.int .i64 x.1.1.1, .int .i64 x.1.1.2] 25)) 25 #[.int .i64 x.1.2.1, .int .i64 x.1.2.2]
    rwa [World.size_alloc] at this
  case body =>
    rintro lp pre x a' W hl ⟨r, hr⟩ hi ⟨Bp, Bq, hBp, hBq, wP, wQ, rfl⟩ hlt
    have Hi := Lib.hid hi
    have HP := Lib.hid wP
    have HQ := Lib.hid wQ
    have c0 := hi.1.1.cell
    have f0 := hi.1.1.frozen
    have p0 := wP.cell 0
    have p1 := wP.cell 1
    have q0 := wQ.cell 0
    have q1 := wQ.cell 1
    simp only [List.getElem?_toArray, List.getElem?_cons_zero, List.getElem?_cons_succ] at p0 p1 q0 q1
    have hs := sumC_in pre
    have hL2 : l.length ≤ 262144 := by have := HL.out; omega
    have m1 := x.mul1
    have m2 := x.mul2
    have hsn := sumC_snoc pre x
    have hcr : x.cr = x.1.1.1 * x.1.2.2 - x.1.2.1 * x.1.1.2 := rfl
    rw [hcr] at hsn
    obtain ⟨px, hpx⟩ : ∃ z, x.1.1.1 = z := ⟨_, rfl⟩
    obtain ⟨py, hpy⟩ : ∃ z, x.1.1.2 = z := ⟨_, rfl⟩
    obtain ⟨qx, hqx⟩ : ∃ z, x.1.2.1 = z := ⟨_, rfl⟩
    obtain ⟨qy, hqy⟩ : ∃ z, x.1.2.2 = z := ⟨_, rfl⟩
    rw [hpx] at p0 m1 hsn
    rw [hpy] at p1 m2 hsn
    rw [hqx] at q0 m2 hsn
    rw [hqy] at q1 m1 hsn
    obtain ⟨A1, hA1⟩ : ∃ z, px * qy = z := ⟨_, rfl⟩
    obtain ⟨A2, hA2⟩ : ∃ z, qx * py = z := ⟨_, rfl⟩
    obtain ⟨s, hse⟩ : ∃ z, sumC pre = z := ⟨_, rfl⟩
    rw [hA1] at m1 hsn
    rw [hA2] at m2 hsn
    rw [hse] at c0 hs hsn
    have w1 : wrap64 (px * qy) = A1 := by rw [hA1]; exact IntWalk.wrap64_in _ ⟨by omega, by omega⟩
    have w2 : wrap64 (qx * py) = A2 := by rw [hA2]; exact IntWalk.wrap64_in _ ⟨by omega, by omega⟩
    obtain ⟨D, hD⟩ : ∃ z, A1 - A2 = z := ⟨_, rfl⟩
    obtain ⟨T, hT⟩ : ∃ z, s + D = z := ⟨_, rfl⟩
    have w3 : wrap64 (A1 - A2) = D := by rw [hD]; exact IntWalk.wrap64_in _ ⟨by omega, by omega⟩
    have w4 : wrap64 (s + D) = T := by rw [hT]; exact IntWalk.wrap64_in _ ⟨by omega, by omega⟩
    have hTe : Hid (sumC (pre ++ [x]) = T) := by show _ = _; rw [hsn]; omega
    unfold ptv
    rw [hpx, hpy, hqx, hqy]
    clear hi wP wQ hs m1 m2 hsn hcr hpx hpy hqx hqy hA1 hA2 hD hT hse hlt hr
    gi_wp2
    refine ⟨(KeepsOthers.setCell _ _ _).from _, ⟨(Below.refl _ _).setCell (p := ⟨n0, 0, none⟩) hwn _, Below.heap_setCell W ⟨n0, 0, none⟩ _ (n0 + 1) (by show n0 + 1 ≠ n0; omega)⟩, ⟨?_, by simpa [World.setCell] using Hi.out.1.2⟩, Hi.out.2.setCell (p := ⟨n0, 0, none⟩) hwn _⟩
    rw [hTe.out]
    exact Hi.out.1.1.set _
  case done =>
    rintro D ys W hD rfl ⟨⟨hb, _⟩, hB⟩ hK
    have hc := hb.cell
    rw [area_sum Hok.out] at hc
    have HBf := Lib.hid hB
    have HKf := Lib.hid hK
    clear hb hB hK
    gi_wp2
    refine ⟨by simp, .inl ⟨_, _, rfl, run_takeDeferred HKf.out, ?_⟩⟩
    refine ⟨.tuple #[.int .i64 (area l), .bool true], ?_, rfl, ?_⟩
    · simp [results, Try.f7, Try.results7, go_sem]
    · exact HBf.out.trans (belowK_b (w := w) (Nat.le_refl _) W D _ _ (by omega) HKf.out rfl rfl)
  case stop =>
    rintro D c' pre W _ _ h _
    exact h.elim
end Go.Proofs.Ytlmnmilefggmpaa
