/- Walks over layer 27: Around. -/
import Derived.Test.YtlmnmilefggmpaaWind3
import Derived.Test.YtlmnmilefggmpaaWind5
namespace Go.Proofs.Ytlmnmilefggmpaa
open Go.RowKit Go.Shelf
set_option linter.unusedVariables false
set_option maxRecDepth 100000
attribute [local go_sem] Oper.semAt_some

def sumS (p : P2) : List Ed → Int
  | [] => 0
  | e :: l => stp e.1.1 e.1.2 p + sumS p l
theorem sumS_snoc (p : P2) : ∀ (l : List Ed) (e : Ed), sumS p (l ++ [e]) = sumS p l + stp e.1.1 e.1.2 p
  | [], e => by simp [sumS]
  | a :: l, e => by
    have := sumS_snoc p l e
    simp only [List.cons_append, sumS, this]
    omega
theorem sumS_in (p : P2) : ∀ (l : List Ed), -(l.length : Int) ≤ sumS p l ∧ sumS p l ≤ l.length
  | [] => by simp [sumS]
  | e :: l => by
    have h1 := sumS_in p l
    have h2 := stp_in e.1.1 e.1.2 p
    simp only [sumS, List.length_cons]
    omega
theorem sumS_upto {l : List P2} (h : okR l = true) (p : P2) : ∀ k, sumS p (upto (ed h) k) = windTo l p k
  | 0 => rfl
  | k + 1 => by rw [upto_succ, sumS_snoc, sumS_upto h p k]; rfl
def onL (p : P2) (pre : List Ed) : Bool := pre.any fun e => onE e.1.1 e.1.2 p
theorem onL_snoc (p : P2) (pre : List Ed) (e : Ed) : onL p (pre ++ [e]) = (onL p pre || onE e.1.1 e.1.2 p) := by simp [onL]
theorem onL_upto {l : List P2} (h : okR l = true) (p : P2) : ∀ k, onL p (upto (ed h) k) = onTo l p k
  | 0 => rfl
  | k + 1 => by rw [upto_succ, onL_snoc, onL_upto h p k, onTo_succ]; rfl
/-- Between two rounds. -/
def aroB (w : World) (np n0 n1 : Nat) (p : P2) (v : Int) (W : World) : Prop := (Whole W np 25 #[.int .i64 p.1, .int .i64 p.2] ∧ Boxed W n0 3 (.int .i64 v) ∧ Boxed W n1 4 (.bool false)) ∧ Below w.heap.size w W
def aroI (w : World) (np n0 n1 nb : Nat) (p : P2) (pre : List Ed) (W : World) : Prop := (aroB w np n0 n1 p (sumS p pre) W ∧ nb < W.heap.size) ∧ onL p pre = false
def aroX (w : World) (np n0 n1 : Nat) (p : P2) (c : Code) (pre : List Ed) (W : World) : Prop := (aroB w np n0 n1 p 0 W) ∧ c = .ret ∧ onL p pre = true
theorem aroB_kept {w : World} {np n0 n1 : Nat} {p : P2} {v : Int} {A C : World} {row : Option Nat} {B : Nat} (h : aroB w np n0 n1 p v A) (hg : A.grownBy C row) (hr : ∀ r, row = some r → B ≤ r ∧ ∃ o : Obj, A.heap[r]? = some o ∧ o.isCells = false) (hB : w.heap.size ≤ B) : aroB w np n0 n1 p v C :=
  ⟨⟨whole_kept h.1.1 hg hr, box_kept h.1.2.1 hg hr, box_kept h.1.2.2 hg hr⟩, h.2.grown hg h.2.size (fun k hk => by have := (hr k hk).1; omega)⟩
theorem aroB.below {w : World} {np n0 n1 : Nat} {p : P2} {v : Int} {A C : World} (h : aroB w np n0 n1 p v A) (hb : Below A.heap.size A C) : aroB w np n0 n1 p v C :=
  ⟨⟨h.1.1.below hb h.1.1.lt, (hb.block _ h.1.2.1.lt).trans h.1.2.1, (hb.block _ h.1.2.2.lt).trans h.1.2.2⟩, h.2.trans (hb.mono h.2.size)⟩
theorem aroB.set {w : World} {np n0 n1 : Nat} {p : P2} {v : Int} {A : World} (h : aroB w np n0 n1 p v A) (hp : np ≠ n0) (h1 : n1 ≠ n0) (hw : w.heap.size ≤ n0) (u : Int) : aroB w np n0 n1 p u (A.setCell ⟨n0, 0, none⟩ (.int .i64 u)) :=
  ⟨⟨h.1.1.far (p := ⟨n0, 0, none⟩) hp _, h.1.2.1.set _, h.1.2.2.other h1 _⟩, h.2.setCell (p := ⟨n0, 0, none⟩) hw _⟩
theorem aroB.setF {w : World} {np n0 n1 : Nat} {p : P2} {v : Int} {A : World} (h : aroB w np n0 n1 p v A) (hp : np ≠ n1) (h1 : n0 ≠ n1) (hw : w.heap.size ≤ n1) : aroB w np n0 n1 p v (A.setCell ⟨n1, 0, none⟩ (.bool false)) :=
  ⟨⟨h.1.1.far (p := ⟨n1, 0, none⟩) hp _, h.1.2.1.other h1 _, h.1.2.2.set _⟩, h.2.setCell (p := ⟨n1, 0, none⟩) hw _⟩
theorem keeps_of_below {A C : World} (h : Below A.heap.size A C) : KeepsOthers A C := ⟨h.size, fun j o hj _ => (h.block j (Array.getElem?_eq_some_iff.1 hj).1).trans hj⟩
theorem aro_end {w W : World} {n0 n1 D : Nat} {N : Int} {t : Bool} {l : List P2} {p : P2} {tm : Array Value} (h0 : Boxed W n0 3 (.int .i64 N)) (h1 : Boxed W n1 4 (.bool t)) (hB : Below w.heap.size w W) (hK : W.heap[D]? = some (.deferred (some []))) (hD : w.heap.size ≤ D) (he : (N, t) = aro l p)
    (htm : (tm[4]?.getD undef = .pointer (some ⟨n0, 0, none⟩) ∧ tm[5]?.getD undef = .pointer (some ⟨n1, 0, none⟩))) :
    bodyPostM Fence.wide 9 Try.prog Try.f11 (fun e w' => (∃ n t, e = .returned (.tuple #[.int .i64 n, .bool t]) ∧ (n, t) = aro l p) ∧ Below w.heap.size w w') Exit.ret { tmps := tm, defers := [{ target := .collected D, args := #[] }] } W := by
  have hr : ∀ r, some D = some r → 0 ≤ r ∧ ∃ o : Obj, W.heap[r]? = some o ∧ o.isCells = false := fun r e => by cases e; exact ⟨Nat.zero_le _, _, hK, rfl⟩
  have k0 := (box_kept (B := 0) h0 (grownBy_putObj' W D (.deferred none)) hr).cell
  have k1 := (box_kept (B := 0) h1 (grownBy_putObj' W D (.deferred none)) hr).cell
  refine ⟨by simp, .inl ⟨_, _, rfl, run_takeDeferred hK, ?_⟩⟩
  refine ⟨.tuple #[.int .i64 N, .bool t], ?_, ⟨_, _, rfl, he⟩, hB.trans (belowK_b (w := w) (Nat.le_refl _) W D _ _ hD hK rfl rfl)⟩
  simp [results, Try.f11, Try.results11, asAddr, htm.1, htm.2, k0, k1, go_sem]
set_option maxHeartbeats 8000000 in
theorem around_go (v : Value) (l : List P2) (p : P2) (w : World) (h : RdP w w.heap.size v l) (hp : okP p = true) (hok : okR l = true) :
    CallsIn Fence.wide 9 Try.prog 11 #[v, .agg #[.int .i64 p.1, .int .i64 p.2]] w fun e w' => (∃ n t, e = .returned (.tuple #[.int .i64 n, .bool t]) ∧ (n, t) = aro l p) ∧ Below w.heap.size w w' := by
  have hL := (okR_all hok).2
  have Hbd := Lib.hid fun W (h : RdP W W.heap.size v l) => bounded_any v l W h (by omega) true hok
  have Hwi := Lib.hid fun W => within_any p.1 p.2 W
  rw [show ((p.1, p.2) : P2) = p from rfl, hp] at Hwi
  have Hp := Lib.hid hp
  have Hok := Lib.hid hok
  have HR := Lib.hid h
  obtain ⟨a, c, rfl, _, _, ha⟩ := h
  have HA := Lib.hid ha
  obtain ⟨L, hLl⟩ : ∃ L, L = l.length := ⟨_, rfl⟩
  have HL := Lib.hid hLl
  rw [← hLl] at hL Hbd HR ⊢
  clear ha hok hLl hp
  refine callsIn_of_wp_marks Try.func11 rfl trivial ?_ rfl
  simp only [Try.ntmps11, List.size_toArray, List.length_cons, List.length_nil, Nat.reduceAdd, Nat.reduceSub, Array.replicate_succ, Array.replicate_zero, List.push_toArray, List.append_toArray, List.nil_append, List.cons_append]
  gi_wp2_with fail
  obtain ⟨np, hnp⟩ : ∃ z, z = w.heap.size := ⟨_, rfl⟩
  obtain ⟨n0, hn0⟩ : ∃ z, z = w.heap.size + 1 := ⟨_, rfl⟩
  obtain ⟨n1, hn1⟩ : ∃ z, z = w.heap.size + 1 + 1 := ⟨_, rfl⟩
  obtain ⟨X0, hX0⟩ : ∃ z, z = ((w.alloc (.cells #[.int .i64 p.1, .int .i64 p.2] 25)).alloc (.cells #[.int .i64 0] 3)).alloc (.cells #[.bool false] 4) := ⟨_, rfl⟩
  have B0 : aroB w np n0 n1 p 0 X0 := by
    have h1 := ((Whole.new w 25 #[.int .i64 p.1, .int .i64 p.2]).alloc (.cells #[.int .i64 0] 3)).alloc (.cells #[.bool false] 4)
    have h2 := (Boxed.new (w.alloc (.cells #[.int .i64 p.1, .int .i64 p.2] 25)) 3 (.int .i64 0)).alloc (.cells #[.bool false] 4)
    have h3 := Boxed.new ((w.alloc (.cells #[.int .i64 p.1, .int .i64 p.2] 25)).alloc (.cells #[.int .i64 0] 3)) 4 (.bool false)
    rw [World.size_alloc] at h2 h3
    rw [World.size_alloc] at h3
    rw [hX0, hnp, hn0, hn1]
    exact ⟨⟨h1, h2, h3⟩, (((Below.refl _ _).alloc (Nat.le_refl _) _).alloc (by simp) _).alloc (by simp; omega) _⟩
  have hne : np ≠ n0 ∧ n1 ≠ n0 ∧ np ≠ n1 ∧ n0 ≠ n1 ∧ w.heap.size ≤ n0 ∧ w.heap.size ≤ n1 := by omega
  have HNE := Lib.hid hne
  have HB0 := Lib.hid B0
  rw [← hX0, ← hn1, ← hn0, ← hnp]
  clear hX0 hnp hn0 hn1 B0 hne
  have c0 := HB0.out.1.1.cell 0
  have c1 := HB0.out.1.1.cell 1
  simp only [List.getElem?_toArray, List.getElem?_cons_zero, List.getElem?_cons_succ] at c0 c1
  refine ⟨trivial, ?_⟩
  refine (callsIn_wide.2 (Hwi.out X0)).mono ?_
  rintro e X1 ⟨rfl, hX1⟩
  have HB1 := Lib.hid (HB0.out.below hX1)
  have HBd1 := Lib.hid (Hbd.out X1 ((HR.out.below HB1.out.2).more HB1.out.2.size))
  clear hX1 HB0 c0 c1 Hbd Hwi
  gi_wp2_with fail
  refine ⟨trivial, ?_⟩
  refine (callsIn_wide.2 HBd1.out).mono ?_
  rintro e X2 ⟨rfl, hX2⟩
  have HB2 := Lib.hid (HB1.out.below hX2)
  clear hX2 HB1 HBd1
  gi_wp2_with fail
  refine ⟨trivial, ?_⟩
  refine (edges_in _ _ trivial rfl _ _ _ _).mono ?_
  rintro e w' ⟨rfl, rfl⟩
  gi_wp2
  obtain ⟨nb, hnb⟩ : ∃ z, z = X2.heap.size := ⟨_, rfl⟩
  obtain ⟨W0, hW0⟩ : ∃ W0, W0 = X2.alloc (.cells #[.slice a L c] 22) := ⟨_, rfl⟩
  have bN : Boxed W0 nb 22 (.slice a L c) := by rw [hW0, hnb]; exact Boxed.new X2 _ _
  have hB3 : aroB w np n0 n1 p 0 W0 := by rw [hW0]; exact HB2.out.below ((Below.refl _ _).alloc (Nat.le_refl _) _)
  have hsz : W0.heap.size = nb + 1 := by rw [hW0, hnb]; simp
  have hwn : w.heap.size ≤ nb := by rw [hnb]; exact HB2.out.2.size
  have hlt0 : np < nb ∧ n0 < nb ∧ n1 < nb := by rw [hnb]; exact ⟨HB2.out.1.1.lt, HB2.out.1.2.1.lt, HB2.out.1.2.2.lt⟩
  rw [← hW0, ← hnb]
  clear hW0 hnb HB2
  have HS := edges_stops (9 - 1) (by omega) nb w.heap.size a c l Hok.out W0 (by omega) (by omega) (by rw [← HL.out]; exact bN.cell) (HA.out.below hB3.2)
  refine wpIn_rangeFunc_ownH rfl (by omega) (gf := 23) (lb := #[.pointer (some ⟨nb, 0, none⟩)]) rfl trivial (enters_of Try.func23 (by kernel_rfl) rfl)
    HS (fun h k => kb_trans h k) (fun W l o o' hl ho hc hw => ?kb) (Below.refl _ _) (fun _ => rfl)
    (aroI w np n0 n1 nb p) (aroX w np n0 n1 p) ?hI ?hIx ⟨⟨hB3, by omega⟩, rfl⟩
    (fun x a' W => ∃ Bp Bq, nb < Bp ∧ nb < Bq ∧ Whole W Bp 25 #[.int .i64 x.1.1.1, .int .i64 x.1.1.2] ∧ Whole W Bq 25 #[.int .i64 x.1.2.1, .int .i64 x.1.2.2] ∧
      a' = { tmps := #[.slice a L c, .agg #[.int .i64 p.1, .int .i64 p.2], undef, .pointer (some ⟨np, 0, none⟩), .pointer (some ⟨n0, 0, none⟩), .pointer (some ⟨n1, 0, none⟩), .pointer (some ⟨Bp, 0, none⟩), .pointer (some ⟨Bq, 0, none⟩), undef, .agg #[.int .i64 p.1, .int .i64 p.2], .bool true, .bool false, .bool false, .slice a L c, .bool true, .bool false, .bool false, .slice a L c, .func (.func 23) #[] #[.pointer (some ⟨nb, 0, none⟩)], ptv x.1.1, ptv x.1.2, undef, undef, undef, undef, undef, undef, undef, undef, undef, undef, undef, undef, undef, undef, undef, undef, undef, undef, undef, undef, undef, undef, undef, undef, undef, undef, undef, undef, undef, undef, undef, undef, undef, undef, undef, undef, undef, undef, undef, undef, undef, undef, undef, undef, undef, undef, undef, undef, undef, undef, undef, undef, undef, undef, undef, undef, undef, undef, undef, undef, undef], defers := [] })
    ?hAx ?assign ?body ?done ?stop
  case kb => exact ⟨belowK_b (w := W0) (by omega) W l o o' hl ho hc hw, World.putObj_heap_other (by omega)⟩
  case hI => exact fun s A C row hs hg hr => ⟨⟨aroB_kept hs.1.1 hg hr (by omega), Nat.lt_of_lt_of_le hs.1.2 hg.size⟩, hs.2⟩
  case hIx => exact fun c s A C row hs hg hr => ⟨aroB_kept hs.1 hg hr (by omega), hs.2⟩
  case hAx => exact fun x a' s A C row ⟨Bp, Bq, h1, h2, h3, h4, h5⟩ hg hr => ⟨Bp, Bq, h1, h2, whole_kept h3 hg hr, whole_kept h4 hg hr, h5⟩
  case assign =>
    rintro l pre x W K hi hK
    have Hi := Lib.hid hi
    have HK := Lib.hid hK
    clear hi hK
    unfold ptv
    gi_wp2
    have hn := Hi.out.1.2
    refine HK.out _ _ (((KeepsOthers.alloc _ _).trans (KeepsOthers.alloc _ _)).from _) (kb_below (((Below.refl _ _).alloc (Nat.le_refl _) _).alloc (by simp) _) (by omega) hn)
      ⟨⟨Hi.out.1.1.below (((Below.refl _ _).alloc (Nat.le_refl _) _).alloc (by simp) _), by simp; omega⟩, Hi.out.2⟩ ⟨W.heap.size, W.heap.size + 1, hn, by omega, (Whole.new W _ _).alloc _, ?_, rfl⟩
    have := Whole.new (W.alloc (.cells #[.int .i64 x.1.1.1, .int .i64 x.1.1.2] 25)) 25 #[.int .i64 x.1.2.1, .int .i64 x.1.2.2]
    rwa [World.size_alloc] at this
  case body =>
    rintro lp pre x a' W hl ⟨r, hr⟩ hi ⟨Bp, Bq, hBp, hBq, wP, wQ, rfl⟩ hlt
    have Hi := Lib.hid hi
    have HP := Lib.hid wP
    have HQ := Lib.hid wQ
    have p0 := wP.cell 0
    have p1 := wP.cell 1
    have q0 := wQ.cell 0
    have q1 := wQ.cell 1
    have r0 := hi.1.1.1.1.cell 0
    have r1 := hi.1.1.1.1.cell 1
    simp only [List.getElem?_toArray, List.getElem?_cons_zero, List.getElem?_cons_succ] at p0 p1 q0 q1 r0 r1
    have hsn := sumS_snoc p pre x
    have hon := onL_snoc p pre x
    rw [hi.2, Bool.false_or] at hon
    have hs := sumS_in p pre
    have hL2 : l.length ≤ 262144 := by have := HL.out; omega
    have HSide := Lib.hid fun W => side_any x.1.1 x.1.2 p W x.2.1 x.2.2 Hp.out
    have hst : stp x.1.1 x.1.2 p = (if x.1.1.2 ≤ p.2 ∧ p.2 < x.1.2.2 ∧ 0 < sd x.1.1 x.1.2 p then 1 else 0) - (if x.1.2.2 ≤ p.2 ∧ p.2 < x.1.1.2 ∧ sd x.1.1 x.1.2 p < 0 then 1 else 0) := rfl
    rw [hst] at hsn
    have hone : onE x.1.1 x.1.2 p = (decide (sd x.1.1 x.1.2 p = 0) && btw x.1.1.1 x.1.2.1 p.1 && btw x.1.1.2 x.1.2.2 p.2) := rfl
    rw [hone] at hon
    unfold ptv
    obtain ⟨S, hS⟩ : ∃ S, sd x.1.1 x.1.2 p = S := ⟨_, rfl⟩
    obtain ⟨ax, hax⟩ : ∃ z, x.1.1.1 = z := ⟨_, rfl⟩
    obtain ⟨ay, hay⟩ : ∃ z, x.1.1.2 = z := ⟨_, rfl⟩
    obtain ⟨bx, hbx⟩ : ∃ z, x.1.2.1 = z := ⟨_, rfl⟩
    obtain ⟨by', hby⟩ : ∃ z, x.1.2.2 = z := ⟨_, rfl⟩
    obtain ⟨px, hpx⟩ : ∃ z, p.1 = z := ⟨_, rfl⟩
    obtain ⟨py, hpy⟩ : ∃ z, p.2 = z := ⟨_, rfl⟩
    obtain ⟨N, hN⟩ : ∃ z, sumS p pre = z := ⟨_, rfl⟩
    have HBI : Hid (aroB w np n0 n1 p N W) := by rw [← hN]; exact hi.1.1
    have HnbW : Hid (nb < W.heap.size) := hi.1.2
    have HON0 : Hid (onL p pre = false) := hi.2
    rw [hS, hax, hay, hbx, hby, hpx, hpy] at HSide
    rw [hS, hay, hby, hpy, hN] at hsn
    rw [hS, hax, hay, hbx, hby, hpx, hpy] at hon
    rw [hax] at p0
    rw [hay] at p1
    rw [hbx] at q0
    rw [hby] at q1
    rw [hpx] at r0
    rw [hpy] at r1
    rw [hN] at hs
    rw [hax, hay, hbx, hby, hpx, hpy]
    have HX := Lib.hid fun W => between_any ax bx px W
    have HY := Lib.hid fun W => between_any ay by' py W
    obtain ⟨tX, htX⟩ : ∃ t, btw ax bx px = t := ⟨_, rfl⟩
    obtain ⟨tY, htY⟩ : ∃ t, btw ay by' py = t := ⟨_, rfl⟩
    rw [htX] at HX hon
    rw [htY] at HY hon
    have HSN := Lib.hid hsn
    have HON := Lib.hid hon
    have Hs2 : Hid (-262144 ≤ N ∧ N ≤ 262144) := by show _ ∧ _; omega
    have hBpn : Bp ≠ n0 ∧ Bq ≠ n0 ∧ Bp ≠ n1 ∧ Bq ≠ n1 := by omega
    have HBpn := Lib.hid hBpn
    clear hi hr hlt wP wQ hsn hon hs hL2 hst hone hS hax hay hbx hby hpx hpy hN htX htY hBpn
    gi_wp2_with fail
    refine ⟨trivial, ?_⟩
    refine (CallsIn.inRound lp (callsIn_wide.2 (HSide.out _))).mono ?_
    rintro e Y ⟨rfl, hBY⟩
    have HYB := Lib.hid (HBI.out.below hBY)
    have HWK := Lib.hid hBY
    have p0 := (hBY.cell (p := ⟨Bp, 0, none⟩) HP.out.lt).trans p0
    have p1 := (hBY.cell (p := ⟨Bp, 1, none⟩) HP.out.lt).trans p1
    have q0 := (hBY.cell (p := ⟨Bq, 0, none⟩) HQ.out.lt).trans q0
    have q1 := (hBY.cell (p := ⟨Bq, 1, none⟩) HQ.out.lt).trans q1
    have r0 := (hBY.cell (p := ⟨np, 0, none⟩) HBI.out.1.1.lt).trans r0
    have r1 := (hBY.cell (p := ⟨np, 1, none⟩) HBI.out.1.1.lt).trans r1
    have c0 := HYB.out.1.2.1.cell
    have f0 := HYB.out.1.2.1.frozen
    have c1 := HYB.out.1.2.2.cell
    have f1 := HYB.out.1.2.2.frozen
    clear hBY HSide
    have hne1 := HNE.out.2.1
    have hne2 := HNE.out.2.2.2.1
    rcases Int.lt_trichotomy S 0 with hS | hS | hS
    · have e : sgn S = -1 := by unfold sgn; rw [if_neg (by omega), if_pos hS]
      rw [e]
      clear e HX HY
      have HOF : Hid (onL p (pre ++ [x]) = false) := by show _ = _; rw [HON.out, decide_eq_false (by omega)]; rfl
      by_cases hA : ay ≤ py
      · by_cases hB : py < by'
        · have d1 : decide (ay ≤ py) = true := decide_eq_true (by omega)
          have d2 : decide (py < ay) = false := decide_eq_false (by omega)
          have d3 : decide (py < by') = true := decide_eq_true (by omega)
          have d4 : decide (by' ≤ py) = false := decide_eq_false (by omega)
          have HV : Hid (sumS p (pre ++ [x]) = N + (0)) := by show _ = _; rw [HSN.out]; split <;> split <;> omega
          clear hA hB hS
          gi_wp2_with fail
          refine ⟨trivial, ?_⟩
          gi_wp2_with fail
          refine ⟨trivial, ?_⟩
          gi_wp2_with fail
          refine ⟨(keeps_of_below HWK.out).from _, kb_below HWK.out (Nat.le_trans HBI.out.2.size (Nat.le_refl _)) HnbW.out, ⟨?_, Nat.lt_of_lt_of_le HnbW.out HWK.out.size⟩, HOF.out⟩
          rw [HV.out, show N + 0 = N by omega]
          exact HYB.out
        · have d1 : decide (ay ≤ py) = true := decide_eq_true (by omega)
          have d2 : decide (py < ay) = false := decide_eq_false (by omega)
          have d3 : decide (py < by') = false := decide_eq_false (by omega)
          have d4 : decide (by' ≤ py) = true := decide_eq_true (by omega)
          have HV : Hid (sumS p (pre ++ [x]) = N + (0)) := by show _ = _; rw [HSN.out]; split <;> split <;> omega
          clear hA hB hS
          gi_wp2_with fail
          refine ⟨trivial, ?_⟩
          gi_wp2_with fail
          refine ⟨trivial, ?_⟩
          gi_wp2_with fail
          refine ⟨(keeps_of_below HWK.out).from _, kb_below HWK.out (Nat.le_trans HBI.out.2.size (Nat.le_refl _)) HnbW.out, ⟨?_, Nat.lt_of_lt_of_le HnbW.out HWK.out.size⟩, HOF.out⟩
          rw [HV.out, show N + 0 = N by omega]
          exact HYB.out
      · by_cases hB : py < by'
        · have d1 : decide (ay ≤ py) = false := decide_eq_false (by omega)
          have d2 : decide (py < ay) = true := decide_eq_true (by omega)
          have d3 : decide (py < by') = true := decide_eq_true (by omega)
          have d4 : decide (by' ≤ py) = false := decide_eq_false (by omega)
          have HV : Hid (sumS p (pre ++ [x]) = N + (0)) := by show _ = _; rw [HSN.out]; split <;> split <;> omega
          clear hA hB hS
          gi_wp2_with fail
          refine ⟨trivial, ?_⟩
          gi_wp2_with fail
          refine ⟨trivial, ?_⟩
          gi_wp2_with fail
          refine ⟨(keeps_of_below HWK.out).from _, kb_below HWK.out (Nat.le_trans HBI.out.2.size (Nat.le_refl _)) HnbW.out, ⟨?_, Nat.lt_of_lt_of_le HnbW.out HWK.out.size⟩, HOF.out⟩
          rw [HV.out, show N + 0 = N by omega]
          exact HYB.out
        · have d1 : decide (ay ≤ py) = false := decide_eq_false (by omega)
          have d2 : decide (py < ay) = true := decide_eq_true (by omega)
          have d3 : decide (py < by') = false := decide_eq_false (by omega)
          have d4 : decide (by' ≤ py) = true := decide_eq_true (by omega)
          have HV : Hid (sumS p (pre ++ [x]) = N + (-1)) := by show _ = _; rw [HSN.out]; split <;> split <;> omega
          have wv : wrap64 (N - 1) = N - 1 := IntWalk.wrap64_in _ ⟨by have := Hs2.out; omega, by have := Hs2.out; omega⟩
          have Hb1 := Hs2.out
          clear hA hB hS
          gi_wp2_with fail
          refine ⟨trivial, ?_⟩
          gi_wp2_with fail
          refine ⟨trivial, ?_⟩
          gi_wp2_with fail
          refine ⟨((keeps_of_below HWK.out).trans (KeepsOthers.setCell _ _ _)).from _, kb_trans (kb_below HWK.out HBI.out.2.size HnbW.out) ⟨(Below.refl _ _).setCell (p := ⟨n0, 0, none⟩) HNE.out.2.2.2.2.1 _, Below.heap_setCell Y ⟨n0, 0, none⟩ _ nb (by show nb ≠ n0; omega)⟩, ⟨?_, by have := HWK.out.size; have := HnbW.out; simp [World.setCell]; omega⟩, HOF.out⟩
          rw [HV.out, show N + (-1) = N - 1 by omega]
          exact HYB.out.set HNE.out.1 HNE.out.2.1 HNE.out.2.2.2.2.1 _
    · subst hS
      have e : sgn 0 = 0 := rfl
      rw [e]
      clear e
      have hS : (0 : Int) = 0 := rfl
      cases tX
      · have HOF : Hid (onL p (pre ++ [x]) = false) := by show _ = _; rw [HON.out]; rfl
        by_cases hA : ay ≤ py
        · by_cases hB : py < by'
          · have d1 : decide (ay ≤ py) = true := decide_eq_true (by omega)
            have d2 : decide (py < ay) = false := decide_eq_false (by omega)
            have d3 : decide (py < by') = true := decide_eq_true (by omega)
            have d4 : decide (by' ≤ py) = false := decide_eq_false (by omega)
            have HV : Hid (sumS p (pre ++ [x]) = N + (0)) := by show _ = _; rw [HSN.out]; split <;> split <;> omega
            clear hA hB hS
            gi_wp2_with fail
            refine ⟨trivial, ?_⟩
            refine (CallsIn.inRound lp (callsIn_wide.2 (HX.out _))).mono ?_
            rintro e Z ⟨rfl, rfl⟩
            gi_wp2_with fail
            refine ⟨trivial, ?_⟩
            gi_wp2_with fail
            refine ⟨(keeps_of_below HWK.out).from _, kb_below HWK.out (Nat.le_trans HBI.out.2.size (Nat.le_refl _)) HnbW.out, ⟨?_, Nat.lt_of_lt_of_le HnbW.out HWK.out.size⟩, HOF.out⟩
            rw [HV.out, show N + 0 = N by omega]
            exact HYB.out
          · have d1 : decide (ay ≤ py) = true := decide_eq_true (by omega)
            have d2 : decide (py < ay) = false := decide_eq_false (by omega)
            have d3 : decide (py < by') = false := decide_eq_false (by omega)
            have d4 : decide (by' ≤ py) = true := decide_eq_true (by omega)
            have HV : Hid (sumS p (pre ++ [x]) = N + (0)) := by show _ = _; rw [HSN.out]; split <;> split <;> omega
            clear hA hB hS
            gi_wp2_with fail
            refine ⟨trivial, ?_⟩
            refine (CallsIn.inRound lp (callsIn_wide.2 (HX.out _))).mono ?_
            rintro e Z ⟨rfl, rfl⟩
            gi_wp2_with fail
            refine ⟨trivial, ?_⟩
            gi_wp2_with fail
            refine ⟨(keeps_of_below HWK.out).from _, kb_below HWK.out (Nat.le_trans HBI.out.2.size (Nat.le_refl _)) HnbW.out, ⟨?_, Nat.lt_of_lt_of_le HnbW.out HWK.out.size⟩, HOF.out⟩
            rw [HV.out, show N + 0 = N by omega]
            exact HYB.out
        · by_cases hB : py < by'
          · have d1 : decide (ay ≤ py) = false := decide_eq_false (by omega)
            have d2 : decide (py < ay) = true := decide_eq_true (by omega)
            have d3 : decide (py < by') = true := decide_eq_true (by omega)
            have d4 : decide (by' ≤ py) = false := decide_eq_false (by omega)
            have HV : Hid (sumS p (pre ++ [x]) = N + (0)) := by show _ = _; rw [HSN.out]; split <;> split <;> omega
            clear hA hB hS
            gi_wp2_with fail
            refine ⟨trivial, ?_⟩
            refine (CallsIn.inRound lp (callsIn_wide.2 (HX.out _))).mono ?_
            rintro e Z ⟨rfl, rfl⟩
            gi_wp2_with fail
            refine ⟨trivial, ?_⟩
            gi_wp2_with fail
            refine ⟨(keeps_of_below HWK.out).from _, kb_below HWK.out (Nat.le_trans HBI.out.2.size (Nat.le_refl _)) HnbW.out, ⟨?_, Nat.lt_of_lt_of_le HnbW.out HWK.out.size⟩, HOF.out⟩
            rw [HV.out, show N + 0 = N by omega]
            exact HYB.out
          · have d1 : decide (ay ≤ py) = false := decide_eq_false (by omega)
            have d2 : decide (py < ay) = true := decide_eq_true (by omega)
            have d3 : decide (py < by') = false := decide_eq_false (by omega)
            have d4 : decide (by' ≤ py) = true := decide_eq_true (by omega)
            have HV : Hid (sumS p (pre ++ [x]) = N + (0)) := by show _ = _; rw [HSN.out]; split <;> split <;> omega
            clear hA hB hS
            gi_wp2_with fail
            refine ⟨trivial, ?_⟩
            refine (CallsIn.inRound lp (callsIn_wide.2 (HX.out _))).mono ?_
            rintro e Z ⟨rfl, rfl⟩
            gi_wp2_with fail
            refine ⟨trivial, ?_⟩
            gi_wp2_with fail
            refine ⟨(keeps_of_below HWK.out).from _, kb_below HWK.out (Nat.le_trans HBI.out.2.size (Nat.le_refl _)) HnbW.out, ⟨?_, Nat.lt_of_lt_of_le HnbW.out HWK.out.size⟩, HOF.out⟩
            rw [HV.out, show N + 0 = N by omega]
            exact HYB.out
      · cases tY
        · have HOF : Hid (onL p (pre ++ [x]) = false) := by show _ = _; rw [HON.out]; rfl
          by_cases hA : ay ≤ py
          · by_cases hB : py < by'
            · have d1 : decide (ay ≤ py) = true := decide_eq_true (by omega)
              have d2 : decide (py < ay) = false := decide_eq_false (by omega)
              have d3 : decide (py < by') = true := decide_eq_true (by omega)
              have d4 : decide (by' ≤ py) = false := decide_eq_false (by omega)
              have HV : Hid (sumS p (pre ++ [x]) = N + (0)) := by show _ = _; rw [HSN.out]; split <;> split <;> omega
              clear hA hB hS
              gi_wp2_with fail
              refine ⟨trivial, ?_⟩
              refine (CallsIn.inRound lp (callsIn_wide.2 (HX.out _))).mono ?_
              rintro e Z ⟨rfl, rfl⟩
              gi_wp2_with fail
              refine ⟨trivial, ?_⟩
              refine (CallsIn.inRound lp (callsIn_wide.2 (HY.out _))).mono ?_
              rintro e Z ⟨rfl, rfl⟩
              gi_wp2_with fail
              refine ⟨(keeps_of_below HWK.out).from _, kb_below HWK.out (Nat.le_trans HBI.out.2.size (Nat.le_refl _)) HnbW.out, ⟨?_, Nat.lt_of_lt_of_le HnbW.out HWK.out.size⟩, HOF.out⟩
              rw [HV.out, show N + 0 = N by omega]
              exact HYB.out
            · have d1 : decide (ay ≤ py) = true := decide_eq_true (by omega)
              have d2 : decide (py < ay) = false := decide_eq_false (by omega)
              have d3 : decide (py < by') = false := decide_eq_false (by omega)
              have d4 : decide (by' ≤ py) = true := decide_eq_true (by omega)
              have HV : Hid (sumS p (pre ++ [x]) = N + (0)) := by show _ = _; rw [HSN.out]; split <;> split <;> omega
              clear hA hB hS
              gi_wp2_with fail
              refine ⟨trivial, ?_⟩
              refine (CallsIn.inRound lp (callsIn_wide.2 (HX.out _))).mono ?_
              rintro e Z ⟨rfl, rfl⟩
              gi_wp2_with fail
              refine ⟨trivial, ?_⟩
              refine (CallsIn.inRound lp (callsIn_wide.2 (HY.out _))).mono ?_
              rintro e Z ⟨rfl, rfl⟩
              gi_wp2_with fail
              refine ⟨(keeps_of_below HWK.out).from _, kb_below HWK.out (Nat.le_trans HBI.out.2.size (Nat.le_refl _)) HnbW.out, ⟨?_, Nat.lt_of_lt_of_le HnbW.out HWK.out.size⟩, HOF.out⟩
              rw [HV.out, show N + 0 = N by omega]
              exact HYB.out
          · by_cases hB : py < by'
            · have d1 : decide (ay ≤ py) = false := decide_eq_false (by omega)
              have d2 : decide (py < ay) = true := decide_eq_true (by omega)
              have d3 : decide (py < by') = true := decide_eq_true (by omega)
              have d4 : decide (by' ≤ py) = false := decide_eq_false (by omega)
              have HV : Hid (sumS p (pre ++ [x]) = N + (0)) := by show _ = _; rw [HSN.out]; split <;> split <;> omega
              clear hA hB hS
              gi_wp2_with fail
              refine ⟨trivial, ?_⟩
              refine (CallsIn.inRound lp (callsIn_wide.2 (HX.out _))).mono ?_
              rintro e Z ⟨rfl, rfl⟩
              gi_wp2_with fail
              refine ⟨trivial, ?_⟩
              refine (CallsIn.inRound lp (callsIn_wide.2 (HY.out _))).mono ?_
              rintro e Z ⟨rfl, rfl⟩
              gi_wp2_with fail
              refine ⟨(keeps_of_below HWK.out).from _, kb_below HWK.out (Nat.le_trans HBI.out.2.size (Nat.le_refl _)) HnbW.out, ⟨?_, Nat.lt_of_lt_of_le HnbW.out HWK.out.size⟩, HOF.out⟩
              rw [HV.out, show N + 0 = N by omega]
              exact HYB.out
            · have d1 : decide (ay ≤ py) = false := decide_eq_false (by omega)
              have d2 : decide (py < ay) = true := decide_eq_true (by omega)
              have d3 : decide (py < by') = false := decide_eq_false (by omega)
              have d4 : decide (by' ≤ py) = true := decide_eq_true (by omega)
              have HV : Hid (sumS p (pre ++ [x]) = N + (0)) := by show _ = _; rw [HSN.out]; split <;> split <;> omega
              clear hA hB hS
              gi_wp2_with fail
              refine ⟨trivial, ?_⟩
              refine (CallsIn.inRound lp (callsIn_wide.2 (HX.out _))).mono ?_
              rintro e Z ⟨rfl, rfl⟩
              gi_wp2_with fail
              refine ⟨trivial, ?_⟩
              refine (CallsIn.inRound lp (callsIn_wide.2 (HY.out _))).mono ?_
              rintro e Z ⟨rfl, rfl⟩
              gi_wp2_with fail
              refine ⟨(keeps_of_below HWK.out).from _, kb_below HWK.out (Nat.le_trans HBI.out.2.size (Nat.le_refl _)) HnbW.out, ⟨?_, Nat.lt_of_lt_of_le HnbW.out HWK.out.size⟩, HOF.out⟩
              rw [HV.out, show N + 0 = N by omega]
              exact HYB.out
        · have HOF : Hid (onL p (pre ++ [x]) = true) := by show _ = _; rw [HON.out]; rfl
          gi_wp2_with fail
          refine ⟨trivial, ?_⟩
          refine (CallsIn.inRound lp (callsIn_wide.2 (HX.out _))).mono ?_
          rintro e Z ⟨rfl, rfl⟩
          gi_wp2_with fail
          refine ⟨trivial, ?_⟩
          refine (CallsIn.inRound lp (callsIn_wide.2 (HY.out _))).mono ?_
          rintro e Z ⟨rfl, rfl⟩
          gi_wp2_with fail
          refine ⟨((keeps_of_below HWK.out).trans ((KeepsOthers.setCell _ _ _).trans (KeepsOthers.setCell _ _ _))).from _, ⟨?_, rfl, HOF.out⟩⟩
          exact (HYB.out.set HNE.out.1 HNE.out.2.1 HNE.out.2.2.2.2.1 0).setF HNE.out.2.2.1 HNE.out.2.2.2.1 HNE.out.2.2.2.2.2
    · have e : sgn S = 1 := by unfold sgn; rw [if_pos hS]
      rw [e]
      clear e HX HY
      have HOF : Hid (onL p (pre ++ [x]) = false) := by show _ = _; rw [HON.out, decide_eq_false (by omega)]; rfl
      by_cases hA : ay ≤ py
      · by_cases hB : py < by'
        · have d1 : decide (ay ≤ py) = true := decide_eq_true (by omega)
          have d2 : decide (py < ay) = false := decide_eq_false (by omega)
          have d3 : decide (py < by') = true := decide_eq_true (by omega)
          have d4 : decide (by' ≤ py) = false := decide_eq_false (by omega)
          have HV : Hid (sumS p (pre ++ [x]) = N + (1)) := by show _ = _; rw [HSN.out]; split <;> split <;> omega
          have wv : wrap64 (N + 1) = N + 1 := IntWalk.wrap64_in _ ⟨by have := Hs2.out; omega, by have := Hs2.out; omega⟩
          have Hb1 := Hs2.out
          clear hA hB hS
          gi_wp2_with fail
          refine ⟨trivial, ?_⟩
          gi_wp2_with fail
          refine ⟨trivial, ?_⟩
          gi_wp2_with fail
          refine ⟨((keeps_of_below HWK.out).trans (KeepsOthers.setCell _ _ _)).from _, kb_trans (kb_below HWK.out HBI.out.2.size HnbW.out) ⟨(Below.refl _ _).setCell (p := ⟨n0, 0, none⟩) HNE.out.2.2.2.2.1 _, Below.heap_setCell Y ⟨n0, 0, none⟩ _ nb (by show nb ≠ n0; omega)⟩, ⟨?_, by have := HWK.out.size; have := HnbW.out; simp [World.setCell]; omega⟩, HOF.out⟩
          rw [HV.out, show N + (1) = N + 1 by omega]
          exact HYB.out.set HNE.out.1 HNE.out.2.1 HNE.out.2.2.2.2.1 _
        · have d1 : decide (ay ≤ py) = true := decide_eq_true (by omega)
          have d2 : decide (py < ay) = false := decide_eq_false (by omega)
          have d3 : decide (py < by') = false := decide_eq_false (by omega)
          have d4 : decide (by' ≤ py) = true := decide_eq_true (by omega)
          have HV : Hid (sumS p (pre ++ [x]) = N + (0)) := by show _ = _; rw [HSN.out]; split <;> split <;> omega
          clear hA hB hS
          gi_wp2_with fail
          refine ⟨trivial, ?_⟩
          gi_wp2_with fail
          refine ⟨trivial, ?_⟩
          gi_wp2_with fail
          refine ⟨(keeps_of_below HWK.out).from _, kb_below HWK.out (Nat.le_trans HBI.out.2.size (Nat.le_refl _)) HnbW.out, ⟨?_, Nat.lt_of_lt_of_le HnbW.out HWK.out.size⟩, HOF.out⟩
          rw [HV.out, show N + 0 = N by omega]
          exact HYB.out
      · by_cases hB : py < by'
        · have d1 : decide (ay ≤ py) = false := decide_eq_false (by omega)
          have d2 : decide (py < ay) = true := decide_eq_true (by omega)
          have d3 : decide (py < by') = true := decide_eq_true (by omega)
          have d4 : decide (by' ≤ py) = false := decide_eq_false (by omega)
          have HV : Hid (sumS p (pre ++ [x]) = N + (0)) := by show _ = _; rw [HSN.out]; split <;> split <;> omega
          clear hA hB hS
          gi_wp2_with fail
          refine ⟨trivial, ?_⟩
          gi_wp2_with fail
          refine ⟨trivial, ?_⟩
          gi_wp2_with fail
          refine ⟨(keeps_of_below HWK.out).from _, kb_below HWK.out (Nat.le_trans HBI.out.2.size (Nat.le_refl _)) HnbW.out, ⟨?_, Nat.lt_of_lt_of_le HnbW.out HWK.out.size⟩, HOF.out⟩
          rw [HV.out, show N + 0 = N by omega]
          exact HYB.out
        · have d1 : decide (ay ≤ py) = false := decide_eq_false (by omega)
          have d2 : decide (py < ay) = true := decide_eq_true (by omega)
          have d3 : decide (py < by') = false := decide_eq_false (by omega)
          have d4 : decide (by' ≤ py) = true := decide_eq_true (by omega)
          have HV : Hid (sumS p (pre ++ [x]) = N + (0)) := by show _ = _; rw [HSN.out]; split <;> split <;> omega
          clear hA hB hS
          gi_wp2_with fail
          refine ⟨trivial, ?_⟩
          gi_wp2_with fail
          refine ⟨trivial, ?_⟩
          gi_wp2_with fail
          refine ⟨(keeps_of_below HWK.out).from _, kb_below HWK.out (Nat.le_trans HBI.out.2.size (Nat.le_refl _)) HnbW.out, ⟨?_, Nat.lt_of_lt_of_le HnbW.out HWK.out.size⟩, HOF.out⟩
          rw [HV.out, show N + 0 = N by omega]
          exact HYB.out
  case done =>
    rintro D ys W hD rfl ⟨⟨hB, _⟩, hno⟩ hK
    have e1 := sumS_upto Hok.out p l.length
    have e2 := onL_upto Hok.out p l.length
    rw [hno] at e2
    have he : ((windTo l p l.length, true) : Int × Bool) = aro l p := by
      unfold aro
      rw [if_pos ⟨Hp.out, Hok.out⟩, if_neg (by rw [← e2]; simp)]
    rw [e1] at hB
    have HE := Lib.hid he
    obtain ⟨N, hN⟩ : ∃ z, z = windTo l p l.length := ⟨_, rfl⟩
    rw [← hN] at hB HE
    have hc := hB.1.2.1.cell
    have hf := hB.1.2.1.frozen
    have hc1 := hB.1.2.2.cell
    have hf1 := hB.1.2.2.frozen
    have HNe := HNE.out
    have hne1 := HNe.2.1
    have hne2 := HNe.2.2.2.1
    have HBf := Lib.hid hB
    have HKf := Lib.hid hK
    clear hB hK e1 e2 hno he hN HNe
    have HK2 := Lib.hid (((KeepsOthers.setCell W ⟨n0, 0, none⟩ (.int .i64 N)).trans (KeepsOthers.setCell _ ⟨n1, 0, none⟩ (.bool true))).same D _ HKf.out rfl)
    have HB9 : Hid (Boxed ((W.setCell ⟨n0, 0, none⟩ (.int .i64 N)).setCell ⟨n1, 0, none⟩ (.bool true)) n0 3 (.int .i64 N) ∧ Boxed ((W.setCell ⟨n0, 0, none⟩ (.int .i64 N)).setCell ⟨n1, 0, none⟩ (.bool true)) n1 4 (.bool true) ∧ Below w.heap.size w ((W.setCell ⟨n0, 0, none⟩ (.int .i64 N)).setCell ⟨n1, 0, none⟩ (.bool true))) :=
      ⟨(HBf.out.1.2.1.set _).other hne2 _, (HBf.out.1.2.2.other hne1 _).set _, (HBf.out.2.setCell (p := ⟨n0, 0, none⟩) HNE.out.2.2.2.2.1 _).setCell (p := ⟨n1, 0, none⟩) HNE.out.2.2.2.2.2 _⟩
    gi_wp2
    obtain ⟨W9, hW9⟩ : ∃ z, z = (W.setCell ⟨n0, 0, none⟩ (.int .i64 N)).setCell ⟨n1, 0, none⟩ (.bool true) := ⟨_, rfl⟩
    rw [← hW9] at HK2 HB9 ⊢
    clear hW9
    exact aro_end HB9.out.1 HB9.out.2.1 HB9.out.2.2 HK2.out (by omega) HE.out ⟨rfl, rfl⟩
  case stop =>
    rintro D c' pre W hD ⟨k, hk, rfl⟩ ⟨hB, rfl, hyes⟩ hK
    rw [onL_upto Hok.out p k] at hyes
    have he : ((0, false) : Int × Bool) = aro l p := by
      unfold aro
      rw [if_pos ⟨Hp.out, Hok.out⟩, if_pos (onTo_mono hyes hk)]
    have HE := Lib.hid he
    have HBf := Lib.hid hB
    have HKf := Lib.hid hK
    clear hB hK hyes he
    gi_wp2
    exact aro_end HBf.out.1.2.1 HBf.out.1.2.2 HBf.out.2 HKf.out (by omega) HE.out ⟨rfl, rfl⟩
end Go.Proofs.Ytlmnmilefggmpaa
