/- Walks over layer 27: what Area, Sign, Around answer; the live example. -/
import Derived.Test.YtlmnmilefggmpaaWind7
namespace Go.Proofs.Ytlmnmilefggmpaa
open Go.RowKit
set_option linter.unusedVariables false
set_option maxRecDepth 100000

theorem areaw_any (v : Value) (l : List P2) (w : World) (h : RdP w w.heap.size v l) (hl : l.length ≤ 1000000) (A : Int) (t : Bool) (hR : areaO l = (A, t)) :
    Calls Try.prog 7 #[v] w fun e w' => e = .returned (.tuple #[.int .i64 A, .bool t]) ∧ Below w.heap.size w w' := by
  unfold areaO at hR
  split at hR
  · next hok => injection hR with h1 h2; subst h1 h2; exact callsIn_wide.1 (area_go v l w h hok)
  · next hok => injection hR with h1 h2; subst h1 h2; exact area_no v l w h hl (by simpa using hok)
theorem signw_any (v : Value) (l : List P2) (w : World) (h : RdP w w.heap.size v l) (hl : l.length ≤ 1000000) :
    Calls Try.prog 9 #[v] w fun e w' => e = .returned (.int .i64 (sgn (areaO l).1)) ∧ Below w.heap.size w w' := by
  obtain ⟨⟨A, t⟩, hR⟩ : ∃ R, areaO l = R := ⟨_, rfl⟩
  have Hr := Lib.hid (areaw_any v l w h hl A t hR)
  have Hs := Lib.hid fun W => sign_any A W
  rw [hR]
  show Calls _ _ _ _ fun e w' => e = .returned (.int .i64 (sgn A)) ∧ _
  obtain ⟨a, c, rfl, _, _, ha⟩ := h
  clear ha hR
  go_enter Try.func9, Try.ntmps9
  go_wp2_with fail
  refine Hr.out.mono ?_
  rintro e X ⟨rfl, hX⟩
  have HX := Lib.hid hX
  clear hX Hr
  go_wp2_with fail
  refine (Hs.out X).mono ?_
  rintro e Y ⟨rfl, rfl⟩
  go_wp2_with fail
  go_ret
  exact ⟨rfl, HX.out⟩
theorem aro_no {l : List P2} {p : P2} (h : ¬ (okP p = true ∧ okR l = true)) : aro l p = (0, false) := by unfold aro; rw [if_neg h]
theorem aroB_new (w : World) (p : P2) : aroB w w.heap.size (w.heap.size + 1) (w.heap.size + 1 + 1) p 0 (((w.alloc (.cells #[.int .i64 p.1, .int .i64 p.2] 25)).alloc (.cells #[.int .i64 0] 3)).alloc (.cells #[.bool false] 4)) := by
  have h1 := ((Whole.new w 25 #[.int .i64 p.1, .int .i64 p.2]).alloc (.cells #[.int .i64 0] 3)).alloc (.cells #[.bool false] 4)
  have h2 := (Boxed.new (w.alloc (.cells #[.int .i64 p.1, .int .i64 p.2] 25)) 3 (.int .i64 0)).alloc (.cells #[.bool false] 4)
  have h3 := Boxed.new ((w.alloc (.cells #[.int .i64 p.1, .int .i64 p.2] 25)).alloc (.cells #[.int .i64 0] 3)) 4 (.bool false)
  rw [World.size_alloc] at h2 h3
  rw [World.size_alloc] at h3
  exact ⟨⟨h1, h2, h3⟩, (((Below.refl _ _).alloc (Nat.le_refl _) _).alloc (by simp) _).alloc (by simp; omega) _⟩
theorem aroundw_any (v : Value) (l : List P2) (p : P2) (w : World) (h : RdP w w.heap.size v l) (hl : l.length ≤ 1000000) :
    Calls Try.prog 11 #[v, .agg #[.int .i64 p.1, .int .i64 p.2]] w fun e w' => e = .returned (.tuple #[.int .i64 (aro l p).1, .bool (aro l p).2]) ∧ Below w.heap.size w w' := by
  by_cases hp : okP p = true
  · by_cases hok : okR l = true
    · refine (callsIn_wide.1 (around_go v l p w h hp hok)).mono ?_
      rintro e w' ⟨⟨n, t, rfl, he⟩, hB⟩
      exact ⟨by rw [← he], hB⟩
    · rw [aro_no (fun h => hok h.2)]
      have hok : okR l = false := by simpa using hok
      have Hbd := Lib.hid fun W (h : RdP W W.heap.size v l) => bounded_any v l W h hl false hok
      have Hwi := Lib.hid fun W => within_any p.1 p.2 W
      rw [show ((p.1, p.2) : P2) = p from rfl, hp] at Hwi
      have HR := Lib.hid h
      clear hok hp
      obtain ⟨a, c, rfl, _, _, ha⟩ := h
      clear ha
      go_enter Try.func11, Try.ntmps11
      go_upto_region 1 with (fail)
      obtain ⟨np, hnp⟩ : ∃ z, z = w.heap.size := ⟨_, rfl⟩
      obtain ⟨n0, hn0⟩ : ∃ z, z = w.heap.size + 1 := ⟨_, rfl⟩
      obtain ⟨n1, hn1⟩ : ∃ z, z = w.heap.size + 1 + 1 := ⟨_, rfl⟩
      obtain ⟨X0, hX0⟩ : ∃ z, z = ((w.alloc (.cells #[.int .i64 p.1, .int .i64 p.2] 25)).alloc (.cells #[.int .i64 0] 3)).alloc (.cells #[.bool false] 4) := ⟨_, rfl⟩
      have hB0 : aroB w np n0 n1 p 0 X0 := by rw [hX0, hnp, hn0, hn1]; exact aroB_new w p
      have hne : np ≠ n0 ∧ n1 ≠ n0 ∧ np ≠ n1 ∧ n0 ≠ n1 ∧ w.heap.size ≤ n0 ∧ w.heap.size ≤ n1 := by omega
      have HNE := Lib.hid hne
      have HB0 := Lib.hid hB0
      rw [← hX0, ← hn1, ← hn0, ← hnp]
      clear hX0 hnp hn0 hn1 hB0 hne
      have c0 : X0.cell? ⟨np, 0, none⟩ = some (.int .i64 p.1) := HB0.out.1.1.cell 0
      have c1 : X0.cell? ⟨np, 1, none⟩ = some (.int .i64 p.2) := HB0.out.1.1.cell 1
      go_wp2_with fail
      refine (Hwi.out X0).mono ?_
      rintro e X1 ⟨rfl, hX1⟩
      have HB1 := Lib.hid (HB0.out.below hX1)
      clear hX1 HB0 c0 c1 Hwi
      have HC := Lib.hid (Hbd.out X1 ((HR.out.below HB1.out.2).more HB1.out.2.size))
      clear Hbd HR
      go_wp2_with fail
      refine HC.out.mono ?_
      rintro e X2 ⟨rfl, hX2⟩
      have HB1 := Lib.hid (HB1.out.below hX2)
      clear hX2 HC
      have b0 := HB1.out.1.2.1.cell
      have f0 := HB1.out.1.2.1.frozen
      have b1 := HB1.out.1.2.2.cell
      have f1 := HB1.out.1.2.2.frozen
      have hne1 := HNE.out.2.1
      have hne2 := HNE.out.2.2.2.1
      have HE := Lib.hid ((HB1.out.set HNE.out.1 HNE.out.2.1 HNE.out.2.2.2.2.1 0).setF HNE.out.2.2.1 HNE.out.2.2.2.1 HNE.out.2.2.2.2.2)
      go_wp2_with fail
      have z0 := HE.out.1.2.1.cell
      have z1 := HE.out.1.2.2.cell
      exact bodyPost_ret (v := .tuple #[.int .i64 0, .bool false]) (by simp [results, Try.results11, asAddr, z0, z1, go_sem]) rfl ⟨rfl, HE.out.2⟩
  · rw [aro_no (fun h => hp h.1)]
    have hp : okP p = false := by simpa using hp
    · have Hwi := Lib.hid fun W => within_any p.1 p.2 W
      rw [show ((p.1, p.2) : P2) = p from rfl, hp] at Hwi
      clear hp
      obtain ⟨a, c, rfl, _, _, ha⟩ := h
      clear ha
      go_enter Try.func11, Try.ntmps11
      go_upto_region 1 with (fail)
      obtain ⟨np, hnp⟩ : ∃ z, z = w.heap.size := ⟨_, rfl⟩
      obtain ⟨n0, hn0⟩ : ∃ z, z = w.heap.size + 1 := ⟨_, rfl⟩
      obtain ⟨n1, hn1⟩ : ∃ z, z = w.heap.size + 1 + 1 := ⟨_, rfl⟩
      obtain ⟨X0, hX0⟩ : ∃ z, z = ((w.alloc (.cells #[.int .i64 p.1, .int .i64 p.2] 25)).alloc (.cells #[.int .i64 0] 3)).alloc (.cells #[.bool false] 4) := ⟨_, rfl⟩
      have hB0 : aroB w np n0 n1 p 0 X0 := by rw [hX0, hnp, hn0, hn1]; exact aroB_new w p
      have hne : np ≠ n0 ∧ n1 ≠ n0 ∧ np ≠ n1 ∧ n0 ≠ n1 ∧ w.heap.size ≤ n0 ∧ w.heap.size ≤ n1 := by omega
      have HNE := Lib.hid hne
      have HB0 := Lib.hid hB0
      rw [← hX0, ← hn1, ← hn0, ← hnp]
      clear hX0 hnp hn0 hn1 hB0 hne
      have c0 : X0.cell? ⟨np, 0, none⟩ = some (.int .i64 p.1) := HB0.out.1.1.cell 0
      have c1 : X0.cell? ⟨np, 1, none⟩ = some (.int .i64 p.2) := HB0.out.1.1.cell 1
      go_wp2_with fail
      refine (Hwi.out X0).mono ?_
      rintro e X1 ⟨rfl, hX1⟩
      have HB1 := Lib.hid (HB0.out.below hX1)
      clear hX1 HB0 c0 c1 Hwi
      have b0 := HB1.out.1.2.1.cell
      have f0 := HB1.out.1.2.1.frozen
      have b1 := HB1.out.1.2.2.cell
      have f1 := HB1.out.1.2.2.frozen
      have hne1 := HNE.out.2.1
      have hne2 := HNE.out.2.2.2.1
      have HE := Lib.hid ((HB1.out.set HNE.out.1 HNE.out.2.1 HNE.out.2.2.2.2.1 0).setF HNE.out.2.2.1 HNE.out.2.2.2.1 HNE.out.2.2.2.2.2)
      go_wp2_with fail
      have z0 := HE.out.1.2.1.cell
      have z1 := HE.out.1.2.2.cell
      exact bodyPost_ret (v := .tuple #[.int .i64 0, .bool false]) (by simp [results, Try.results11, asAddr, z0, z1, go_sem]) rfl ⟨rfl, HE.out.2⟩
theorem refAround_any (v : Value) (l : List P2) (p : P2) (w : World) (h : RdP w w.heap.size v l) (hl : l.length ≤ 1000000) :
    Calls Try.prog 12 #[v, .agg #[.int .i64 p.1, .int .i64 p.2]] w fun e w' => e = .returned (.tuple #[.int .i64 (aro l p).1, .bool (aro l p).2]) ∧ Below w.heap.size w w' := by
  by_cases hok : okR l = true
  · by_cases hp : okP p = true
    · exact refAround_yes v l p w h hp hok
    · rw [aro_no (fun h => hp h.1)]
      have hp : okP p = false := by simpa using hp
      have Hri := Lib.hid fun W (h : RdP W W.heap.size v l) => right_any v l W h hl true hok
      have Hin := Lib.hid fun W => in_any p.1 p.2 W
      rw [show ((p.1, p.2) : P2) = p from rfl, hp] at Hin
      have HR := Lib.hid h
      obtain ⟨a, c, rfl, _, _, ha⟩ := h
      clear ha hok hp
      go_enter Try.func12, Try.ntmps12
      go_upto_region 1 with (fail)
      obtain ⟨np, hnp⟩ : ∃ z, z = w.heap.size := ⟨_, rfl⟩
      obtain ⟨X0, hX0⟩ : ∃ z, z = w.alloc (.cells #[.int .i64 p.1, .int .i64 p.2] 25) := ⟨_, rfl⟩
      have hW0 : Whole X0 np 25 #[.int .i64 p.1, .int .i64 p.2] := by rw [hX0, hnp]; exact Whole.new w _ _
      have hB0 : Below w.heap.size w X0 := by rw [hX0]; exact (Below.refl _ _).alloc (Nat.le_refl _) _
      have HC := Lib.hid (Hri.out X0 ((HR.out.below hB0).more hB0.size))
      have HW0 := Lib.hid hW0
      have HB0 := Lib.hid hB0
      rw [← hX0, ← hnp]
      clear hX0 hnp hW0 hB0 Hri
      go_wp2_with fail
      refine HC.out.mono ?_
      rintro e X1 ⟨rfl, hX1⟩
      have hW1 := whole_below HW0.out hX1
      have HB1 := Lib.hid (HB0.out.trans (hX1.mono HB0.out.size))
      have c0 : X1.cell? ⟨np, 0, none⟩ = some (.int .i64 p.1) := hW1.cell 0
      have c1 : X1.cell? ⟨np, 1, none⟩ = some (.int .i64 p.2) := hW1.cell 1
      clear hX1 HW0 HB0 HC hW1
      go_wp2_with fail
      refine (Hin.out X1).mono ?_
      rintro e X2 ⟨rfl, hX2⟩
      have HB2 := Lib.hid (HB1.out.trans (hX2.mono HB1.out.size))
      clear hX2 HB1 c0 c1 Hin
      go_wp2_with fail
      go_ret2
      exact ⟨rfl, HB2.out⟩
  · rw [aro_no (fun h => hok h.2)]
    have hok : okR l = false := by simpa using hok
    have Hri := Lib.hid fun W (h : RdP W W.heap.size v l) => right_any v l W h hl false hok
    have HR := Lib.hid h
    obtain ⟨a, c, rfl, _, _, ha⟩ := h
    clear ha hok
    have hB0 : Below w.heap.size w (w.alloc (.cells #[.int .i64 p.1, .int .i64 p.2] 25)) := (Below.refl _ _).alloc (Nat.le_refl _) _
    have HC := Lib.hid (Hri.out (w.alloc (.cells #[.int .i64 p.1, .int .i64 p.2] 25)) ((HR.out.below hB0).more hB0.size))
    have HB0 := Lib.hid hB0
    clear hB0 Hri
    go_enter Try.func12, Try.ntmps12
    go_wp2_with fail
    refine HC.out.mono ?_
    rintro e X1 ⟨rfl, hX1⟩
    have HB1 := Lib.hid (HB0.out.trans (hX1.mono HB0.out.size))
    clear hX1 HC HB0
    go_wp2_with fail
    go_ret2
    exact ⟨rfl, HB1.out⟩
def Live27 (w : World) (e : Ending) (w' : World) : Prop := e = .returned (.bool true) ∧ Below w.heap.size w w'
theorem live27_any (w : World) : Calls Try.prog 6 #[] w (Live27 w) := by
  have HA := Lib.hid fun W vv (h : RdP W W.heap.size vv [(0, 0), (4, 0), (4, 3)]) => areaw_any vv [(0, 0), (4, 0), (4, 3)] W h (by simp) 12 true (by decide)
  have HN := Lib.hid fun W vv (h : RdP W W.heap.size vv [(0, 0), (4, 0), (4, 3)]) => aroundw_any vv [(0, 0), (4, 0), (4, 3)] (3, 1) W h (by simp)
  rw [show aro [(0, 0), (4, 0), (4, 3)] (3, 1) = (1, true) by decide] at HN
  go_enter Try.func6, Try.ntmps6
  go_wp2_with fail
  have hB0 : Below w.heap.size w (w.alloc (.cells (pts [(0, 0), (4, 0), (4, 3)]).toArray 25)) := (Below.refl _ _).alloc (Nat.le_refl _) _
  have hrd := rdP_block (b := w.heap.size) (ps := [(0, 0), (4, 0), (4, 3)]) (heap_alloc_new w _) 3 rfl (by unfold maxLen; simp)
  refine (HA.out _ _ hrd).mono ?_
  rintro e X ⟨rfl, hX⟩
  have Hrd := Lib.hid ((hrd.below hX).more hX.size)
  have HB := Lib.hid (hB0.trans (hX.mono hB0.size))
  clear hX hB0 hrd HA
  go_wp2_with fail
  refine (HN.out X _ Hrd.out).mono ?_
  rintro e Y ⟨rfl, hY⟩
  have HB2 := Lib.hid (HB.out.trans (hY.mono HB.out.size))
  clear hY HB Hrd HN
  go_wp2_with fail
  go_ret
  exact ⟨rfl, HB2.out⟩
end Go.Proofs.Ytlmnmilefggmpaa
