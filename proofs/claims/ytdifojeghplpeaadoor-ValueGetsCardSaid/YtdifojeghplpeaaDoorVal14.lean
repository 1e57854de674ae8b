/- Layer 8: Get that fails: wire.Get's error; not just one known field. -/
import Derived.Test.YtdifojeghplpeaaDoorVal13
namespace Go.Proofs.YtdifojeghplpeaaDoor
open Go.RowKit Var
set_option linter.unusedVariables false
set_option maxRecDepth 100000

def zeroV : V3 := (0, ⟨#[]⟩, 0)
/-- What Get answers for the fields X with the error E. -/
def getV (X : List F) (E : Nat) : V3 × Nat :=
  if E ≠ 0 then (zeroV, E) else
  if (knTo (X.map F.g) (X.map F.g).length).length ≠ 1 then (zeroV, 3) else
  if (lastG (knTo (X.map F.g) (X.map F.g).length)).kind ≠ fk (lastG (knTo (X.map F.g) (X.map F.g).length)).num then (zeroV, 3) else
  if rightV (fromV (lastG (knTo (X.map F.g) (X.map F.g).length)).num (lastG (knTo (X.map F.g) (X.map F.g).length)).int (lastG (knTo (X.map F.g) (X.map F.g).length)).data) = true then
    (fromV (lastG (knTo (X.map F.g) (X.map F.g).length)).num (lastG (knTo (X.map F.g) (X.map F.g).length)).int (lastG (knTo (X.map F.g) (X.map F.g).length)).data, 0) else (zeroV, 3)
set_option maxHeartbeats 8000000 in
theorem valueGet_err (a : Option Addr) (c : Nat) (l : List Nat) (w : World) (h : Nums .u8 w w.heap.size a l) (hd : ∀ x ∈ l, x < 256) (hlc : l.length ≤ c) (hl : l.length ≤ 100000) (f0 : Nat) (X : List F) (E : Nat) (hf0 : l.length < f0) (hX : gets l f0 0 [] = (X, E)) (hE : E ≠ 0) (hE2 : E < 1000) :
    Calls Tryd.prog 15 #[.slice a l.length c] w fun e w' => e = .returned (.tuple #[vv zeroV, .int .i64 (E : Int)]) ∧ Below w.heap.size w w' := by
  have HG := Lib.hid fun W (hb : Below w.heap.size w W) => get_any a c l W ((h.below hb).more hb.size) hd hlc hl f0 X E hf0 hX
  obtain ⟨L, hL⟩ : ∃ z, z = l.length := ⟨_, rfl⟩
  rw [← hL] at HG ⊢
  have he : ((E : Int) == 0) = false := by simpa using hE
  unfold vv zeroV
  simp only
  have hB : Hid (Below w.heap.size w (w.alloc (.cells #[.int .i64 0, .string ⟨#[]⟩, .int .u64 0] 24))) := (Below.refl _ _).alloc (Nat.le_refl _) _
  clear hL h hd hlc hl hf0 hX
  go_enter Tryd.func15, Tryd.ntmps15
  go_upto_region 1 with (fail)
  obtain ⟨b2, hb2⟩ : ∃ z, z = w.heap.size := ⟨_, rfl⟩
  obtain ⟨Y, hY⟩ : ∃ z, z = w.alloc (.cells #[.int .i64 0, .string ⟨#[]⟩, .int .u64 0] 24) := ⟨_, rfl⟩
  have hW : Whole Y b2 24 #[.int .i64 0, .string ⟨#[]⟩, .int .u64 0] := by rw [hY, hb2]; exact Whole.new w _ _
  have hlo : w.heap.size ≤ b2 := by omega
  rw [← hY] at hB ⊢
  rw [← hb2]
  have HW := Lib.hid hW
  clear hY hb2 hW
  go_wp2_with fail
  refine (HG.out _ hB.out).mono ?_
  rintro e Z ⟨v, rfl, hO, hZ⟩
  obtain ⟨va, vc, rfl, _⟩ := hO.len
  have HWZ := HW.out.below hZ HW.out.lt
  have HBZ := Lib.hid (hB.out.trans (hZ.mono hB.out.size))
  have e0 : Z.cell? ⟨b2, 0, none⟩ = some (.int .i64 0) := HWZ.cell 0
  have e1 : Z.cell? ⟨b2, 1, none⟩ = some (.string ⟨#[]⟩) := HWZ.cell 1
  have e2 : Z.cell? ⟨b2, 2, none⟩ = some (.int .u64 0) := HWZ.cell 2
  have f0 : Z.frozen? ⟨b2, 0, none⟩ = false := HWZ.frozen 0
  have f1 : Z.frozen? ⟨b2, 1, none⟩ = false := HWZ.frozen 1
  have f2 : Z.frozen? ⟨b2, 2, none⟩ = false := HWZ.frozen 2
  have HWZ := Lib.hid HWZ
  clear hO hZ HG HW hB
  go_wp2_with fail
  obtain ⟨V, hV⟩ : ∃ z, z = ((Z.setCell ⟨b2, 0, none⟩ (.int .i64 0)).setCell ⟨b2, 1, none⟩ (.string ⟨#[]⟩)).setCell ⟨b2, 2, none⟩ (.int .u64 0) := ⟨_, rfl⟩
  have hWV : Whole V b2 24 #[.int .i64 0, .string ⟨#[]⟩, .int .u64 0] := by
    rw [hV]
    simpa using ((HWZ.out.set 0 (.int .i64 0)).set 1 (.string ⟨#[]⟩)).set 2 (.int .u64 0)
  have hBV : Below w.heap.size w V := by
    rw [hV]
    exact ((HBZ.out.setCell (p := ⟨b2, 0, none⟩) hlo _).setCell (p := ⟨b2, 1, none⟩) hlo _).setCell (p := ⟨b2, 2, none⟩) hlo _
  have v0 : V.cell? ⟨b2, 0, none⟩ = some (.int .i64 0) := hWV.cell 0
  have v1 : V.cell? ⟨b2, 1, none⟩ = some (.string ⟨#[]⟩) := hWV.cell 1
  have v2 : V.cell? ⟨b2, 2, none⟩ = some (.int .u64 0) := hWV.cell 2
  rw [← hV]
  exact bodyPost_ret (v := .tuple #[.agg #[.int .i64 0, .string ⟨#[]⟩, .int .u64 0], .int .i64 (E : Int)]) (by simp [results, Tryd.results15, asAddr, go_sem, v0, v1, v2]) rfl ⟨rfl, hBV⟩
set_option maxHeartbeats 8000000 in
theorem valueGet_none (a : Option Addr) (c : Nat) (l : List Nat) (w : World) (h : Nums .u8 w w.heap.size a l) (hd : ∀ x ∈ l, x < 256) (hlc : l.length ≤ c) (hl : l.length ≤ 100000) (f0 : Nat) (X : List F) (hf0 : l.length < f0) (hX : gets l f0 0 [] = (X, 0)) (hn : (knTo (X.map F.g) (X.map F.g).length).length ≠ 1) (hXl : X.length ≤ 1000000) :
    Calls Tryd.prog 15 #[.slice a l.length c] w fun e w' => e = .returned (.tuple #[vv zeroV, .int .i64 3]) ∧ Below w.heap.size w w' := by
  have HG := Lib.hid fun W (hb : Below w.heap.size w W) => get_any a c l W ((h.below hb).more hb.size) hd hlc hl f0 X 0 hf0 hX
  obtain ⟨L, hL⟩ : ∃ z, z = l.length := ⟨_, rfl⟩
  rw [← hL] at HG ⊢
  have hn2 : decide ((knTo (X.map F.g) (X.map F.g).length).length = 1) = false := decide_eq_false hn
  unfold vv zeroV
  simp only
  have hB : Hid (Below w.heap.size w (w.alloc (.cells #[.int .i64 0, .string ⟨#[]⟩, .int .u64 0] 24))) := (Below.refl _ _).alloc (Nat.le_refl _) _
  clear hL h hd hlc hl hf0 hX
  go_enter Tryd.func15, Tryd.ntmps15
  go_upto_region 1 with (fail)
  obtain ⟨b2, hb2⟩ : ∃ z, z = w.heap.size := ⟨_, rfl⟩
  obtain ⟨Y, hY⟩ : ∃ z, z = w.alloc (.cells #[.int .i64 0, .string ⟨#[]⟩, .int .u64 0] 24) := ⟨_, rfl⟩
  have hW : Whole Y b2 24 #[.int .i64 0, .string ⟨#[]⟩, .int .u64 0] := by rw [hY, hb2]; exact Whole.new w _ _
  have hlo : w.heap.size ≤ b2 := by omega
  rw [← hY] at hB ⊢
  rw [← hb2]
  have HW := Lib.hid hW
  clear hY hb2 hW
  go_wp2_with fail
  refine (HG.out _ hB.out).mono ?_
  rintro e Z ⟨v, rfl, hO, hZ⟩
  obtain ⟨va, vc, rfl, _⟩ := hO.len
  have HWZ := HW.out.below hZ HW.out.lt
  have HBZ := Lib.hid (hB.out.trans (hZ.mono hB.out.size))
  have HO := Lib.hid (only_any va vc (X.map F.g) Z hO.gat (by simpa using hXl))
  rw [hn2, List.length_map] at HO
  generalize lastG (knTo (X.map F.g) X.length) = g at HO
  obtain ⟨num, kind, int, data⟩ := g
  simp only at HO
  have HWZ := Lib.hid HWZ
  clear hO hZ HG HW hB hn hn2
  go_wp2_with fail
  refine HO.out.mono ?_
  rintro e U ⟨ad, cc, rfl, _, hU⟩
  have HWZ := HWZ.out.below hU HWZ.out.lt
  have HBZ := Lib.hid (HBZ.out.trans (hU.mono HBZ.out.size))
  clear HO hU
  go_upto_region 5 with (fail)
  obtain ⟨T, hT⟩ : ∃ z, z = U.alloc (.cells #[.int .i64 num, .int .i64 kind, .int .u64 (int : Int), .slice ad data.length cc] 43) := ⟨_, rfl⟩
  obtain ⟨b6, hb6⟩ : ∃ z, z = U.heap.size := ⟨_, rfl⟩
  have hTB : Below U.heap.size U T := by rw [hT]; exact (Below.refl _ _).alloc (Nat.le_refl _) _
  have HWT := Lib.hid (HWZ.below hTB HWZ.lt)
  have HBT := Lib.hid (HBZ.out.trans (hTB.mono HBZ.out.size))
  rw [← hT, ← hb6]
  clear hT hb6 hTB HWZ HBZ
  go_quiet (fail)
  have HWD := Lib.hid HWT.out.drew
  have e0 : T.cell? ⟨b2, 0, none⟩ = some (.int .i64 0) := HWT.out.cell 0
  have e1 : T.cell? ⟨b2, 1, none⟩ = some (.string ⟨#[]⟩) := HWT.out.cell 1
  have e2 : T.cell? ⟨b2, 2, none⟩ = some (.int .u64 0) := HWT.out.cell 2
  have f0 : T.frozen? ⟨b2, 0, none⟩ = false := HWT.out.frozen 0
  have f1 : T.frozen? ⟨b2, 1, none⟩ = false := HWT.out.frozen 1
  have f2 : T.frozen? ⟨b2, 2, none⟩ = false := HWT.out.frozen 2
  go_wp2_with fail
  have hD : Whole (T.drewN nq) b2 24 #[.int .i64 0, .string ⟨#[]⟩, .int .u64 0] := HWT.out
  have hBD : Below w.heap.size w (T.drewN nq) := ⟨HBT.out.os, HBT.out.tape, HBT.out.output, HBT.out.size, HBT.out.block⟩
  obtain ⟨V, hV⟩ : ∃ z, z = (((T.drewN nq).setCell ⟨b2, 0, none⟩ (.int .i64 0)).setCell ⟨b2, 1, none⟩ (.string ⟨#[]⟩)).setCell ⟨b2, 2, none⟩ (.int .u64 0) := ⟨_, rfl⟩
  have hWV : Whole V b2 24 #[.int .i64 0, .string ⟨#[]⟩, .int .u64 0] := by
    rw [hV]
    simpa using ((hD.set 0 (.int .i64 0)).set 1 (.string ⟨#[]⟩)).set 2 (.int .u64 0)
  have hBV : Below w.heap.size w V := by
    rw [hV]
    exact ((hBD.setCell (p := ⟨b2, 0, none⟩) hlo _).setCell (p := ⟨b2, 1, none⟩) hlo _).setCell (p := ⟨b2, 2, none⟩) hlo _
  have v0 : V.cell? ⟨b2, 0, none⟩ = some (.int .i64 0) := hWV.cell 0
  have v1 : V.cell? ⟨b2, 1, none⟩ = some (.string ⟨#[]⟩) := hWV.cell 1
  have v2 : V.cell? ⟨b2, 2, none⟩ = some (.int .u64 0) := hWV.cell 2
  rw [← hV]
  exact bodyPost_ret (v := .tuple #[.agg #[.int .i64 0, .string ⟨#[]⟩, .int .u64 0], .int .i64 3]) (by simp [results, Tryd.results15, asAddr, go_sem, v0, v1, v2]) rfl ⟨rfl, hBV⟩
end Go.Proofs.YtdifojeghplpeaaDoor
