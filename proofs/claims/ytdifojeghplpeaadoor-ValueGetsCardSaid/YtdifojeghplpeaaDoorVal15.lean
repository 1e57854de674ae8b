/- Layer 8: Get where just one field is known. -/
import Derived.Test.YtdifojeghplpeaaDoorVal16
import Derived.BigQuiet
import Derived.Deep.QuietTactic
namespace Go.Proofs.YtdifojeghplpeaaDoor
open Go.RowKit Var
set_option linter.unusedVariables false
set_option maxRecDepth 100000

set_option maxHeartbeats 16000000 in
theorem valueGet_one (a : Option Addr) (c : Nat) (l : List Nat) (w : World) (hT : Tabs w) (h : Nums .u8 w w.heap.size a l) (hd : ∀ x ∈ l, x < 256) (hlc : l.length ≤ c) (hl : l.length ≤ 100000) (f0 : Nat) (X : List F) (hf0 : l.length < f0) (hX : gets l f0 0 [] = (X, 0)) (hn : (knTo (X.map F.g) (X.map F.g).length).length = 1) (hXl : X.length ≤ 1000000)
    (g : G) (hg : lastG (knTo (X.map F.g) (X.map F.g).length) = g) (hgi : g.int < 18446744073709551616) (hgd : ∀ x ∈ g.data, x < 256) (hgl : g.data.length ≤ 1000000) :
    Calls Tryd.prog 15 #[.slice a l.length c] w fun e w' => e = .returned (.tuple #[vv (oneV g).1, .int .i64 ((oneV g).2 : Int)]) ∧ Below w.heap.size w w' := by
  have HG := Lib.hid fun W (hb : Below w.heap.size w W) => get_any a c l W ((h.below hb).more hb.size) hd hlc hl f0 X 0 hf0 hX
  obtain ⟨L, hL⟩ : ∃ z, z = l.length := ⟨_, rfl⟩
  rw [← hL] at HG ⊢
  have hn2 : decide ((knTo (X.map F.g) (X.map F.g).length).length = 1) = true := decide_eq_true hn
  have HT := Lib.hid hT
  have HGD := Lib.hid hgd
  have HGI := Lib.hid hgi
  have HGL := Lib.hid hgl
  have hB : Hid (Below w.heap.size w (w.alloc (.cells #[.int .i64 0, .string ⟨#[]⟩, .int .u64 0] 24))) := (Below.refl _ _).alloc (Nat.le_refl _) _
  obtain ⟨r, hr⟩ : ∃ r, r = oneV g := ⟨_, rfl⟩
  rw [← hr]
  have HR := Lib.hid hr
  clear hL h hd hlc hl hf0 hX hT hgd hgi hgl hr
  unfold vv
  go_enter Tryd.func15, Tryd.ntmps15
  go_upto_region 1 with (fail)
  obtain ⟨b2, hb2⟩ : ∃ z, z = w.heap.size := ⟨_, rfl⟩
  obtain ⟨Y, hY⟩ : ∃ z, z = w.alloc (.cells #[.int .i64 0, .string ⟨#[]⟩, .int .u64 0] 24) := ⟨_, rfl⟩
  have hW : Whole Y b2 24 #[.int .i64 0, .string ⟨#[]⟩, .int .u64 0] := by rw [hY, hb2]; exact Whole.new w _ _
  have hlo : w.heap.size ≤ b2 := by omega
  rw [← hY] at hB ⊢
  rw [← hb2]
  have HW := Lib.hid hW
  clear hY hb2 hW
  go_wp2_with fail
  refine (HG.out _ hB.out).mono ?_
  rintro e Z ⟨v, rfl, hO, hZ⟩
  obtain ⟨va, vc, rfl, _⟩ := hO.len
  have HWZ := HW.out.below hZ HW.out.lt
  have HBZ := Lib.hid (hB.out.trans (hZ.mono hB.out.size))
  have HO := Lib.hid (only_any va vc (X.map F.g) Z hO.gat (by simpa using hXl))
  rw [hn2, hg, List.length_map] at HO
  obtain ⟨num, kind, int, data⟩ := g
  simp only at HO HGD HGI HGL
  have HWZ := Lib.hid HWZ
  clear hO hZ HG HW hB hn hn2 hg
  go_wp2_with fail
  refine HO.out.mono ?_
  rintro e U ⟨ad, cc, rfl, hNU, hU⟩
  have HWZ := HWZ.out.below hU HWZ.out.lt
  have HNU := hNU.more hU.size
  have HBZ := Lib.hid (HBZ.out.trans (hU.mono HBZ.out.size))
  clear HO hU hNU
  obtain ⟨dl, hdl⟩ : ∃ z, z = data.length := ⟨_, rfl⟩
  have Hdl := Lib.hid hdl
  rw [← hdl]
  clear hdl
  go_upto_region 5 with (fail)
  obtain ⟨T, hT⟩ : ∃ z, z = U.alloc (.cells #[.int .i64 num, .int .i64 kind, .int .u64 (int : Int), .slice ad dl cc] 43) := ⟨_, rfl⟩
  obtain ⟨b6, hb6⟩ : ∃ z, z = U.heap.size := ⟨_, rfl⟩
  have hTB : Below U.heap.size U T := by rw [hT]; exact (Below.refl _ _).alloc (Nat.le_refl _) _
  have hW6 : Whole T b6 43 #[.int .i64 num, .int .i64 kind, .int .u64 (int : Int), .slice ad dl cc] := by rw [hT, hb6]; exact Whole.new U _ _
  have HWT := Lib.hid (HWZ.below hTB HWZ.lt)
  have HBT := Lib.hid (HBZ.out.trans (hTB.mono HBZ.out.size))
  have HNT := Lib.hid ((HNU.below hTB).more hTB.size)
  rw [← hT, ← hb6]
  clear hT hb6 hTB HWZ HBZ HNU
  have t0 : T.cell? ⟨b6, 0, none⟩ = some (.int .i64 num) := hW6.cell 0
  have t1 : T.cell? ⟨b6, 1, none⟩ = some (.int .i64 kind) := hW6.cell 1
  have HW6 := Lib.hid hW6
  clear hW6
  by_cases hk : kind = fk num
  · have dk : (kind != fk num) = false := by simp [hk]
    have HK := Lib.hid hk
    have hr : r = if rightV (fromV num int data) = true then (fromV num int data, 0) else (zeroV, 3) := by rw [HR.out]; unfold oneV; rw [if_neg (by simpa using hk)]
    clear hk HR
    go_quiet ((go_at_call 22; exact Calls.quiet_of_same ((fieldKind_any _ _).mono fun _ _ h => ⟨h.1, h.2.symm⟩)))
    have HWD : Hid (Whole (T.drewN nq) b2 24 #[.int .i64 0, .string ⟨#[]⟩, .int .u64 0]) := HWT.out
    have HBD : Hid (Below w.heap.size w (T.drewN nq)) := ⟨HBT.out.os, HBT.out.tape, HBT.out.output, HBT.out.size, HBT.out.block⟩
    have HND : Hid (Nums .u8 (T.drewN nq) (T.drewN nq).heap.size ad data) := HNT.out
    have HX6 : Hid (Whole (T.drewN nq) b6 43 #[.int .i64 num, .int .i64 kind, .int .u64 (int : Int), .slice ad dl cc]) := HW6.out
    clear HW6
    have HW6 := HX6
    obtain ⟨D, hD⟩ : ∃ z, z = T.drewN nq := ⟨_, rfl⟩
    rw [← hD] at HWD HBD HND HW6 ⊢
    clear hD HWT HBT HNT HX6
    have d0 : D.cell? ⟨b6, 0, none⟩ = some (.int .i64 num) := HW6.out.cell 0
    have d1 : D.cell? ⟨b6, 1, none⟩ = some (.int .i64 kind) := HW6.out.cell 1
    have d2 : D.cell? ⟨b6, 2, none⟩ = some (.int .u64 (int : Int)) := HW6.out.cell 2
    have d3 : D.cell? ⟨b6, 3, none⟩ = some (.slice ad dl cc) := HW6.out.cell 3
    have hok := fromV_ok num int data HGI.out HGL.out
    have HF := Lib.hid (fromField_any num kind int ad cc data D HGI.out HND.out HGD.out)
    rw [← Hdl.out] at HF
    obtain ⟨⟨vk, vs, vn⟩, hfv⟩ : ∃ z, z = fromV num int data := ⟨_, rfl⟩
    rw [← hfv] at hr hok HF
    simp only at hok
    have HOK := Lib.hid hok
    have HRR := Lib.hid hr
    unfold vv at HF
    simp only at HF
    clear hfv hok hr dk HK t0 t1 HND HGD HGI HGL Hdl
    go_wp2_with fail
    refine HF.out.mono ?_
    rintro e Z ⟨rfl, hZ⟩
    have HWZ := Lib.hid (HWD.out.below hZ HWD.out.lt)
    have HBZ := Lib.hid (HBD.out.trans (hZ.mono HBD.out.size))
    clear hZ HWD HBD HF HW6 d0 d1 d2 d3
    go_upto_region 8 with (fail)
    obtain ⟨b8, hb8⟩ : ∃ z, z = Z.heap.size := ⟨_, rfl⟩
    obtain ⟨O, hO⟩ : ∃ z, z = Z.alloc (.cells #[.int .i64 vk, .string vs, .int .u64 (vn : Int)] 24) := ⟨_, rfl⟩
    have hOB : Below Z.heap.size Z O := by rw [hO]; exact (Below.refl _ _).alloc (Nat.le_refl _) _
    have hW8 : Whole O b8 24 #[.int .i64 vk, .string vs, .int .u64 (vn : Int)] := by rw [hO, hb8]; exact Whole.new Z _ _
    have HWO := Lib.hid (HWZ.out.below hOB HWZ.out.lt)
    have HBO := Lib.hid (HBZ.out.trans (hOB.mono HBZ.out.size))
    have HV := Lib.hid (right_any (vk, vs, vn) O (HT.out.below HBO.out) HOK.out.1 HOK.out.2)
    unfold vv at HV
    simp only at HV
    rw [← hO, ← hb8]
    clear hO hb8 hOB HWZ HBZ
    have o0 : O.cell? ⟨b8, 0, none⟩ = some (.int .i64 vk) := hW8.cell 0
    have o1 : O.cell? ⟨b8, 1, none⟩ = some (.string vs) := hW8.cell 1
    have o2 : O.cell? ⟨b8, 2, none⟩ = some (.int .u64 (vn : Int)) := hW8.cell 2
    have HW8 := Lib.hid hW8
    clear hW8
    go_wp2_with fail
    refine HV.out.mono ?_
    rintro e U2 ⟨rfl, hU2⟩
    have HW8 := Lib.hid (HW8.out.below hU2 HW8.out.lt)
    have HWU := Lib.hid (HWO.out.below hU2 HWO.out.lt)
    have HBU := Lib.hid (HBO.out.trans (hU2.mono HBO.out.size))
    clear hU2 HWO HBO HV o0 o1 o2
    have o0 : U2.cell? ⟨b8, 0, none⟩ = some (.int .i64 vk) := HW8.out.cell 0
    have o1 : U2.cell? ⟨b8, 1, none⟩ = some (.string vs) := HW8.out.cell 1
    have o2 : U2.cell? ⟨b8, 2, none⟩ = some (.int .u64 (vn : Int)) := HW8.out.cell 2
    have e0 : (U2).cell? ⟨b2, 0, none⟩ = some (.int .i64 0) := HWU.out.cell 0
    have e1 : (U2).cell? ⟨b2, 1, none⟩ = some (.string ⟨#[]⟩) := HWU.out.cell 1
    have e2 : (U2).cell? ⟨b2, 2, none⟩ = some (.int .u64 0) := HWU.out.cell 2
    have f0 : (U2).frozen? ⟨b2, 0, none⟩ = false := HWU.out.frozen 0
    have f1 : (U2).frozen? ⟨b2, 1, none⟩ = false := HWU.out.frozen 1
    have f2 : (U2).frozen? ⟨b2, 2, none⟩ = false := HWU.out.frozen 2
    cases hrv : rightV (vk, vs, vn) with
    | true =>
      have hr : r = ((vk, vs, vn), 0) := by rw [HRR.out, hrv]; rfl
      subst hr
      simp only
      go_wp2_with fail
      obtain ⟨V, hV⟩ : ∃ z, z = (((U2).setCell ⟨b2, 0, none⟩ (.int .i64 vk)).setCell ⟨b2, 1, none⟩ (.string vs)).setCell ⟨b2, 2, none⟩ (.int .u64 (vn : Int)) := ⟨_, rfl⟩
      have hWV : Whole V b2 24 #[.int .i64 vk, .string vs, .int .u64 (vn : Int)] := by
        rw [hV]
        simpa using ((HWU.out.set 0 (.int .i64 vk)).set 1 (.string vs)).set 2 (.int .u64 (vn : Int))
      have hBV : Below w.heap.size w V := by
        rw [hV]
        exact ((HBU.out.setCell (p := ⟨b2, 0, none⟩) hlo _).setCell (p := ⟨b2, 1, none⟩) hlo _).setCell (p := ⟨b2, 2, none⟩) hlo _
      have v0 : V.cell? ⟨b2, 0, none⟩ = some (.int .i64 vk) := hWV.cell 0
      have v1 : V.cell? ⟨b2, 1, none⟩ = some (.string vs) := hWV.cell 1
      have v2 : V.cell? ⟨b2, 2, none⟩ = some (.int .u64 (vn : Int)) := hWV.cell 2
      rw [← hV]
      exact bodyPost_ret (v := .tuple #[.agg #[.int .i64 vk, .string vs, .int .u64 (vn : Int)], .int .i64 0]) (by simp [results, Tryd.results15, asAddr, go_sem, v0, v1, v2]) rfl ⟨rfl, hBV⟩
    | false =>
      have hr : r = (zeroV, 3) := by rw [HRR.out, hrv]; rfl
      subst hr
      go_wp2_with fail
      obtain ⟨V, hV⟩ : ∃ z, z = (((U2).setCell ⟨b2, 0, none⟩ (.int .i64 0)).setCell ⟨b2, 1, none⟩ (.string ⟨#[]⟩)).setCell ⟨b2, 2, none⟩ (.int .u64 0) := ⟨_, rfl⟩
      have hWV : Whole V b2 24 #[.int .i64 0, .string ⟨#[]⟩, .int .u64 0] := by
        rw [hV]
        simpa using ((HWU.out.set 0 (.int .i64 0)).set 1 (.string ⟨#[]⟩)).set 2 (.int .u64 0)
      have hBV : Below w.heap.size w V := by
        rw [hV]
        exact ((HBU.out.setCell (p := ⟨b2, 0, none⟩) hlo _).setCell (p := ⟨b2, 1, none⟩) hlo _).setCell (p := ⟨b2, 2, none⟩) hlo _
      have v0 : V.cell? ⟨b2, 0, none⟩ = some (.int .i64 0) := hWV.cell 0
      have v1 : V.cell? ⟨b2, 1, none⟩ = some (.string ⟨#[]⟩) := hWV.cell 1
      have v2 : V.cell? ⟨b2, 2, none⟩ = some (.int .u64 0) := hWV.cell 2
      rw [← hV]
      exact bodyPost_ret (v := .tuple #[.agg #[.int .i64 0, .string ⟨#[]⟩, .int .u64 0], .int .i64 3]) (by simp [results, Tryd.results15, asAddr, go_sem, v0, v1, v2]) rfl ⟨rfl, hBV⟩
  · have dk : (kind != fk num) = true := by simpa using hk
    have hr : r = (zeroV, 3) := by rw [HR.out]; unfold oneV; rw [if_pos (by exact hk)]
    subst hr
    clear hk HR
    go_quiet ((go_at_call 22; exact Calls.quiet_of_same ((fieldKind_any _ _).mono fun _ _ h => ⟨h.1, h.2.symm⟩)))
    have HWD : Hid (Whole (T.drewN nq) b2 24 #[.int .i64 0, .string ⟨#[]⟩, .int .u64 0]) := HWT.out
    have HBD : Hid (Below w.heap.size w (T.drewN nq)) := ⟨HBT.out.os, HBT.out.tape, HBT.out.output, HBT.out.size, HBT.out.block⟩
    have HND : Hid (Nums .u8 (T.drewN nq) (T.drewN nq).heap.size ad data) := HNT.out
    have HX6 : Hid (Whole (T.drewN nq) b6 43 #[.int .i64 num, .int .i64 kind, .int .u64 (int : Int), .slice ad dl cc]) := HW6.out
    clear HW6
    have HW6 := HX6
    obtain ⟨D, hD⟩ : ∃ z, z = T.drewN nq := ⟨_, rfl⟩
    rw [← hD] at HWD HBD HND HW6 ⊢
    clear hD HWT HBT HNT HX6
    have e0 : (D).cell? ⟨b2, 0, none⟩ = some (.int .i64 0) := HWD.out.cell 0
    have e1 : (D).cell? ⟨b2, 1, none⟩ = some (.string ⟨#[]⟩) := HWD.out.cell 1
    have e2 : (D).cell? ⟨b2, 2, none⟩ = some (.int .u64 0) := HWD.out.cell 2
    have f0 : (D).frozen? ⟨b2, 0, none⟩ = false := HWD.out.frozen 0
    have f1 : (D).frozen? ⟨b2, 1, none⟩ = false := HWD.out.frozen 1
    have f2 : (D).frozen? ⟨b2, 2, none⟩ = false := HWD.out.frozen 2
    go_wp2_with fail
    obtain ⟨V, hV⟩ : ∃ z, z = (((D).setCell ⟨b2, 0, none⟩ (.int .i64 0)).setCell ⟨b2, 1, none⟩ (.string ⟨#[]⟩)).setCell ⟨b2, 2, none⟩ (.int .u64 0) := ⟨_, rfl⟩
    have hWV : Whole V b2 24 #[.int .i64 0, .string ⟨#[]⟩, .int .u64 0] := by
      rw [hV]
      simpa using ((HWD.out.set 0 (.int .i64 0)).set 1 (.string ⟨#[]⟩)).set 2 (.int .u64 0)
    have hBV : Below w.heap.size w V := by
      rw [hV]
      exact ((HBD.out.setCell (p := ⟨b2, 0, none⟩) hlo _).setCell (p := ⟨b2, 1, none⟩) hlo _).setCell (p := ⟨b2, 2, none⟩) hlo _
    have v0 : V.cell? ⟨b2, 0, none⟩ = some (.int .i64 0) := hWV.cell 0
    have v1 : V.cell? ⟨b2, 1, none⟩ = some (.string ⟨#[]⟩) := hWV.cell 1
    have v2 : V.cell? ⟨b2, 2, none⟩ = some (.int .u64 0) := hWV.cell 2
    rw [← hV]
    exact bodyPost_ret (v := .tuple #[.agg #[.int .i64 0, .string ⟨#[]⟩, .int .u64 0], .int .i64 3]) (by simp [results, Tryd.results15, asAddr, go_sem, v0, v1, v2]) rfl ⟨rfl, hBV⟩
end Go.Proofs.YtdifojeghplpeaaDoor
