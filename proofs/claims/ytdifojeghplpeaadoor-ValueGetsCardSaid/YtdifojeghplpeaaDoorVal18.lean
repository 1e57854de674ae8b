/- Layer 8: Get, whatever came; ValueGets. -/
import Derived.Test.YtdifojeghplpeaaDoorVal15
import Derived.Test.YtdifojeghplpeaaDoorVal17
import Derived.Test.YtdifojeghplpeaaDoorVal7
namespace Go.Proofs.YtdifojeghplpeaaDoor
open Go.RowKit Var
set_option linter.unusedVariables false
set_option maxRecDepth 100000

set_option maxHeartbeats 8000000 in
theorem valueGet_err2 (a : Option Addr) (c : Nat) (l : List Nat) (w : World) (h : Nums .u8 w w.heap.size a l) (hd : ∀ x ∈ l, x < 256) (hlc : l.length ≤ c) (hl : l.length ≤ 100000) (f0 : Nat) (X : List F) (E : Nat) (hf0 : l.length < f0) (hX : gets l f0 0 [] = (X, E)) (hE : E ≠ 0) :
    Calls Tryd.prog 15 #[.slice a l.length c] w fun e w' => e = .returned (.tuple #[vv zeroV, .int .i64 (E : Int)]) ∧ Below w.heap.size w w' := by
  have HG := Lib.hid fun W (hb : Below w.heap.size w W) => get_any a c l W ((h.below hb).more hb.size) hd hlc hl f0 X E hf0 hX
  obtain ⟨L, hL⟩ : ∃ z, z = l.length := ⟨_, rfl⟩
  rw [← hL] at HG ⊢
  have he : ((E : Int) == 0) = false := by simpa using hE
  unfold vv zeroV
  simp only
  have hB : Hid (Below w.heap.size w (w.alloc (.cells #[.int .i64 0, .string ⟨#[]⟩, .int .u64 0] 24))) := (Below.refl _ _).alloc (Nat.le_refl _) _
  clear hL h hd hlc hl hf0 hX
  go_enter Tryd.func15, Tryd.ntmps15
  go_upto_region 1 with (fail)
  obtain ⟨b2, hb2⟩ : ∃ z, z = w.heap.size := ⟨_, rfl⟩
  obtain ⟨Y, hY⟩ : ∃ z, z = w.alloc (.cells #[.int .i64 0, .string ⟨#[]⟩, .int .u64 0] 24) := ⟨_, rfl⟩
  have hW : Whole Y b2 24 #[.int .i64 0, .string ⟨#[]⟩, .int .u64 0] := by rw [hY, hb2]; exact Whole.new w _ _
  have hlo : w.heap.size ≤ b2 := by omega
  rw [← hY] at hB ⊢
  rw [← hb2]
  have HW := Lib.hid hW
  clear hY hb2 hW
  go_wp2_with fail
  refine (HG.out _ hB.out).mono ?_
  rintro e Z ⟨v, rfl, hO, hZ⟩
  obtain ⟨va, vc, rfl, _⟩ := hO.len
  have HWZ := HW.out.below hZ HW.out.lt
  have HBZ := Lib.hid (hB.out.trans (hZ.mono hB.out.size))
  have e0 : Z.cell? ⟨b2, 0, none⟩ = some (.int .i64 0) := HWZ.cell 0
  have e1 : Z.cell? ⟨b2, 1, none⟩ = some (.string ⟨#[]⟩) := HWZ.cell 1
  have e2 : Z.cell? ⟨b2, 2, none⟩ = some (.int .u64 0) := HWZ.cell 2
  have f0 : Z.frozen? ⟨b2, 0, none⟩ = false := HWZ.frozen 0
  have f1 : Z.frozen? ⟨b2, 1, none⟩ = false := HWZ.frozen 1
  have f2 : Z.frozen? ⟨b2, 2, none⟩ = false := HWZ.frozen 2
  have HWZ := Lib.hid HWZ
  clear hO hZ HG HW hB
  go_wp2_with fail
  obtain ⟨V, hV⟩ : ∃ z, z = ((Z.setCell ⟨b2, 0, none⟩ (.int .i64 0)).setCell ⟨b2, 1, none⟩ (.string ⟨#[]⟩)).setCell ⟨b2, 2, none⟩ (.int .u64 0) := ⟨_, rfl⟩
  have hWV : Whole V b2 24 #[.int .i64 0, .string ⟨#[]⟩, .int .u64 0] := by
    rw [hV]
    simpa using ((HWZ.out.set 0 (.int .i64 0)).set 1 (.string ⟨#[]⟩)).set 2 (.int .u64 0)
  have hBV : Below w.heap.size w V := by
    rw [hV]
    exact ((HBZ.out.setCell (p := ⟨b2, 0, none⟩) hlo _).setCell (p := ⟨b2, 1, none⟩) hlo _).setCell (p := ⟨b2, 2, none⟩) hlo _
  have v0 : V.cell? ⟨b2, 0, none⟩ = some (.int .i64 0) := hWV.cell 0
  have v1 : V.cell? ⟨b2, 1, none⟩ = some (.string ⟨#[]⟩) := hWV.cell 1
  have v2 : V.cell? ⟨b2, 2, none⟩ = some (.int .u64 0) := hWV.cell 2
  rw [← hV]
  exact bodyPost_ret (v := .tuple #[.agg #[.int .i64 0, .string ⟨#[]⟩, .int .u64 0], .int .i64 (E : Int)]) (by simp [results, Tryd.results15, asAddr, go_sem, v0, v1, v2]) rfl ⟨rfl, hBV⟩

theorem valueGet_any (a : Option Addr) (c : Nat) (l : List Nat) (w : World) (hT : Tabs w) (h : Nums .u8 w w.heap.size a l) (hd : ∀ x ∈ l, x < 256) (hlc : l.length ≤ c) (hl : l.length ≤ 100000) :
    Calls Tryd.prog 15 #[.slice a l.length c] w fun e w' => e = .returned (.tuple #[vv (getW l).1, .int .i64 ((getW l).2 : Int)]) ∧ Below w.heap.size w w' := by
  obtain ⟨X, E, hX⟩ : ∃ X E, gets l (l.length + 1) 0 [] = (X, E) := ⟨_, _, rfl⟩
  have hXl : X.length ≤ l.length + 1 := by have := gets_len l (l.length + 1) 0 []; rw [hX] at this; simpa using this
  have hok : ∀ g ∈ X, FOk g l.length := fun g hg => by have := gets_ok l hd (l.length + 1) 0 [] (by simp) g; rw [hX] at this; exact this hg
  obtain ⟨r, hr⟩ : ∃ r, r = getW l := ⟨_, rfl⟩
  rw [← hr]
  unfold getW at hr
  rw [hX] at hr
  simp only at hr
  by_cases hE : E = 0
  · subst hE
    rw [if_neg (by simp)] at hr
    by_cases hn : (knTo (X.map F.g) (X.map F.g).length).length = 1
    · rw [if_neg (by simpa using hn)] at hr
      have hm : lastG (knTo (X.map F.g) (X.map F.g).length) ∈ X.map F.g := by
        have hm : lastG (knTo (X.map F.g) (X.map F.g).length) ∈ knTo (X.map F.g) (X.map F.g).length := by
          obtain ⟨y, hy⟩ := List.length_eq_one_iff.1 hn
          rw [hy]; simp [lastG]
        exact List.mem_of_mem_take (List.mem_filter.1 hm).1
      obtain ⟨f, hf, hfe⟩ := List.mem_map.1 hm
      have hk := hok f hf
      rw [hr]
      exact valueGet_one a c l w hT h hd hlc hl (l.length + 1) X (by omega) hX hn (by omega) _ rfl (by rw [← hfe]; exact hk.int) (by rw [← hfe]; exact hk.data.1) (by rw [← hfe]; have := hk.data.2; show f.data.length ≤ _; omega)
    · rw [if_pos hn] at hr
      rw [hr]
      exact valueGet_none a c l w h hd hlc hl (l.length + 1) X (by omega) hX hn (by omega)
  · rw [if_pos hE] at hr
    rw [hr]
    exact valueGet_err2 a c l w h hd hlc hl (l.length + 1) X E (by omega) hX hE
theorem code8_any (n : Int) (w : World) : Calls Tryd.prog 16 #[.int .i64 n] w fun e w' => e = .returned (.int .i64 n) ∧ w = w' := by
  go_enter Tryd.func16, Tryd.ntmps16
  go_wp2_with fail
  go_ret
  exact ⟨rfl, rfl⟩
set_option maxHeartbeats 8000000 in
theorem valueGets_walk (l : List Nat) (a : Option Addr) (c : Nat) (w : World) (hd : ∀ x ∈ l, x < 256) (hlc : l.length ≤ c) (hcm : c ≤ maxLen) (hN : Nums .u8 w w.heap.size a l) (hT : Tabs w) :
    Calls Tryd.prog 4 #[.slice a l.length c] w fun e w' => e = .returned (.bool true) ∧ Below w.heap.size w w' := by
  have HLV := Lib.hid fun W => live08_any W
  have HC := Lib.hid code8_any
  by_cases hbig : l.length ≤ 500
  · have hg : ¬ (500 : Int) < (l.length : Int) := by omega
    have dg : decide ((500 : Int) < (l.length : Int)) = false := decide_eq_false hg
    have HG := Lib.hid fun W (hb : Below w.heap.size w W) => valueGet_any a c l W (hT.below hb) ((hN.below hb).more hb.size) hd hlc (by omega)
    have HRG := Lib.hid fun W (hb : Below w.heap.size w W) => rvalueGet_any a c l W (hT.below hb) ((hN.below hb).more hb.size) hd hlc (by omega)
    obtain ⟨⟨⟨vk, vs, vn⟩, E⟩, hr⟩ : ∃ r, r = getW l := ⟨_, rfl⟩
    rw [← hr] at HG HRG
    simp only [vv] at HG HRG
    obtain ⟨L, hL⟩ : ∃ z, z = l.length := ⟨_, rfl⟩
    rw [← hL] at HG HRG dg hg ⊢
    have HB := Lib.hid (Below.refl w.heap.size w)
    clear hr hL hbig hd hlc hcm hN hT
    go_enter Tryd.func4, Tryd.ntmps4
    go_wp2_with fail
    refine (HG.out _ HB.out).mono ?_
    rintro e Z ⟨rfl, hZ⟩
    clear HB
    go_upto_region 4 with (fail)
    obtain ⟨b3, hb3⟩ : ∃ z, z = Z.heap.size := ⟨_, rfl⟩
    obtain ⟨Y, hY⟩ : ∃ z, z = Z.alloc (.cells #[.int .i64 vk, .string vs, .int .u64 (vn : Int)] 24) := ⟨_, rfl⟩
    have hZY : Below Z.heap.size Z Y := by rw [hY]; exact (Below.refl _ _).alloc (Nat.le_refl _) _
    have hW3 : Whole Y b3 24 #[.int .i64 vk, .string vs, .int .u64 (vn : Int)] := by rw [hY, hb3]; exact Whole.new Z _ _
    have HBY := Lib.hid (hZ.trans (hZY.mono hZ.size))
    have HW3 := Lib.hid hW3
    rw [← hY, ← hb3]
    clear hY hb3 hZ hZY hW3 HG
    go_wp2_with fail
    refine (HRG.out _ HBY.out).mono ?_
    rintro e U ⟨rfl, hU⟩
    have HW3 := Lib.hid (HW3.out.below hU HW3.out.lt)
    have HBU := Lib.hid (HBY.out.trans (hU.mono HBY.out.size))
    clear hU HRG HBY
    go_upto_region 5 with (fail)
    obtain ⟨b5, hb5⟩ : ∃ z, z = U.heap.size := ⟨_, rfl⟩
    obtain ⟨V, hV⟩ : ∃ z, z = U.alloc (.cells #[.int .i64 vk, .string vs, .int .u64 (vn : Int)] 24) := ⟨_, rfl⟩
    have hUV : Below U.heap.size U V := by rw [hV]; exact (Below.refl _ _).alloc (Nat.le_refl _) _
    have hW5 : Whole V b5 24 #[.int .i64 vk, .string vs, .int .u64 (vn : Int)] := by rw [hV, hb5]; exact Whole.new U _ _
    have hW3 := HW3.out.below hUV HW3.out.lt
    have HBV := Lib.hid (HBU.out.trans (hUV.mono HBU.out.size))
    rw [← hV, ← hb5]
    have p0 : V.cell? ⟨b3, 0, none⟩ = some (.int .i64 vk) := hW3.cell 0
    have p1 : V.cell? ⟨b3, 1, none⟩ = some (.string vs) := hW3.cell 1
    have p2 : V.cell? ⟨b3, 2, none⟩ = some (.int .u64 (vn : Int)) := hW3.cell 2
    have q0 : V.cell? ⟨b5, 0, none⟩ = some (.int .i64 vk) := hW5.cell 0
    have q1 : V.cell? ⟨b5, 1, none⟩ = some (.string vs) := hW5.cell 1
    have q2 : V.cell? ⟨b5, 2, none⟩ = some (.int .u64 (vn : Int)) := hW5.cell 2
    clear hV hb5 hUV hW5 hW3 HW3 HBU
    go_wp2_with (go_at_call 16; refine (HC.out _ _).mono ?_; rintro e Z9 ⟨rfl, rfl⟩)
    refine (HLV.out _).mono ?_
    rintro e U9 ⟨rfl, hU9⟩
    have HF := Lib.hid (HBV.out.trans (hU9.mono HBV.out.size))
    clear hU9
    go_wp2_with fail
    go_ret
    exact ⟨rfl, HF.out⟩
  · have hg : (500 : Int) < (l.length : Int) := by omega
    have dg : decide ((500 : Int) < (l.length : Int)) = true := decide_eq_true hg
    obtain ⟨L, hL⟩ : ∃ z, z = l.length := ⟨_, rfl⟩
    rw [← hL] at dg hg ⊢
    clear hL hbig hd hlc hcm hN hT
    go_enter Tryd.func4, Tryd.ntmps4
    go_wp2_with fail
    refine (HLV.out _).mono ?_
    rintro e U9 ⟨rfl, hU9⟩
    have HF := Lib.hid hU9
    clear hU9
    go_wp2_with fail
    go_ret
    exact ⟨rfl, HF.out⟩
end Go.Proofs.YtdifojeghplpeaaDoor
