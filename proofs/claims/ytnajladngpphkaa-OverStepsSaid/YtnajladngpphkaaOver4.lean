/- Layer 28: what is done with a feature of points. -/
import Derived.Test.YtnajladngpphkaaOver3
namespace Go.Proofs.Ytnajladngpphkaa
open Go.RowKit
set_option linter.unusedVariables false
set_option maxRecDepth 100000

/-- A feature of points, with nothing else. -/
def featB (v : Value) : Array Value := #[.bool false, .int .u64 0, .int .i64 1, v, .slice none 0 0]
def zeroF : Array Value := #[.bool false, .int .u64 0, .int .i64 0, .slice none 0 0, .slice none 0 0]
def FPost (w : World) (R : List P2) (e : Ending) (w' : World) : Prop := Below w.heap.size w w' ∧ ((R = [] ∧ e = .returned (.tuple #[.agg zeroF, .bool false])) ∨ (R ≠ [] ∧ ∃ v, e = .returned (.tuple #[.agg (featB v), .bool true]) ∧ PF w' w.heap.size v R))

def set5 (W : World) (b : Nat) (v0 v1 v2 v3 v4 : Value) : World := ((((W.setCell ⟨b, 0, none⟩ v0).setCell ⟨b, 1, none⟩ v1).setCell ⟨b, 2, none⟩ v2).setCell ⟨b, 3, none⟩ v3).setCell ⟨b, 4, none⟩ v4
theorem set5_whole {W : World} {b : Nat} {t : TypeId} {x0 x1 x2 x3 x4 : Value} (h : Whole W b t #[x0, x1, x2, x3, x4]) (v0 v1 v2 v3 v4 : Value) : Whole (set5 W b v0 v1 v2 v3 v4) b t #[v0, v1, v2, v3, v4] := ((((h.set 0 v0).set 1 v1).set 2 v2).set 3 v3).set 4 v4
theorem set5_below {B : Nat} {w W : World} {b : Nat} (h : Below B w W) (hb : B ≤ b) (v0 v1 v2 v3 v4 : Value) : Below B w (set5 W b v0 v1 v2 v3 v4) :=
  ((((h.setCell (p := ⟨b, 0, none⟩) hb v0).setCell (p := ⟨b, 1, none⟩) hb v1).setCell (p := ⟨b, 2, none⟩) hb v2).setCell (p := ⟨b, 3, none⟩) hb v3).setCell (p := ⟨b, 4, none⟩) hb v4
theorem set5_keep {W : World} {b k : Nat} (h : k ≠ b) (v0 v1 v2 v3 v4 : Value) : (set5 W b v0 v1 v2 v3 v4).heap[k]? = W.heap[k]? := by
  unfold set5
  rw [Below.heap_setCell _ _ _ k h, Below.heap_setCell _ _ _ k h, Below.heap_setCell _ _ _ k h, Below.heap_setCell _ _ _ k h, Below.heap_setCell _ _ _ k h]
theorem set5_past {W : World} (b : Nat) (v0 v1 v2 v3 v4 : Value) : Below b W (set5 W b v0 v1 v2 v3 v4) := set5_below (Below.refl _ _) (Nat.le_refl _) v0 v1 v2 v3 v4

set_option maxHeartbeats 8000000 in
theorem treatment_any (u X Y : Nat) (E B : Int) (hE : okE E B = true) (w : World) :
    Calls Try.prog 14 #[.agg #[.int .i64 (u : Int), .int .i64 (X : Int), .int .i64 (Y : Int), .int .i64 B], .int .i64 E] w fun e w' => ∃ g0 g1 g3, e = .returned (.func (.func 19) #[] #[.pointer (some ⟨g3, 0, none⟩)]) ∧ Whole w' g3 51 (winC g0 g1 (-B) (E + B)) ∧ ZBox w' g0 g1 u X Y E B ∧ Below w.heap.size w w' := by
  have HOp := Lib.hid fun W => opened_any u X Y E B hE W
  obtain ⟨lo, hlo⟩ : ∃ lo, lo = -B := ⟨_, rfl⟩
  obtain ⟨hi, hhi⟩ : ∃ hi, hi = E + B := ⟨_, rfl⟩
  rw [← hlo, ← hhi] at HOp ⊢
  clear hE hlo hhi
  obtain ⟨X0, hX0⟩ : ∃ X0, X0 = w.alloc (.cells #[.int .i64 (u : Int), .int .i64 (X : Int), .int .i64 (Y : Int), .int .i64 B] 25) := ⟨_, rfl⟩
  have hB : Below w.heap.size w X0 := by rw [hX0]; exact (Below.refl _ _).alloc (Nat.le_refl _) _
  obtain ⟨b, hb⟩ : ∃ b, b = w.heap.size := ⟨_, rfl⟩
  have hZ : Whole X0 b 25 #[.int .i64 (u : Int), .int .i64 (X : Int), .int .i64 (Y : Int), .int .i64 B] := by rw [hX0, hb]; exact Whole.new w _ _
  have z0 : X0.cell? ⟨b, 0, none⟩ = some (.int .i64 (u : Int)) := hZ.cell 0
  have z1 : X0.cell? ⟨b, 1, none⟩ = some (.int .i64 (X : Int)) := hZ.cell 1
  have z2 : X0.cell? ⟨b, 2, none⟩ = some (.int .i64 (Y : Int)) := hZ.cell 2
  have z3 : X0.cell? ⟨b, 3, none⟩ = some (.int .i64 B) := hZ.cell 3
  have HX0 := Lib.hid hX0
  have HB := Lib.hid hB
  have Hb := Lib.hid hb
  clear hX0 hB hZ hb
  go_enter Try.func14, Try.ntmps14
  go_upto_region 1 with (fail)
  rw [← HX0.out, ← Hb.out]
  go_wp2_with fail
  refine (HOp.out _).mono ?_
  rintro e W ⟨rfl, hZ, hb⟩
  obtain ⟨g0, hg0⟩ : ∃ g, g = X0.heap.size := ⟨_, rfl⟩
  obtain ⟨g1, hg1⟩ : ∃ g, g = X0.heap.size + 1 := ⟨_, rfl⟩
  rw [← hg1, ← hg0] at hZ ⊢
  have HZ := Lib.hid hZ
  have HB := Lib.hid (keepBelow hb HB.out)
  clear hZ hb hg0 hg1 HOp HX0 z0 z1 z2 z3
  have hst := fun (V : World) (b : Nat) => run_store Try.prog V ⟨b, 0, none⟩ (.func (.func 25) #[] #[.pointer (some ⟨g0, 0, none⟩), .pointer (some ⟨g1, 0, none⟩)]) .plain rfl
  unfold winC
  go_wp2_with fail
  go_ret
  exact ⟨g0, g1, W.heap.size, rfl, Whole.new W _ _, ⟨HZ.out.1.alloc _, HZ.out.2.alloc _⟩, HB.out.alloc HB.out.size _⟩

set_option maxHeartbeats 16000000 in
theorem treat_any (u X Y : Nat) (E B : Int) (hu : u ≤ 14) (hX : X < 2 ^ u) (hY : Y < 2 ^ u) (hE : okE E B = true) (v : Value) (l : List P2) (hl : l.length ≤ 1000) (hin : ∀ p ∈ l, okPt p) (g0 g1 g3 : Nat) (w : World) (hz : ZBox w g0 g1 u X Y E B) (hw : Whole w g3 51 (winC g0 g1 (-B) (E + B))) (hv : RdPP w w.heap.size v [l])
    (R : List P2) (hR : (l.map (scP ((2 ^ u : Nat) : Int) X Y E)).filter (insB (-B) (E + B)) = R) :
    Calls Try.prog 19 #[.agg #[.bool false, .int .u64 0, .int .i64 1, v, .slice none 0 0], .pointer (some ⟨g3, 0, none⟩)] w (FPost w R) := by
  obtain ⟨lo, hlo⟩ : ∃ lo, lo = -B := ⟨_, rfl⟩
  obtain ⟨hi, hhi⟩ : ∃ hi, hi = E + B := ⟨_, rfl⟩
  rw [← hlo, ← hhi] at hR hw
  have HPo := Lib.hid fun v W (hz : ZBox W g0 g1 u X Y E B) (hv : RdPP W W.heap.size v [l]) => wpoints_any u X Y E B hu hX hY hE lo hi v l hl hin g0 g1 W hz hv R hR
  clear hR hE hX hY hin hl hu hlo hhi
  obtain ⟨X0, hX0⟩ : ∃ X0, X0 = (w.alloc (.cells #[.bool false, .int .u64 0, .int .i64 1, v, .slice none 0 0] 30)).alloc (.cells #[.bool false, .int .u64 0, .int .i64 0, .slice none 0 0, .slice none 0 0] 30) := ⟨_, rfl⟩
  obtain ⟨b, hb⟩ : ∃ b, b = w.heap.size := ⟨_, rfl⟩
  have hF : Whole X0 b 30 #[.bool false, .int .u64 0, .int .i64 1, v, .slice none 0 0] := by rw [hX0, hb]; exact (Whole.new w _ _).alloc _
  have hO : Whole X0 (b + 1) 30 zeroF := by
    rw [hX0, hb]
    have := Whole.new (w.alloc (.cells #[.bool false, .int .u64 0, .int .i64 1, v, .slice none 0 0] 30)) 30 zeroF
    rw [show (w.alloc (.cells #[.bool false, .int .u64 0, .int .i64 1, v, .slice none 0 0] 30)).heap.size = w.heap.size + 1 by simp] at this
    exact this
  have hB : Below w.heap.size w X0 := by
    rw [hX0]
    have h1 := (Below.refl w.heap.size w).alloc (Nat.le_refl _) (.cells #[.bool false, .int .u64 0, .int .i64 1, v, .slice none 0 0] 30)
    exact h1.alloc h1.size _
  have hz0 := hz.kept hB
  have hv0 := (hv.below hB).more hB.size
  have hw0 := hw.below hB hw.lt
  have c2 : X0.cell? ⟨b, 2, none⟩ = some (.int .i64 1) := hF.cell 2
  have c3 : X0.cell? ⟨b, 3, none⟩ = some v := hF.cell 3
  have z0 : X0.cell? ⟨g3, 0, none⟩ = some (.func (.func 25) #[] #[.pointer (some ⟨g0, 0, none⟩), .pointer (some ⟨g1, 0, none⟩)]) := hw0.cell 0
  have z1 : X0.cell? ⟨g3, 1, none⟩ = some (.int .i64 lo) := hw0.cell 1
  have z2 : X0.cell? ⟨g3, 2, none⟩ = some (.int .i64 hi) := hw0.cell 2
  have HPo := Lib.hid (HPo.out v X0 hz0 hv0)
  have HX0 := Lib.hid hX0
  have HF := Lib.hid hF
  have HO := Lib.hid hO
  have HB := Lib.hid hB
  have Hb := Lib.hid hb
  clear hX0 hF hO hB hb hz0 hv0 hw0 hz hv hw
  go_enter Try.func19, Try.ntmps19
  go_upto_region 1 with (fail)
  rw [← HX0.out, ← Hb.out]
  go_wp2_with fail
  refine HPo.out.mono ?_
  rintro e W ⟨v2, rfl, hb2, hcase⟩
  have hF := HF.out.below hb2 HF.out.lt
  have hO := HO.out.below hb2 HO.out.lt
  have HB := Lib.hid (keepBelow hb2 HB.out)
  have hc : ∃ a2 n2 cc, v2 = .slice a2 n2 cc ∧ ((R = [] ∧ n2 = 0) ∨ (R ≠ [] ∧ n2 = 1 ∧ PF W (b + 2) (.slice a2 n2 cc) R)) := by
    rcases hcase with ⟨h1, a2, cc, rfl⟩ | ⟨h1, h2⟩
    · exact ⟨a2, 0, cc, rfl, .inl ⟨h1, rfl⟩⟩
    · have hlo : b + 2 ≤ X0.heap.size := by have := HO.out.lt; omega
      obtain ⟨bb, cap, _, _, rfl, _⟩ := id h2
      exact ⟨_, 1, cap, rfl, .inr ⟨h1, rfl, h2.mono hlo⟩⟩
  obtain ⟨a2, n2, cc, rfl, hc⟩ := hc
  have Hc := Lib.hid hc
  clear hcase hc
  have d3 : W.cell? ⟨b, 3, none⟩ = some v := hF.cell 3
  have f3 : W.frozen? ⟨b, 3, none⟩ = false := hF.frozen 3
  have HF := Lib.hid hF
  have HO := Lib.hid hO
  clear hF hO hb2 HPo HX0 c2 c3 z0 z1 z2
  go_upto_region 7 with (fail)
  obtain ⟨W2, hW2⟩ : ∃ W2, W2 = W.setCell ⟨b, 3, none⟩ (.slice a2 n2 cc) := ⟨_, rfl⟩
  have hF2 : Whole W2 b 30 #[.bool false, .int .u64 0, .int .i64 1, .slice a2 n2 cc, .slice none 0 0] := by rw [hW2]; exact HF.out.set 3 _
  have hO2 : Whole W2 (b + 1) 30 zeroF := by rw [hW2]; exact HO.out.far (p := ⟨b, 3, none⟩) (by show b + 1 ≠ b; omega) _
  have hB2 : Below w.heap.size w W2 := by rw [hW2]; exact HB.out.setCell (p := ⟨b, 3, none⟩) (by have := Hb.out; show _ ≤ b; omega) _
  rw [← hW2]
  have g2 : W2.cell? ⟨b, 3, none⟩ = some (.slice a2 n2 cc) := hF2.cell 3
  have e0 : W2.cell? ⟨b + 1, 0, none⟩ = some (.bool false) := hO2.cell 0
  have e1 : W2.cell? ⟨b + 1, 1, none⟩ = some (.int .u64 0) := hO2.cell 1
  have e2 : W2.cell? ⟨b + 1, 2, none⟩ = some (.int .i64 0) := hO2.cell 2
  have e3 : W2.cell? ⟨b + 1, 3, none⟩ = some (.slice none 0 0) := hO2.cell 3
  have e4 : W2.cell? ⟨b + 1, 4, none⟩ = some (.slice none 0 0) := hO2.cell 4
  have k0 : W2.frozen? ⟨b + 1, 0, none⟩ = false := hO2.frozen 0
  have k1 : W2.frozen? ⟨b + 1, 1, none⟩ = false := hO2.frozen 1
  have k2 : W2.frozen? ⟨b + 1, 2, none⟩ = false := hO2.frozen 2
  have k3 : W2.frozen? ⟨b + 1, 3, none⟩ = false := hO2.frozen 3
  have k4 : W2.frozen? ⟨b + 1, 4, none⟩ = false := hO2.frozen 4
  have c0 : W2.cell? ⟨b, 0, none⟩ = some (.bool false) := hF2.cell 0
  have c1 : W2.cell? ⟨b, 1, none⟩ = some (.int .u64 0) := hF2.cell 1
  have c2 : W2.cell? ⟨b, 2, none⟩ = some (.int .i64 1) := hF2.cell 2
  have c4 : W2.cell? ⟨b, 4, none⟩ = some (.slice none 0 0) := hF2.cell 4
  have HW2 := Lib.hid hW2
  have HO2 := Lib.hid hO2
  have HB2 := Lib.hid hB2
  clear hW2 hF2 hO2 hB2
  rcases Hc.out with ⟨hr, rfl⟩ | ⟨hr, rfl, hp⟩
  · have Hr := Lib.hid hr
    clear hr Hc
    go_wp2_with fail
    have hV := set5_whole (b := b + 1) HO2.out (.bool false) (.int .u64 0) (.int .i64 0) (.slice none 0 0) (.slice none 0 0)
    have hBV := set5_below HB2.out (b := b + 1) (by have := Hb.out; omega) (.bool false) (.int .u64 0) (.int .i64 0) (.slice none 0 0) (.slice none 0 0)
    have a0 := hV.cell 0
    have a1 := hV.cell 1
    have a2 := hV.cell 2
    have a3 := hV.cell 3
    have a4 := hV.cell 4
    simp only [set5, List.getElem?_toArray, List.getElem?_cons_zero, List.getElem?_cons_succ] at a0 a1 a2 a3 a4
    exact bodyPost_ret (v := .tuple #[.agg zeroF, .bool false]) (by simp [results, Try.results19, go_sem, a0, a1, a2, a3, a4, zeroF]) rfl ⟨hBV, .inl ⟨Hr.out, rfl⟩⟩
  · have hV := set5_whole (b := b + 1) HO2.out (.bool false) (.int .u64 0) (.int .i64 1) (.slice a2 1 cc) (.slice none 0 0)
    have hBV := set5_below HB2.out (b := b + 1) (by have := Hb.out; omega) (.bool false) (.int .u64 0) (.int .i64 1) (.slice a2 1 cc) (.slice none 0 0)
    have hp2 : PF (set5 W2 (b + 1) (.bool false) (.int .u64 0) (.int .i64 1) (.slice a2 1 cc) (.slice none 0 0)) (b + 2) (.slice a2 1 cc) R := by
      refine hp.moved ?_ fun k h1 h2 => ?_
      · refine Nat.le_trans ?_ (set5_past (W := W2) (b + 1) (.bool false) (.int .u64 0) (.int .i64 1) (.slice a2 1 cc) (.slice none 0 0)).size
        rw [HW2.out]
        exact ((Below.refl b W).setCell (p := ⟨b, 3, none⟩) (Nat.le_refl _) _).size
      · rw [set5_keep (by omega), HW2.out, Below.heap_setCell _ _ _ k (by show k ≠ b; omega)]
    have Hr := Lib.hid hr
    have HV := Lib.hid hV
    have HBV := Lib.hid hBV
    have HP2 := Lib.hid (hp2.mono (show w.heap.size ≤ b + 2 by have := Hb.out; omega))
    clear hr Hc hp hV hBV hp2
    go_wp2_with fail
    have a0 := HV.out.cell 0
    have a1 := HV.out.cell 1
    have a2' := HV.out.cell 2
    have a3 := HV.out.cell 3
    have a4 := HV.out.cell 4
    simp only [set5, List.getElem?_toArray, List.getElem?_cons_zero, List.getElem?_cons_succ] at a0 a1 a2' a3 a4
    exact bodyPost_ret (v := .tuple #[.agg (featB (.slice a2 1 cc)), .bool true]) (by simp [results, Try.results19, go_sem, a0, a1, a2', a3, a4, featB]) rfl ⟨HBV.out, .inr ⟨Hr.out, _, rfl, HP2.out⟩⟩
end Go.Proofs.Ytnajladngpphkaa
