/- Layer 27: the walk of WindAreas. -/
import Derived.Test.YtlmnmilefggmpaaWind8
import Derived.Test.YtlmnmilefggmpaaOpenPt
namespace Go.Proofs.Ytlmnmilefggmpaa
open Go.RowKit
set_option linter.unusedVariables false
set_option maxRecDepth 100000

theorem drop_rev_snoc (l : List P2) (k : Nat) (h : k < l.length) : (l.drop k).reverse = (l.drop (k + 1)).reverse ++ [l[k]] := by
  rw [List.drop_eq_getElem_cons h, List.reverse_cons]
theorem areaO_rev (l : List P2) (A : Int) (t : Bool) (h : areaO l = (A, t)) : areaO l.reverse = (-A, t) ∧ (-4611686018427387904 ≤ A ∧ A ≤ 4611686018427387904) := by
  unfold areaO at h ⊢
  rw [okR_rev, area_rev]
  split at h
  · next hok =>
    injection h with h1 h2
    subst h1 h2
    rw [if_pos hok]
    have := area_in hok
    exact ⟨rfl, by omega, by omega⟩
  · next hok =>
    injection h with h1 h2
    subst h1 h2
    rw [if_neg hok]
    exact ⟨rfl, by omega, by omega⟩
set_option maxHeartbeats 8000000 in
theorem windAreas_walk (v : Value) (w : World) (H : ∃ l, RdP w w.heap.size v l) :
    Calls Try.prog 3 #[v] w fun e w' => e = .returned (.bool true) ∧ Below w.heap.size w w' := by
  obtain ⟨l, H⟩ := H
  by_cases hl : 200 < l.length
  · obtain ⟨a, c, rfl, _, _, ha⟩ := H
    obtain ⟨L, hL⟩ : ∃ L, l.length = L := ⟨_, rfl⟩
    rw [hL] at hl ⊢
    have d1 : decide ((200 : Int) < (L : Int)) = true := decide_eq_true (by omega)
    have d2 : decide (200 < L) = true := decide_eq_true hl
    clear hL ha
    go_enter Try.func3, Try.ntmps3
    go_wp2_with fail
    refine (live27_any _).mono ?_
    rintro e Y ⟨rfl, hB⟩
    go_wp2_with fail
    go_ret
    exact ⟨rfl, hB⟩
  · obtain ⟨⟨A, t⟩, hR⟩ : ∃ R, areaO l = R := ⟨_, rfl⟩
    obtain ⟨hRr, hAb⟩ := areaO_rev l A t hR
    have HA1 := Lib.hid fun W (h : RdP W W.heap.size v l) => areaw_any v l W h (by omega) A t hR
    have HA2 := Lib.hid fun W (h : RdP W W.heap.size v l) => refArea_any v l W h (by omega) A t hR
    have HA3 := Lib.hid fun W vv (h : RdP W W.heap.size vv l.reverse) => areaw_any vv l.reverse W h (by simp; omega) (-A) t hRr
    have HS1 := Lib.hid fun W (h : RdP W W.heap.size v l) => signw_any v l W h (by omega)
    have HS2 := Lib.hid fun W (h : RdP W W.heap.size v l) => refSign_any v l W h (by omega)
    rw [hR] at HS1 HS2
    have HR := Lib.hid H
    obtain ⟨i0, hi0, hz0, hz1, hz2⟩ := info_parts ptinfo
    obtain ⟨a, c, rfl, _, _, ha⟩ := H
    obtain ⟨L, hL⟩ : ∃ L, l.length = L := ⟨_, rfl⟩
    have HL := Lib.hid hL
    have Ha := Lib.hid ha
    rw [hL] at hl HR HA1 HA2 HS1 HS2 ⊢
    have d1 : decide ((200 : Int) < (L : Int)) = false := decide_eq_false (by omega)
    have d2 : decide (200 < L) = false := decide_eq_false hl
    clear hL ha hR hRr
    go_enter Try.func3, Try.ntmps3
    go_wp2_with fail
    go_loopw [3, 4] (fun u x W => ∃ j : Nat, j ≤ L ∧ x = .int .i64 ((j : Int) - 1) ∧ Hid (OwnP W w.heap.size u (l.drop j).reverse) ∧ Hid (Below w.heap.size w W)) (fun _ x _ => (intOf x + 1).toNat)
    case atStart => exact ⟨L, Nat.le_refl _, rfl, by rw [← HL.out, List.drop_length]; exact OwnP.nil_ _ _, Below.refl _ _⟩
    case round =>
      obtain ⟨j, hj, rfl, HO, HB⟩ := hrel
      rcases j with _ | k
      · have HOr := HO.out
        rw [List.drop_zero] at HOr
        have hrd := HOr.rd
        have Hrd := Lib.hid hrd
        rw [show (((0 : Nat) : Int) - 1) = -1 by omega]
        clear HO HOr hrd
        go_wp2_with fail
        have hB0 := HB.out
        refine (HA1.out wr ((HR.out.below hB0).more hB0.size)).mono ?_
        rintro e X1 ⟨rfl, hX1⟩
        have hB1 := hB0.trans (hX1.mono hB0.size)
        have Hrd1 := Lib.hid ((Hrd.out.below hX1).more hX1.size)
        have HB1 := Lib.hid hB1
        clear hX1 hB0 hB1 HB Hrd HA1
        go_wp2_with fail
        refine (HA2.out X1 ((HR.out.below HB1.out).more HB1.out.size)).mono ?_
        rintro e X2 ⟨rfl, hX2⟩
        have Hrd2 := Lib.hid ((Hrd1.out.below hX2).more hX2.size)
        have HB2 := Lib.hid (HB1.out.trans (hX2.mono HB1.out.size))
        clear hX2 HB1 Hrd1 HA2
        go_wp2_with fail
        refine (HA3.out X2 _ Hrd2.out).mono ?_
        rintro e X3 ⟨rfl, hX3⟩
        have HB3 := Lib.hid (HB2.out.trans (hX3.mono HB2.out.size))
        have hw : wrap64 (-A) = -A := IntWalk.wrap64_in _ ⟨by omega, by omega⟩
        clear hX3 HB2 Hrd2 HA3 hAb
        go_wp2_with fail
        refine (HS1.out X3 ((HR.out.below HB3.out).more HB3.out.size)).mono ?_
        rintro e X4 ⟨rfl, hX4⟩
        have HB4 := Lib.hid (HB3.out.trans (hX4.mono HB3.out.size))
        clear hX4 HB3 HS1
        go_wp2_with fail
        refine (HS2.out X4 ((HR.out.below HB4.out).more HB4.out.size)).mono ?_
        rintro e X5 ⟨rfl, hX5⟩
        have HB5 := Lib.hid (HB4.out.trans (hX5.mono HB4.out.size))
        clear hX5 HB4 HS2
        go_wp2_with fail
        refine (live27_any X5).mono ?_
        rintro e X6 ⟨rfl, hX6⟩
        have HB6 := Lib.hid (HB5.out.trans (hX6.mono HB5.out.size))
        clear hX6 HB5
        go_wp2_with fail
        go_ret
        exact ⟨rfl, HB6.out⟩
      · have hkl : k < l.length := by have := HL.out; omega
        obtain ⟨b, o, rfl, hb, c0, c1⟩ := Ha.out.at k hkl
        have c0 := (HB.out.cell (p := ⟨b, o + k * 2, none⟩) hb).trans c0
        have c1 := (HB.out.cell (p := ⟨b, o + k * 2 + 1, none⟩) hb).trans c1
        have hsn := drop_rev_snoc l k hkl
        have hdl : (l.drop (k + 1)).length ≤ 200 := by rw [List.length_drop]; have := HL.out; omega
        have hown := HO.out
        obtain ⟨R, hRR⟩ : ∃ R, (l.drop (k + 1)).reverse = R := ⟨_, rfl⟩
        have hRl : R.length ≤ 200 := by rw [← hRR, List.length_reverse]; exact hdl
        rw [hRR] at hsn hown
        generalize l[k]'hkl = q at *
        obtain ⟨x, y⟩ := q
        simp only at c0 c1
        have HSN := Lib.hid hsn
        have hk0 : (0 : Int) ≤ (k : Int) := by omega
        have hk1 : (k : Int) < (L : Int) := by omega
        rw [show ((((k + 1 : Nat)) : Int) - 1) = (k : Int) by omega]
        have HOw := Lib.hid hown
        have hown2 : wr.ownsRow w.heap.size 25 2 u3 R.length (pts R) := hown
        clear hsn hdl hown hRR hkl HO
        go_wp2_with (at_builtin; refine app_rec rfl (.tmp 22) (.tmp 27) 22 rfl w.heap.size 25 i0 _ 2 16 Try.underlying22 hi0 hz0 hz1 hz2 rfl (by decide) u3 _ _ rfl hown2 [.int .i64 x, .int .i64 y] rfl 1 rfl (pts_one [(x, y)]) (by unfold maxLen; omega) (by omega) HB.out.size ?_)
        intro v3 w3 h2 h3 h5
        have hG : GoneP wr w.heap.size u3 (R ++ [(x, y)]) v3 w3 := GoneP.grown h2 (by simp) (by rw [pts_append]; rfl) h3 h5
        have HG := Lib.hid hG
        clear h2 h3 h5 hG hown2
        go_wp2_with fail
        go_roundw
        case rel => exact ⟨k, by omega, rfl, by rw [HSN.out]; exact HG.out.own, HB.out.trans (HG.out.below HOw.out HB.out.size)⟩
        case measure => simp [intOf] <;> omega
end Go.Proofs.Ytlmnmilefggmpaa
