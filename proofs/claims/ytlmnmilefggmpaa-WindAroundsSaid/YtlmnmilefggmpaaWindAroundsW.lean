/- Layer 27: the walk of WindArounds. -/
import Derived.Test.YtlmnmilefggmpaaWind8
import Derived.Test.YtlmnmilefggmpaaOpenPt
namespace Go.Proofs.Ytlmnmilefggmpaa
open Go.RowKit
set_option linter.unusedVariables false
set_option maxRecDepth 100000

/-- Do the first k lie left of p? -/
def leftTo (l : List P2) (x : Int) (k : Nat) : Bool := (l.take k).all fun q => decide (q.1 < x)
theorem leftTo_succ (l : List P2) (x : Int) (k : Nat) (h : k < l.length) : leftTo l x (k + 1) = (leftTo l x k && decide ((l[k]).1 < x)) := by
  unfold leftTo
  rw [List.take_succ_eq_append_getElem h, List.all_append]
  simp
theorem leftTo_all {l : List P2} {x : Int} (h : leftTo l x l.length = true) : ∀ j (hj : j < l.length), (l[j]).1 < x := by
  unfold leftTo at h
  rw [List.take_length, List.all_eq_true] at h
  intro j hj
  have := h _ (List.getElem_mem hj)
  simpa using this
set_option maxHeartbeats 8000000 in
theorem windArounds_walk (v : Value) (vp : Value) (w : World) (H : ∃ l, RdP w w.heap.size v l) (Hp : ∃ p : P2, vp = .agg #[.int .i64 p.1, .int .i64 p.2] ∧ (-9223372036854775808 ≤ p.1 ∧ p.1 < 9223372036854775808) ∧ (-9223372036854775808 ≤ p.2 ∧ p.2 < 9223372036854775808)) :
    Calls Try.prog 4 #[v, vp] w fun e w' => e = .returned (.bool true) ∧ Below w.heap.size w w' := by
  obtain ⟨l, H⟩ := H
  obtain ⟨p, rfl, _, _⟩ := Hp
  by_cases hl : 100 < l.length
  · obtain ⟨a, c, rfl, _, _, ha⟩ := H
    obtain ⟨L, hL⟩ : ∃ L, l.length = L := ⟨_, rfl⟩
    rw [hL] at hl ⊢
    have d1 : decide ((100 : Int) < (L : Int)) = true := decide_eq_true (by omega)
    have d2 : decide (100 < L) = true := decide_eq_true hl
    clear hL ha
    go_enter Try.func4, Try.ntmps4
    go_wp2_with fail
    refine (live27_any _).mono ?_
    rintro e Y ⟨rfl, hB⟩
    have HB := Lib.hid (((Below.refl w.heap.size w).alloc (Nat.le_refl _) _).trans (hB.mono (by simp)))
    clear hB
    go_wp2_with fail
    go_ret
    exact ⟨rfl, HB.out⟩
  · have HA1 := Lib.hid fun W (h : RdP W W.heap.size v l) => aroundw_any v l p W h (by omega)
    have HA2 := Lib.hid fun W (h : RdP W W.heap.size v l) => refAround_any v l p W h (by omega)
    have hout : leftTo l p.1 l.length = true → (aro l p).1 = 0 := fun h => aro_out l p (leftTo_all h)
    obtain ⟨⟨N, t⟩, hR⟩ : ∃ R, aro l p = R := ⟨_, rfl⟩
    rw [hR] at HA1 HA2 hout
    have HOUT := Lib.hid hout
    have HR := Lib.hid H
    obtain ⟨a, c, rfl, _, _, ha⟩ := H
    obtain ⟨L, hL⟩ : ∃ L, l.length = L := ⟨_, rfl⟩
    have HL := Lib.hid hL
    have Ha := Lib.hid ha
    rw [hL] at hl HR HA1 HA2 HOUT ⊢
    have d1 : decide ((100 : Int) < (L : Int)) = false := decide_eq_false (by omega)
    have d2 : decide (100 < L) = false := decide_eq_false hl
    obtain ⟨px, hpx⟩ : ∃ z, p.1 = z := ⟨_, rfl⟩
    obtain ⟨py, hpy⟩ : ∃ z, p.2 = z := ⟨_, rfl⟩
    rw [hpx, hpy] at HA1 HA2 ⊢
    rw [hpx] at HOUT
    clear hL ha hR hout hpx hpy
    go_enter Try.func4, Try.ntmps4
    go_upto_region 3 with (fail)
    obtain ⟨np, hnp⟩ : ∃ z, z = w.heap.size := ⟨_, rfl⟩
    obtain ⟨X0, hX0⟩ : ∃ z, z = w.alloc (.cells #[.int .i64 px, .int .i64 py] 25) := ⟨_, rfl⟩
    have HW0 : Hid (Whole X0 np 25 #[.int .i64 px, .int .i64 py]) := by rw [hX0, hnp]; exact Whole.new w _ _
    have HB0 : Hid (Below w.heap.size w X0) := by rw [hX0]; exact (Below.refl _ _).alloc (Nat.le_refl _) _
    rw [← hX0, ← hnp]
    clear hX0 hnp
    have c0 : X0.cell? ⟨np, 0, none⟩ = some (.int .i64 px) := HW0.out.cell 0
    have c1 : X0.cell? ⟨np, 1, none⟩ = some (.int .i64 py) := HW0.out.cell 1
    go_wp2_with fail
    refine (HA1.out X0 ((HR.out.below HB0.out).more HB0.out.size)).mono ?_
    rintro e X1 ⟨rfl, hX1⟩
    have HW1 := Lib.hid (whole_below HW0.out hX1)
    have HB1 := Lib.hid (HB0.out.trans (hX1.mono HB0.out.size))
    have c0 : X1.cell? ⟨np, 0, none⟩ = some (.int .i64 px) := HW1.out.cell 0
    have c1 : X1.cell? ⟨np, 1, none⟩ = some (.int .i64 py) := HW1.out.cell 1
    clear hX1 HW0 HB0 HA1
    go_wp2_with fail
    refine (HA2.out X1 ((HR.out.below HB1.out).more HB1.out.size)).mono ?_
    rintro e X2 ⟨rfl, hX2⟩
    have HW2 := Lib.hid (whole_below HW1.out hX2)
    have HB2 := Lib.hid (HB1.out.trans (hX2.mono HB1.out.size))
    have c0 : X2.cell? ⟨np, 0, none⟩ = some (.int .i64 px) := HW2.out.cell 0
    clear hX2 HW1 HB1 HA2 c1
    go_wp2_with fail
    go_loopw [9, 10] (fun o x W => ∃ k : Nat, k ≤ L ∧ x = .int .i64 (k : Int) ∧ o = .bool (leftTo l px k) ∧ ∃ j, W = X2.drewN j) (fun _ x _ => L - (intOf x).toNat)
    case atStart => exact ⟨0, Nat.zero_le _, rfl, rfl, 0, rfl⟩
    case round =>
      obtain ⟨k, hk, rfl, rfl, j, rfl⟩ := hrel
      by_cases hlt : k < L
      · have hkl : k < l.length := by have := HL.out; omega
        obtain ⟨b, o, rfl, hb, e0, e1⟩ := Ha.out.at k hkl
        have e0 := (HB2.out.cell (p := ⟨b, o + k * 2, none⟩) hb).trans e0
        have hsn := leftTo_succ l px k hkl
        generalize l[k]'hkl = q at *
        obtain ⟨x, y⟩ := q
        simp only at e0 hsn
        have hk0 : (0 : Int) ≤ (k : Int) := by omega
        have hk1 : (k : Int) < (L : Int) := by omega
        obtain ⟨T, hT⟩ : ∃ T, leftTo l px k = T := ⟨_, rfl⟩
        rw [hT] at hsn ⊢
        cases T
        · have HSN : Hid (leftTo l px (k + 1) = false) := by rw [hsn]; rfl
          clear hsn hT e1
          go_wp2_with fail
          go_quiet (fail)
          go_wp2_with fail
          go_roundw
          case rel => exact ⟨k + 1, by omega, by go_num, by rw [HSN.out], _, rfl⟩
          case measure => simp [intOf]; omega
        · by_cases hx : x < px
          · have g1 : decide (x < px) = true := decide_eq_true hx
            have HSN : Hid (leftTo l px (k + 1) = true) := by rw [hsn, g1]; rfl
            clear hsn hT e1
            go_wp2_with fail
            go_quiet (fail)
            go_wp2_with fail
            go_roundw
            case rel => exact ⟨k + 1, by omega, by go_num, by rw [HSN.out], _, rfl⟩
            case measure => simp [intOf]; omega
          · have g1 : decide (x < px) = false := decide_eq_false hx
            have HSN : Hid (leftTo l px (k + 1) = false) := by rw [hsn, g1]; rfl
            clear hsn hT e1
            go_wp2_with fail
            go_quiet (fail)
            go_wp2_with fail
            go_roundw
            case rel => exact ⟨k + 1, by omega, by go_num, by rw [HSN.out], _, rfl⟩
            case measure => simp [intOf]; omega
      · obtain rfl : L = k := by omega
        have HBj := Lib.hid (below_drawnP HB2.out j)
        have HLive := Lib.hid (live27_any (X2.drewN j))
        obtain ⟨T, hT⟩ : ∃ T, leftTo l px L = T := ⟨_, rfl⟩
        rw [hT] at HOUT ⊢
        clear hT c0 HW2 HB2 hlt hk
        cases T
        · go_wp2_with fail
          refine HLive.out.mono ?_
          rintro e Y ⟨rfl, hB⟩
          have HB := Lib.hid (HBj.out.trans (hB.mono HBj.out.size))
          clear hB HLive
          go_wp2_with fail
          go_ret
          exact ⟨rfl, HB.out⟩
        · obtain rfl : N = 0 := HOUT.out rfl
          go_wp2_with fail
          refine HLive.out.mono ?_
          rintro e Y ⟨rfl, hB⟩
          have HB := Lib.hid (HBj.out.trans (hB.mono HBj.out.size))
          clear hB HLive
          go_wp2_with fail
          go_ret
          exact ⟨rfl, HB.out⟩
end Go.Proofs.Ytlmnmilefggmpaa
