/- Layer 4: the decoder's calls: Order, lengthCode. -/
import Derived.Test.YtfbfflgffibjbaaInf6
namespace Go.Proofs.Ytfbfflgffibjbaa
open Go.RowKit Huff Bit
set_option linter.unusedVariables false
set_option maxRecDepth 100000

def OrdPost (w : World) (e : Ending) (w' : World) : Prop := ∃ g, e = .returned (.slice (some ⟨g, 0, none⟩) 19 19) ∧ Whole w' g 3 (i64s Inf.order).toArray ∧ w.heap.size ≤ g ∧ Below w.heap.size w w'
theorem order_any (w : World) : Calls Try.prog 13 #[] w (OrdPost w) := by
  go_enter Try.func13, Try.ntmps13
  go_wp2_with fail
  go_ret
  exact ⟨w.heap.size, rfl, Whole.new w _ _, Nat.le_refl _, (Below.refl _ _).alloc (Nat.le_refl _) _⟩
section
variable {X : Cx} {F : Option Addr × Option Addr} {out : List Nat} {p : Nat} {w : World}
theorem Whole.nums64 {g : Nat} {l : List Nat} (h : Whole w g 3 (i64s l).toArray) : Nums .i64 w w.heap.size (some ⟨g, 0, none⟩) l := fun hl =>
  ⟨g, 0, rfl, h.lt, fun i hi => by
    rw [Nat.zero_add, h.cell, List.getElem?_toArray]
    simp [i64s, hi]⟩
theorem order_lt : ∀ i, i < 19 → Inf.order.getD i 99 < 19 := by decide
theorem order_drop {N k : Nat} (hk : k < N) (hN : N ≤ 19) : (Inf.order.take N).drop k = Inf.order.getD k 99 :: (Inf.order.take N).drop (k + 1) := by
  have hl : (Inf.order.take N).length = N := by rw [List.length_take]; exact Nat.min_eq_left hN
  rw [List.drop_eq_getElem_cons (by omega)]
  congr 1
  rw [List.getElem_take, List.getD_eq_getElem?_getD, List.getElem?_eq_getElem (show k < Inf.order.length by show k < 19; omega)]
  rfl
theorem setCell_only {W : World} {g : Nat} {i : Nat} {u : Value} : Only (fun b => b = g) W (W.setCell ⟨g, i, none⟩ u) := Only.setCell (S := fun b => b = g) (Only.refl _ _) (p := ⟨g, i, none⟩) (fun _ => rfl) u
def CPost (X : Cx) (w : World) (R : Except Nat (List Nat × Nat)) (F : Option Addr × Option Addr) (out : List Nat) (e : Ending) (w' : World) : Prop :=
  match R with
  | .ok a => ∃ g, e = .returned (.pointer (some ⟨g, 0, none⟩)) ∧ CodeK g a.1 w' ∧ Dec X F out a.2 w' ∧ DK X.B w w'
  | .error n => e = .panicked (pan n) ∧ Below X.B w w'
set_option maxHeartbeats 8000000 in
theorem dlc_any (hX : X.Ok) (h : Dec X F out p w) :
    Calls Try.prog 38 #[.pointer (some ⟨X.d, 0, none⟩)] w (CPost X w (X.run Inf.lengthCodeP p) F out) := by
  obtain ⟨i1, hi1, hy0, hy1, hy2⟩ := info_parts i64info
  obtain ⟨R, hR⟩ : ∃ R, X.run Inf.lengthCodeP p = R := ⟨_, rfl⟩
  rw [hR]
  have HX := Lib.hid hX
  have Hle := Lib.hid (h.le hX)
  have Hnn := Lib.hid h.size
  have hmk := fun (W : World) => run_make (P := Try.prog) W 31 3 i1 _ Try.underlying31 hi1 hy0 .i64 .i64 19 19 (by omega) (Int.le_refl _) (by rw [hy2]; omega) (by omega)
  obtain ⟨A1, hA1⟩ : ∃ A, A = i64s (List.replicate 19 0) := ⟨_, rfl⟩
  have hm1 : ∀ W, (Instr.makeSlice 31 (.int .i64 19) (.int .i64 19)).run Try.prog W = .ok (.slice (some ⟨W.heap.size, 0, none⟩) 19 19) (W.alloc (.cells A1.toArray 3)) := fun W => by
    have := hmk W
    rw [hy1, show (Value.int .i64 0).cells = #[.int .i64 0] from rfl, Nat.mul_one, show ((19 : Int)).toNat = 19 from rfl, imade, ← hA1] at this
    exact this
  have Hord := Lib.hid order_any
  obtain ⟨g, hg⟩ : ∃ g, g = w.heap.size := ⟨_, rfl⟩
  obtain ⟨X1, hX1⟩ : ∃ X, X = w.alloc (.cells A1.toArray 3) := ⟨_, rfl⟩
  have hW0 : Whole X1 g 3 (i64s (List.replicate 19 0)).toArray := by rw [hX1, hg, ← hA1]; exact Whole.new w _ _
  have hB0 : Below w.heap.size w X1 := by rw [hX1]; exact (Below.refl _ _).alloc (Nat.le_refl _) _
  have HD1 := Lib.hid (h.below hX hB0)
  have HK1 : Hid (DK X.B w X1) := DK.of_below hB0 (h.le hX)
  have HW1 := Lib.hid hW0
  have Hg : Hid (w.heap.size ≤ g) := by show _ ≤ _; omega
  have Hb := dbits_any hX (h.below hX hB0) 4 (by omega)
  unfold Inf.lengthCodeP at hR
  clear hmk hA1 h hX hW0 hB0
  cases hR1 : X.run (Inf.bitsP 4) p with
  | error E =>
    rw [run_err hR1] at hR
    subst hR
    rw [hR1] at Hb
    have HB := Lib.hid Hb
    clear Hb hR1
    go_enter Try.func38, Try.ntmps38
    go_wp2_with fail
    rw [← hX1]
    refine HB.out.mono ?_
    rintro e W ⟨rfl, hB⟩
    have HB := Lib.hid (HK1.out.below.trans hB)
    clear hB
    go_wp2_with fail
    exact ⟨rfl, rfl, HB.out⟩
  | ok x =>
    obtain ⟨V, q1⟩ := x
    rw [run_ok hR1] at hR
    have hv := run_bits_lt hR1
    simp only at hv
    rw [hR1] at Hb
    have HB := Lib.hid Hb
    obtain ⟨N, hN⟩ : ∃ N, V + 4 = N := ⟨_, rfl⟩
    rw [hN] at hR
    have w1 : IntKind.i64.wrap ((V : Int) + 4) = (N : Int) := by rw [IntWalk.i64_in _ ⟨by omega, by omega⟩]; omega
    have hN19 : N ≤ 19 := by omega
    have n0 : (0 : Int) ≤ (N : Int) := by omega
    have n1 : (N : Int) ≤ 19 := by omega
    have HR := Lib.hid hR
    clear Hb hR1 hv hR
    go_enter Try.func38, Try.ntmps38
    go_wp2_with fail
    rw [← hX1]
    subst hg
    refine HB.out.mono ?_
    rintro e W2 ⟨rfl, hD2, hK2⟩
    have HD2 := Lib.hid hD2
    have HK2 := Lib.hid (HK1.out.trans hK2)
    have HW2 := Lib.hid (HW1.out.dk hK2 (by decide) (by decide) (by decide))
    clear hD2 hK2 hm1 HB HW1 HK1 HD1
    go_wp2_with fail
    refine (Hord.out _).mono ?_
    rintro e W3 ⟨og, rfl, hO, hog, hB3⟩
    have HO3 := Lib.hid hO
    have HD3 := Lib.hid (HD2.out.below HX.out hB3)
    have HK3 := Lib.hid (HK2.out.trans (DK.of_below hB3 (HD2.out.le HX.out)))
    have HW3 := Lib.hid (HW2.out.below hB3 HW2.out.lt)
    have Hgo : Hid (w.heap.size ≠ og) := by show _ ≠ _; have := HW2.out.lt; omega
    clear hO hog hB3 HW2 HK2 HD2
    go_wp2_with fail
    go_loopw [15] (fun y W => ∃ (k q : Nat) (lens : List Nat), k ≤ N ∧ y = .int .i64 (k : Int) ∧ lens.length = 19 ∧ Hid (Whole W w.heap.size 3 (i64s lens).toArray) ∧ Hid (Whole W og 3 (i64s Inf.order).toArray) ∧ Hid (Dec X F out q W) ∧ Hid (DK X.B w W) ∧
      Hid (X.run (Inf.bnd (Inf.clenP ((Inf.order.take N).drop k) lens) fun l => Inf.bnd (Inf.need (Inf.codeB l false)) fun _ => Inf.ret l) q = R)) (fun y _ => N - (intOf y).toNat)
    case atStart => exact ⟨0, q1, List.replicate 19 0, Nat.zero_le _, rfl, by simp, HW3, HO3, HD3, HK3, HR⟩
    case round =>
      obtain ⟨k, q, lens, hk, rfl, hll, HW, HO, HD, HK, HE⟩ := hrel
      clear HR HD3 HK3 HW3 HO3
      have hE := HE.out
      by_cases hlt : k < N
      · rw [order_drop hlt hN19] at hE
        unfold Inf.clenP at hE
        rw [bnd_assoc] at hE
        have hs := order_lt k (by omega)
        have p0 : wr.cell? ⟨og, 0 + k, none⟩ = some (.int .i64 ((Inf.order.getD k 99 : Nat) : Int)) := by
          rw [Nat.zero_add, HO.out.cell, List.getElem?_toArray]
          have : k < Inf.order.length := by show k < 19; omega
          simp [i64s, this]
        have p0' : wr.cell? ⟨og, k, none⟩ = some (.int .i64 ((Inf.order.getD k 99 : Nat) : Int)) := by rw [Nat.zero_add] at p0; exact p0
        generalize Inf.order.getD k 99 = s at *
        have k0 : (0 : Int) ≤ (k : Int) := by omega
        have k1 : (k : Int) < (N : Int) := by omega
        have s0 : (0 : Int) ≤ (s : Int) := by omega
        have s1 : (s : Int) < 19 := by omega
        have Hb := dbits_any HX.out HD.out 3 (by omega)
        clear HE
        cases hR1 : X.run (Inf.bitsP 3) q with
        | error E =>
          rw [run_err hR1] at hE
          subst hE
          rw [hR1] at Hb
          have HB := Lib.hid Hb
          clear Hb hR1
          go_wp2_with fail
          refine HB.out.mono ?_
          rintro e W ⟨rfl, hB⟩
          have HB := Lib.hid (HK.out.below.trans hB)
          clear hB
          go_wp2_with fail
          exact ⟨rfl, rfl, HB.out⟩
        | ok x =>
          obtain ⟨V3, q2⟩ := x
          rw [run_ok hR1] at hE
          rw [hR1] at Hb
          have HB := Lib.hid Hb
          have HE := Lib.hid hE
          clear Hb hR1 hE
          go_wp2_with fail
          refine HB.out.mono ?_
          rintro e W4 ⟨rfl, hD4, hK4⟩
          have HW4 := Lib.hid (HW.out.dk hK4 (by decide) (by decide) (by decide))
          have HO4 := Lib.hid ((HO.out.dk hK4 (by decide) (by decide) (by decide)).far (p := ⟨w.heap.size, s, none⟩) (fun e => Hgo.out e.symm) (.int .i64 (V3 : Int)))
          have HW5 := Lib.hid (HW4.out.seti s V3)
          have HD5 : Hid (Dec X F out q2 (W4.setCell ⟨w.heap.size, s, none⟩ (.int .i64 (V3 : Int)))) := hD4.grow setCell_only (fun b hb => by subst hb; exact ⟨Nat.le_trans Hnn.out Hg.out, _, _, HW4.out⟩) HX.out
          have HK5 : Hid (DK X.B w (W4.setCell ⟨w.heap.size, s, none⟩ (.int .i64 (V3 : Int)))) := (HK.out.trans hK4).grow setCell_only (fun b hb => by subst hb; exact Hg.out) Hle.out
          have g0 : W4.cell? ⟨w.heap.size, s, none⟩ = some (.int .i64 (lens.getD s 0 : Nat)) := by
            rw [HW4.out.cell, List.getElem?_toArray]
            have : s < lens.length := by omega
            simp [i64s, this]
          have f0 := HW4.out.frozen s
          clear hD4 hK4 HB
          go_wp2_with fail
          go_roundw
          case rel => exact ⟨k + 1, q2, lens.set s V3, by omega, by go_num, by rw [List.length_set]; exact hll, HW5, HO4, HD5, HK5, HE⟩
          case measure => simp [intOf]; omega
      · obtain rfl : k = N := by omega
        have hd : (Inf.order.take k).drop k = [] := by
          apply List.drop_eq_nil_of_le
          rw [List.length_take]
          exact Nat.min_le_left _ _
        rw [hd] at hE
        have hE1 : X.run (Inf.bnd (Inf.need (Inf.codeB lens false)) fun _ => Inf.ret lens) q = R := hE
        have HN1 := HW.out.nums64
        clear hE HE hlt hd
        cases hcb : Inf.codeB lens false with
        | true =>
          rw [hcb, run_ok (run_need rfl)] at hE1
          have hE2 : Except.ok (lens, q) = R := hE1
          subst hE2
          have HC := Lib.hid (icode_yes (some ⟨w.heap.size, 0, none⟩) 19 lens false wr HN1 (by omega) hcb)
          rw [hll] at HC
          clear hE1 HN1 hcb
          go_wp2_with fail
          refine HC.out.mono ?_
          rintro e W9 ⟨gc, rfl, h1, h2⟩
          have H1 := Lib.hid h1
          have HD9 := Lib.hid (HD.out.below HX.out h2)
          have HK9 := Lib.hid (HK.out.trans (DK.of_below h2 (HD.out.le HX.out)))
          clear h1 h2 HC
          go_wp2_with fail
          go_ret
          exact ⟨gc, rfl, H1.out, HD9.out, HK9.out⟩
        | false =>
          rw [hcb, run_err (run_need_no rfl)] at hE1
          subst hE1
          have HC := Lib.hid (icode_no (some ⟨w.heap.size, 0, none⟩) 19 lens false wr HN1 (by omega) hcb)
          rw [hll] at HC
          clear HN1 hcb
          go_wp2_with fail
          refine HC.out.mono ?_
          rintro e W9 ⟨rfl, rfl⟩
          go_wp2_with fail
          exact ⟨rfl, rfl, HK.out.below⟩
end
end Go.Proofs.Ytfbfflgffibjbaa
