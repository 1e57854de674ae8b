/- Walks over package frac: Cross, whole. -/
import Derived.Test.YtcfkhgpcamfecaaFracCross
namespace Go.Proofs.Ytcfkhgpcamfecaa
open Go.RowKit Big
set_option linter.unusedVariables false
set_option maxRecDepth 100000

def CrossCut (w : World) (n : Nat) (V : Value) (c : Int) (W : World) : Prop := ∃ A B E F : Int, V = crossS A B E F c ∧ okAll A B E F c = true ∧ CrossSt w W n A B E F true
def CrossCut2 (w : World) (n : Nat) (V : Value) (c : Int) (W : World) : Prop := ∃ A B E F : Int, V = crossR A B E F c ∧ okAll A B E F c = true ∧ A ≤ E ∧ CrossSt w W n A B E F true
theorem CrossSt.drew {w W : World} {n : Nat} {a b e f : Int} {t : Bool} (h : CrossSt w W n a b e f t) : CrossSt w W.drew n a b e f t := h.keep (Below.refl _ _).drew
theorem okAll_turn {a b e f c : Int} (h : okAll a b e f c = true) : okAll b a f e c = true ∧ okAll e f a b c = true := by
  simp only [okAll, Bool.and_eq_true] at h ⊢
  obtain ⟨⟨⟨⟨h1, h2⟩, h3⟩, h4⟩, h5⟩ := h
  exact ⟨⟨⟨⟨⟨h2, h1⟩, h4⟩, h3⟩, h5⟩, ⟨⟨⟨⟨h3, h4⟩, h1⟩, h2⟩, h5⟩⟩
theorem okQ_bd {q : Int} (h : okQ q = true) : -4503599627370496 ≤ q ∧ q ≤ 4503599627370496 := by simpa [okQ] using h
theorem okAll_bd {a b e f c : Int} (h : okAll a b e f c = true) : (-4503599627370496 ≤ a ∧ a ≤ 4503599627370496) ∧ (-4503599627370496 ≤ b ∧ b ≤ 4503599627370496) ∧ (-4503599627370496 ≤ e ∧ e ≤ 4503599627370496) ∧ (-4503599627370496 ≤ f ∧ f ≤ 4503599627370496) ∧ (-4503599627370496 ≤ c ∧ c ≤ 4503599627370496) := by
  simp only [okAll, Bool.and_eq_true] at h
  obtain ⟨⟨⟨⟨h1, h2⟩, h3⟩, h4⟩, h5⟩ := h
  exact ⟨okQ_bd h1, okQ_bd h2, okQ_bd h3, okQ_bd h4, okQ_bd h5⟩

theorem cross_bd (y x K : Int) (D : Nat) (hD : 0 < D) (hx : 0 ≤ x) (hxD : x ≤ (D : Int)) (hy : -K ≤ y ∧ y ≤ K) (hK : 0 ≤ K) :
    (-K ≤ y * x / (D : Int) ∧ y * x / (D : Int) ≤ K) ∧ 0 ≤ y * x % (D : Int) ∧ y * x % (D : Int) < (D : Int) := by
  have hDp : (0 : Int) < (D : Int) := by omega
  have h1 : -K * x ≤ y * x := Int.mul_le_mul_of_nonneg_right hy.1 hx
  have h2 : y * x ≤ K * x := Int.mul_le_mul_of_nonneg_right hy.2 hx
  have h3 : K * x ≤ K * (D : Int) := Int.mul_le_mul_of_nonneg_left hxD hK
  have h4 : -K * x = -(K * x) := Int.neg_mul K x
  have h5 : -K * (D : Int) = -(K * (D : Int)) := Int.neg_mul K _
  refine ⟨⟨(Int.le_ediv_iff_mul_le hDp).2 (by omega), ?_⟩, Int.emod_nonneg _ (by omega), Int.emod_lt_of_pos _ hDp⟩
  have := Int.ediv_le_ediv hDp (show y * x ≤ K * (D : Int) by omega)
  rwa [Int.mul_ediv_cancel _ (by omega)] at this

set_option maxHeartbeats 8000000 in
theorem cross_any (a b e f c : Int) (up : Bool) (w : World) :
    Calls Try.prog 38 #[.agg #[.int .i64 a, .int .i64 b], .agg #[.int .i64 e, .int .i64 f], .int .i64 c, .bool up] w fun E w' => E = .returned (crossV a b e f c up) ∧ Below w.heap.size w w' := by
  obtain ⟨V, hV⟩ : ∃ V, V = crossV a b e f c up := ⟨_, rfl⟩
  rw [← hV]
  have HV0 := Lib.hid hV
  clear hV
  have hs := CrossSt.new w a b e f
  obtain ⟨W0, hW0⟩ : ∃ W0, W0 = ((((w.alloc (.cells #[.int .i64 a, .int .i64 b] 63)).alloc (.cells #[.int .i64 e, .int .i64 f] 63)).alloc (.cells #[.int .i64 0, .int .u64 0, .int .u64 0] 46)).alloc (.cells #[.bool true] 4)) := ⟨_, rfl⟩
  have Hs0 := Lib.hid hs
  have HW0 := Lib.hid hW0
  clear hs hW0
  go_enter Try.func38, Try.ntmps38
  go_wp2_with fail
  rw [← HW0.out] at Hs0 ⊢
  obtain ⟨n, hn⟩ : ∃ n, n = w.heap.size := ⟨_, rfl⟩
  rw [← hn] at Hs0 ⊢
  have Hn := Lib.hid hn
  clear hn HW0
  obtain ⟨ca, cb, ce, cf, ct, ff⟩ := Hs0.out.cells
  refine (check_any _ _ _ _ ct ff).mono ?_
  rintro e' W1 ⟨u1, hu1, rfl, hW1⟩
  have Hs1 := Lib.hid (show CrossSt w W1 n a b e f u1 from hW1 ▸ Hs0.out.set u1)
  have Hu1 := Lib.hid hu1
  clear hW1 ca cb ce cf ct ff Hs0 hu1
  obtain ⟨ca, cb, ce, cf, ct, ff⟩ := Hs1.out.cells
  go_wp2_with fail
  refine (check_any _ _ _ _ ct ff).mono ?_
  rintro e' W2 ⟨u2, hu2, rfl, hW2⟩
  have Hs2 := Lib.hid (show CrossSt w W2 n a b e f u2 from hW2 ▸ Hs1.out.set u2)
  have Hu2 := Lib.hid hu2
  clear hW2 ca cb ce cf ct ff Hs1 hu2
  obtain ⟨ca, cb, ce, cf, ct, ff⟩ := Hs2.out.cells
  go_wp2_with fail
  refine (check_any _ _ _ _ ct ff).mono ?_
  rintro e' W3 ⟨u3, hu3, rfl, hW3⟩
  have Hs3 := Lib.hid (show CrossSt w W3 n a b e f u3 from hW3 ▸ Hs2.out.set u3)
  have Hu3 := Lib.hid hu3
  clear hW3 ca cb ce cf ct ff Hs2 hu3
  obtain ⟨ca, cb, ce, cf, ct, ff⟩ := Hs3.out.cells
  go_wp2_with fail
  refine (check_any _ _ _ _ ct ff).mono ?_
  rintro e' W4 ⟨u4, hu4, rfl, hW4⟩
  have Hs4 := Lib.hid (show CrossSt w W4 n a b e f u4 from hW4 ▸ Hs3.out.set u4)
  have Hu4 := Lib.hid hu4
  clear hW4 ca cb ce cf ct ff Hs3 hu4
  obtain ⟨ca, cb, ce, cf, ct, ff⟩ := Hs4.out.cells
  go_wp2_with fail
  refine (check_any _ _ _ _ ct ff).mono ?_
  rintro e' W5 ⟨u5, hu5, rfl, hW5⟩
  have Hs5 := Lib.hid (show CrossSt w W5 n a b e f u5 from hW5 ▸ Hs4.out.set u5)
  have Hu5 := Lib.hid hu5
  clear hW5 ca cb ce cf ct ff Hs4 hu5
  obtain ⟨ca, cb, ce, cf, ct, ff⟩ := Hs5.out.cells
  have hu5 : u5 = okAll a b e f c := by rw [Hu5.out, Hu4.out, Hu3.out, Hu2.out, Hu1.out, Bool.true_and]; rfl
  have hV := HV0.out
  unfold crossV at hV
  rw [← hu5] at hV
  have HU := Lib.hid hu5
  have hfr := Lib.hid Hs5.out.frees
  clear Hu1 Hu2 Hu3 Hu4 Hu5 hu5
  cases u5
  · have HV := Lib.hid hV
    clear hV ca cb ce cf ct ff
    obtain ⟨g0, g1, g2, f0, f1, f2, _⟩ := hfr.out
    have ct := Hs5.out.cells.2.2.2.2.1
    go_wp2_with fail
    obtain ⟨k1, k2⟩ := Hs5.out.out (.int .i64 0) (.int .u64 0) (.int .u64 0)
    exact bodyPost_ret (v := .tuple #[.agg #[.int .i64 0, .int .u64 0, .int .u64 0], .int .i64 8]) (by simp [results, Try.results38, go_sem, g0, g1, g2]) rfl ⟨by rw [HV.out]; rfl, k2⟩
  · rw [if_pos rfl] at hV
    have HV := Lib.hid hV
    clear hV
    go_upto_if 38 with (fail)
    go_cut [] (fun W => CrossCut w n V c W)
    case first =>
      cases up
      · go_wp2_with fail
        go_meet
        case rel => exact ⟨a, b, e, f, by rw [HV.out]; rfl, HU.out.symm, Hs5.out⟩
      · go_wp2_with fail
        obtain ⟨g0, g1, g2, f0, f1, f2, f3, f4, f5, f6⟩ := hfr.out
        clear g0 g1 g2 f0 f1 f2
        go_region_with (first
          | (go_at_call 58; (with_reducible refine (turned_any a b _).mono ?_); rintro e' X1 ⟨rfl, hx1⟩; (have Hx1 := Lib.hid (Hs5.out.drew.keep hx1)); obtain ⟨x0, x1, x2, x3, _, _⟩ := Hx1.out.cells)
          | (go_at_call 58; (with_reducible refine (turned_any e f _).mono ?_); rintro e' X2 ⟨rfl, hx2⟩; (have Hx2 := Lib.hid (Hx1.out.keep hx2)); obtain ⟨y0, y1, y2, y3, _, _⟩ := Hx2.out.cells; obtain ⟨g0, g1, g2, f0, f1, f2, f3, f4, f5, f6⟩ := Hx2.out.frees))
        all_goals
          have hfin := Lib.hid (Hx2.out.points b a f e)
          go_wp2_with fail
          go_meet
          case rel => exact ⟨b, a, f, e, by rw [HV.out]; rfl, (okAll_turn HU.out.symm).1, hfin.out⟩
    case rest =>
      obtain ⟨A, B, E, F, hV2, hall, hst⟩ := hcut
      have HV2 := Lib.hid hV2
      have HA := Lib.hid hall
      have HS := Lib.hid hst
      clear HV HU Hs5 hfr hV2 hall hst ca cb ce cf ct ff
      obtain ⟨da, db, de, df, dt, _⟩ := HS.out.cells
      go_upto_if 47 with (fail)
      go_cut [] (fun W => CrossCut2 w n V c W)
      case first =>
        obtain ⟨_, _, _, _, _, _, f3, f4, f5, f6⟩ := HS.out.frees
        by_cases hlt : E < A
        · have hfin := Lib.hid (HS.out.points E F A B)
          go_wp2_with fail
          go_meet
          case rel => exact ⟨E, F, A, B, by rw [HV2.out, crossS, if_pos (by omega)], (okAll_turn HA.out).2, by omega, hfin.out⟩
        · go_wp2_with fail
          go_meet
          case rel => exact ⟨A, B, E, F, by rw [HV2.out, crossS, if_neg (by omega)], HA.out, by omega, HS.out⟩
      case rest =>
        clear HV2 HA HS da db de df dt
        obtain ⟨A, B, E, F, hV3, hall, hAE, hst⟩ := hcut
        have HV3 := Lib.hid hV3
        have HS2 := Lib.hid hst
        obtain ⟨⟨bA1, bA2⟩, ⟨bB1, bB2⟩, ⟨bE1, bE2⟩, ⟨bF1, bF2⟩, ⟨bc1, bc2⟩⟩ := okAll_bd hall
        clear hV3 hst hall
        obtain ⟨da, db, de, df, dt, _⟩ := HS2.out.cells
        by_cases h1 : A = E
        · subst h1
          obtain ⟨g0, g1, g2, f0, f1, f2, _⟩ := HS2.out.frees
          obtain ⟨k1, k2⟩ := HS2.out.out (.int .i64 0) (.int .u64 0) (.int .u64 0)
          have HK := Lib.hid k2
          clear k1 k2
          go_wp2_with fail
          exact bodyPost_ret (v := .tuple #[.agg #[.int .i64 0, .int .u64 0, .int .u64 0], .int .i64 6]) (by simp [results, Try.results38, go_sem, g0, g1, g2]) rfl ⟨by rw [HV3.out]; simp [crossR], HK.out⟩
        · by_cases h2 : c < A
          · obtain ⟨g0, g1, g2, f0, f1, f2, _⟩ := HS2.out.frees
            obtain ⟨k1, k2⟩ := HS2.out.out (.int .i64 0) (.int .u64 0) (.int .u64 0)
            have HK := Lib.hid k2
            clear k1 k2
            go_wp2_with fail
            exact bodyPost_ret (v := .tuple #[.agg #[.int .i64 0, .int .u64 0, .int .u64 0], .int .i64 6]) (by simp [results, Try.results38, go_sem, g0, g1, g2]) rfl ⟨by rw [HV3.out]; simp [crossR, h2], HK.out⟩
          · by_cases h3 : E < c
            · obtain ⟨g0, g1, g2, f0, f1, f2, _⟩ := HS2.out.frees
              obtain ⟨k1, k2⟩ := HS2.out.out (.int .i64 0) (.int .u64 0) (.int .u64 0)
              have HK := Lib.hid k2
              clear k1 k2
              go_wp2_with fail
              exact bodyPost_ret (v := .tuple #[.agg #[.int .i64 0, .int .u64 0, .int .u64 0], .int .i64 6]) (by simp [results, Try.results38, go_sem, g0, g1, g2]) rfl ⟨by rw [HV3.out]; simp [crossR, h3], HK.out⟩
            · obtain ⟨D, hD⟩ : ∃ D : Nat, E - A = (D : Int) := ⟨(E - A).toNat, by omega⟩
              obtain ⟨x, hx⟩ : ∃ x, c - A = x := ⟨_, rfl⟩
              obtain ⟨y, hy⟩ : ∃ y, F - B = y := ⟨_, rfl⟩
              obtain ⟨⟨q1, q2⟩, t1, t2⟩ := cross_bd y x 9007199254740992 D (by omega) (by omega) (by omega) (by omega) (by omega)
              have hVm : V = makeG (B + y * x / (D : Int)) (y * x % (D : Int)).toNat D := by
                rw [HV3.out, crossR, if_neg (by omega), hD, hx, hy]
                rfl
              have hm : ∀ W, Calls Try.prog 22 #[.int .i64 y, .int .i64 x, .int .i64 (D : Int)] W (MdPost W (y * x) (D : Int)) := fun W => by
                have h := muldiv_any y x (D : Int) W (by omega) (by omega) (by omega) (by omega)
                rw [mdP, if_neg (by omega)] at h
                exact h
              have hmk : ∀ W, Calls Try.prog 25 #[.int .i64 (B + y * x / (D : Int)), .int .u64 (((y * x % (D : Int)).toNat : Nat) : Int), .int .u64 (D : Int)] W (FracEx W (makeG (B + y * x / (D : Int)) (y * x % (D : Int)).toNat D)) := fun W =>
                make_ex _ _ _ W (by omega) (by omega) (by omega)
              have hin : mdIn (y * x / (D : Int)) := ⟨by omega, by omega⟩
              rw [← hVm] at hmk
              unfold MdPost at hm
              generalize y * x / (D : Int) = q at *
              rw [Int.toNat_of_nonneg t1] at hmk
              generalize y * x % (D : Int) = t at *
              obtain ⟨s, hs⟩ : ∃ s, B + q = s := ⟨_, rfl⟩
              rw [hs] at hmk
              have r0 : (A == E) = false := by simpa using h1
              have r1 : wrap64 (E - A) = (D : Int) := by rw [IntWalk.wrap64_in _ ⟨by omega, by omega⟩]; exact hD
              have r2 : wrap64 (c - A) = x := by rw [IntWalk.wrap64_in _ ⟨by omega, by omega⟩]; exact hx
              have r3 : wrap64 (F - B) = y := by rw [IntWalk.wrap64_in _ ⟨by omega, by omega⟩]; exact hy
              have r4 : wrap64 (B + q) = s := by rw [IntWalk.wrap64_in _ ⟨by omega, by omega⟩]; exact hs
              have r5 : IntKind.u64.wrap (D : Int) = (D : Int) := IntWalk.u64_in _ ⟨by omega, by omega⟩
              have Hm := Lib.hid hm
              have Hmk := Lib.hid hmk
              have Hin := Lib.hid hin
              clear h1 hm hmk hin hVm bA1 bA2 bB1 bB2 bc1 bc2 bE1 bE2 bF1 bF2 hD hx hy hs t1 t2 q1 q2 hAE
              go_wp2_with fail
              refine (Hm.out _).mono ?_
              rintro e' W6 ⟨hres, hb6⟩
              have HS6 := Lib.hid (HS2.out.keep hb6)
              obtain rfl : e' = .returned (mdOk q t) := by
                rcases hres with ⟨_, h⟩ | ⟨h, _⟩
                · exact h
                · exact absurd Hin.out h
              unfold mdOk
              clear hres hb6 Hm Hin
              obtain ⟨da, db, de, df, dt, _⟩ := HS6.out.cells
              go_wp2_with fail
              refine (Hmk.out _).mono ?_
              rintro e' W7 ⟨r1, r2, r3, r4, rfl, hVV, hb7⟩
              have HS7 := Lib.hid (HS6.out.keep hb7)
              have HVV := Lib.hid hVV
              clear hb7 hVV
              obtain ⟨g0, g1, g2, f0, f1, f2, _⟩ := HS7.out.frees
              obtain ⟨k1, k2⟩ := HS7.out.out (.int .i64 r1) (.int .u64 (r2 : Int)) (.int .u64 (r3 : Int))
              have HK := Lib.hid k2
              clear k1 k2
              go_wp2_with fail
              exact bodyPost_ret (v := .tuple #[.agg #[.int .i64 r1, .int .u64 (r2 : Int), .int .u64 (r3 : Int)], .int .i64 r4]) (by simp [results, Try.results38, go_sem, g0, g1, g2]) rfl ⟨by rw [HVV.out], HK.out⟩
end Go.Proofs.Ytcfkhgpcamfecaa
