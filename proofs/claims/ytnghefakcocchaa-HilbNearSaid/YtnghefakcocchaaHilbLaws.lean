/- The walks over the statements of layer 11. -/
import Derived.Test.YtnghefakcocchaaHilbRID
import Derived.Test.YtnghefakcocchaaHilbOf
import Derived.Lib.SmallJoins
import Derived.Deep.RegionHeld3
import Derived.Deep.DrawnRows
namespace Go.Proofs.Ytnghefakcocchaa
open Go.RowKit Hilb
set_option linter.unusedVariables false
attribute [local go_sem ↓] Go.wp_at_zero Go.wp_at_succ

theorem keepB {w W w' : World} (hj : Below W.heap.size W w') (h : Below w.heap.size w W) : Below w.heap.size w w' := h.trans (hj.mono h.size)

theorem live_any (w : World) : Calls Try.prog 16 #[] w fun e w' => e = .returned (.bool true) ∧ Below w.heap.size w w' := by
  have h1 := fun W => Lib.hid (id_yes 1 1 1 W (by omega) (by omega) (by omega))
  have h2 := fun W => Lib.hid (id_yes 1 1 0 W (by omega) (by omega) (by omega))
  rw [show fst 1 + idn 1 1 1 = 3 by decide] at h1
  rw [show fst 1 + idn 1 1 0 = 4 by decide] at h2
  have H1 := Lib.hid h1; have H2 := Lib.hid h2
  clear h1 h2
  have hself := Below.refl w.heap.size w
  go_enter Try.func16, Try.ntmps16
  go_wp2_with fail
  refine ((H1.out _).out).mono ?_
  rintro e w1 ⟨rfl, hb1⟩
  go_wp2_with fail
  refine ((H2.out _).out).mono ?_
  rintro e w2 ⟨rfl, hb2⟩
  have hb := keepB hb2 hb1
  go_wp2
  go_ret
  exact ⟨rfl, hb⟩

theorem hilbOf_walk (id : Nat) (w : World) (hid : id < 18446744073709551616) :
    Calls Try.prog 4 #[.int .u64 (id : Int)] w fun e w' => e = .returned (.bool true) ∧ Below w.heap.size w w' := by
  have hlive := Lib.hid live_any
  have hf := fun W => Lib.hid (rfirst_any 31 W)
  rw [show cut31 31 = 31 by decide] at hf
  have Hf := Lib.hid hf; clear hf
  by_cases hbig : fst 31 ≤ id
  · have ho := fun W => Lib.hid (of_no id W hbig hid)
    have Ho := Lib.hid ho; clear ho
    generalize fst 31 = F at *
    go_enter Try.func4, Try.ntmps4
    go_wp2_with fail
    refine ((Ho.out _).out).mono ?_
    rintro e w1 ⟨rfl, hb1⟩
    go_wp2_with (first
      | (go_at_call 13; (refine ((Hf.out _).out).mono ?_); rintro e w' ⟨rfl, rfl⟩)
      | (go_at_call 11; go_in)
      | (go_at_call 16; (refine (hlive.out _).mono ?_); rintro e w' ⟨rfl, hj⟩))
    go_ret
    exact ⟨rfl, keepB hj (hb1.alloc hb1.size _)⟩
  · obtain ⟨z, hz, hz1, hz2⟩ := zoom_of 31 id (by omega)
    obtain ⟨d, rfl⟩ : ∃ d, id = fst z + d := ⟨id - fst z, by omega⟩
    rw [fst_succ] at hz2
    have hl := pln_lt z d
    have ho := fun W => Lib.hid (of_yes z d W (by omega) (by omega) _ rfl)
    have hr := fun W => Lib.hid (rid_yes z (pln z d).1 (pln z d).2 W (by omega) hl.1 hl.2)
    rw [idn_pln, Nat.mod_eq_of_lt (show d < 4 ^ z by omega)] at hr
    have Ho := Lib.hid ho; have Hr := Lib.hid hr; clear ho hr hz1 hz2
    generalize fst z + d = id at *
    generalize fst 31 = F at *
    generalize (pln z d).1 = x at *
    generalize (pln z d).2 = y at *
    have hnF : ¬ F ≤ id := by omega
    go_enter Try.func4, Try.ntmps4
    go_wp2_with fail
    refine ((Ho.out _).out).mono ?_
    rintro e w1 ⟨rfl, hb1⟩
    go_wp2_with (first
      | (go_at_call 13; (refine ((Hf.out _).out).mono ?_); rintro e w' ⟨rfl, rfl⟩)
      | (go_at_call 8; (refine ((Hr.out _).out).mono ?_); rintro e w2 ⟨rfl, hb2⟩)
      | (go_at_call 11; go_in)
      | (go_at_call 16; (refine (hlive.out _).mono ?_); rintro e w' ⟨rfl, hj⟩))
    go_ret
    exact ⟨rfl, keepB hj (keepB hb2 (hb1.alloc hb1.size _))⟩

theorem code_any (n : Int) (w : World) : Calls Try.prog 11 #[.int .i64 n] w fun e w' => e = .returned (.int .i64 n) ∧ w = w' := by
  go_enter Try.func11, Try.ntmps11
  go_wp2
  go_ret
  exact ⟨rfl, rfl⟩

theorem parents (z x y d : Int) : ∃ t u v : Int,
    Hid (∀ W, Calls Try.prog 14 #[.agg #[.int .i64 z, .int .i64 x, .int .i64 y], .int .i64 d] W fun e w' => e = .returned (.agg #[.int .i64 t, .int .i64 u, .int .i64 v]) ∧ Below W.heap.size W w') ∧
    Hid (∀ W, Calls Try.prog 15 #[.agg #[.int .i64 z, .int .i64 x, .int .i64 y], .int .i64 d] W fun e w' => e = .returned (.agg #[.int .i64 t, .int .i64 u, .int .i64 v]) ∧ Below W.heap.size W w') := by
  by_cases h : ¬ okp z x y ∨ d < 0 ∨ z < d
  · exact ⟨z, x, y, fun W => parent_no z x y d W h, fun W => rparent_no z x y d W h⟩
  · have hk : okp z x y := Classical.byContradiction fun hn => h (.inl hn)
    obtain ⟨Z, X, Y, rfl, rfl, rfl, hZ, hX, hY⟩ := okp_nat hk
    obtain ⟨D, rfl⟩ := Int.eq_ofNat_of_zero_le (show 0 ≤ d by omega)
    exact ⟨_, _, _, fun W => parent_yes Z X Y D W hZ hX hY (by omega), fun W => rparent_yes Z X Y D W hZ hX hY (by omega)⟩

set_option maxHeartbeats 1000000 in
theorem hilbIDs_walk (z x y d : Int) (w : World) (hd : -9223372036854775808 ≤ d ∧ d < 9223372036854775808) :
    Calls Try.prog 3 #[.agg #[.int .i64 z, .int .i64 x, .int .i64 y], .int .i64 d] w fun e w' => e = .returned (.bool true) ∧ Below w.heap.size w w' := by
  have hlive := Lib.hid live_any
  have hf := Lib.hid fun W => first_any d W hd
  have hrf := Lib.hid fun W => rfirst_any d W
  obtain ⟨t, u, v, hp, hrp⟩ := parents z x y d
  generalize fst (cut31 d) = N at *
  clear hd
  by_cases hk : okp z x y
  · obtain ⟨Z, X, Y, rfl, rfl, rfl, hZ, hX, hY⟩ := okp_nat hk
    have hid := Lib.hid fun W => id_yes Z X Y W hZ hX hY
    have hrid := Lib.hid fun W => rid_yes Z X Y W hZ hX hY
    have hr := Lib.hid fun W => right_yes Z X Y W hZ hX hY
    have hrr := Lib.hid fun W => rright_yes Z X Y W hZ hX hY
    have hof := fun W => Lib.hid (of_yes Z (idn Z X Y) W hZ (idn_lt Z X Y) _ rfl)
    rw [pln_idn Z X Y hX hY] at hof
    have Hof := Lib.hid hof
    clear hk hX hY hof
    generalize fst Z + idn Z X Y = I at *
    go_enter Try.func3, Try.ntmps3
    go_wp2_with fail
    refine (hid.out _).mono ?_
    rintro e w1 ⟨rfl, hb1⟩
    obtain ⟨hA, hb, hlt⟩ := one_kept hb1
    clear hb1
    have a0 : w1.cell? ⟨w.heap.size, 0, none⟩ = some (.int .i64 (Z : Int)) := hA.cell 0
    have a1 : w1.cell? ⟨w.heap.size, 1, none⟩ = some (.int .i64 (X : Int)) := hA.cell 1
    have a2 : w1.cell? ⟨w.heap.size, 2, none⟩ = some (.int .i64 (Y : Int)) := hA.cell 2
    go_wp2_with fail
    refine (hrid.out _).mono ?_
    rintro e w2 ⟨rfl, hb2⟩
    go_wp2_with fail
    have hb0 := keepB hb2 hb
    have c0 := (hb2.cell (p := ⟨w.heap.size, 0, none⟩) hlt).trans a0
    have c1 := (hb2.cell (p := ⟨w.heap.size, 1, none⟩) hlt).trans a1
    have c2 := (hb2.cell (p := ⟨w.heap.size, 2, none⟩) hlt).trans a2
    have hlt2 : w.heap.size < w2.heap.size := Nat.lt_of_lt_of_le hlt hb2.size
    clear a0 a1 a2 hA hb hlt hb2
    go_region_held3 (fun w' => w'.cell? ⟨w.heap.size, 0, none⟩ = some (.int .i64 (Z : Int)) ∧ w'.cell? ⟨w.heap.size, 1, none⟩ = some (.int .i64 (X : Int)) ∧ w'.cell? ⟨w.heap.size, 2, none⟩ = some (.int .i64 (Y : Int)) ∧ Below w.heap.size w w' ∧ w.heap.size < w'.heap.size)
      (first | exact ⟨c0, c1, c2, hb0.drew, hlt2⟩ | exact keepP hbb (by assumption) | assumption)
      (first
        | (go_at_call 9; refine (hr.out _).mono ?_; rintro e w' ⟨rfl, hbb⟩)
        | (go_at_call 10; refine (hrr.out _).mono ?_; rintro e w' ⟨rfl, hbb⟩)
        | (go_at_call 11; refine (code_any _ _).mono ?_; rintro e w' ⟨rfl, rfl⟩)
        | (go_at_call 12; refine (hf.out _).mono ?_; rintro e w' ⟨rfl, rfl⟩)
        | (go_at_call 13; refine (hrf.out _).mono ?_; rintro e w' ⟨rfl, rfl⟩)
        | (go_at_call 14; refine (hp.out _).mono ?_; rintro e w' ⟨rfl, hbb⟩)
        | (go_at_call 15; refine (hrp.out _).mono ?_; rintro e w' ⟨rfl, hbb⟩))
    rename_i hS
    obtain ⟨d0, d1, d2, hbS, hltS⟩ := hS
    go_wp2_with fail
    refine ((Hof.out _).out).mono ?_
    rintro e w3 ⟨rfl, hb3⟩
    have hlt3 : w.heap.size < w3.heap.size := Nat.lt_of_lt_of_le hltS hb3.size
    have hb4 := keepB hb3 hbS
    have e0 := fun o => (World.cell?_alloc_lt w3 o ⟨w.heap.size, 0, none⟩ hlt3).trans ((hb3.cell (p := ⟨w.heap.size, 0, none⟩) hltS).trans d0)
    have e1 := fun o => (World.cell?_alloc_lt w3 o ⟨w.heap.size, 1, none⟩ hlt3).trans ((hb3.cell (p := ⟨w.heap.size, 1, none⟩) hltS).trans d1)
    have e2 := fun o => (World.cell?_alloc_lt w3 o ⟨w.heap.size, 2, none⟩ hlt3).trans ((hb3.cell (p := ⟨w.heap.size, 2, none⟩) hltS).trans d2)
    clear d0 d1 d2 hb3 hbS hltS
    go_wp2_with (first
      | (go_at_call 11; refine (code_any _ _).mono ?_; rintro e w' ⟨rfl, rfl⟩)
      | (go_at_call 16; (refine (hlive.out _).mono ?_); rintro e w4 ⟨rfl, hj⟩))
    go_ret
    exact ⟨rfl, keepB hj (hb4.alloc hb4.size _)⟩
  · have hid := Lib.hid fun W => id_no z x y W hk
    have hrid := Lib.hid fun W => rid_no z x y W hk
    have hr := Lib.hid fun W => right_no z x y W hk
    have hrr := Lib.hid fun W => rright_no z x y W hk
    clear hk
    go_enter Try.func3, Try.ntmps3
    go_wp2_with fail
    refine (hid.out _).mono ?_
    rintro e w1 ⟨rfl, hb1⟩
    obtain ⟨hA, hb, hlt⟩ := one_kept hb1
    clear hb1
    have a0 : w1.cell? ⟨w.heap.size, 0, none⟩ = some (.int .i64 z) := hA.cell 0
    have a1 : w1.cell? ⟨w.heap.size, 1, none⟩ = some (.int .i64 x) := hA.cell 1
    have a2 : w1.cell? ⟨w.heap.size, 2, none⟩ = some (.int .i64 y) := hA.cell 2
    go_wp2_with fail
    refine (hrid.out _).mono ?_
    rintro e w2 ⟨rfl, hb2⟩
    go_wp2_with fail
    have hb0 := keepB hb2 hb
    have c0 := (hb2.cell (p := ⟨w.heap.size, 0, none⟩) hlt).trans a0
    have c1 := (hb2.cell (p := ⟨w.heap.size, 1, none⟩) hlt).trans a1
    have c2 := (hb2.cell (p := ⟨w.heap.size, 2, none⟩) hlt).trans a2
    have hlt2 : w.heap.size < w2.heap.size := Nat.lt_of_lt_of_le hlt hb2.size
    clear a0 a1 a2 hA hb hlt hb2
    go_region_held3 (fun w' => w'.cell? ⟨w.heap.size, 0, none⟩ = some (.int .i64 z) ∧ w'.cell? ⟨w.heap.size, 1, none⟩ = some (.int .i64 x) ∧ w'.cell? ⟨w.heap.size, 2, none⟩ = some (.int .i64 y) ∧ Below w.heap.size w w' ∧ w.heap.size < w'.heap.size)
      (first | exact ⟨c0, c1, c2, hb0.drew, hlt2⟩ | exact keepP hbb (by assumption) | assumption)
      (first
        | (go_at_call 9; refine (hr.out _).mono ?_; rintro e w' ⟨rfl, hbb⟩)
        | (go_at_call 10; refine (hrr.out _).mono ?_; rintro e w' ⟨rfl, hbb⟩)
        | (go_at_call 11; refine (code_any _ _).mono ?_; rintro e w' ⟨rfl, rfl⟩)
        | (go_at_call 12; refine (hf.out _).mono ?_; rintro e w' ⟨rfl, rfl⟩)
        | (go_at_call 13; refine (hrf.out _).mono ?_; rintro e w' ⟨rfl, rfl⟩)
        | (go_at_call 14; refine (hp.out _).mono ?_; rintro e w' ⟨rfl, hbb⟩)
        | (go_at_call 15; refine (hrp.out _).mono ?_; rintro e w' ⟨rfl, hbb⟩))
    rename_i hS
    go_wp2_with (go_at_call 16; (refine (hlive.out _).mono ?_); rintro e w4 ⟨rfl, hj⟩)
    go_ret
    exact ⟨rfl, keepB hj hS.2.2.2.1⟩
end Go.Proofs.Ytnghefakcocchaa
