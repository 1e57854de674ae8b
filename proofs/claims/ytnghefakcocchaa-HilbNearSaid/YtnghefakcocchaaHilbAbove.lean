/- The walk over the statement HilbAbove. -/
import Derived.Test.YtnghefakcocchaaHilbLaws
namespace Go.Proofs.Ytnghefakcocchaa
open Go.RowKit Hilb
set_option linter.unusedVariables false
attribute [local go_sem ↓] Go.wp_at_zero Go.wp_at_succ

theorem idn_up : ∀ (u n x y : Nat), x < 2 ^ (n + u) → y < 2 ^ (n + u) → idn n (x / 2 ^ u) (y / 2 ^ u) = idn (n + u) x y / 4 ^ u
  | 0, n, x, y, _, _ => by simp
  | u + 1, n, x, y, hx, hy => by
    have e : n + (u + 1) = (n + u) + 1 := by omega
    rw [e] at hx hy ⊢
    have h := idn_half (n + u) x y hx hy
    rw [Nat.pow_succ] at hx hy
    have ih := idn_up u n (x / 2) (y / 2) (by omega) (by omega)
    rw [h, Nat.div_div_eq_div_mul, Nat.div_div_eq_div_mul, Nat.div_div_eq_div_mul, ← Nat.pow_succ', ← Nat.pow_succ'] at ih
    exact ih
theorem div_lt_pow (x z u : Nat) (hx : x < 2 ^ z) (hu : u ≤ z) : x / 2 ^ u < 2 ^ (z - u) := by
  apply Nat.div_lt_of_lt_mul
  rw [← Nat.pow_add, show u + (z - u) = z by omega]
  exact hx

def two (w w1 : World) (g h : Nat) (a b c d e f : Int) : Prop :=
  w1.cell? ⟨g, 0, none⟩ = some (.int .i64 a) ∧ w1.cell? ⟨g, 1, none⟩ = some (.int .i64 b) ∧ w1.cell? ⟨g, 2, none⟩ = some (.int .i64 c) ∧
  w1.cell? ⟨h, 0, none⟩ = some (.int .i64 d) ∧ w1.cell? ⟨h, 1, none⟩ = some (.int .i64 e) ∧ w1.cell? ⟨h, 2, none⟩ = some (.int .i64 f) ∧
  Below w.heap.size w w1 ∧ g < w1.heap.size ∧ h < w1.heap.size
theorem two_keep {w w1 w2 : World} {g h : Nat} {a b c d e f : Int} (hb : Below w1.heap.size w1 w2) (H : two w w1 g h a b c d e f) : two w w2 g h a b c d e f := by
  obtain ⟨h0, h1, h2, h3, h4, h5, h6, h7, h8⟩ := H
  exact ⟨(hb.cell h7).trans h0, (hb.cell h7).trans h1, (hb.cell h7).trans h2, (hb.cell h8).trans h3, (hb.cell h8).trans h4, (hb.cell h8).trans h5, h6.trans (hb.mono h6.size), Nat.lt_of_lt_of_le h7 hb.size, Nat.lt_of_lt_of_le h8 hb.size⟩

theorem two_drew {w w1 : World} {g h : Nat} {a b c d e f : Int} (H : two w w1 g h a b c d e f) : two w w1.drew g h a b c d e f := by
  obtain ⟨h0, h1, h2, h3, h4, h5, h6, h7, h8⟩ := H
  exact ⟨h0, h1, h2, h3, h4, h5, h6.drew, h7, h8⟩

theorem parent_at (z x y d : Nat) (hz : z ≤ 30) (hx : x < 2 ^ z) (hy : y < 2 ^ z) (hd : d ≤ z) : ∀ (i : Int), i = (d : Int) → ∀ w,
    Calls Try.prog 14 #[.agg #[.int .i64 (z : Int), .int .i64 (x : Int), .int .i64 (y : Int)], .int .i64 i] w
      fun e w' => e = .returned (.agg #[.int .i64 (z - d : Nat), .int .i64 (x / 2 ^ d : Nat), .int .i64 (y / 2 ^ d : Nat)]) ∧ Below w.heap.size w w' := by
  rintro i rfl w
  exact parent_yes z x y d w hz hx hy hd

set_option maxHeartbeats 1000000 in
theorem hilbAbove_no (z x y : Int) (a b : Nat) (w : World) (ha : a < 256) (hb : b < 256) (h : ¬ okp z x y ∨ z < ((a % 31 : Nat) : Int) + ((b % 31 : Nat) : Int)) :
    Calls Try.prog 6 #[.agg #[.int .i64 z, .int .i64 x, .int .i64 y], .int .u8 (a : Int), .int .u8 (b : Int)] w fun e w' => e = .returned (.bool true) ∧ Below w.heap.size w w' := by
  have hlive := Lib.hid live_any
  have hA31 : (a : Int) % 31 = ((a % 31 : Nat) : Int) := rfl
  have hB31 : (b : Int) % 31 = ((b % 31 : Nat) : Int) := rfl
  have hu : a % 31 < 31 := by omega
  have hm : b % 31 < 31 := by omega
  generalize a % 31 = u at *
  generalize b % 31 = m at *
  by_cases hk : okp z x y
  · obtain ⟨Z, X, Y, rfl, rfl, rfl, hZ, hX, hY⟩ := okp_nat hk
    have hrr := Lib.hid fun W => rright_yes Z X Y W hZ hX hY
    have hlt : Z < u + m := by
      rcases h with h | h
      · exact absurd hk h
      · omega
    have hlt2 : (Z : Int) < (u : Int) + (m : Int) := by omega
    clear hk h hX hY
    go_enter Try.func6, Try.ntmps6
    go_wp2_with fail
    refine (hrr.out _).mono ?_
    rintro e w1 ⟨rfl, hb1⟩
    obtain ⟨hA, hb', hlt'⟩ := one_kept hb1
    clear hb1
    have a0 : w1.cell? ⟨w.heap.size, 0, none⟩ = some (.int .i64 (Z : Int)) := hA.cell 0
    go_wp2_with (go_at_call 16; (refine (hlive.out _).mono ?_); rintro e w4 ⟨rfl, hj⟩)
    go_ret
    exact ⟨rfl, keepB hj hb'⟩
  · have hrr := Lib.hid fun W => rright_no z x y W hk
    clear hk h
    go_enter Try.func6, Try.ntmps6
    go_wp2_with fail
    refine (hrr.out _).mono ?_
    rintro e w1 ⟨rfl, hb1⟩
    obtain ⟨hA, hb', hlt'⟩ := one_kept hb1
    clear hb1
    go_wp2_with (go_at_call 16; (refine (hlive.out _).mono ?_); rintro e w4 ⟨rfl, hj⟩)
    go_ret
    exact ⟨rfl, keepB hj hb'⟩

set_option maxHeartbeats 2000000 in
theorem hilbAbove_yes (z x y u m : Nat) (a b : Nat) (w : World) (ha : a < 256) (hb : b < 256) (hz : z ≤ 30) (hx : x < 2 ^ z) (hy : y < 2 ^ z) (hA31 : a % 31 = u) (hB31 : b % 31 = m) (hum : u + m ≤ z) :
    Calls Try.prog 6 #[.agg #[.int .i64 (z : Int), .int .i64 (x : Int), .int .i64 (y : Int)], .int .u8 (a : Int), .int .u8 (b : Int)] w fun e w' => e = .returned (.bool true) ∧ Below w.heap.size w w' := by
  have hlive := Lib.hid live_any
  have hA : (a : Int) % 31 = (u : Int) := by omega
  have hB : (b : Int) % 31 = (m : Int) := by omega
  have hrr := Lib.hid fun W => rright_yes z x y W hz hx hy
  have hpu := Lib.hid fun W => parent_yes z x y u W hz hx hy (by omega)
  have hpum := Lib.hid (parent_at z x y (u + m) hz hx hy (by omega))
  have hxu := div_lt_pow x z u hx (by omega)
  have hyu := div_lt_pow y z u hy (by omega)
  have hr := Lib.hid fun W => right_yes (z - u) (x / 2 ^ u) (y / 2 ^ u) W (by omega) hxu hyu
  have hpm := fun W => parent_yes (z - u) (x / 2 ^ u) (y / 2 ^ u) m W (by omega) hxu hyu (by omega)
  have e1 : z - u - m = z - (u + m) := by omega
  have e2 : ∀ t, t / 2 ^ u / 2 ^ m = t / 2 ^ (u + m) := fun t => by rw [Nat.div_div_eq_div_mul, Nat.pow_add]
  rw [e1, e2, e2] at hpm
  have Hpm := Lib.hid hpm
  have hid := Lib.hid fun W => id_yes z x y W hz hx hy
  have hidu := fun W => id_yes (z - u) (x / 2 ^ u) (y / 2 ^ u) W (by omega) hxu hyu
  have e3 := idn_up u (z - u) x y (by rw [show z - u + u = z by omega]; exact hx) (by rw [show z - u + u = z by omega]; exact hy)
  rw [show z - u + u = z by omega] at e3
  rw [e3] at hidu
  have Hidu := Lib.hid hidu
  have hfz := Lib.hid fun W => first_nat z W (by omega)
  have hfu := Lib.hid fun W => first_nat (z - u) W (by omega)
  have htz := fst_idn_lt z x y hz
  have htu := fst_idn_lt (z - u) (x / 2 ^ u) (y / 2 ^ u) (by omega)
  rw [e3] at htu
  clear hpm hidu e1 e2 e3 hxu hyu hx hy hA31 hB31
  have Hz := Lib.hid hz
  generalize z - (u + m) = t1 at *
  generalize x / 2 ^ (u + m) = t2 at *
  generalize y / 2 ^ (u + m) = t3 at *
  generalize hv : z - u = v at *
  have Hv := Lib.hid hv
  clear hv
  generalize x / 2 ^ u = x1 at *
  generalize y / 2 ^ u = y1 at *
  generalize fst z = F at *
  generalize fst v = G at *
  generalize idn z x y = I at *
  have hI62 : I < 4611686018427387904 := by omega
  have HI := Lib.hid (fun k => Nat.lt_of_le_of_lt (Nat.div_le_self I (4 ^ k)) hI62)
  clear hI62
  have hdn : ∀ k, I / 4 ^ (k + 1) = I / 4 ^ k / 4 := fun k => by rw [Nat.pow_succ, Nat.div_div_eq_div_mul]
  have Hdn := Lib.hid hdn; clear hdn
  have hsub : IntKind.u64.wrap (((F + I : Nat) : Int) - (F : Int)) = (I : Int) := by
    rw [show (((F + I : Nat) : Int) - (F : Int)) = (I : Int) by omega]; exact u64_wrap I (by omega)
  have hsubu : IntKind.u64.wrap (((G + I / 4 ^ u : Nat) : Int) - (G : Int)) = ((I / 4 ^ u : Nat) : Int) := by
    generalize I / 4 ^ u = J at *
    rw [show (((G + J : Nat) : Int) - (G : Int)) = (J : Int) by omega]; exact u64_wrap J (by omega)
  generalize F + I = FI at *
  generalize G + I / 4 ^ u = GJ at *
  have Hsub := Lib.hid hsub; have Hsubu := Lib.hid hsubu
  clear hsub hsubu
  have hum2 : ¬ z < u + m := by omega
  go_enter Try.func6, Try.ntmps6
  go_wp2_with fail
  refine (hrr.out _).mono ?_
  rintro e w1 ⟨rfl, hb1⟩
  obtain ⟨hW, hb', hlt'⟩ := one_kept hb1
  clear hb1
  have a0 : w1.cell? ⟨w.heap.size, 0, none⟩ = some (.int .i64 (z : Int)) := hW.cell 0
  have a1 : w1.cell? ⟨w.heap.size, 1, none⟩ = some (.int .i64 (x : Int)) := hW.cell 1
  have a2 : w1.cell? ⟨w.heap.size, 2, none⟩ = some (.int .i64 (y : Int)) := hW.cell 2
  go_wp2_with fail
  refine (hpu.out _).mono ?_
  rintro e w2 ⟨rfl, hb2⟩
  have hlt2 : w.heap.size < w2.heap.size := Nat.lt_of_lt_of_le hlt' hb2.size
  have hT : two w (w2.alloc (.cells #[.int .i64 (v : Int), .int .i64 (x1 : Int), .int .i64 (y1 : Int)] 23)) w.heap.size w2.heap.size z x y v x1 y1 := by
    have hn := fun i => (Whole.new w2 23 #[.int .i64 (v : Int), .int .i64 (x1 : Int), .int .i64 (y1 : Int)]).cell i
    refine ⟨?_, ?_, ?_, hn 0, hn 1, hn 2, (keepB hb2 hb').alloc (Nat.le_of_lt hlt2) _, by simp; omega, by simp⟩
    · exact (World.cell?_alloc_lt w2 _ ⟨w.heap.size, 0, none⟩ hlt2).trans ((hb2.cell (p := ⟨w.heap.size, 0, none⟩) hlt').trans a0)
    · exact (World.cell?_alloc_lt w2 _ ⟨w.heap.size, 1, none⟩ hlt2).trans ((hb2.cell (p := ⟨w.heap.size, 1, none⟩) hlt').trans a1)
    · exact (World.cell?_alloc_lt w2 _ ⟨w.heap.size, 2, none⟩ hlt2).trans ((hb2.cell (p := ⟨w.heap.size, 2, none⟩) hlt').trans a2)
  clear a0 a1 a2 hW hb' hlt' hb2 hlt2
  go_wp2_with fail
  generalize w2.alloc (.cells #[.int .i64 (v : Int), .int .i64 (x1 : Int), .int .i64 (y1 : Int)] 23) = w3 at *
  generalize w2.heap.size = h at *
  have hw : IntKind.i64.wrap ((u : Int) + (m : Int)) = (u : Int) + (m : Int) := IntWalk.i64_in _ ⟨by omega, by omega⟩
  go_region_held3 (fun w1 => w1.cell? ⟨w.heap.size, 0, none⟩ = some (.int .i64 (z : Int)) ∧ w1.cell? ⟨w.heap.size, 1, none⟩ = some (.int .i64 (x : Int)) ∧ w1.cell? ⟨w.heap.size, 2, none⟩ = some (.int .i64 (y : Int)) ∧
      w1.cell? ⟨h, 0, none⟩ = some (.int .i64 (v : Int)) ∧ w1.cell? ⟨h, 1, none⟩ = some (.int .i64 (x1 : Int)) ∧ w1.cell? ⟨h, 2, none⟩ = some (.int .i64 (y1 : Int)) ∧ Below w.heap.size w w1 ∧ w.heap.size < w1.heap.size ∧ h < w1.heap.size)
    (first | exact two_drew hT | exact two_keep hbb (by assumption) | assumption)
    (first
      | (go_at_call 14; (with_reducible refine (Hpm.out _).mono ?_); rintro e w' ⟨rfl, hbb⟩)
      | (go_at_call 14; (with_reducible refine (hpum.out _ ?_ _).mono ?_); (· omega); rintro e w' ⟨rfl, hbb⟩)
      | (go_at_call 9; refine (hr.out _).mono ?_; rintro e w' ⟨rfl, hbb⟩))
  clear hT hw
  rename_i wS hT
  obtain ⟨c0, c1, c2, d0, d1, d2, hB', hg, hh⟩ := hT
  go_wp2_with fail
  refine (hid.out _).mono ?_
  rintro e w4 ⟨rfl, hb4⟩
  obtain ⟨c0, c1, c2, d0, d1, d2, hB', hg, hh⟩ := two_keep hb4 ⟨c0, c1, c2, d0, d1, d2, hB', hg, hh⟩
  clear hb4
  go_wp2_with fail
  refine (Hidu.out _).mono ?_
  rintro e w5 ⟨rfl, hb5⟩
  obtain ⟨c0, c1, c2, d0, d1, d2, hB', hg, hh⟩ := two_keep hb5 ⟨c0, c1, c2, d0, d1, d2, hB', hg, hh⟩
  clear hb5
  go_wp2_with fail
  refine (hfz.out _).mono ?_
  rintro e w6 ⟨rfl, rfl⟩
  have hsub := Hsub.out
  go_wp2_with fail
  clear hsub
  go_loop [14, 15] (fun r i => ∃ k : Nat, k ≤ u ∧ r = .int .u64 (I / 4 ^ k : Nat) ∧ i = .int .i64 k) (fun _ i => u - (intOf i).toNat)
  case atStart => exact ⟨0, by omega, by simp, rfl⟩
  case round =>
    obtain ⟨k, hk, rfl, rfl⟩ := hrel
    by_cases hlt : k < u
    · have hd := Lib.hid (Hdn.out k)
      have hIk := Lib.hid (HI.out k)
      generalize I / 4 ^ k = r at *
      go_wp2
      go_round
      case rel => exact ⟨k + 1, by omega, by rw [hd.out]; exact congrArg (Value.int .u64) (u64_wrap (r / 4) (by have := hIk.out; omega)), by go_num⟩
      case measure => simp [intOf]; omega
    · obtain rfl : k = u := by omega
      generalize I / 4 ^ k = J at *
      have hsubu := Hsubu.out
      go_wp2_with (first
        | (go_at_call 11; refine (code_any _ _).mono ?_; rintro e w' ⟨rfl, rfl⟩)
        | (go_at_call 12; refine (hfu.out _).mono ?_; rintro e w' ⟨rfl, rfl⟩)
        | (go_at_call 16; (refine (hlive.out _).mono ?_); rintro e w4 ⟨rfl, hj⟩))
      go_ret
      exact ⟨rfl, keepB hj hB'⟩

theorem hilbAbove_walk (z x y : Int) (a b : Nat) (w : World) (ha : a < 256) (hb : b < 256) :
    Calls Try.prog 6 #[.agg #[.int .i64 z, .int .i64 x, .int .i64 y], .int .u8 (a : Int), .int .u8 (b : Int)] w fun e w' => e = .returned (.bool true) ∧ Below w.heap.size w w' := by
  by_cases h : ¬ okp z x y ∨ z < ((a % 31 : Nat) : Int) + ((b % 31 : Nat) : Int)
  · exact hilbAbove_no z x y a b w ha hb h
  · have hk : okp z x y := Classical.byContradiction fun hn => h (.inl hn)
    obtain ⟨Z, X, Y, rfl, rfl, rfl, hZ, hX, hY⟩ := okp_nat hk
    exact hilbAbove_yes Z X Y _ _ a b w ha hb hZ hX hY rfl rfl (by omega)
end Go.Proofs.Ytnghefakcocchaa
