/- Layer 28: the reference's power, Right (both), Scale, live. -/
import Derived.Test.YtnajladngpphkaaOvBase
import Derived.BigRegion
import Derived.Deep.QuietTactic
import Derived.BigQuiet
import Derived.IntWalk
namespace Go.Proofs.Ytnajladngpphkaa
open Go.RowKit
set_option linter.unusedVariables false
set_option maxRecDepth 100000

theorem pow_le30 {u : Nat} (h : u ≤ 30) : 2 ^ u ≤ 1073741824 := Nat.pow_le_pow_right (n := 2) (by decide) h
theorem shl1w (k p : Nat) (h : k ≤ 30) (hp : p = 2 ^ k) : wrap64 ((2 : Int) ^ k) = (p : Int) := by
  have h1 := pow_le30 h
  have h2 : ((2 : Int) ^ k) = ((2 ^ k : Nat) : Int) := by rw [Int.natCast_pow]; rfl
  rw [h2, ← hp]
  exact IntWalk.wrap64_in _ ⟨by omega, by omega⟩
theorem power_any (u : Nat) (hu : u ≤ 30) (w : World) : Calls Try.prog 9 #[.int .i64 (u : Int)] w fun e w' => e = .returned (.int .i64 ((2 ^ u : Nat) : Int)) ∧ w = w' := by
  go_enter Try.func9, Try.ntmps9
  go_wp2_with fail
  obtain ⟨w0, rfl⟩ : ∃ w0, w0 = w := ⟨_, rfl⟩
  go_loopw [3, 4] (fun x i W => ∃ k p : Nat, k ≤ u ∧ p = 2 ^ k ∧ x = .int .i64 (p : Int) ∧ i = .int .i64 (k : Int) ∧ w0 = W) (fun _ i _ => u - (intOf i).toNat)
  case atStart => exact ⟨0, 1, Nat.zero_le _, rfl, rfl, rfl, rfl⟩
  case round =>
    obtain ⟨k, p, hk, hp, rfl, rfl, rfl⟩ := hrel
    have hb := pow_le30 (Nat.le_trans hk hu)
    rw [← hp] at hb
    by_cases hlt : k < u
    · have hk1 : (k : Int) < (u : Int) := by omega
      have hs : 2 * p = 2 ^ (k + 1) := by rw [Nat.pow_succ, hp]; omega
      have Hs := Lib.hid hs
      clear hp hs
      go_wp2_with fail
      go_roundw
      case rel => exact ⟨k + 1, 2 * p, by omega, Hs.out, by rw [Int.natCast_mul]; go_num, by go_num, trivial⟩
      case measure => simp [intOf]; omega
    · obtain rfl : k = u := by omega
      have Hp := Lib.hid hp
      clear hp
      go_wp2_with fail
      go_ret
      exact ⟨by rw [← Hp.out]; rfl, rfl⟩

def okE (E B : Int) : Bool := decide (1 ≤ E ∧ E ≤ 65536 ∧ 0 ≤ B ∧ B ≤ E)

set_option maxHeartbeats 8000000 in
theorem right28_yes (u X Y : Nat) (E B : Int) (w : World) (hu : u ≤ 30) (hX : X < 2 ^ u) (hY : Y < 2 ^ u) (hE : okE E B = true) :
    Calls Try.prog 12 #[.agg #[.int .i64 (u : Int), .int .i64 (X : Int), .int .i64 (Y : Int), .int .i64 B], .int .i64 E] w fun e w' => e = .returned (.bool true) ∧ Below w.heap.size w w' := by
  unfold okE at hE
  obtain ⟨h1, h2, h3, h4⟩ := of_decide_eq_true hE
  obtain ⟨p, hp⟩ : ∃ p, p = 2 ^ u := ⟨_, rfl⟩
  have hw := shl1w u p hu hp
  rw [← hp] at hX hY
  clear hE hp
  have d1 : decide (E < 1) = false := decide_eq_false (by omega)
  have d2 : decide (65536 < E) = false := decide_eq_false (by omega)
  have d3 : decide ((u : Int) < 0) = false := decide_eq_false (by omega)
  have d4 : decide ((30 : Int) < (u : Int)) = false := decide_eq_false (by omega)
  have d4' : decide (30 < u) = false := decide_eq_false (by omega)
  have d5 : decide (B < 0) = false := decide_eq_false (by omega)
  have d6 : decide (E < B) = false := decide_eq_false (by omega)
  have d7 : decide ((0 : Int) ≤ (X : Int)) = true := decide_eq_true (by omega)
  have d8 : decide ((0 : Int) ≤ (Y : Int)) = true := decide_eq_true (by omega)
  have d9 : decide ((X : Int) < (p : Int)) = true := decide_eq_true (by omega)
  have d10 : decide ((Y : Int) < (p : Int)) = true := decide_eq_true (by omega)
  have d11 : decide (X < p) = true := decide_eq_true hX
  have d12 : decide (Y < p) = true := decide_eq_true hY
  go_enter Try.func12, Try.ntmps12
  go_wp2_with fail
  go_ret
  exact ⟨rfl, (Below.refl _ _).alloc (Nat.le_refl _) _⟩

theorem scale_le {x m : Int} (h0 : -1048576 ≤ x) (h1 : x ≤ 1048576) (m0 : 0 ≤ m) (m1 : m ≤ 16384) : -17179869184 ≤ x * m ∧ x * m ≤ 17179869184 := by
  have a := Int.mul_le_mul_of_nonneg_right h1 m0
  have b := Int.mul_le_mul_of_nonneg_right h0 m0
  constructor <;> omega
theorem part_le {X E : Int} (h0 : 0 ≤ X) (h1 : X ≤ 16384) (e0 : 0 ≤ E) (e1 : E ≤ 65536) : 0 ≤ X * E ∧ X * E ≤ 1073741824 := by
  have a := Int.mul_le_mul_of_nonneg_right h1 e0
  have b := Int.mul_nonneg h0 e0
  constructor <;> omega
/-- A coordinate in the tile below. -/
def sc1 (m X E c : Int) : Int := c * m - X * E

set_option maxHeartbeats 8000000 in
theorem scale_any (u X Y : Nat) (E B x y : Int) (w : World) (hu : u ≤ 14) (hX : X < 2 ^ u) (hY : Y < 2 ^ u) (hE : okE E B = true) (hx : -1048576 ≤ x ∧ x ≤ 1048576) (hy : -1048576 ≤ y ∧ y ≤ 1048576) :
    Calls Try.prog 11 #[.agg #[.int .i64 x, .int .i64 y], .agg #[.int .i64 (u : Int), .int .i64 (X : Int), .int .i64 (Y : Int), .int .i64 B], .int .i64 E] w fun e w' => e = .returned (.agg #[.int .i64 (sc1 ((2 ^ u : Nat) : Int) X E x), .int .i64 (sc1 ((2 ^ u : Nat) : Int) Y E y)]) ∧ Below w.heap.size w w' := by
  have HR := Lib.hid fun W => right28_yes u X Y E B W (by omega) hX hY hE
  have hE2 := hE
  unfold okE at hE2
  obtain ⟨h1, h2, h3, h4⟩ := of_decide_eq_true hE2
  have hm : 2 ^ u ≤ 16384 := Nat.pow_le_pow_right (n := 2) (by decide) hu
  obtain ⟨p, hp⟩ : ∃ p, p = 2 ^ u := ⟨_, rfl⟩
  have hpi : ((2 : Int) ^ u) = (p : Int) := by rw [hp, Int.natCast_pow]; rfl
  rw [← hp] at hX hY hm ⊢
  have a1 := scale_le hx.1 hx.2 (by omega : (0 : Int) ≤ (p : Int)) (by omega)
  have a2 := scale_le hy.1 hy.2 (by omega : (0 : Int) ≤ (p : Int)) (by omega)
  have a3 := part_le (by omega : (0 : Int) ≤ (X : Int)) (by omega) (by omega : 0 ≤ E) h2
  have a4 := part_le (by omega : (0 : Int) ≤ (Y : Int)) (by omega) (by omega : 0 ≤ E) h2
  obtain ⟨R, hR⟩ : ∃ R, R = sc1 (p : Int) X E x := ⟨_, rfl⟩
  obtain ⟨S, hS⟩ : ∃ S, S = sc1 (p : Int) Y E y := ⟨_, rfl⟩
  rw [← hR, ← hS]
  unfold sc1 at hR hS
  have w1 : wrap64 (x * (2 : Int) ^ u) = x * (p : Int) := by rw [hpi]; exact IntWalk.wrap64_in _ ⟨by omega, by omega⟩
  have w2 : wrap64 (y * (2 : Int) ^ u) = y * (p : Int) := by rw [hpi]; exact IntWalk.wrap64_in _ ⟨by omega, by omega⟩
  have w3 : wrap64 ((X : Int) * E) = (X : Int) * E := IntWalk.wrap64_in _ ⟨by omega, by omega⟩
  have w4 : wrap64 ((Y : Int) * E) = (Y : Int) * E := IntWalk.wrap64_in _ ⟨by omega, by omega⟩
  have w5 : wrap64 (x * (p : Int) - (X : Int) * E) = R := by rw [hR]; exact IntWalk.wrap64_in _ ⟨by omega, by omega⟩
  have w6 : wrap64 (y * (p : Int) - (Y : Int) * E) = S := by rw [hS]; exact IntWalk.wrap64_in _ ⟨by omega, by omega⟩
  have u0 : (0 : Int) ≤ (u : Int) := by omega
  clear hR hS a1 a2 a3 a4 hpi hp hX hY hm hx hy hE hE2 h1 h2 h3 h4
  obtain ⟨X0, hX0⟩ : ∃ X0, X0 = ((w.alloc (.cells #[.int .i64 x, .int .i64 y] 41)).alloc (.cells #[.int .i64 (u : Int), .int .i64 (X : Int), .int .i64 (Y : Int), .int .i64 B] 25)).alloc (.cells #[.int .i64 0, .int .i64 0] 41) := ⟨_, rfl⟩
  obtain ⟨b, hb⟩ : ∃ b, b = w.heap.size := ⟨_, rfl⟩
  have hP : Whole X0 b 41 #[.int .i64 x, .int .i64 y] := by rw [hX0, hb]; exact ((Whole.new w _ _).alloc _).alloc _
  have hZ : Whole X0 (b + 1) 25 #[.int .i64 (u : Int), .int .i64 (X : Int), .int .i64 (Y : Int), .int .i64 B] := by
    rw [hX0, hb]
    have := (Whole.new (w.alloc (.cells #[.int .i64 x, .int .i64 y] 41)) 25 #[.int .i64 (u : Int), .int .i64 (X : Int), .int .i64 (Y : Int), .int .i64 B]).alloc (.cells #[.int .i64 0, .int .i64 0] 41)
    simpa using this
  have hO : Whole X0 (b + 2) 41 #[.int .i64 0, .int .i64 0] := by
    rw [hX0, hb]
    have := Whole.new ((w.alloc (.cells #[.int .i64 x, .int .i64 y] 41)).alloc (.cells #[.int .i64 (u : Int), .int .i64 (X : Int), .int .i64 (Y : Int), .int .i64 B] 25)) 41 #[.int .i64 0, .int .i64 0]
    simpa using this
  have hB : Below w.heap.size w X0 := by
    rw [hX0]
    have h1 := (Below.refl w.heap.size w).alloc (Nat.le_refl _) (.cells #[.int .i64 x, .int .i64 y] 41)
    have h2 := h1.alloc h1.size (.cells #[.int .i64 (u : Int), .int .i64 (X : Int), .int .i64 (Y : Int), .int .i64 B] 25)
    exact h2.alloc h2.size _
  have HX0 := Lib.hid hX0
  have HP := Lib.hid hP
  have HZ := Lib.hid hZ
  have HO := Lib.hid hO
  have HB := Lib.hid hB
  have Hb := Lib.hid hb
  clear hX0 hP hZ hO hB hb
  go_enter Try.func11, Try.ntmps11
  go_wp2_with fail
  rw [← HX0.out, ← Hb.out]
  refine (HR.out _).mono ?_
  rintro e W ⟨rfl, hW⟩
  have hP := HP.out.below hW HP.out.lt
  have hZ := HZ.out.below hW HZ.out.lt
  have HO := Lib.hid (HO.out.below hW HO.out.lt)
  have HB := Lib.hid (keepBelow hW HB.out)
  have c0 : W.cell? ⟨b, 0, none⟩ = some (.int .i64 x) := hP.cell 0
  have c1 : W.cell? ⟨b, 1, none⟩ = some (.int .i64 y) := hP.cell 1
  have c2 : W.cell? ⟨b + 1, 0, none⟩ = some (.int .i64 (u : Int)) := hZ.cell 0
  have c3 : W.cell? ⟨b + 1, 1, none⟩ = some (.int .i64 (X : Int)) := hZ.cell 1
  have c4 : W.cell? ⟨b + 1, 2, none⟩ = some (.int .i64 (Y : Int)) := hZ.cell 2
  have e0 : W.cell? ⟨b + 2, 0, none⟩ = some (.int .i64 0) := HO.out.cell 0
  have e1 : W.cell? ⟨b + 2, 1, none⟩ = some (.int .i64 0) := HO.out.cell 1
  have f0 : W.frozen? ⟨b + 2, 0, none⟩ = false := HO.out.frozen 0
  have f1 : W.frozen? ⟨b + 2, 1, none⟩ = false := HO.out.frozen 1
  clear hW HR hP hZ HX0 HP HZ
  go_wp2_with fail
  go_region
  go_wp2_with fail
  have hV : Whole (((W.setCell ⟨b + 1 + 1, 0, none⟩ (.int .i64 R)).setCell ⟨b + 1 + 1, 1, none⟩ (.int .i64 S)).drew) (b + 1 + 1) 41 #[.int .i64 R, .int .i64 S] := ((HO.out.set 0 _).set 1 _).drew
  have hBV : Below w.heap.size w (((W.setCell ⟨b + 1 + 1, 0, none⟩ (.int .i64 R)).setCell ⟨b + 1 + 1, 1, none⟩ (.int .i64 S)).drew) := by
    have h1 := HB.out.setCell (p := ⟨b + 1 + 1, 0, none⟩) (by have := Hb.out; show _ ≤ b + 1 + 1; omega) (.int .i64 R)
    have h2 := h1.setCell (p := ⟨b + 1 + 1, 1, none⟩) (by have := Hb.out; show _ ≤ b + 1 + 1; omega) (.int .i64 S)
    exact ⟨h2.os, h2.tape, h2.output, h2.size, h2.block⟩
  generalize (((W.setCell ⟨b + 1 + 1, 0, none⟩ (.int .i64 R)).setCell ⟨b + 1 + 1, 1, none⟩ (.int .i64 S)).drew) = V2 at *
  exact bodyPost_ret (results_cell_row rfl _ _ (b + 1 + 1) 41 _ (0, 0) _ rfl hV Try.underlying41 rfl (by kernel_rfl)) rfl ⟨rfl, hBV⟩

theorem live28_any (w : World) : Calls Try.prog 6 #[] w fun e w' => e = .returned (.bool true) ∧ Below w.heap.size w w' := by
  have HS := Lib.hid fun W => scale_any 1 1 0 4 0 3 5 W (by decide) (by decide) (by decide) (by decide) (by decide) (by decide)
  go_enter Try.func6, Try.ntmps6
  go_wp2_with fail
  refine (HS.out _).mono ?_
  rintro e W ⟨rfl, hW⟩
  have HW := Lib.hid hW
  clear hW HS
  go_wp2_with fail
  go_ret
  exact ⟨rfl, HW.out⟩

set_option maxHeartbeats 16000000 in
theorem refRight_any (u X Y : Nat) (E B : Int) (w : World) (hu : u ≤ 30) (hX : X < 2 ^ u) (hY : Y < 2 ^ u) :
    Calls Try.prog 4 #[.agg #[.int .i64 (u : Int), .int .i64 (X : Int), .int .i64 (Y : Int), .int .i64 B], .int .i64 E] w fun e w' => e = .returned (.bool (okE E B)) ∧ Below w.heap.size w w' := by
  obtain ⟨R, hR⟩ : ∃ R, R = okE E B := ⟨_, rfl⟩
  rw [← hR]
  have HR := Lib.hid hR
  clear hR
  by_cases h1 : E < 1
  · have d1 : decide (E < 1) = true := decide_eq_true h1
    obtain rfl : R = false := by rw [HR.out]; exact decide_eq_false (by omega)
    clear HR
    go_enter Try.func4, Try.ntmps4
    go_wp2_with fail
    go_ret
    exact ⟨rfl, (Below.refl _ _).alloc (Nat.le_refl _) _⟩
  · by_cases h2 : 65536 < E
    · have d1 : decide (E < 1) = false := decide_eq_false h1
      have d2 : decide (65536 < E) = true := decide_eq_true h2
      obtain rfl : R = false := by rw [HR.out]; exact decide_eq_false (by omega)
      clear HR
      go_enter Try.func4, Try.ntmps4
      go_wp2_with fail
      go_ret
      exact ⟨rfl, (Below.refl _ _).alloc (Nat.le_refl _) _⟩
    · have HPw := Lib.hid fun W => power_any u hu W
      have d1 : decide (E < 1) = false := decide_eq_false h1
      have d2 : decide (65536 < E) = false := decide_eq_false h2
      have d3 : decide ((u : Int) < 0) = false := decide_eq_false (by omega)
      have d4 : decide ((30 : Int) < (u : Int)) = false := decide_eq_false (by omega)
      have d4' : decide (30 < u) = false := decide_eq_false (by omega)
      have d5 : decide ((X : Int) < 0) = false := decide_eq_false (by omega)
      have d6 : decide ((Y : Int) < 0) = false := decide_eq_false (by omega)
      obtain ⟨p, hp⟩ : ∃ p, p = 2 ^ u := ⟨_, rfl⟩
      rw [← hp] at hX hY HPw
      have d9 : decide ((X : Int) < (p : Int)) = true := decide_eq_true (by omega)
      have d10 : decide ((Y : Int) < (p : Int)) = true := decide_eq_true (by omega)
      have d11 : decide (X < p) = true := decide_eq_true hX
      have d12 : decide (Y < p) = true := decide_eq_true hY
      clear hp hX hY
      obtain ⟨X0, hX0⟩ : ∃ X0, X0 = w.alloc (.cells #[.int .i64 (u : Int), .int .i64 (X : Int), .int .i64 (Y : Int), .int .i64 B] 25) := ⟨_, rfl⟩
      obtain ⟨b, hb⟩ : ∃ b, b = w.heap.size := ⟨_, rfl⟩
      have hZ : Whole X0 b 25 #[.int .i64 (u : Int), .int .i64 (X : Int), .int .i64 (Y : Int), .int .i64 B] := by rw [hX0, hb]; exact Whole.new w _ _
      have hB : Below w.heap.size w X0 := by rw [hX0]; exact (Below.refl _ _).alloc (Nat.le_refl _) _
      have z0 : X0.cell? ⟨b, 0, none⟩ = some (.int .i64 (u : Int)) := hZ.cell 0
      have z1 : X0.cell? ⟨b, 1, none⟩ = some (.int .i64 (X : Int)) := hZ.cell 1
      have z2 : X0.cell? ⟨b, 2, none⟩ = some (.int .i64 (Y : Int)) := hZ.cell 2
      have z3 : X0.cell? ⟨b, 3, none⟩ = some (.int .i64 B) := hZ.cell 3
      have HX0 := Lib.hid hX0
      have Hb := Lib.hid hb
      have HB := Lib.hid hB
      clear hX0 hb hB hZ
      by_cases h3 : 0 ≤ B
      · have d7 : decide (0 ≤ B) = true := decide_eq_true h3
        obtain ⟨t, ht⟩ : ∃ t, t = decide (B ≤ E) := ⟨_, rfl⟩
        obtain rfl : R = t := by rw [HR.out, ht]; unfold okE; by_cases h : B ≤ E; rw [decide_eq_true h]; exact decide_eq_true ⟨by omega, by omega, h3, h⟩; rw [decide_eq_false h]; exact decide_eq_false (by omega)
        have Ht := Lib.hid ht
        clear HR h1 h2 h3 ht
        go_enter Try.func4, Try.ntmps4
        go_upto_region 3 with (fail)
        rw [← HX0.out, ← Hb.out]
        go_quiet ((go_at_call 9; exact Calls.quiet_of_same ((HPw.out _).mono fun _ _ h => ⟨h.1, h.2.symm⟩)))
        go_wp2_with fail
        go_ret
        exact ⟨by rw [Ht.out]; rfl, ⟨HB.out.os, HB.out.tape, HB.out.output, HB.out.size, HB.out.block⟩⟩
      · have d7 : decide (0 ≤ B) = false := decide_eq_false h3
        obtain rfl : R = false := by rw [HR.out]; exact decide_eq_false (by omega)
        clear HR h1 h2 h3
        go_enter Try.func4, Try.ntmps4
        go_upto_region 3 with (fail)
        rw [← HX0.out, ← Hb.out]
        go_quiet ((go_at_call 9; exact Calls.quiet_of_same ((HPw.out _).mono fun _ _ h => ⟨h.1, h.2.symm⟩)))
        go_wp2_with fail
        go_ret
        exact ⟨rfl, ⟨HB.out.os, HB.out.tape, HB.out.output, HB.out.size, HB.out.block⟩⟩
end Go.Proofs.Ytnajladngpphkaa
