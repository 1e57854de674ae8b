/- Walks over layer 11: Parent, the program's and the document's. -/
import Derived.Test.YtnghefakcocchaaHilbPlace
namespace Go.Proofs.Ytnghefakcocchaa
open Go.RowKit Hilb
set_option linter.unusedVariables false
attribute [local go_sem ↓] Go.wp_at_zero Go.wp_at_succ

theorem okp_nat {z x y : Int} (h : okp z x y) : ∃ Z X Y : Nat, z = Z ∧ x = X ∧ y = Y ∧ Z ≤ 30 ∧ X < 2 ^ Z ∧ Y < 2 ^ Z := by
  obtain ⟨h1, h2, h3, h4, h5, h6⟩ := h
  have e : (2 : Int) ^ z.toNat = ((2 ^ z.toNat : Nat) : Int) := by rw [Int.natCast_pow]; rfl
  rw [e] at h4 h6
  exact ⟨z.toNat, x.toNat, y.toNat, by omega, by omega, by omega, by omega, by omega, by omega⟩
theorem okp_mk {Z X Y : Nat} (h1 : Z ≤ 30) (h2 : X < 2 ^ Z) (h3 : Y < 2 ^ Z) : okp Z X Y := by
  have e : (2 : Int) ^ ((Z : Int)).toNat = ((2 ^ Z : Nat) : Int) := by rw [Int.natCast_pow]; rfl
  unfold okp
  rw [e]
  omega

theorem parent_yes (z x y d : Nat) (w : World) (hz : z ≤ 30) (hx : x < 2 ^ z) (hy : y < 2 ^ z) (hd : d ≤ z) :
    Calls Try.prog 14 #[.agg #[.int .i64 (z : Int), .int .i64 (x : Int), .int .i64 (y : Int)], .int .i64 (d : Int)] w
      fun e w' => e = .returned (.agg #[.int .i64 (z - d : Nat), .int .i64 (x / 2 ^ d : Nat), .int .i64 (y / 2 ^ d : Nat)]) ∧ Below w.heap.size w w' := by
  have hr := fun W => Lib.hid (right_yes z x y W hz hx hy)
  have hx30 := p2_30 z hz
  have h0 : (0 : Int) ≤ (d : Int) := by omega
  have h1 : ¬ (z < d) := by omega
  have Hr := Lib.hid hr; clear hr
  go_enter Try.func14, Try.ntmps14
  go_wp2_with fail
  refine ((Hr.out _).out).mono ?_
  rintro e w1 ⟨rfl, hb1⟩
  obtain ⟨hA, hB, hb, hlt⟩ := two_kept hb1
  clear hb1
  have a0 : w1.cell? ⟨w.heap.size, 0, none⟩ = some (.int .i64 (z : Int)) := hA.cell 0
  have a1 : w1.cell? ⟨w.heap.size, 1, none⟩ = some (.int .i64 (x : Int)) := hA.cell 1
  have a2 : w1.cell? ⟨w.heap.size, 2, none⟩ = some (.int .i64 (y : Int)) := hA.cell 2
  have b0 : w1.cell? ⟨w.heap.size + 1, 0, none⟩ = some (.int .i64 0) := hB.cell 0
  have b1 : w1.cell? ⟨w.heap.size + 1, 1, none⟩ = some (.int .i64 0) := hB.cell 1
  have b2 : w1.cell? ⟨w.heap.size + 1, 2, none⟩ = some (.int .i64 0) := hB.cell 2
  have f0 := hB.frozen 0
  have f1 := hB.frozen 1
  have f2 := hB.frozen 2
  go_wp2
  go_region_held3 (fun w' => w'.cell? ⟨w.heap.size, 0, none⟩ = some (.int .i64 (z : Int)) ∧ w'.cell? ⟨w.heap.size, 1, none⟩ = some (.int .i64 (x : Int)) ∧ w'.cell? ⟨w.heap.size, 2, none⟩ = some (.int .i64 (y : Int)))
    (go_keep)
    (fail)
  go_wp2
  have hW := ((hB.drew.set 0 (.int .i64 (IntKind.i64.wrap ((z : Int) - (d : Int))))).set 1 (.int .i64 ((x : Int) / 2 ^ d))).set 2 (.int .i64 ((y : Int) / 2 ^ d))
  refine bodyPost_ret (results_cell_row rfl _ _ (w.heap.size + 1) 23 _ (0, 0) _ rfl hW Try.underlying23 rfl (by kernel_rfl)) rfl ⟨?_, ((hb.drew.setCell (by simp) _).setCell (by simp) _).setCell (by simp) _⟩
  rw [IntWalk.i64_in _ ⟨by omega, by omega⟩]
  simp [Int.ofNat_sub hd]

theorem parent_no (z x y d : Int) (w : World) (h : ¬ okp z x y ∨ d < 0 ∨ z < d) :
    Calls Try.prog 14 #[.agg #[.int .i64 z, .int .i64 x, .int .i64 y], .int .i64 d] w
      fun e w' => e = .returned (.agg #[.int .i64 z, .int .i64 x, .int .i64 y]) ∧ Below w.heap.size w w' := by
  by_cases hk : okp z x y
  · obtain ⟨Z, X, Y, rfl, rfl, rfl, hZ, hX, hY⟩ := okp_nat hk
    have hr := fun W => Lib.hid (right_yes Z X Y W hZ hX hY)
    clear hk
    have Hr := Lib.hid hr; clear hr
    have h' : d < 0 ∨ (Z : Int) < d := by
      rcases h with h | h
      · exact absurd (okp_mk hZ hX hY) h
      · exact h
    clear h
    by_cases hd : d < 0
    · clear h'
      go_enter Try.func14, Try.ntmps14
      go_wp2_with fail
      refine ((Hr.out _).out).mono ?_
      rintro e w1 ⟨rfl, hb1⟩
      obtain ⟨hA, hB, hb, hlt⟩ := two_kept hb1
      clear hb1
      have a0 : w1.cell? ⟨w.heap.size, 0, none⟩ = some (.int .i64 (Z : Int)) := hA.cell 0
      have a1 : w1.cell? ⟨w.heap.size, 1, none⟩ = some (.int .i64 (X : Int)) := hA.cell 1
      have a2 : w1.cell? ⟨w.heap.size, 2, none⟩ = some (.int .i64 (Y : Int)) := hA.cell 2
      have b0 : w1.cell? ⟨w.heap.size + 1, 0, none⟩ = some (.int .i64 0) := hB.cell 0
      have b1 : w1.cell? ⟨w.heap.size + 1, 1, none⟩ = some (.int .i64 0) := hB.cell 1
      have b2 : w1.cell? ⟨w.heap.size + 1, 2, none⟩ = some (.int .i64 0) := hB.cell 2
      have f0 := hB.frozen 0
      have f1 := hB.frozen 1
      have f2 := hB.frozen 2
      go_wp2
      have hW := ((hB.set 0 (.int .i64 (Z : Int))).set 1 (.int .i64 (X : Int))).set 2 (.int .i64 (Y : Int))
      exact bodyPost_ret (results_cell_row rfl _ _ (w.heap.size + 1) 23 _ (0, 0) _ rfl hW Try.underlying23 rfl (by kernel_rfl)) rfl ⟨rfl, ((hb.setCell (by simp) _).setCell (by simp) _).setCell (by simp) _⟩
    · have hd0 : 0 ≤ d := by omega
      have hd1 : (Z : Int) < d := by omega
      clear h'
      go_enter Try.func14, Try.ntmps14
      go_wp2_with fail
      refine ((Hr.out _).out).mono ?_
      rintro e w1 ⟨rfl, hb1⟩
      obtain ⟨hA, hB, hb, hlt⟩ := two_kept hb1
      clear hb1
      have a0 : w1.cell? ⟨w.heap.size, 0, none⟩ = some (.int .i64 (Z : Int)) := hA.cell 0
      have a1 : w1.cell? ⟨w.heap.size, 1, none⟩ = some (.int .i64 (X : Int)) := hA.cell 1
      have a2 : w1.cell? ⟨w.heap.size, 2, none⟩ = some (.int .i64 (Y : Int)) := hA.cell 2
      have b0 : w1.cell? ⟨w.heap.size + 1, 0, none⟩ = some (.int .i64 0) := hB.cell 0
      have b1 : w1.cell? ⟨w.heap.size + 1, 1, none⟩ = some (.int .i64 0) := hB.cell 1
      have b2 : w1.cell? ⟨w.heap.size + 1, 2, none⟩ = some (.int .i64 0) := hB.cell 2
      have f0 := hB.frozen 0
      have f1 := hB.frozen 1
      have f2 := hB.frozen 2
      go_wp2
      have hW := ((hB.set 0 (.int .i64 (Z : Int))).set 1 (.int .i64 (X : Int))).set 2 (.int .i64 (Y : Int))
      exact bodyPost_ret (results_cell_row rfl _ _ (w.heap.size + 1) 23 _ (0, 0) _ rfl hW Try.underlying23 rfl (by kernel_rfl)) rfl ⟨rfl, ((hb.setCell (by simp) _).setCell (by simp) _).setCell (by simp) _⟩
  · have hr := fun W => Lib.hid (right_no z x y W hk)
    have Hr := Lib.hid hr; clear hr h hk
    go_enter Try.func14, Try.ntmps14
    go_wp2_with fail
    refine ((Hr.out _).out).mono ?_
    rintro e w1 ⟨rfl, hb1⟩
    obtain ⟨hA, hB, hb, hlt⟩ := two_kept hb1
    clear hb1
    have a0 : w1.cell? ⟨w.heap.size, 0, none⟩ = some (.int .i64 z) := hA.cell 0
    have a1 : w1.cell? ⟨w.heap.size, 1, none⟩ = some (.int .i64 x) := hA.cell 1
    have a2 : w1.cell? ⟨w.heap.size, 2, none⟩ = some (.int .i64 y) := hA.cell 2
    have b0 : w1.cell? ⟨w.heap.size + 1, 0, none⟩ = some (.int .i64 0) := hB.cell 0
    have b1 : w1.cell? ⟨w.heap.size + 1, 1, none⟩ = some (.int .i64 0) := hB.cell 1
    have b2 : w1.cell? ⟨w.heap.size + 1, 2, none⟩ = some (.int .i64 0) := hB.cell 2
    have f0 := hB.frozen 0
    have f1 := hB.frozen 1
    have f2 := hB.frozen 2
    go_wp2
    have hW := ((hB.set 0 (.int .i64 z)).set 1 (.int .i64 x)).set 2 (.int .i64 y)
    exact bodyPost_ret (results_cell_row rfl _ _ (w.heap.size + 1) 23 _ (0, 0) _ rfl hW Try.underlying23 rfl (by kernel_rfl)) rfl ⟨rfl, ((hb.setCell (by simp) _).setCell (by simp) _).setCell (by simp) _⟩

theorem rparent_no (z x y d : Int) (w : World) (h : ¬ okp z x y ∨ d < 0 ∨ z < d) :
    Calls Try.prog 15 #[.agg #[.int .i64 z, .int .i64 x, .int .i64 y], .int .i64 d] w
      fun e w' => e = .returned (.agg #[.int .i64 z, .int .i64 x, .int .i64 y]) ∧ Below w.heap.size w w' := by
  by_cases hk : okp z x y
  · obtain ⟨Z, X, Y, rfl, rfl, rfl, hZ, hX, hY⟩ := okp_nat hk
    have hr := fun W => Lib.hid (rright_yes Z X Y W hZ hX hY)
    clear hk
    have Hr := Lib.hid hr; clear hr
    have h' : d < 0 ∨ (Z : Int) < d := by
      rcases h with h | h
      · exact absurd (okp_mk hZ hX hY) h
      · exact h
    clear h
    by_cases hd : d < 0
    · clear h'
      go_enter Try.func15, Try.ntmps15
      go_wp2_with fail
      refine ((Hr.out _).out).mono ?_
      rintro e w1 ⟨rfl, hb1⟩
      obtain ⟨hA, hB, hb, hlt⟩ := two_kept hb1
      clear hb1
      have a0 : w1.cell? ⟨w.heap.size, 0, none⟩ = some (.int .i64 (Z : Int)) := hA.cell 0
      have a1 : w1.cell? ⟨w.heap.size, 1, none⟩ = some (.int .i64 (X : Int)) := hA.cell 1
      have a2 : w1.cell? ⟨w.heap.size, 2, none⟩ = some (.int .i64 (Y : Int)) := hA.cell 2
      have b0 : w1.cell? ⟨w.heap.size + 1, 0, none⟩ = some (.int .i64 0) := hB.cell 0
      have b1 : w1.cell? ⟨w.heap.size + 1, 1, none⟩ = some (.int .i64 0) := hB.cell 1
      have b2 : w1.cell? ⟨w.heap.size + 1, 2, none⟩ = some (.int .i64 0) := hB.cell 2
      have f0 := hB.frozen 0
      have f1 := hB.frozen 1
      have f2 := hB.frozen 2
      go_wp2
      have hW := ((hB.set 0 (.int .i64 (Z : Int))).set 1 (.int .i64 (X : Int))).set 2 (.int .i64 (Y : Int))
      exact bodyPost_ret (results_cell_row rfl _ _ (w.heap.size + 1) 23 _ (0, 0) _ rfl hW Try.underlying23 rfl (by kernel_rfl)) rfl ⟨rfl, ((hb.setCell (by simp) _).setCell (by simp) _).setCell (by simp) _⟩
    · have hd0 : 0 ≤ d := by omega
      have hd1 : (Z : Int) < d := by omega
      clear h'
      go_enter Try.func15, Try.ntmps15
      go_wp2_with fail
      refine ((Hr.out _).out).mono ?_
      rintro e w1 ⟨rfl, hb1⟩
      obtain ⟨hA, hB, hb, hlt⟩ := two_kept hb1
      clear hb1
      have a0 : w1.cell? ⟨w.heap.size, 0, none⟩ = some (.int .i64 (Z : Int)) := hA.cell 0
      have a1 : w1.cell? ⟨w.heap.size, 1, none⟩ = some (.int .i64 (X : Int)) := hA.cell 1
      have a2 : w1.cell? ⟨w.heap.size, 2, none⟩ = some (.int .i64 (Y : Int)) := hA.cell 2
      have b0 : w1.cell? ⟨w.heap.size + 1, 0, none⟩ = some (.int .i64 0) := hB.cell 0
      have b1 : w1.cell? ⟨w.heap.size + 1, 1, none⟩ = some (.int .i64 0) := hB.cell 1
      have b2 : w1.cell? ⟨w.heap.size + 1, 2, none⟩ = some (.int .i64 0) := hB.cell 2
      have f0 := hB.frozen 0
      have f1 := hB.frozen 1
      have f2 := hB.frozen 2
      go_wp2
      have hW := ((hB.set 0 (.int .i64 (Z : Int))).set 1 (.int .i64 (X : Int))).set 2 (.int .i64 (Y : Int))
      exact bodyPost_ret (results_cell_row rfl _ _ (w.heap.size + 1) 23 _ (0, 0) _ rfl hW Try.underlying23 rfl (by kernel_rfl)) rfl ⟨rfl, ((hb.setCell (by simp) _).setCell (by simp) _).setCell (by simp) _⟩
  · have hr := fun W => Lib.hid (rright_no z x y W hk)
    have Hr := Lib.hid hr; clear hr h hk
    go_enter Try.func15, Try.ntmps15
    go_wp2_with fail
    refine ((Hr.out _).out).mono ?_
    rintro e w1 ⟨rfl, hb1⟩
    obtain ⟨hA, hB, hb, hlt⟩ := two_kept hb1
    clear hb1
    have a0 : w1.cell? ⟨w.heap.size, 0, none⟩ = some (.int .i64 z) := hA.cell 0
    have a1 : w1.cell? ⟨w.heap.size, 1, none⟩ = some (.int .i64 x) := hA.cell 1
    have a2 : w1.cell? ⟨w.heap.size, 2, none⟩ = some (.int .i64 y) := hA.cell 2
    have b0 : w1.cell? ⟨w.heap.size + 1, 0, none⟩ = some (.int .i64 0) := hB.cell 0
    have b1 : w1.cell? ⟨w.heap.size + 1, 1, none⟩ = some (.int .i64 0) := hB.cell 1
    have b2 : w1.cell? ⟨w.heap.size + 1, 2, none⟩ = some (.int .i64 0) := hB.cell 2
    have f0 := hB.frozen 0
    have f1 := hB.frozen 1
    have f2 := hB.frozen 2
    go_wp2
    have hW := ((hB.set 0 (.int .i64 z)).set 1 (.int .i64 x)).set 2 (.int .i64 y)
    exact bodyPost_ret (results_cell_row rfl _ _ (w.heap.size + 1) 23 _ (0, 0) _ rfl hW Try.underlying23 rfl (by kernel_rfl)) rfl ⟨rfl, ((hb.setCell (by simp) _).setCell (by simp) _).setCell (by simp) _⟩

set_option maxHeartbeats 400000 in
theorem rparent_yes (z x y d : Nat) (w : World) (hz : z ≤ 30) (hx : x < 2 ^ z) (hy : y < 2 ^ z) (hd : d ≤ z) :
    Calls Try.prog 15 #[.agg #[.int .i64 (z : Int), .int .i64 (x : Int), .int .i64 (y : Int)], .int .i64 (d : Int)] w
      fun e w' => e = .returned (.agg #[.int .i64 (z - d : Nat), .int .i64 (x / 2 ^ d : Nat), .int .i64 (y / 2 ^ d : Nat)]) ∧ Below w.heap.size w w' := by
  have hr := fun W => Lib.hid (rright_yes z x y W hz hx hy)
  have hx30 := p2_30 z hz
  have hX : x < 1073741824 := by omega
  have hY : y < 1073741824 := by omega
  have h0 : (0 : Int) ≤ (d : Int) := by omega
  have h1 : ¬ (z < d) := by omega
  have Hr := Lib.hid hr; clear hr hx hy hx30
  go_enter Try.func15, Try.ntmps15
  go_wp2_with fail
  refine ((Hr.out _).out).mono ?_
  rintro e w1 ⟨rfl, hb1⟩
  obtain ⟨hA, hB, hb, hlt⟩ := two_kept hb1
  clear hb1
  have a0 : w1.cell? ⟨w.heap.size, 0, none⟩ = some (.int .i64 (z : Int)) := hA.cell 0
  have a1 : w1.cell? ⟨w.heap.size, 1, none⟩ = some (.int .i64 (x : Int)) := hA.cell 1
  have a2 : w1.cell? ⟨w.heap.size, 2, none⟩ = some (.int .i64 (y : Int)) := hA.cell 2
  have b0 : w1.cell? ⟨w.heap.size + 1, 0, none⟩ = some (.int .i64 0) := hB.cell 0
  have b1 : w1.cell? ⟨w.heap.size + 1, 1, none⟩ = some (.int .i64 0) := hB.cell 1
  have b2 : w1.cell? ⟨w.heap.size + 1, 2, none⟩ = some (.int .i64 0) := hB.cell 2
  have f0 := hB.frozen 0
  have f1 := hB.frozen 1
  have f2 := hB.frozen 2
  go_wp2
  clear a0 a1 a2 b0 b1 b2 f0 f1 f2
  go_loopw [5] (fun i W => ∃ k : Nat, k ≤ d ∧ i = .int .i64 k ∧ Whole W w.heap.size 23 #[.int .i64 (z - k : Nat), .int .i64 (x / 2 ^ k : Nat), .int .i64 (y / 2 ^ k : Nat)] ∧
      Whole W (w.heap.size + 1) 23 #[.int .i64 0, .int .i64 0, .int .i64 0] ∧ Below w.heap.size w W) (fun i _ => d - (intOf i).toNat)
  case atStart => exact ⟨0, by omega, rfl, by simpa using hA, hB, hb⟩
  case round =>
    obtain ⟨k, hk, rfl, hA, hB, hb⟩ := hrel
    have hX2 : x / 2 ^ k ≤ x := Nat.div_le_self _ _
    have hY2 : y / 2 ^ k ≤ y := Nat.div_le_self _ _
    have hXs : Hid (x / 2 ^ (k + 1) = x / 2 ^ k / 2) := by unfold Hid; rw [Nat.pow_succ, Nat.div_div_eq_div_mul]
    have hYs : Hid (y / 2 ^ (k + 1) = y / 2 ^ k / 2) := by unfold Hid; rw [Nat.pow_succ, Nat.div_div_eq_div_mul]
    generalize hu : x / 2 ^ k = u at *
    generalize hv : y / 2 ^ k = v at *
    have Hu := Lib.hid hu; have Hv := Lib.hid hv; clear hu hv
    obtain ⟨zk, hzk⟩ : ∃ zk, zk = z - k := ⟨_, rfl⟩
    rw [← hzk] at hA
    have hzk1 : zk ≤ 30 := by omega
    have hzk2 : z - (k + 1) = zk - 1 := by omega
    have hzk3 : k < d → 1 ≤ zk := by omega
    have Hz2 := Lib.hid hzk2; have Hz3 := Lib.hid hzk3; have Hzk := Lib.hid hzk
    clear hzk hzk2 hzk3
    have a0 : wr.cell? ⟨w.heap.size, 0, none⟩ = some (.int .i64 (zk : Int)) := hA.cell 0
    have a1 : wr.cell? ⟨w.heap.size, 1, none⟩ = some (.int .i64 (u : Int)) := hA.cell 1
    have a2 : wr.cell? ⟨w.heap.size, 2, none⟩ = some (.int .i64 (v : Int)) := hA.cell 2
    have b0 : wr.cell? ⟨w.heap.size + 1, 0, none⟩ = some (.int .i64 0) := hB.cell 0
    have b1 : wr.cell? ⟨w.heap.size + 1, 1, none⟩ = some (.int .i64 0) := hB.cell 1
    have b2 : wr.cell? ⟨w.heap.size + 1, 2, none⟩ = some (.int .i64 0) := hB.cell 2
    have f0 := hB.frozen 0
    have f1 := hB.frozen 1
    have f2 := hB.frozen 2
    have e0 := hA.frozen 0
    have e1 := hA.frozen 1
    have e2 := hA.frozen 2
    by_cases hlt : k < d
    · have hz1 := Hz3.out hlt
      have hz1' : (1 : Int) ≤ (zk : Int) := by omega
      go_wp2
      go_roundw
      case rel =>
        refine ⟨k + 1, by omega, by go_num, ?_, (((hB.far (by simp) _).far (by simp) _).far (by simp) _), ((hb.setCell (by simp) _).setCell (by simp) _).setCell (by simp) _⟩
        have hW := ((hA.set 0 (.int .i64 ((zk : Int) - 1))).set 1 (.int .i64 ((u : Int) / 2))).set 2 (.int .i64 ((v : Int) / 2))
        rw [hXs.out, hYs.out, Hz2.out, Int.ofNat_sub hz1]
        exact hW
      case measure => simp [intOf]; omega
    · obtain rfl : k = d := by omega
      go_wp2
      have hW := ((hB.set 0 (.int .i64 (zk : Int))).set 1 (.int .i64 (u : Int))).set 2 (.int .i64 (v : Int))
      refine bodyPost_ret (results_cell_row rfl _ _ (w.heap.size + 1) 23 _ (0, 0) _ rfl hW Try.underlying23 rfl (by kernel_rfl)) rfl ⟨?_, ((hb.setCell (by simp) _).setCell (by simp) _).setCell (by simp) _⟩
      rw [Hu.out, Hv.out, ← Hzk.out]
      rfl
end Go.Proofs.Ytnghefakcocchaa
