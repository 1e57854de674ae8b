/- Walks over layer 11: Of. -/
import Derived.Test.YtnghefakcocchaaHilbID
namespace Go.Proofs.Ytnghefakcocchaa
open Go.RowKit Hilb
set_option linter.unusedVariables false

theorem quarter_any (k : Nat) (w : World) (hk : k < 4) :
    Calls Try.prog 21 #[.int .i64 (k : Int)] w fun e w' => e = .returned (.tuple #[.int .i64 (qa k : Nat), .int .i64 (qb k : Nat)]) ∧ w = w' := by
  have : k = 0 ∨ k = 1 ∨ k = 2 ∨ k = 3 := by omega
  rcases this with rfl | rfl | rfl | rfl
  all_goals
    go_enter Try.func21, Try.ntmps21
    go_wp2
    go_ret2
    exact ⟨ret_ints (by decide) (by decide), rfl⟩

theorem of_no (id : Nat) (w : World) (h : fst 31 ≤ id) (hi : id < 18446744073709551616) :
    Calls Try.prog 17 #[.int .u64 (id : Int)] w fun e w' => e = .returned (.tuple #[.agg #[.int .i64 0, .int .i64 0, .int .i64 0], .int .i64 8]) ∧ Below w.heap.size w w' := by
  have hf := fun W => Lib.hid (first_nat 31 W (by omega))
  have Hf := Lib.hid hf; clear hf
  generalize fst 31 = F at *
  go_enter Try.func17, Try.ntmps17
  go_wp2_with (go_at_call 12; (refine ((Hf.out _).out).mono ?_); rintro e w' ⟨rfl, rfl⟩)
  refine bodyPost_ret (v := .tuple #[.agg #[.int .i64 0, .int .i64 0, .int .i64 0], .int .i64 8]) (by simp [results, Try.results17, go_sem]) rfl ⟨rfl, (Below.refl _ _).alloc (Nat.le_refl _) _⟩

theorem first_at (z : Nat) (i : Int) (w : World) (hi : i = (z : Int)) (h0 : z ≤ 31) :
    Calls Try.prog 12 #[.int .i64 i] w fun e w' => e = .returned (.int .u64 (fst z : Nat)) ∧ w = w' := by
  subst hi
  exact first_nat z w h0

/-- Which zoom a number lies in. -/
theorem zoom_of (n id : Nat) (h : id < fst n) : ∃ z, z < n ∧ fst z ≤ id ∧ id < fst (z + 1) := by
  induction n with
  | zero => simp [fst] at h
  | succ n ih =>
    by_cases hn : id < fst n
    · obtain ⟨z, h1, h2⟩ := ih hn
      exact ⟨z, by omega, h2⟩
    · exact ⟨n, by omega, by omega, h⟩

theorem trnU_eq {s x y : Nat} (hx : x < s) (hy : y < s) (a b : Nat) : trnU s x y a b = trn s x y a b := by
  unfold trnU trn
  rw [Nat.mod_eq_of_lt hx, Nat.mod_eq_of_lt hy]

theorem turn_small (x y s a b : Nat) (w : World) (hx : x < s) (hy : y < s) (hs2 : s ≤ 1073741824) (ha : a < 2) (hb : b < 2) :
    Calls Try.prog 19 #[.int .i64 (x : Int), .int .i64 (y : Int), .int .i64 (s : Int), .int .i64 (a : Int), .int .i64 (b : Int)] w
      fun e w' => e = .returned (.tuple #[.int .i64 ((trn s x y a b).1 : Nat), .int .i64 ((trn s x y a b).2 : Nat)]) ∧ ∃ n, w' = w.drewN n := by
  rw [← trnU_eq hx hy]
  exact turn_any x y s a b w (by omega) (by omega) (by omega) hs2 ha hb

theorem mul_bit (s a : Nat) (ha : a < 2) (hs : s ≤ 1073741824) : s * a ≤ 1073741824 := by
  have : s * a ≤ s * 1 := Nat.mul_le_mul_left _ (by omega)
  omega

set_option maxHeartbeats 2000000 in
theorem of_yes (z d : Nat) (w : World) (hz : z ≤ 30) (hd : d < 4 ^ z) (id : Nat) (hid : id = fst z + d) :
    Calls Try.prog 17 #[.int .u64 (id : Int)] w fun e w' => e = .returned (.tuple #[.agg #[.int .i64 (z : Int), .int .i64 ((pln z d).1 : Nat), .int .i64 ((pln z d).2 : Nat)], .int .i64 0]) ∧ Below w.heap.size w w' := by
  have h62 : id < 4611686018427387904 := by
    have h2 : fst (z + 1) ≤ fst 31 := fst_mono (by omega)
    have h3 : fst 31 < 4611686018427387904 := by decide +kernel
    rw [fst_succ] at h2
    omega
  have hlt31 : id < fst 31 := by
    have h2 : fst (z + 1) ≤ fst 31 := fst_mono (by omega)
    rw [fst_succ] at h2
    omega
  have hf31 := fun W => Lib.hid (first_nat 31 W (by omega))
  have hfk := fun (k : Nat) (hk : k ≤ 31) (i : Int) (hi : i = (k : Int)) W => Lib.hid (first_at k i W hi hk)
  have hsucc := fst_succ z
  have Hid4 := Lib.hid hid
  have h62z := fst_le z (by omega)
  have hdz : d < 4611686018427387904 := by omega
  have Hf31 := Lib.hid hf31; have Hfk := Lib.hid hfk
  have Hsucc := Lib.hid hsucc; have Hd := Lib.hid hd
  clear hf31 hfk hsucc hid hd
  generalize hF : fst 31 = F at *
  have hnF : ¬ F ≤ id := by omega
  have HF := Lib.hid hF; clear hF
  go_enter Try.func17, Try.ntmps17
  go_wp2_with (go_at_call 12; (refine ((Hf31.out _).out).mono ?_); rintro e w' ⟨rfl, rfl⟩)
  go_loop [4] (fun i => ∃ k : Nat, k ≤ z ∧ i = .int .i64 k) (fun i => z - (intOf i).toNat)
  case atStart => exact ⟨0, by omega, rfl⟩
  case round =>
    obtain ⟨k, hk, rfl⟩ := hrel
    by_cases hlt : k < z
    · have hge : fst (k + 1) ≤ id := by have := fst_mono (show k + 1 ≤ z by omega); have := Hid4.out; omega
      go_wp2_with (go_at_call 12; (refine ((Hfk.out (k + 1) (by omega) _ (by omega) _).out).mono ?_); rintro e w' ⟨rfl, rfl⟩)
      go_round
      case rel => exact ⟨k + 1, by omega, by go_num⟩
      case measure => simp [intOf]; omega
    · obtain rfl : k = z := by omega
      have hge : id < fst (k + 1) := by have := Hsucc.out; have := Hid4.out; have := Hd.out; omega
      have hsub : Hid (IntKind.u64.wrap ((id : Int) - (fst k : Nat)) = (d : Int)) := by
        unfold Hid
        rw [Hid4.out, show (((fst k + d : Nat) : Int) - (fst k : Nat)) = (d : Int) by omega]
        exact u64_wrap d (by omega)
      have hsub2 := hsub.out
      have hdi : IntKind.i64.wrap (d : Int) = (d : Int) := i64_small d (by omega)
      go_wp2_with (first
        | (go_at_call 12; (with_reducible refine ((Hfk.out k (by omega) _ rfl _).out).mono ?_); rintro e w' ⟨rfl, rfl⟩)
        | (go_at_call 12; (refine ((Hfk.out (k + 1) (by omega) _ (by omega) _).out).mono ?_); rintro e w' ⟨rfl, rfl⟩))
      clear hge hsub hsub2 h62z hlt31 h62 Hf31 HF Hfk hnF
      go_loopw [5, 6, 7, 29] (fun r u v i W => ∃ j m : Nat, j ≤ k ∧ r = .int .i64 (d / 4 ^ j : Nat) ∧ u = .int .i64 ((pln j d).1 : Nat) ∧ v = .int .i64 ((pln j d).2 : Nat) ∧ i = .int .i64 j ∧
        W = (w.alloc (.cells #[.int .i64 0, .int .i64 0, .int .i64 0] 23)).drewN m) (fun _ _ _ i _ => k - (intOf i).toNat)
      case atStart => exact ⟨0, 0, by omega, by simp, rfl, rfl, rfl, rfl⟩
      case round =>
        obtain ⟨j, m, hj, rfl, rfl, rfl, rfl, rfl⟩ := hrel
        by_cases hlt2 : j < k
        · have hl := pln_lt j d
          have hs1 := p2_30 j (by omega)
          have hq4 : d / 4 ^ j % 4 < 4 := Nat.mod_lt _ (by omega)
          have hdj : d / 4 ^ j ≤ d := Nat.div_le_self _ _
          have hnext : Hid (pln (j + 1) d = ((trn (2 ^ j) (pln j d).1 (pln j d).2 (qa (d / 4 ^ j % 4)) (qb (d / 4 ^ j % 4))).1 + 2 ^ j * qa (d / 4 ^ j % 4), (trn (2 ^ j) (pln j d).1 (pln j d).2 (qa (d / 4 ^ j % 4)) (qb (d / 4 ^ j % 4))).2 + 2 ^ j * qb (d / 4 ^ j % 4))) := rfl
          have hdn : Hid (d / 4 ^ (j + 1) = d / 4 ^ j / 4) := by unfold Hid; rw [Nat.pow_succ, Nat.div_div_eq_div_mul]
          have hrem : ((d / 4 ^ j : Nat) : Int) % 4 = ((d / 4 ^ j % 4 : Nat) : Int) := rfl
          have hqu := fun W => Lib.hid (quarter_any (d / 4 ^ j % 4) W hq4)
          have ha2 := qa_lt hq4
          have hb2 := qb_lt (d / 4 ^ j % 4)
          obtain ⟨s, hs⟩ : ∃ s, s = 2 ^ j := ⟨_, rfl⟩
          have Hsh := Lib.hid (shl1 j s (by omega) hs)
          rw [← hs] at hl hs1 hnext
          have htu := fun W => Lib.hid (turn_small (pln j d).1 (pln j d).2 s (qa (d / 4 ^ j % 4)) (qb (d / 4 ^ j % 4)) W hl.1 hl.2 hs1 ha2 hb2)
          have htl := trn_lt (s := s) (by omega) (pln j d).1 (pln j d).2 (qa (d / 4 ^ j % 4)) (qb (d / 4 ^ j % 4))
          generalize d / 4 ^ j = r at *
          generalize r % 4 = q at *
          generalize qa q = a at *
          generalize qb q = b at *
          generalize (pln j d).1 = x at *
          generalize (pln j d).2 = y at *
          generalize (trn s x y a b).1 = t1 at *
          generalize (trn s x y a b).2 = t2 at *
          have hma := mul_bit s a ha2 hs1
          have hmb := mul_bit s b hb2 hs1
          have hea : ((s : Int) * (a : Int)) = ((s * a : Nat) : Int) := by simp
          have heb : ((s : Int) * (b : Int)) = ((s * b : Nat) : Int) := by simp
          generalize s * a = sa at *
          generalize s * b = sb at *
          obtain ⟨ht1, ht2⟩ := htl
          have hr62 : (r : Int) ≤ 4611686018427387904 := by omega
          have Hqu := Lib.hid hqu; have Htu := Lib.hid htu
          clear hqu htu hs hl
          have hsh := Hsh.out
          have Hea := Lib.hid hea; have Heb := Lib.hid heb
          clear hea heb
          go_wp2_with fail
          clear hsh
          refine ((Hqu.out _).out).mono ?_
          rintro e w' ⟨rfl, rfl⟩
          have hea := Hea.out; have heb := Heb.out
          go_wp2_with (go_at_call 19; (refine ((Htu.out _).out).mono ?_); rintro e w' ⟨rfl, m2, rfl⟩)
          go_roundw
          case rel => exact ⟨j + 1, m + m2, by omega, by rw [hdn.out]; rfl, by rw [hnext.out]; rfl, by rw [hnext.out]; rfl, by go_num, rfl⟩
          case measure => simp [intOf]; omega
        · obtain rfl : j = k := by omega
          go_wp2
          refine bodyPost_ret (v := .tuple #[.agg #[.int .i64 (j : Int), .int .i64 ((pln j d).1 : Nat), .int .i64 ((pln j d).2 : Nat)], .int .i64 0]) (by simp [results, Try.results17, go_sem]) rfl ⟨rfl, ?_⟩
          first
            | exact below_drewN ((Below.refl _ _).alloc (Nat.le_refl _) _) _
            | exact (((below_drewN ((Below.refl _ _).alloc (Nat.le_refl _) _) _).setCell (by simp) _).setCell (by simp) _).setCell (by simp) _
end Go.Proofs.Ytnghefakcocchaa
