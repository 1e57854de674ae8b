/- Walks over layer 11: the document's ID; and ID where the place is not valid. -/
import Derived.Test.YtnghefakcocchaaHilbID
namespace Go.Proofs.Ytnghefakcocchaa
open Go.RowKit Hilb
set_option linter.unusedVariables false

theorem id_no (z x y : Int) (w : World) (h : ¬ okp z x y) :
    Calls Try.prog 7 #[.agg #[.int .i64 z, .int .i64 x, .int .i64 y]] w fun e w' => e = .returned (.tuple #[.int .u64 0, .int .i64 8]) ∧ Below w.heap.size w w' := by
  have hr := fun W => Lib.hid (right_no z x y W h)
  have Hr := Lib.hid hr; clear hr h
  go_enter Try.func7, Try.ntmps7
  go_wp2_with fail
  refine ((Hr.out _).out).mono ?_
  rintro e w1 ⟨rfl, hb1⟩
  obtain ⟨hA, hb, hlt⟩ := one_kept hb1
  clear hb1
  go_wp2
  go_ret2
  exact ⟨rfl, hb⟩

theorem rid_no (z x y : Int) (w : World) (h : ¬ okp z x y) :
    Calls Try.prog 8 #[.agg #[.int .i64 z, .int .i64 x, .int .i64 y]] w fun e w' => e = .returned (.tuple #[.int .u64 0, .int .i64 8]) ∧ Below w.heap.size w w' := by
  have hr := fun W => Lib.hid (rright_no z x y W h)
  have Hr := Lib.hid hr; clear hr h
  go_enter Try.func8, Try.ntmps8
  go_wp2_with fail
  refine ((Hr.out _).out).mono ?_
  rintro e w1 ⟨rfl, hb1⟩
  obtain ⟨hA, hb, hlt⟩ := one_kept hb1
  clear hb1
  go_wp2
  go_ret2
  exact ⟨rfl, hb⟩

theorem rid_arith (D s Q k : Nat) (hQ : s * s = Q) (hs : s < 4294967296) (h : D + Q * k < 4611686018427387904) (hk : k < 4) (hQ2 : Q < 4611686018427387904) :
    IntKind.u64.wrap ((D : Int) + IntKind.u64.wrap (IntKind.u64.wrap ((s : Int) * (s : Int)) * (k : Int))) = ((D + Q * k : Nat) : Int) := by
  rw [← Int.natCast_mul s s, hQ, u64_wrap Q (by omega), ← Int.natCast_mul]
  generalize Q * k = p at *
  rw [u64_wrap p (by omega), ← Int.natCast_add, u64_wrap _ (by omega)]

set_option maxHeartbeats 2000000 in
theorem rid_yes (z x y : Nat) (w : World) (hz : z ≤ 30) (hx : x < 2 ^ z) (hy : y < 2 ^ z) :
    Calls Try.prog 8 #[.agg #[.int .i64 (z : Int), .int .i64 (x : Int), .int .i64 (y : Int)]] w
      fun e w' => e = .returned (.tuple #[.int .u64 (fst z + idn z x y : Nat), .int .i64 0]) ∧ Below w.heap.size w w' := by
  have hr := fun W => Lib.hid (rright_yes z x y W hz hx hy)
  have hcut : cut31 (z : Int) = z := by unfold cut31; rw [if_pos (by omega)]; omega
  have hf := fun W => Lib.hid (rfirst_any (z : Int) W)
  rw [hcut] at hf
  have hx30 := p2_30 z hz
  have Hr := Lib.hid hr; clear hr
  have Hf := Lib.hid hf; clear hf hcut
  have Htot := Lib.hid (fst_idn_lt z x y hz)
  have HX : Hid (x < 2 ^ z ∧ y < 2 ^ z) := ⟨hx, hy⟩
  clear hx hy hx30
  go_enter Try.func8, Try.ntmps8
  go_wp2_with fail
  refine ((Hr.out _).out).mono ?_
  rintro e w1 ⟨rfl, hb1⟩
  obtain ⟨hA, hb, hlt⟩ := one_kept hb1
  clear hb1
  have a0 : w1.cell? ⟨w.heap.size, 0, none⟩ = some (.int .i64 (z : Int)) := hA.cell 0
  have a1 : w1.cell? ⟨w.heap.size, 1, none⟩ = some (.int .i64 (x : Int)) := hA.cell 1
  have a2 : w1.cell? ⟨w.heap.size, 2, none⟩ = some (.int .i64 (y : Int)) := hA.cell 2
  go_wp2_with fail
  refine ((Hf.out _).out).mono ?_
  rintro e w2 ⟨rfl, rfl⟩
  go_wp2
  go_quiet (fail)
  go_wp2
  clear a0 a1 a2
  go_loopw [4, 5, 6, 7] (fun d u v i W => ∃ n D U V m : Nat, n ≤ z ∧ D + idn n U V = fst z + idn z x y ∧ U < 2 ^ n ∧ V < 2 ^ n ∧ d = .int .u64 D ∧ u = .int .i64 U ∧ v = .int .i64 V ∧ i = .int .i64 ((n : Int) - 1) ∧ W = w1.drewN m) (fun _ _ _ i _ => (intOf i + 1).toNat)
  case atStart => exact ⟨z, fst z, x, y, _, by omega, rfl, HX.out.1, HX.out.2, rfl, rfl, rfl, rfl, rfl⟩
  case round =>
    obtain ⟨n1, D, U, V, m, hk, hD, hU, hV, rfl, rfl, rfl, rfl, rfl⟩ := hrel
    by_cases hpos : 0 < n1
    · obtain ⟨n, rfl⟩ : ∃ n, n1 = n + 1 := ⟨n1 - 1, by omega⟩
      have hn30 : n ≤ 30 := by omega
      have hnz : n ≤ z := by omega
      have hpow := fun W => Lib.hid (power_any n W hn30)
      have hidn : idn (n + 1) U V = 4 ^ n * qd (U / 2 ^ n % 2) (V / 2 ^ n % 2) + idn n (trn (2 ^ n) U V (U / 2 ^ n % 2) (V / 2 ^ n % 2)).1 (trn (2 ^ n) U V (U / 2 ^ n % 2) (V / 2 ^ n % 2)).2 := rfl
      rw [hidn] at hD
      have htl := trn_lt (p2 n) U V (U / 2 ^ n % 2) (V / 2 ^ n % 2)
      have hs0 := p2 n
      have hs1 := p2_30 n hn30
      have hsq := sq4 n
      have hQ62 : 4 ^ n < 4611686018427387904 := by
        have h2 : 4 ^ 30 < 4611686018427387904 := by decide
        have h3 : 4 ^ n ≤ 4 ^ 30 := Nat.pow_le_pow_right (by omega) hn30
        omega
      rw [Nat.pow_succ] at hU hV
      generalize hs : 2 ^ n = s at *
      have Hs := Lib.hid hs
      have hUm := Nat.mod_lt U hs0
      have hVm := Nat.mod_lt V hs0
      have hc2 : U / s < 2 := Nat.div_lt_of_lt_mul (by omega)
      have hd2 : V / s < 2 := Nat.div_lt_of_lt_mul (by omega)
      have hUd : (U : Int) / (s : Int) = ((U / s : Nat) : Int) := rfl
      have hVd : (V : Int) / (s : Int) = ((V / s : Nat) : Int) := rfl
      have hUr : (U : Int) % (s : Int) = ((U % s : Nat) : Int) := rfl
      have hVr : (V : Int) % (s : Int) = ((V % s : Nat) : Int) := rfl
      have htr : Hid (trn s U V (U / s % 2) (V / s % 2) = if V / s % 2 = 1 then (U % s, V % s) else if U / s % 2 = 1 then (s - 1 - V % s, s - 1 - U % s) else (V % s, U % s)) := rfl
      have hT := Htot.out
      rw [← hD] at hT
      generalize hR : idn n (trn s U V (U / s % 2) (V / s % 2)).1 (trn s U V (U / s % 2) (V / s % 2)).2 = R at *
      have HR := Lib.hid hR
      generalize hq : qd (U / s % 2) (V / s % 2) = q at *
      have Hq := Lib.hid hq
      generalize 4 ^ n = Q at *
      generalize U / s = c at *
      generalize V / s = d at *
      generalize U % s = u at *
      generalize V % s = v at *
      have hDb : D < 4611686018427387904 := by omega
      have hss : ((s : Int) * (s : Int)) = (Q : Int) := by rw [← hsq]; simp
      have HSS := Lib.hid hss; clear hss
      have HVr := Lib.hid hVr; have HUr := Lib.hid hUr
      have HD := Lib.hid hD; have HT := Lib.hid hT; have Hsq := Lib.hid hsq; have Htl := Lib.hid htl; have Hpow := Lib.hid hpow; have HQ62 := Lib.hid hQ62
      clear hD hT hs hR hq hsq htl hpow hidn hk HX hQ62
      have hsi : ((s : Int) == 0) = false := by simp; omega
      have hsp : (0 : Int) < (s : Int) := by omega
      have hw0 : wrap64 0 = 0 := IntWalk.wrap64_in _ ⟨by omega, by omega⟩
      have hw1 : wrap64 1 = 1 := IntWalk.wrap64_in _ ⟨by omega, by omega⟩
      have hc3 : c = 0 ∨ c = 1 := by omega
      have hd3 : d = 0 ∨ d = 1 := by omega
      clear hc2 hd2
      rcases hc3 with rfl | rfl <;> rcases hd3 with rfl | rfl
      all_goals
        first | simp only [Int.natCast_zero] at hUd | simp only [Int.natCast_one] at hUd
        first | simp only [Int.natCast_zero] at hVd | simp only [Int.natCast_one] at hVd
        go_wp2_with (go_at_call 20; (refine ((Hpow.out _).out).mono ?_); rintro e w' ⟨rfl, rfl⟩)
        go_quiet (fail)
        go_wp2
        go_quiet (fail)
        go_wp2
        have hq := Hq.out
        have ht := htr.out
        simp [qd] at hq
        subst hq
        go_roundw
        case rel =>
          refine ⟨n, D + Q * _, _, _, _, hnz, by rw [HR.out, Nat.add_assoc]; exact HD.out, by rw [Hs.out]; exact Htl.out.1, by rw [Hs.out]; exact Htl.out.2, ?_, ?_, ?_, rfl, rfl⟩
          · refine congrArg (Value.int .u64) ?_
            have := HT.out
            have h3 := HSS.out
            try rw [h3]
            try simp only [IntKind.wrap_u64]
            omega
          · refine congrArg (Value.int .i64) ?_
            rw [ht]
            first | exact HVr.out | exact HUr.out | (simp; omega)
          · refine congrArg (Value.int .i64) ?_
            rw [ht]
            first | exact HVr.out | exact HUr.out | (simp; omega)
        case measure => simp [intOf]
    · obtain rfl : n1 = 0 := by omega
      have HD := Lib.hid hD; clear hD
      go_wp2
      go_ret2
      have h := HD.out
      exact ⟨ret_ints (by rw [← h]; simp [idn]) rfl, below_drewN hb _⟩
end Go.Proofs.Ytnghefakcocchaa
