/- Walks over package frac: Make, Round and Cross at the example. -/
import Derived.Test.YtcfkhgpcamfecaaFrac
namespace Go.Proofs.Ytcfkhgpcamfecaa
open Go.RowKit Big
set_option linter.unusedVariables false
set_option maxRecDepth 100000

def makeV (b : Bool) (q : Int) (R D : Nat) : Value := .tuple (if b = true then #[.agg #[.int .i64 q, .int .u64 (R : Int), .int .u64 (D : Int)], .int .i64 0] else #[.agg #[.int .i64 0, .int .u64 0, .int .u64 0], .int .i64 8])
set_option maxHeartbeats 4000000 in
theorem make_any (q : Int) (r d : Nat) (w : World) (hr : r < 18446744073709551616) (hd : d < 18446744073709551616) (h : r < d) :
    Calls Try.prog 25 #[.int .i64 q, .int .u64 (r : Int), .int .u64 (d : Int)] w fun e w' =>
      e = .returned (makeV (okF q (r / Nat.gcd r d) (d / Nat.gcd r d)) q (r / Nat.gcd r d) (d / Nat.gcd r d)) ∧ Below w.heap.size w w' := by
  have hg := Lib.hid fun W => gcd_any r d W hr hd
  have hg0 : 0 < Nat.gcd r d := Nat.gcd_pos_of_pos_right r (by omega)
  have hright := Lib.hid fun W => fright_any q (r / Nat.gcd r d) (d / Nat.gcd r d) W (Nat.lt_of_le_of_lt (Nat.div_le_self _ _) hr) (Nat.lt_of_le_of_lt (Nat.div_le_self _ _) hd)
  have q1 := quo_nat r (Nat.gcd r d) hr
  have q2 := quo_nat d (Nat.gcd r d) hd
  generalize Nat.gcd r d = g at *
  generalize r / g = R at *
  generalize d / g = D at *
  have Q1 := Lib.hid q1
  have Q2 := Lib.hid q2
  have hz : ¬ g = 0 := by omega
  clear hg0 hr hd q1 q2
  go_enter Try.func25, Try.ntmps25
  go_wp2_with fail
  refine (hg.out _).mono ?_
  rintro e W1 ⟨rfl, hb1⟩
  go_wp2_with fail
  have q1 := Q1.out
  have q2 := Q2.out
  go_region
  clear q1 q2
  obtain ⟨hA1, hB1, hS1⟩ := one_kept hb1
  have hN := Whole.new W1 46 #[.int .i64 q, .int .u64 (R : Int), .int .u64 (D : Int)]
  have hAN := hA1.alloc (.cells #[.int .i64 q, .int .u64 (R : Int), .int .u64 (D : Int)] 46)
  have hBN := (hB1.alloc hB1.size (.cells #[.int .i64 q, .int .u64 (R : Int), .int .u64 (D : Int)] 46)).drew
  go_wp2_with fail
  refine (hright.out _).mono ?_
  rintro e W2 ⟨rfl, hb2⟩
  have hA2 := hAN.drew.below hb2 hAN.lt
  have hN2 := hN.drew.below hb2 hN.lt
  have hB2 := below_then hBN hb2 hBN.size
  have a0 := hA2.cell 0
  have a1 := hA2.cell 1
  have a2 := hA2.cell 2
  have n0 := hN2.cell 0
  have n1 := hN2.cell 1
  have n2 := hN2.cell 2
  have f0 := hA2.frozen 0
  have f1 := hA2.frozen 1
  have f2 := hA2.frozen 2
  simp only [List.getElem?_toArray, List.getElem?_cons_zero, List.getElem?_cons_succ] at a0 a1 a2 n0 n1 n2
  have HB2 := Lib.hid hB2
  clear hb1 hb2 hA1 hB1 hN hAN hBN hN2 hB2 Q1 Q2
  by_cases hk : okF q R D = true
  · have HK := Lib.hid hk
    go_wp2_with fail
    exact bodyPost_ret (v := .tuple #[.agg #[.int .i64 q, .int .u64 (R : Int), .int .u64 (D : Int)], .int .i64 0]) (by simp [results, Try.results25, go_sem, a0, a1, a2]) rfl ⟨by simp [makeV, HK.out], ((HB2.out.setCell (Nat.le_refl _) _).setCell (Nat.le_refl _) _).setCell (Nat.le_refl _) _⟩
  · have hk' : okF q R D = false := by simpa using hk
    have HK := Lib.hid hk'
    clear hk
    go_wp2_with fail
    exact bodyPost_ret (v := .tuple #[.agg #[.int .i64 0, .int .u64 0, .int .u64 0], .int .i64 8]) (by simp [results, Try.results25, go_sem, a0, a1, a2]) rfl ⟨by simp [makeV, HK.out], ((HB2.out.setCell (Nat.le_refl _) _).setCell (Nat.le_refl _) _).setCell (Nat.le_refl _) _⟩

theorem lcode_any (n : Int) (w : World) : Calls Try.prog 30 #[.int .i64 n] w fun e w' => e = .returned (.int .i64 n) ∧ w = w' := by
  go_enter Try.func30, Try.ntmps30
  go_wp2_with fail
  go_ret
  exact ⟨rfl, rfl⟩

/-- Round, of a fraction that may be. -/
def rnd (q : Int) (r d : Nat) : Int := if d ≤ 2 * r then q + 1 else q
set_option maxHeartbeats 2000000 in
theorem round_any (q : Int) (r d : Nat) (w : World) (hr : r < 18446744073709551616) (hd : d < 18446744073709551616) :
    Calls Try.prog 33 #[.agg #[.int .i64 q, .int .u64 (r : Int), .int .u64 (d : Int)]] w fun e w' => e = .returned (.int .i64 (if okF q r d = true then rnd q r d else 0)) ∧ Below w.heap.size w w' := by
  have hright := Lib.hid fun W => fright_any q r d W hr hd
  by_cases hk : okF q r d = true
  · have hq : okQ q = true ∧ d ≤ 9007199254740992 ∧ r < d := by
      simp only [okF, Bool.and_eq_true, decide_eq_true_eq] at hk
      exact ⟨hk.1, hk.2.1.2, hk.2.2.1⟩
    obtain ⟨hq1, hdl, hrd⟩ := hq
    have hqb : -4503599627370496 ≤ q ∧ q ≤ 4503599627370496 := by simpa [okQ] using hq1
    obtain ⟨hqa, hqb⟩ := hqb
    rw [if_pos hk]
    have Hr := hright
    rw [hk] at Hr
    have e2 : IntKind.u64.wrap (2 * (r : Int)) = ((2 * r : Nat) : Int) := by rw [IntWalk.u64_in _ ⟨by omega, by omega⟩]; simp
    clear hk hright hq1 hr hd hrd
    by_cases h2 : d ≤ 2 * r
    · have b2 : (decide ((d : Int) ≤ ((2 * r : Nat) : Int))) = true := by simp; omega
      rw [rnd, if_pos h2]
      generalize 2 * r = R at *
      clear hdl
      go_enter Try.func33, Try.ntmps33
      go_wp2_with fail
      refine (Hr.out _).mono ?_
      rintro e W1 ⟨rfl, hb1⟩
      obtain ⟨hA, hB, hS⟩ := one_kept hb1
      have a0 := hA.cell 0
      have a1 := hA.cell 1
      have a2 := hA.cell 2
      simp only [List.getElem?_toArray, List.getElem?_cons_zero, List.getElem?_cons_succ] at a0 a1 a2
      clear hb1 hA
      go_wp2_with fail
      go_ret
      exact ⟨rfl, hB⟩
    · have b2 : (decide ((d : Int) ≤ ((2 * r : Nat) : Int))) = false := by simp; omega
      rw [rnd, if_neg h2]
      generalize 2 * r = R at *
      clear hdl
      go_enter Try.func33, Try.ntmps33
      go_wp2_with fail
      refine (Hr.out _).mono ?_
      rintro e W1 ⟨rfl, hb1⟩
      obtain ⟨hA, hB, hS⟩ := one_kept hb1
      have a0 := hA.cell 0
      have a1 := hA.cell 1
      have a2 := hA.cell 2
      simp only [List.getElem?_toArray, List.getElem?_cons_zero, List.getElem?_cons_succ] at a0 a1 a2
      clear hb1 hA
      go_wp2_with fail
      go_ret
      exact ⟨rfl, hB⟩
  · have hk' : okF q r d = false := by simpa using hk
    rw [if_neg hk]
    have Hr := hright
    rw [hk'] at Hr
    clear hk hk' hright
    go_enter Try.func33, Try.ntmps33
    go_wp2_with fail
    refine (Hr.out _).mono ?_
    rintro e W1 ⟨rfl, hb1⟩
    obtain ⟨hA, hB, hS⟩ := one_kept hb1
    clear hb1 hA
    go_wp2_with fail
    go_ret
    exact ⟨rfl, hB⟩
end Go.Proofs.Ytcfkhgpcamfecaa
