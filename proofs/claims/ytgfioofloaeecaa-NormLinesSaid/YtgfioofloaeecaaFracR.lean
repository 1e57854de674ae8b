/- Walks over packages frac, wide and their references: Gcd, Right, Round. -/
import Derived.Test.YtgfioofloaeecaaU8
import Derived.Laws.StructEq
import Derived.Deep.DeepCutAuto
import Derived.Outline
namespace Go.Proofs.Ytgfioofloaeecaa
open Go.RowKit
set_option linter.unusedVariables false
set_option maxRecDepth 100000

theorem below_drawn23 {B : Nat} {w w' : World} (h : Below B w w') (n : Nat) : Below B w (w'.drewN n) := ⟨h.os, h.tape, h.output, h.size, h.block⟩
theorem below_then {B : Nat} {w w1 W : World} (h : Below B w w1) (h2 : Below w1.heap.size w1 W) (hB : B ≤ w1.heap.size) : Below B w W := h.trans (h2.mono hB)

set_option maxHeartbeats 1000000 in
theorem gcd_any (a b : Nat) (w : World) (ha : a < 18446744073709551616) (hb : b < 18446744073709551616) :
    Calls Try.prog 32 #[.int .u64 (a : Int), .int .u64 (b : Int)] w fun e w' => e = .returned (.int .u64 ((Nat.gcd a b : Nat) : Int)) ∧ Below w.heap.size w w' := by
  obtain ⟨g, hg⟩ : ∃ g, g = Nat.gcd a b := ⟨_, rfl⟩
  rw [← hg]
  have Hg := Lib.hid hg
  clear hg
  go_enter Try.func32, Try.ntmps32
  go_wp2_with fail
  go_loopw [0, 1] (fun x y W => ∃ m n : Nat, x = .int .u64 (m : Int) ∧ y = .int .u64 (n : Int) ∧ m < 18446744073709551616 ∧ n < 18446744073709551616 ∧ Hid (g = Nat.gcd m n) ∧ Below w.heap.size w W) (fun _ y _ => (intOf y).toNat)
  case atStart => exact ⟨a, b, rfl, rfl, ha, hb, Hg, Below.refl _ _⟩
  case round =>
    obtain ⟨m, n, rfl, rfl, hm, hn, h, hbl⟩ := hrel
    clear Hg
    by_cases h0 : n = 0
    · subst h0
      go_wp2_with fail
      go_ret
      exact ⟨ret_int (by rw [h.out]; simp), hbl⟩
    · have hp : 0 < n := by omega
      have hl : m % n < n := Nat.mod_lt _ hp
      have hx : Hid (g = Nat.gcd n (m % n)) := by show _ = _; rw [h.out, Nat.gcd_comm m n, Nat.gcd_rec n m, Nat.gcd_comm]
      have hc : ((m : Int) % (n : Int)) = ((m % n : Nat) : Int) := by simp
      clear h0
      obtain ⟨r, hr⟩ : ∃ r, r = m % n := ⟨_, rfl⟩
      rw [← hr] at hl hx hc
      clear hr
      go_wp2_with fail
      go_quiet (fail)
      go_wp2_with fail
      go_roundw
      case rel => exact ⟨n, r, rfl, by rw [hc], hn, by omega, hx, below_drawn23 hbl _⟩
      case measure => simp [intOf] <;> omega

theorem rgcd_any (b : Nat) : ∀ (a : Nat) (i : Int) (w : World), a < 18446744073709551616 → b < 18446744073709551616 → i = (b : Int) →
    Calls Try.prog 30 #[.int .u64 (a : Int), .int .u64 i] w fun e w' => e = .returned (.int .u64 ((Nat.gcd a b : Nat) : Int)) ∧ w = w' := by
  induction b using Nat.strongRecOn with
  | _ b ih =>
    intro a i w ha hb hi
    subst hi
    by_cases h0 : b = 0
    · subst h0
      clear ih
      go_enter Try.func30, Try.ntmps30
      go_wp2_with fail
      go_ret
      exact ⟨ret_int (by simp), rfl⟩
    · have hp : 0 < b := by omega
      have hl : a % b < b := Nat.mod_lt _ hp
      have hx : Nat.gcd b (a % b) = Nat.gcd a b := by rw [Nat.gcd_comm a b, Nat.gcd_rec b a, Nat.gcd_comm]
      have hrec := Lib.hid fun W i hi => ih (a % b) hl b i W hb (by omega) hi
      have hc : ((a : Int) % (b : Int)) = ((a % b : Nat) : Int) := by simp
      have hb0 : ((b : Int) == 0) = false := by simp; omega
      rw [hx] at hrec
      clear h0 ih hx
      generalize Nat.gcd a b = g at *
      generalize a % b = r at *
      go_enter Try.func30, Try.ntmps30
      go_wp2_with fail
      refine (hrec.out _ _ rfl).mono ?_
      rintro e w' ⟨rfl, rfl⟩
      go_wp2_with fail
      go_ret
      exact ⟨rfl, rfl⟩

def okQ (q : Int) : Bool := decide (-4503599627370496 ≤ q ∧ q ≤ 4503599627370496)
def okF (q : Int) (r d : Nat) : Bool := okQ q && (decide (1 ≤ d ∧ d ≤ 9007199254740992) && (decide (r < d) && (Nat.gcd r d == 1)))

theorem within_any (q : Int) (w : World) : Calls Try.prog 31 #[.int .i64 q] w fun e w' => e = .returned (.bool (okQ q)) ∧ w = w' := by
  by_cases h1 : -4503599627370496 ≤ q
  · by_cases h2 : q ≤ 4503599627370496
    · rw [show okQ q = true by simp [okQ, h1, h2]]
      go_enter Try.func31, Try.ntmps31
      go_wp2_with fail
      go_ret
      exact ⟨rfl, rfl⟩
    · rw [show okQ q = false by simp [okQ, h1, h2]]
      go_enter Try.func31, Try.ntmps31
      go_wp2_with fail
      go_ret
      exact ⟨rfl, rfl⟩
  · rw [show okQ q = false by simp [okQ, h1]]
    go_enter Try.func31, Try.ntmps31
    go_wp2_with fail
    go_ret
    exact ⟨rfl, rfl⟩
theorem rin_any (q : Int) (w : World) : Calls Try.prog 29 #[.int .i64 q] w fun e w' => e = .returned (.bool (okQ q)) ∧ w = w' := by
  by_cases h1 : -4503599627370496 ≤ q
  · by_cases h2 : q ≤ 4503599627370496
    · rw [show okQ q = true by simp [okQ, h1, h2]]
      go_enter Try.func29, Try.ntmps29
      go_wp2_with fail
      go_ret
      exact ⟨rfl, rfl⟩
    · rw [show okQ q = false by simp [okQ, h1, h2]]
      go_enter Try.func29, Try.ntmps29
      go_wp2_with fail
      go_ret
      exact ⟨rfl, rfl⟩
  · rw [show okQ q = false by simp [okQ, h1]]
    go_enter Try.func29, Try.ntmps29
    go_wp2_with fail
    go_ret
    exact ⟨rfl, rfl⟩

theorem beq_one1 (g : Nat) : ((g : Int) == 1) = (g == 1) := by
  by_cases h : g = 1
  · subst h; rfl
  · rw [show (g == 1) = false by simpa using h]
    simpa using (by omega : ¬ (g : Int) = 1)

set_option maxHeartbeats 2000000 in
theorem fright_any (q : Int) (r d : Nat) (w : World) (hr : r < 18446744073709551616) (hd : d < 18446744073709551616) :
    Calls Try.prog 28 #[.agg #[.int .i64 q, .int .u64 (r : Int), .int .u64 (d : Int)]] w fun e w' => e = .returned (.bool (okF q r d)) ∧ Below w.heap.size w w' := by
  have hg := Lib.hid fun W => gcd_any r d W hr hd
  have hw := Lib.hid fun W => within_any q W
  obtain ⟨T, hT⟩ : ∃ T, T = okF q r d := ⟨_, rfl⟩
  rw [← hT]
  unfold okF at hT
  by_cases h1 : okQ q = true
  · rw [h1, Bool.true_and] at hT
    by_cases h2 : 1 ≤ d
    · have b2 : (decide ((1 : Int) ≤ (d : Int))) = true := by simp; omega
      by_cases h3 : d ≤ 9007199254740992
      · have b3 : (decide ((d : Int) ≤ (9007199254740992 : Int))) = true := by simp; omega
        rw [show decide (1 ≤ d ∧ d ≤ 9007199254740992) = true by simp [h2, h3], Bool.true_and] at hT
        by_cases h4 : r < d
        · rw [show decide (r < d) = true by simp [h4], Bool.true_and] at hT
          obtain ⟨g, hgg⟩ : ∃ g, g = Nat.gcd r d := ⟨_, rfl⟩
          rw [← hgg] at hg hT
          clear hgg
          have HT := Lib.hid hT
          clear hT
          go_enter Try.func28, Try.ntmps28
          go_wp2_with (first | (go_at_call 31; refine (hw.out _).mono ?_; rintro e w' ⟨rfl, rfl⟩))
          refine (hg.out _).mono ?_
          rintro e W1 ⟨rfl, hb1⟩
          go_wp2_with fail
          go_ret
          exact ⟨ret_bool (by rw [HT.out]; exact beq_one1 _), below_then ((Below.refl _ _).alloc (Nat.le_refl _) _) hb1 (by simp)⟩
        · have hF : T = false := by rw [hT]; simp [h4]
          subst hF
          clear hT hg
          go_enter Try.func28, Try.ntmps28
          go_wp2_with (first | (go_at_call 31; refine (hw.out _).mono ?_; rintro e w' ⟨rfl, rfl⟩))
          go_ret
          exact ⟨rfl, (Below.refl _ _).alloc (Nat.le_refl _) _⟩
      · have b3 : (decide ((d : Int) ≤ (9007199254740992 : Int))) = false := by simp; omega
        have hF : T = false := by rw [hT]; simp [h3]
        subst hF
        clear hT hg
        go_enter Try.func28, Try.ntmps28
        go_wp2_with (first | (go_at_call 31; refine (hw.out _).mono ?_; rintro e w' ⟨rfl, rfl⟩))
        go_ret
        exact ⟨rfl, (Below.refl _ _).alloc (Nat.le_refl _) _⟩
    · have b2 : (decide ((1 : Int) ≤ (d : Int))) = false := by simp; omega
      have hF : T = false := by rw [hT]; simp [h2]
      subst hF
      clear hT hg
      go_enter Try.func28, Try.ntmps28
      go_wp2_with (first | (go_at_call 31; refine (hw.out _).mono ?_; rintro e w' ⟨rfl, rfl⟩))
      go_ret
      exact ⟨rfl, (Below.refl _ _).alloc (Nat.le_refl _) _⟩
  · have h1' : okQ q = false := by simpa using h1
    have hF : T = false := by rw [hT, h1']; rfl
    subst hF
    clear hT hg h1
    go_enter Try.func28, Try.ntmps28
    go_wp2_with (first | (go_at_call 31; refine (hw.out _).mono ?_; rintro e w' ⟨rfl, rfl⟩))
    go_ret
    exact ⟨rfl, (Below.refl _ _).alloc (Nat.le_refl _) _⟩

set_option maxHeartbeats 2000000 in
theorem rright_any (q : Int) (r d : Nat) (w : World) (hr : r < 18446744073709551616) (hd : d < 18446744073709551616) :
    Calls Try.prog 21 #[.agg #[.int .i64 q, .int .u64 (r : Int), .int .u64 (d : Int)]] w fun e w' => e = .returned (.bool (okF q r d)) ∧ Below w.heap.size w w' := by
  have hg := Lib.hid fun W => rgcd_any d r (d : Int) W hr hd rfl
  have hw := Lib.hid fun W => rin_any q W
  obtain ⟨T, hT⟩ : ∃ T, T = okF q r d := ⟨_, rfl⟩
  rw [← hT]
  unfold okF at hT
  by_cases h1 : okQ q = true
  · rw [h1, Bool.true_and] at hT
    by_cases h2 : 1 ≤ d
    · have b2 : (decide ((1 : Int) ≤ (d : Int))) = true := by simp; omega
      by_cases h3 : d ≤ 9007199254740992
      · have b3 : (decide ((d : Int) ≤ (9007199254740992 : Int))) = true := by simp; omega
        rw [show decide (1 ≤ d ∧ d ≤ 9007199254740992) = true by simp [h2, h3], Bool.true_and] at hT
        by_cases h4 : r < d
        · rw [show decide (r < d) = true by simp [h4], Bool.true_and] at hT
          obtain ⟨g, hgg⟩ : ∃ g, g = Nat.gcd r d := ⟨_, rfl⟩
          rw [← hgg] at hg hT
          clear hgg
          have HT := Lib.hid hT
          clear hT
          go_enter Try.func21, Try.ntmps21
          go_wp2_with (first | (go_at_call 29; refine (hw.out _).mono ?_; rintro e w' ⟨rfl, rfl⟩))
          refine (hg.out _).mono ?_
          rintro e W1 ⟨rfl, rfl⟩
          go_wp2_with fail
          go_ret
          exact ⟨ret_bool (by rw [HT.out]; exact beq_one1 _), (Below.refl _ _).alloc (Nat.le_refl _) _⟩
        · have hF : T = false := by rw [hT]; simp [h4]
          subst hF
          clear hT hg
          go_enter Try.func21, Try.ntmps21
          go_wp2_with (first | (go_at_call 29; refine (hw.out _).mono ?_; rintro e w' ⟨rfl, rfl⟩))
          go_ret
          exact ⟨rfl, (Below.refl _ _).alloc (Nat.le_refl _) _⟩
      · have b3 : (decide ((d : Int) ≤ (9007199254740992 : Int))) = false := by simp; omega
        have hF : T = false := by rw [hT]; simp [h3]
        subst hF
        clear hT hg
        go_enter Try.func21, Try.ntmps21
        go_wp2_with (first | (go_at_call 29; refine (hw.out _).mono ?_; rintro e w' ⟨rfl, rfl⟩))
        go_ret
        exact ⟨rfl, (Below.refl _ _).alloc (Nat.le_refl _) _⟩
    · have b2 : (decide ((1 : Int) ≤ (d : Int))) = false := by simp; omega
      have hF : T = false := by rw [hT]; simp [h2]
      subst hF
      clear hT hg
      go_enter Try.func21, Try.ntmps21
      go_wp2_with (first | (go_at_call 29; refine (hw.out _).mono ?_; rintro e w' ⟨rfl, rfl⟩))
      go_ret
      exact ⟨rfl, (Below.refl _ _).alloc (Nat.le_refl _) _⟩
  · have h1' : okQ q = false := by simpa using h1
    have hF : T = false := by rw [hT, h1']; rfl
    subst hF
    clear hT hg h1
    go_enter Try.func21, Try.ntmps21
    go_wp2_with (first | (go_at_call 29; refine (hw.out _).mono ?_; rintro e w' ⟨rfl, rfl⟩))
    go_ret
    exact ⟨rfl, (Below.refl _ _).alloc (Nat.le_refl _) _⟩

/-- Round, of a fraction that may be. -/
def rnd (q : Int) (r d : Nat) : Int := if d ≤ 2 * r then q + 1 else q
set_option maxHeartbeats 2000000 in
theorem round_any (q : Int) (r d : Nat) (w : World) (hr : r < 18446744073709551616) (hd : d < 18446744073709551616) :
    Calls Try.prog 20 #[.agg #[.int .i64 q, .int .u64 (r : Int), .int .u64 (d : Int)]] w fun e w' => e = .returned (.int .i64 (if okF q r d = true then rnd q r d else 0)) ∧ Below w.heap.size w w' := by
  have hright := Lib.hid fun W => fright_any q r d W hr hd
  by_cases hk : okF q r d = true
  · have hq : okQ q = true ∧ d ≤ 9007199254740992 ∧ r < d := by
      simp only [okF, Bool.and_eq_true, decide_eq_true_eq] at hk
      exact ⟨hk.1, hk.2.1.2, hk.2.2.1⟩
    obtain ⟨hq1, hdl, hrd⟩ := hq
    have hqb : -4503599627370496 ≤ q ∧ q ≤ 4503599627370496 := by simpa [okQ] using hq1
    obtain ⟨hqa, hqb⟩ := hqb
    rw [if_pos hk]
    have Hr := hright
    rw [hk] at Hr
    have e2 : IntKind.u64.wrap (2 * (r : Int)) = ((2 * r : Nat) : Int) := by rw [IntWalk.u64_in _ ⟨by omega, by omega⟩]; simp
    clear hk hright hq1 hr hd hrd
    by_cases h2 : d ≤ 2 * r
    · have b2 : (decide ((d : Int) ≤ ((2 * r : Nat) : Int))) = true := by simp; omega
      rw [rnd, if_pos h2]
      generalize 2 * r = R at *
      clear hdl
      go_enter Try.func20, Try.ntmps20
      go_wp2_with fail
      refine (Hr.out _).mono ?_
      rintro e W1 ⟨rfl, hb1⟩
      obtain ⟨hA, hB, hS⟩ := one_kept hb1
      have a0 := hA.cell 0
      have a1 := hA.cell 1
      have a2 := hA.cell 2
      simp only [List.getElem?_toArray, List.getElem?_cons_zero, List.getElem?_cons_succ] at a0 a1 a2
      clear hb1 hA
      go_wp2_with fail
      go_ret
      exact ⟨rfl, hB⟩
    · have b2 : (decide ((d : Int) ≤ ((2 * r : Nat) : Int))) = false := by simp; omega
      rw [rnd, if_neg h2]
      generalize 2 * r = R at *
      clear hdl
      go_enter Try.func20, Try.ntmps20
      go_wp2_with fail
      refine (Hr.out _).mono ?_
      rintro e W1 ⟨rfl, hb1⟩
      obtain ⟨hA, hB, hS⟩ := one_kept hb1
      have a0 := hA.cell 0
      have a1 := hA.cell 1
      have a2 := hA.cell 2
      simp only [List.getElem?_toArray, List.getElem?_cons_zero, List.getElem?_cons_succ] at a0 a1 a2
      clear hb1 hA
      go_wp2_with fail
      go_ret
      exact ⟨rfl, hB⟩
  · have hk' : okF q r d = false := by simpa using hk
    rw [if_neg hk]
    have Hr := hright
    rw [hk'] at Hr
    clear hk hk' hright
    go_enter Try.func20, Try.ntmps20
    go_wp2_with fail
    refine (Hr.out _).mono ?_
    rintro e W1 ⟨rfl, hb1⟩
    obtain ⟨hA, hB, hS⟩ := one_kept hb1
    clear hb1 hA
    go_wp2_with fail
    go_ret
    exact ⟨rfl, hB⟩

set_option maxHeartbeats 2000000 in
theorem rround_any (q : Int) (r d : Nat) (w : World) (hk : okF q r d = true) :
    Calls Try.prog 22 #[.agg #[.int .i64 q, .int .u64 (r : Int), .int .u64 (d : Int)]] w fun e w' => e = .returned (.int .i64 (rnd q r d)) ∧ Below w.heap.size w w' := by
  have hq : okQ q = true ∧ (1 ≤ d ∧ d ≤ 9007199254740992) ∧ r < d := by
    simp only [okF, Bool.and_eq_true, decide_eq_true_eq] at hk
    exact ⟨hk.1, hk.2.1, hk.2.2.1⟩
  obtain ⟨hq1, ⟨hd1, hd2⟩, hrd⟩ := hq
  have hqb : -4503599627370496 ≤ q ∧ q ≤ 4503599627370496 := by simpa [okQ] using hq1
  obtain ⟨hqa, hqb⟩ := hqb
  have e1 : IntKind.u64.wrap ((d : Int) - 1) = ((d - 1 : Nat) : Int) := by rw [IntWalk.u64_in _ ⟨by omega, by omega⟩]; omega
  have e2 : ((d - 1 : Nat) : Int) / 2 = (((d - 1) / 2 : Nat) : Int) := by omega
  have e3 : IntKind.u64.wrap (((d - 1) / 2 : Nat) : Int) = (((d - 1) / 2 : Nat) : Int) := IntWalk.u64_in _ ⟨by omega, by omega⟩
  have e4 : IntKind.i64.wrap (q + 1) = q + 1 := IntWalk.i64_in _ ⟨by omega, by omega⟩
  obtain ⟨D, hD⟩ : ∃ D : Nat, D = d - 1 := ⟨_, rfl⟩
  rw [← hD] at e1 e2 e3
  obtain ⟨H, hH⟩ : ∃ H : Nat, H = D / 2 := ⟨_, rfl⟩
  rw [← hH] at e2 e3
  unfold rnd
  by_cases h2 : d ≤ 2 * r
  · rw [if_pos h2]
    have b1 : decide ((H : Int) < (r : Int)) = true := decide_eq_true (by omega)
    have b2 : decide (H < r) = true := decide_eq_true (by omega)
    clear hk hq1 hH hD h2
    go_enter Try.func22, Try.ntmps22
    go_wp2_with fail
    go_ret
    exact ⟨rfl, (Below.refl _ _).alloc (Nat.le_refl _) _⟩
  · rw [if_neg h2]
    have b1 : decide ((H : Int) < (r : Int)) = false := decide_eq_false (by omega)
    have b2 : decide (H < r) = false := decide_eq_false (by omega)
    clear hk hq1 hH hD h2
    go_enter Try.func22, Try.ntmps22
    go_wp2_with fail
    go_ret
    exact ⟨rfl, (Below.refl _ _).alloc (Nat.le_refl _) _⟩
end Go.Proofs.Ytgfioofloaeecaa
