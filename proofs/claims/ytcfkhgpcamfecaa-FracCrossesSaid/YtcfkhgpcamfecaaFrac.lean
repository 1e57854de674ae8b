/- Walks over package frac and its reference: within, Right, Same, Of, Make, Round. -/
import Derived.Test.YtcfkhgpcamfecaaMulDiv
import Derived.Laws.StructEq
import Derived.Deep.DeepCutAuto
import Derived.Outline
namespace Go.Proofs.Ytcfkhgpcamfecaa
open Go.RowKit Big
set_option linter.unusedVariables false
set_option maxRecDepth 100000

def okQ (q : Int) : Bool := decide (-4503599627370496 ≤ q ∧ q ≤ 4503599627370496)
def okF (q : Int) (r d : Nat) : Bool := okQ q && (decide (1 ≤ d ∧ d ≤ 9007199254740992) && (decide (r < d) && (Nat.gcd r d == 1)))

theorem within_any (q : Int) (w : World) : Calls Try.prog 51 #[.int .i64 q] w fun e w' => e = .returned (.bool (okQ q)) ∧ w = w' := by
  by_cases h1 : -4503599627370496 ≤ q
  · by_cases h2 : q ≤ 4503599627370496
    · rw [show okQ q = true by simp [okQ, h1, h2]]
      go_enter Try.func51, Try.ntmps51
      go_wp2_with fail
      go_ret
      exact ⟨rfl, rfl⟩
    · rw [show okQ q = false by simp [okQ, h1, h2]]
      go_enter Try.func51, Try.ntmps51
      go_wp2_with fail
      go_ret
      exact ⟨rfl, rfl⟩
  · rw [show okQ q = false by simp [okQ, h1]]
    go_enter Try.func51, Try.ntmps51
    go_wp2_with fail
    go_ret
    exact ⟨rfl, rfl⟩
theorem rin_any (q : Int) (w : World) : Calls Try.prog 52 #[.int .i64 q] w fun e w' => e = .returned (.bool (okQ q)) ∧ w = w' := by
  by_cases h1 : -4503599627370496 ≤ q
  · by_cases h2 : q ≤ 4503599627370496
    · rw [show okQ q = true by simp [okQ, h1, h2]]
      go_enter Try.func52, Try.ntmps52
      go_wp2_with fail
      go_ret
      exact ⟨rfl, rfl⟩
    · rw [show okQ q = false by simp [okQ, h1, h2]]
      go_enter Try.func52, Try.ntmps52
      go_wp2_with fail
      go_ret
      exact ⟨rfl, rfl⟩
  · rw [show okQ q = false by simp [okQ, h1]]
    go_enter Try.func52, Try.ntmps52
    go_wp2_with fail
    go_ret
    exact ⟨rfl, rfl⟩

theorem beq_one1 (g : Nat) : ((g : Int) == 1) = (g == 1) := by
  by_cases h : g = 1
  · subst h; rfl
  · rw [show (g == 1) = false by simpa using h]
    simpa using (by omega : ¬ (g : Int) = 1)

set_option maxHeartbeats 2000000 in
theorem fright_any (q : Int) (r d : Nat) (w : World) (hr : r < 18446744073709551616) (hd : d < 18446744073709551616) :
    Calls Try.prog 26 #[.agg #[.int .i64 q, .int .u64 (r : Int), .int .u64 (d : Int)]] w fun e w' => e = .returned (.bool (okF q r d)) ∧ Below w.heap.size w w' := by
  have hg := Lib.hid fun W => gcd_any r d W hr hd
  have hw := Lib.hid fun W => within_any q W
  obtain ⟨T, hT⟩ : ∃ T, T = okF q r d := ⟨_, rfl⟩
  rw [← hT]
  unfold okF at hT
  by_cases h1 : okQ q = true
  · rw [h1, Bool.true_and] at hT
    by_cases h2 : 1 ≤ d
    · have b2 : (decide ((1 : Int) ≤ (d : Int))) = true := by simp; omega
      by_cases h3 : d ≤ 9007199254740992
      · have b3 : (decide ((d : Int) ≤ (9007199254740992 : Int))) = true := by simp; omega
        rw [show decide (1 ≤ d ∧ d ≤ 9007199254740992) = true by simp [h2, h3], Bool.true_and] at hT
        by_cases h4 : r < d
        · rw [show decide (r < d) = true by simp [h4], Bool.true_and] at hT
          obtain ⟨g, hgg⟩ : ∃ g, g = Nat.gcd r d := ⟨_, rfl⟩
          rw [← hgg] at hg hT
          clear hgg
          have HT := Lib.hid hT
          clear hT
          go_enter Try.func26, Try.ntmps26
          go_wp2_with (first | (go_at_call 51; refine (hw.out _).mono ?_; rintro e w' ⟨rfl, rfl⟩))
          refine (hg.out _).mono ?_
          rintro e W1 ⟨rfl, hb1⟩
          go_wp2_with fail
          go_ret
          exact ⟨ret_bool (by rw [HT.out]; exact beq_one1 _), below_then ((Below.refl _ _).alloc (Nat.le_refl _) _) hb1 (by simp)⟩
        · have hF : T = false := by rw [hT]; simp [h4]
          subst hF
          clear hT hg
          go_enter Try.func26, Try.ntmps26
          go_wp2_with (first | (go_at_call 51; refine (hw.out _).mono ?_; rintro e w' ⟨rfl, rfl⟩))
          go_ret
          exact ⟨rfl, (Below.refl _ _).alloc (Nat.le_refl _) _⟩
      · have b3 : (decide ((d : Int) ≤ (9007199254740992 : Int))) = false := by simp; omega
        have hF : T = false := by rw [hT]; simp [h3]
        subst hF
        clear hT hg
        go_enter Try.func26, Try.ntmps26
        go_wp2_with (first | (go_at_call 51; refine (hw.out _).mono ?_; rintro e w' ⟨rfl, rfl⟩))
        go_ret
        exact ⟨rfl, (Below.refl _ _).alloc (Nat.le_refl _) _⟩
    · have b2 : (decide ((1 : Int) ≤ (d : Int))) = false := by simp; omega
      have hF : T = false := by rw [hT]; simp [h2]
      subst hF
      clear hT hg
      go_enter Try.func26, Try.ntmps26
      go_wp2_with (first | (go_at_call 51; refine (hw.out _).mono ?_; rintro e w' ⟨rfl, rfl⟩))
      go_ret
      exact ⟨rfl, (Below.refl _ _).alloc (Nat.le_refl _) _⟩
  · have h1' : okQ q = false := by simpa using h1
    have hF : T = false := by rw [hT, h1']; rfl
    subst hF
    clear hT hg h1
    go_enter Try.func26, Try.ntmps26
    go_wp2_with (first | (go_at_call 51; refine (hw.out _).mono ?_; rintro e w' ⟨rfl, rfl⟩))
    go_ret
    exact ⟨rfl, (Below.refl _ _).alloc (Nat.le_refl _) _⟩

set_option maxHeartbeats 2000000 in
theorem rright_any (q : Int) (r d : Nat) (w : World) (hr : r < 18446744073709551616) (hd : d < 18446744073709551616) :
    Calls Try.prog 27 #[.agg #[.int .i64 q, .int .u64 (r : Int), .int .u64 (d : Int)]] w fun e w' => e = .returned (.bool (okF q r d)) ∧ Below w.heap.size w w' := by
  have hg := Lib.hid fun W => rgcd_any d r (d : Int) W hr hd rfl
  have hw := Lib.hid fun W => rin_any q W
  obtain ⟨T, hT⟩ : ∃ T, T = okF q r d := ⟨_, rfl⟩
  rw [← hT]
  unfold okF at hT
  by_cases h1 : okQ q = true
  · rw [h1, Bool.true_and] at hT
    by_cases h2 : 1 ≤ d
    · have b2 : (decide ((1 : Int) ≤ (d : Int))) = true := by simp; omega
      by_cases h3 : d ≤ 9007199254740992
      · have b3 : (decide ((d : Int) ≤ (9007199254740992 : Int))) = true := by simp; omega
        rw [show decide (1 ≤ d ∧ d ≤ 9007199254740992) = true by simp [h2, h3], Bool.true_and] at hT
        by_cases h4 : r < d
        · rw [show decide (r < d) = true by simp [h4], Bool.true_and] at hT
          obtain ⟨g, hgg⟩ : ∃ g, g = Nat.gcd r d := ⟨_, rfl⟩
          rw [← hgg] at hg hT
          clear hgg
          have HT := Lib.hid hT
          clear hT
          go_enter Try.func27, Try.ntmps27
          go_wp2_with (first | (go_at_call 52; refine (hw.out _).mono ?_; rintro e w' ⟨rfl, rfl⟩))
          refine (hg.out _).mono ?_
          rintro e W1 ⟨rfl, rfl⟩
          go_wp2_with fail
          go_ret
          exact ⟨ret_bool (by rw [HT.out]; exact beq_one1 _), (Below.refl _ _).alloc (Nat.le_refl _) _⟩
        · have hF : T = false := by rw [hT]; simp [h4]
          subst hF
          clear hT hg
          go_enter Try.func27, Try.ntmps27
          go_wp2_with (first | (go_at_call 52; refine (hw.out _).mono ?_; rintro e w' ⟨rfl, rfl⟩))
          go_ret
          exact ⟨rfl, (Below.refl _ _).alloc (Nat.le_refl _) _⟩
      · have b3 : (decide ((d : Int) ≤ (9007199254740992 : Int))) = false := by simp; omega
        have hF : T = false := by rw [hT]; simp [h3]
        subst hF
        clear hT hg
        go_enter Try.func27, Try.ntmps27
        go_wp2_with (first | (go_at_call 52; refine (hw.out _).mono ?_; rintro e w' ⟨rfl, rfl⟩))
        go_ret
        exact ⟨rfl, (Below.refl _ _).alloc (Nat.le_refl _) _⟩
    · have b2 : (decide ((1 : Int) ≤ (d : Int))) = false := by simp; omega
      have hF : T = false := by rw [hT]; simp [h2]
      subst hF
      clear hT hg
      go_enter Try.func27, Try.ntmps27
      go_wp2_with (first | (go_at_call 52; refine (hw.out _).mono ?_; rintro e w' ⟨rfl, rfl⟩))
      go_ret
      exact ⟨rfl, (Below.refl _ _).alloc (Nat.le_refl _) _⟩
  · have h1' : okQ q = false := by simpa using h1
    have hF : T = false := by rw [hT, h1']; rfl
    subst hF
    clear hT hg h1
    go_enter Try.func27, Try.ntmps27
    go_wp2_with (first | (go_at_call 52; refine (hw.out _).mono ?_; rintro e w' ⟨rfl, rfl⟩))
    go_ret
    exact ⟨rfl, (Below.refl _ _).alloc (Nat.le_refl _) _⟩

theorem eq_frac (a b c x y z : Int) (W : World) :
    (binOp .eql 46 (.agg #[.int .i64 a, .int .u64 b, .int .u64 c]) (.agg #[.int .i64 x, .int .u64 y, .int .u64 z])).run Try.prog W = .ok (.bool (a == x && (b == y && c == z))) W := by
  by_cases h1 : a = x
  · by_cases h2 : b = y
    · by_cases h3 : c = z
      · subst h1 h2 h3; go_simp
      · subst h1 h2; rw [show (c == z) = false by simpa using h3]; go_simp
    · subst h1; rw [show (b == y) = false by simpa using h2]; go_simp
  · rw [show (a == x) = false by simpa using h1]; go_simp
set_option maxHeartbeats 2000000 in
theorem same_any (a x : Int) (b c y z : Int) (w : World) :
    Calls Try.prog 28 #[.agg #[.int .i64 a, .int .u64 b, .int .u64 c], .agg #[.int .i64 x, .int .u64 y, .int .u64 z]] w fun e w' => e = .returned (.bool (a == x && (b == y && c == z))) ∧ Below w.heap.size w w' := by
  have he := eq_frac a b c x y z
  go_enter Try.func28, Try.ntmps28
  go_wp2_with fail
  go_ret
  exact ⟨rfl, ((Below.refl _ _).alloc (Nat.le_refl _) _).alloc (by simp) _⟩

def zeroF : Value := .agg #[.int .i64 0, .int .u64 0, .int .u64 0]
set_option maxHeartbeats 2000000 in
theorem of_any (n : Int) (w : World) :
    Calls Try.prog 29 #[.int .i64 n] w fun e w' => e = .returned (.agg #[.int .i64 n, .int .u64 0, .int .u64 1]) ∧ Below w.heap.size w w' := by
  go_enter Try.func29, Try.ntmps29
  go_wp2_with fail
  exact bodyPost_ret (v := .agg #[.int .i64 n, .int .u64 0, .int .u64 1]) (by simp [results, Try.results29, go_sem]) rfl ⟨rfl, (Below.refl _ _).alloc (Nat.le_refl _) _⟩

set_option maxHeartbeats 2000000 in
theorem make_arg (q : Int) (r d : Nat) (w : World) (h : d ≤ r) :
    Calls Try.prog 25 #[.int .i64 q, .int .u64 (r : Int), .int .u64 (d : Int)] w fun e w' => e = .returned (.tuple #[.agg #[.int .i64 0, .int .u64 0, .int .u64 0], .int .i64 1]) ∧ Below w.heap.size w w' := by
  go_enter Try.func25, Try.ntmps25
  go_wp2_with fail
  exact bodyPost_ret (v := .tuple #[.agg #[.int .i64 0, .int .u64 0, .int .u64 0], .int .i64 1]) (by simp [results, Try.results25, go_sem]) rfl ⟨rfl, (Below.refl _ _).alloc (Nat.le_refl _) _⟩

theorem quo_nat (r g : Nat) (hr : r < 18446744073709551616) : IntKind.u64.wrap ((r : Int) / (g : Int)) = ((r / g : Nat) : Int) := by
  have h1 : r / g ≤ r := Nat.div_le_self _ _
  have h2 : (r : Int) / (g : Int) = ((r / g : Nat) : Int) := by simp
  rw [h2]
  generalize r / g = q at h1
  exact IntWalk.u64_in _ ⟨by omega, by omega⟩

end Go.Proofs.Ytcfkhgpcamfecaa
