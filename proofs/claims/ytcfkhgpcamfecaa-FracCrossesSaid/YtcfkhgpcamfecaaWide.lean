/- Walks over package wide: Gcd, amount, times, Mul, zero. -/
import Derived.Test.YtcfkhgpcamfecaaBigInt
import Derived.Test.YtcfkhgpcamfecaaMul64
import Derived.Laws.StructEq
namespace Go.Proofs.Ytcfkhgpcamfecaa
open Go.RowKit Big
set_option linter.unusedVariables false
set_option maxRecDepth 100000

set_option maxHeartbeats 1000000 in
theorem gcd_any (a b : Nat) (w : World) (ha : a < 18446744073709551616) (hb : b < 18446744073709551616) :
    Calls Try.prog 10 #[.int .u64 (a : Int), .int .u64 (b : Int)] w fun e w' => e = .returned (.int .u64 ((Nat.gcd a b : Nat) : Int)) ∧ Below w.heap.size w w' := by
  obtain ⟨g, hg⟩ : ∃ g, g = Nat.gcd a b := ⟨_, rfl⟩
  rw [← hg]
  have Hg := Lib.hid hg
  clear hg
  go_enter Try.func10, Try.ntmps10
  go_wp2_with fail
  go_loopw [0, 1] (fun x y W => ∃ m n : Nat, x = .int .u64 (m : Int) ∧ y = .int .u64 (n : Int) ∧ m < 18446744073709551616 ∧ n < 18446744073709551616 ∧ Hid (g = Nat.gcd m n) ∧ Below w.heap.size w W) (fun _ y _ => (intOf y).toNat)
  case atStart => exact ⟨a, b, rfl, rfl, ha, hb, Hg, Below.refl _ _⟩
  case round =>
    obtain ⟨m, n, rfl, rfl, hm, hn, h, hbl⟩ := hrel
    clear Hg
    by_cases h0 : n = 0
    · subst h0
      go_wp2_with fail
      go_ret
      exact ⟨ret_int (by rw [h.out]; simp), hbl⟩
    · have hp : 0 < n := by omega
      have hl : m % n < n := Nat.mod_lt _ hp
      have hx : Hid (g = Nat.gcd n (m % n)) := by show _ = _; rw [h.out, Nat.gcd_comm m n, Nat.gcd_rec n m, Nat.gcd_comm]
      have hc : ((m : Int) % (n : Int)) = ((m % n : Nat) : Int) := by simp
      clear h0
      obtain ⟨r, hr⟩ : ∃ r, r = m % n := ⟨_, rfl⟩
      rw [← hr] at hl hx hc
      clear hr
      go_wp2_with fail
      go_quiet (fail)
      go_wp2_with fail
      go_roundw
      case rel => exact ⟨n, r, rfl, by rw [hc], hn, by omega, hx, Below.drawn hbl _⟩
      case measure => simp [intOf] <;> omega

theorem rgcd_any (b : Nat) : ∀ (a : Nat) (i : Int) (w : World), a < 18446744073709551616 → b < 18446744073709551616 → i = (b : Int) →
    Calls Try.prog 15 #[.int .u64 (a : Int), .int .u64 i] w fun e w' => e = .returned (.int .u64 ((Nat.gcd a b : Nat) : Int)) ∧ w = w' := by
  induction b using Nat.strongRecOn with
  | _ b ih =>
    intro a i w ha hb hi
    subst hi
    by_cases h0 : b = 0
    · subst h0
      clear ih
      go_enter Try.func15, Try.ntmps15
      go_wp2_with fail
      go_ret
      exact ⟨ret_int (by simp), rfl⟩
    · have hp : 0 < b := by omega
      have hl : a % b < b := Nat.mod_lt _ hp
      have hx : Nat.gcd b (a % b) = Nat.gcd a b := by rw [Nat.gcd_comm a b, Nat.gcd_rec b a, Nat.gcd_comm]
      have hrec := Lib.hid fun W i hi => ih (a % b) hl b i W hb (by omega) hi
      have hc : ((a : Int) % (b : Int)) = ((a % b : Nat) : Int) := by simp
      have hb0 : ((b : Int) == 0) = false := by simp; omega
      rw [hx] at hrec
      clear h0 ih hx
      generalize Nat.gcd a b = g at *
      generalize a % b = r at *
      go_enter Try.func15, Try.ntmps15
      go_wp2_with fail
      refine (hrec.out _ _ rfl).mono ?_
      rintro e w' ⟨rfl, rfl⟩
      go_wp2_with fail
      go_ret
      exact ⟨rfl, rfl⟩

set_option maxHeartbeats 1000000 in
theorem amount_any (z : Int) (w : World) (hz : -9223372036854775808 ≤ z ∧ z < 9223372036854775808) :
    Calls Try.prog 45 #[.int .i64 z] w fun e w' => e = .returned (.int .u64 (z.natAbs : Int)) ∧ w = w' := by
  by_cases h0 : z < 0
  · obtain ⟨N, hN⟩ : ∃ N : Nat, z = -(N : Int) := ⟨(-z).toNat, by omega⟩
    have hNl : N ≤ 9223372036854775808 := by omega
    have hN0 : 0 < N := by omega
    have he : Hid (IntKind.u64.wrap (-(IntKind.u64.wrap (-(N : Int)))) = (N : Int)) := by
      show _ = _
      simp [IntKind.wrap, IntKind.bits, IntKind.signed]
      omega
    subst hN
    rw [show ((-(N : Int)).natAbs : Int) = (N : Int) by omega]
    clear hz
    go_enter Try.func45, Try.ntmps45
    go_wp2_with fail
    go_ret
    exact ⟨ret_int he.out, rfl⟩
  · obtain ⟨N, hN⟩ : ∃ N : Nat, z = (N : Int) := ⟨z.toNat, by omega⟩
    have hNl : N < 9223372036854775808 := by omega
    subst hN
    rw [show ((N : Int).natAbs : Int) = (N : Int) by omega]
    clear hz h0
    go_enter Try.func45, Try.ntmps45
    go_wp2_with fail
    go_ret
    exact ⟨rfl, rfl⟩

/-- A product in two words. -/
def prod (p : Nat) : Value := .agg #[.int .u64 ((p / 18446744073709551616 : Nat) : Int), .int .u64 ((p % 18446744073709551616 : Nat) : Int)]

theorem prod_lt (a b : Nat) (ha : a < 18446744073709551616) (hb : b < 18446744073709551616) : a * b < 18446744073709551616 * 18446744073709551616 := Nat.mul_lt_mul'' ha hb

set_option maxHeartbeats 1000000 in
theorem times_any (a b : Nat) (w : World) (ha : a < 18446744073709551616) (hb : b < 18446744073709551616) :
    Calls Try.prog 42 #[.int .u64 (a : Int), .int .u64 (b : Int)] w fun e w' => e = .returned (prod (a * b)) ∧ Below w.heap.size w w' := by
  have hm := Lib.hid fun W => mul64_any a b ha hb W
  unfold prod
  clear ha hb
  generalize a * b / 18446744073709551616 = hi at *
  generalize a * b % 18446744073709551616 = lo at *
  go_enter Try.func42, Try.ntmps42
  go_wp2_with fail
  refine (hm.out _).mono ?_
  rintro e W ⟨rfl, rfl⟩
  go_wp2_with fail
  exact bodyPost_ret (v := .agg #[.int .u64 (hi : Int), .int .u64 (lo : Int)]) (by simp [results, Try.results42, go_sem]) rfl ⟨rfl, (Below.refl _ _).alloc (Nat.le_refl _) _⟩

theorem pair_of {W : World} {g : Nat} {t : TypeId} {u v : Value} (hA : Whole W g t #[u, v]) : W.cell? ⟨g, 0, none⟩ = some u ∧ W.cell? ⟨g, 1, none⟩ = some v := ⟨hA.cell 0, hA.cell 1⟩

set_option maxHeartbeats 1000000 in
theorem wmul_any (a b : Nat) (w : World) (ha : a < 18446744073709551616) (hb : b < 18446744073709551616) :
    Calls Try.prog 9 #[.int .u64 (a : Int), .int .u64 (b : Int)] w
      fun e w' => e = .returned (.tuple #[.int .u64 ((a * b / 18446744073709551616 : Nat) : Int), .int .u64 ((a * b % 18446744073709551616 : Nat) : Int)]) ∧ Below w.heap.size w w' := by
  have hm := Lib.hid fun W => times_any a b W ha hb
  unfold prod at hm
  clear ha hb
  generalize a * b / 18446744073709551616 = hi at *
  generalize a * b % 18446744073709551616 = lo at *
  go_enter Try.func9, Try.ntmps9
  go_wp2_with fail
  refine (hm.out _).mono ?_
  rintro e W ⟨rfl, hb⟩
  have hT := Whole.new W 70 #[.int .u64 (hi : Int), .int .u64 (lo : Int)]
  have hbT := below_then hb ((Below.refl _ _).alloc (Nat.le_refl _) (.cells #[.int .u64 (hi : Int), .int .u64 (lo : Int)] 70)) hb.size
  obtain ⟨W2, hW2⟩ : ∃ W2, W2 = W.alloc (.cells #[.int .u64 (hi : Int), .int .u64 (lo : Int)] 70) := ⟨_, rfl⟩
  obtain ⟨G, hG⟩ : ∃ G, G = W.heap.size := ⟨_, rfl⟩
  go_wp2_with fail
  rw [← hW2] at hT hbT ⊢
  rw [← hG] at hT ⊢
  obtain ⟨c0, c1⟩ := pair_of hT
  have Hb := Lib.hid hbT
  clear hT hbT hW2 hG hb
  go_quiet (fail)
  go_wp2_with fail
  go_ret2
  exact ⟨rfl, Below.drawn Hb.out _⟩

/-- Where the higher word is 0, the words' own quotient and remainder. -/
theorem div64_low (lo y : Nat) (w : World) (hl : lo < 18446744073709551616) (hy : y < 18446744073709551616) (h0 : 0 < y) :
    Calls Try.prog 49 #[.int .u64 0, .int .u64 (lo : Int), .int .u64 (y : Int)] w
      fun e w' => e = .returned (.tuple #[.int .u64 ((lo / y : Nat) : Int), .int .u64 ((lo % y : Nat) : Int)]) ∧ Below w.heap.size w w' := by
  have e1 : (((lo / y : Nat) : Int)) = (lo : Int) / (y : Int) := by simp
  have e2 : (((lo % y : Nat) : Int)) = (lo : Int) % (y : Int) := by simp
  rw [e1, e2]
  clear e1 e2
  have hy0 : ((y : Int) == 0) = false := by simp; omega
  have hy1 : ¬ ((y : Int) ≤ 0) := by omega
  go_enter Try.func49, Try.ntmps49
  have hq : Hid (IntKind.u64.wrap ((lo : Int) / (y : Int)) = (lo : Int) / (y : Int)) := by
    have h1 : lo / y ≤ lo := Nat.div_le_self _ _
    have h2 : (lo : Int) / (y : Int) = ((lo / y : Nat) : Int) := by simp
    show _ = _
    rw [h2]
    generalize lo / y = q at h1
    exact IntWalk.u64_in _ ⟨by omega, by omega⟩
  go_wp2_with fail
  go_quiet (fail)
  go_wp2_with fail
  go_ret2
  exact ⟨ret_ints hq.out rfl, Below.drawn (Below.refl _ _) _⟩

theorem code_any (n : Int) (w : World) : Calls Try.prog 23 #[.int .i64 n] w fun e w' => e = .returned (.int .i64 n) ∧ w = w' := by
  go_enter Try.func23, Try.ntmps23
  go_wp2_with fail
  go_ret
  exact ⟨rfl, rfl⟩

theorem eq_pair (a b c d : Int) (W : World) :
    (binOp .eql 70 (.agg #[.int .u64 a, .int .u64 b]) (.agg #[.int .u64 c, .int .u64 d])).run Try.prog W = .ok (.bool (a == c && b == d)) W := by
  have hu : Try.prog.underlying 70 = some (.array 2 22) := Try.underlying70
  have hs : (sizeOf 22).run Try.prog W = .ok 1 W := by kernel_rfl
  have hp0 : ∀ x y : Int, (part 22 #[.int .u64 x, .int .u64 y] 0).run Try.prog W = .ok (.int .u64 x) W := fun x y => by kernel_rfl
  have hp1 : ∀ x y : Int, (part 22 #[.int .u64 x, .int .u64 y] 1).run Try.prog W = .ok (.int .u64 y) W := fun x y => by kernel_rfl
  have hi : ∀ x y : Int, (Op.equalIn (9998 + 1) 22 (.int .u64 x) (.int .u64 y)).run Try.prog W = .ok (x == y) W := fun x y => run_equalIn_int W 9998 22 .u64 .u64 x y Try.underlying22
  rw [run_eql_struct]
  have : (Op.equalIn 10000 70 (.agg #[.int .u64 a, .int .u64 b]) (.agg #[.int .u64 c, .int .u64 d])).run Try.prog W = .ok (a == c && b == d) W := by
    show (Op.equalIn (9999 + 1) 70 (.agg #[.int .u64 a, .int .u64 b]) (.agg #[.int .u64 c, .int .u64 d])).run Try.prog W = _
    rw [Op.equalIn]
    simp only [Sem.run_bind, run_underlying hu, Result.andThen_ok, hs]
    simp [List.range', hp0, hp1, hi]
    by_cases h1 : a = c <;> by_cases h2 : b = d <;> simp [h1, h2]
  rw [this]
  rfl

theorem zero_any (hi lo : Nat) (w : World) (hh : hi < 18446744073709551616) (hl : lo < 18446744073709551616) :
    Calls Try.prog 50 #[.agg #[.int .u64 (hi : Int), .int .u64 (lo : Int)]] w fun e w' => e = .returned (.bool (((hi : Int) == 0) && ((lo : Int) == 0))) ∧ Below w.heap.size w w' := by
  have heq := eq_pair (hi : Int) (lo : Int) 0 0
  go_enter Try.func50, Try.ntmps50
  go_wp2_with fail
  go_ret
  exact ⟨rfl, (Below.refl _ _).alloc (Nat.le_refl _) _⟩
end Go.Proofs.Ytcfkhgpcamfecaa
