/- Walks over layer 9: Zig, Zag. -/
import Derived.Test.YtohgdlhijgjdkaaU8
import Derived.Test.YtohgdlhijgjdkaaU32
import Derived.Laws.Bits64
import Derived.Laws.DeepNot64
namespace Go.Proofs.Ytohgdlhijgjdkaa
open Go.RowKit
set_option linter.unusedVariables false
set_option maxRecDepth 100000

def zig (n : Int) : Nat := if n < 0 then (2 * -(n + 1) + 1).toNat else (2 * n).toNat
def zag (v : Nat) : Int := if v % 2 = 1 then -((v / 2 : Nat) : Int) - 1 else ((v / 2 : Nat) : Int)
theorem zag_zig {n : Int} (h : -9223372036854775808 ≤ n ∧ n < 9223372036854775808) : zag (zig n) = n := by
  unfold zag zig; split <;> split <;> omega
theorem zig_lt {n : Int} (h : -9223372036854775808 ≤ n ∧ n < 9223372036854775808) : zig n < 18446744073709551616 := by unfold zig; split <;> omega

theorem ofInt_nat (a : Nat) (ha : a < 18446744073709551616) : (BitVec.ofInt 64 (a : Int)).toNat = a := by
  rw [BitVec.ofInt_natCast, BitVec.toNat_ofNat]; exact Nat.mod_eq_of_lt (by omega)
theorem xor_ones (a : Nat) (ha : a < 18446744073709551616) : bits .xor .u64 (a : Int) 18446744073709551615 = 18446744073709551615 - (a : Int) := by
  show IntKind.u64.wrap ((BitVec.ofInt 64 (a : Int) ^^^ BitVec.ofInt 64 18446744073709551615).toNat : Int) = _
  have h1 : BitVec.ofInt 64 18446744073709551615 = BitVec.allOnes 64 := by decide
  rw [h1, BitVec.xor_comm, BitVec.allOnes_xor, BitVec.toNat_not, ofInt_nat a ha, IntKind.wrap_u64]
  omega
theorem xor_none (a : Nat) (ha : a < 18446744073709551616) : bits .xor .u64 (a : Int) 0 = (a : Int) := by
  have := bits_xor_u64_nat a 0 ha (by omega)
  simpa using this
theorem xor_minus (a : Nat) (ha : a < 9223372036854775808) : bits .xor .i64 (a : Int) (-1) = -(a : Int) - 1 := by
  have h := i64_not a ha
  have e : bits .xor .i64 (a : Int) (-1) = bits .xor .i64 (-1) (a : Int) := by
    show IntKind.i64.wrap ((BitVec.ofInt 64 (a : Int) ^^^ BitVec.ofInt 64 (-1)).toNat : Int) = IntKind.i64.wrap ((BitVec.ofInt 64 (-1) ^^^ BitVec.ofInt 64 (a : Int)).toNat : Int)
    rw [BitVec.xor_comm]
  rw [e, h]; omega
theorem xor_nought (a : Nat) (ha : a < 9223372036854775808) : bits .xor .i64 (a : Int) 0 = (a : Int) := by
  show IntKind.i64.wrap ((BitVec.ofInt 64 (a : Int) ^^^ BitVec.ofInt 64 0).toNat : Int) = _
  have h1 : BitVec.ofInt 64 0 = 0#64 := by decide
  rw [h1, BitVec.xor_zero, ofInt_nat a (by omega)]
  exact IntWalk.i64_in _ ⟨by omega, by omega⟩

theorem zig_sum (n : Int) (h : -9223372036854775808 ≤ n ∧ n < 9223372036854775808) :
    bits .xor .u64 (IntKind.u64.wrap (IntKind.u64.wrap n * 2)) (IntKind.u64.wrap (n / 9223372036854775808)) = ((zig n : Nat) : Int) := by
  simp only [IntKind.wrap_u64]
  unfold zig
  split
  · next hn =>
    have e1 : n / 9223372036854775808 % 18446744073709551616 = 18446744073709551615 := by omega
    have e2 : n % 18446744073709551616 * 2 % 18446744073709551616 = ((2 * (n + 9223372036854775808)).toNat : Int) := by omega
    rw [e1, e2, xor_ones _ (by omega)]
    omega
  · next hn =>
    have e1 : n / 9223372036854775808 % 18446744073709551616 = 0 := by omega
    have e2 : n % 18446744073709551616 * 2 % 18446744073709551616 = ((2 * n).toNat : Int) := by omega
    rw [e1, e2, xor_none _ (by omega)]
theorem zag_sum (v : Nat) (h : v < 18446744073709551616) :
    bits .xor .i64 ((v : Int) / 2) (wrap64 (-wrap64 (bits .and .u64 (v : Int) 1))) = zag v := by
  have ha : bits .and .u64 (v : Int) 1 = ((v % 2 : Nat) : Int) := by
    rw [show (1 : Int) = ((1 : Nat) : Int) from rfl, u64_and_nat v 1 h (by omega), Nat.and_one_is_mod]
  have e2 : (v : Int) / 2 = ((v / 2 : Nat) : Int) := by omega
  rw [ha, e2]
  unfold zag
  split
  · next hn =>
    rw [hn, show wrap64 (-wrap64 ((1 : Nat) : Int)) = -1 by simp [wrap64], xor_minus _ (by omega)]
  · next hn =>
    rw [show v % 2 = 0 by omega, show wrap64 (-wrap64 ((0 : Nat) : Int)) = 0 by simp [wrap64], xor_nought _ (by omega)]

theorem zig_any (n : Int) (w : World) (h : -9223372036854775808 ≤ n ∧ n < 9223372036854775808) : Calls Try.prog 39 #[.int .i64 n] w fun e w' => e = .returned (.int .u64 ((zig n : Nat) : Int)) ∧ w = w' := by
  have H := Lib.hid (zig_sum n h)
  have h1 : -9223372036854775808 ≤ n := h.1
  have h2 : n < 9223372036854775808 := h.2
  clear h
  go_enter Try.func39, Try.ntmps39
  go_wp2_with fail
  go_ret
  exact ⟨ret_int H.out, rfl⟩
theorem zag_any (v : Nat) (w : World) (h : v < 18446744073709551616) : Calls Try.prog 40 #[.int .u64 (v : Int)] w fun e w' => e = .returned (.int .i64 (zag v)) ∧ w = w' := by
  have H := Lib.hid (zag_sum v h)
  go_enter Try.func40, Try.ntmps40
  go_wp2_with fail
  go_ret
  exact ⟨ret_int H.out, rfl⟩
theorem rzig_any (n : Int) (w : World) (h : -9223372036854775808 ≤ n ∧ n < 9223372036854775808) : Calls Try.prog 27 #[.int .i64 n] w fun e w' => e = .returned (.int .u64 ((zig n : Nat) : Int)) ∧ w = w' := by
  have h1 : -9223372036854775808 ≤ n := h.1
  have h2 : n < 9223372036854775808 := h.2
  clear h
  by_cases hn : n < 0
  · have H : Hid (2 * -(n + 1) + 1 = ((zig n : Nat) : Int)) := by show _ = _; unfold zig; rw [if_pos hn]; omega
    go_enter Try.func27, Try.ntmps27
    go_wp2_with fail
    go_ret
    exact ⟨ret_int H.out, rfl⟩
  · have H : Hid (2 * n = ((zig n : Nat) : Int)) := by show _ = _; unfold zig; rw [if_neg hn]; omega
    go_enter Try.func27, Try.ntmps27
    go_wp2_with fail
    go_ret
    exact ⟨ret_int H.out, rfl⟩
theorem rzag_any (v : Nat) (w : World) (h : v < 18446744073709551616) : Calls Try.prog 32 #[.int .u64 (v : Int)] w fun e w' => e = .returned (.int .i64 (zag v)) ∧ w = w' := by
  by_cases hn : v % 2 = 1
  · have H : Hid (-((v : Int) / 2) - 1 = zag v) := by show _ = _; unfold zag; rw [if_pos hn]; omega
    have hn' : ((v : Int) % 2 == 1) = true := by simp; omega
    clear hn
    go_enter Try.func32, Try.ntmps32
    go_wp2_with fail
    go_ret
    exact ⟨ret_int H.out, rfl⟩
  · have H : Hid ((v : Int) / 2 = zag v) := by show _ = _; unfold zag; rw [if_neg hn]; omega
    have hn' : ((v : Int) % 2 == 1) = false := by simp; omega
    clear hn
    go_enter Try.func32, Try.ntmps32
    go_wp2_with fail
    go_ret
    exact ⟨ret_int H.out, rfl⟩
end Go.Proofs.Ytohgdlhijgjdkaa
