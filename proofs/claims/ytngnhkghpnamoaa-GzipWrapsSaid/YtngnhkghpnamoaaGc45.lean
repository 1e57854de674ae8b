/- HuffRef1 HuffRef2 -/
import Derived.Test.YtngnhkghpnamoaaHuff3
import Derived.Test.YtngnhkghpnamoaaGc02
namespace Go.Proofs.Ytngnhkghpnamoaa
open Go.RowKit Huff
set_option linter.unusedVariables false
set_option maxRecDepth 100000

theorem half_pow (j : Nat) (h : j < 15) : ((2 ^ (15 - j) : Nat) : Int) / 2 = ((2 ^ (15 - (j + 1)) : Nat) : Int) := by
  obtain ⟨m, hm⟩ : ∃ m, 15 - j = m + 1 := ⟨14 - j, by omega⟩
  rw [hm, show 15 - (j + 1) = m by omega, Nat.pow_succ]
  omega
theorem pow_le15 (j : Nat) : 2 ^ (15 - j) ≤ 32768 := Nat.le_trans (Nat.pow_le_pow_right (by omega) (show 15 - j ≤ 15 by omega)) (by decide)
theorem kraft_big {zs : List Int} (h : 288 < zs.length) : kraft zs = (0, false) := by
  unfold kraft okL
  rw [if_neg]
  simp
  intro h2; omega
theorem kraft_not {zs : List Int} (h : okL zs = false) : kraft zs = (0, false) := by unfold kraft; rw [if_neg (by simp [h])]

theorem ones_take (l : List Nat) (k : Nat) (h : k < l.length) : ones (l.take (k + 1)) = ones (l.take k) + if l[k] = 1 then 1 else 0 := by
  rw [List.take_succ_eq_append_getElem h]
  unfold ones
  rw [List.filter_append, List.length_append]
  by_cases h1 : l[k] = 1 <;> simp [h1]
theorem ones_le (l : List Nat) : ones l ≤ l.length := List.length_filter_le _ _
end Go.Proofs.Ytngnhkghpnamoaa

namespace Go.Proofs.Ytngnhkghpnamoaa
open Go.RowKit Huff
set_option linter.unusedVariables false
set_option maxRecDepth 100000

theorem strOf_app (l m : List Nat) : strOf l ++ strOf m = strOf (l ++ m) := by
  apply ByteArray.ext
  simp [strOf, ByteArray.data_append]
theorem strOf_size (l : List Nat) : (strOf l).size = l.length := by simp [strOf, ByteArray.size]
theorem add_run (a b : ByteArray) (ha : a.size ≤ 10000000) (hb : b.size ≤ 10000000) (w : World) : (Op.stringOp .add a b).run Try.prog w = .ok (.string (a ++ b)) w := run_string_add_sum (P := Try.prog) (w := w) a b (by omega)
/-- The k low binary digits of v, the highest first. -/
def digs (v : Nat) : Nat → List Nat
  | 0 => []
  | k + 1 => [48 + v / 2 ^ k % 2] ++ digs v k
theorem digs_length (v : Nat) : ∀ k, (digs v k).length = k
  | 0 => rfl
  | k + 1 => by show ([48 + v / 2 ^ k % 2] ++ digs v k).length = _; rw [List.length_append, digs_length v k]; simp; omega
set_option maxHeartbeats 4000000 in
theorem digits_any (v n : Nat) (w : World) (hv : v < 1000000000) (hn : n ≤ 100) :
    Calls Try.prog 55 #[.int .i64 (v : Int), .int .i64 (n : Int)] w fun e w' => e = .returned (.string (strOf (digs v n))) ∧ w = w' := by
  go_enter Try.func55, Try.ntmps55
  go_wp2_with fail
  go_loop [0, 5, 6] (fun x s i => ∃ (k u : Nat) (O : ByteArray), k ≤ n ∧ i = .int .i64 (k : Int) ∧ x = .int .i64 (u : Int) ∧ s = .string O ∧ Hid (u = v / 2 ^ k) ∧ Hid (O = strOf (digs v k)) ∧ u < 1000000000) (fun _ _ i => n - (intOf i).toNat)
  case atStart => exact ⟨0, v, _, Nat.zero_le _, rfl, rfl, rfl, by show _ = _; simp, rfl, hv⟩
  case round =>
    obtain ⟨k, u, O, hk, rfl, rfl, rfl, hu, hO, hul⟩ := hrel
    by_cases hlt : k < n
    · have hOs : O.size ≤ 100 := by rw [hO.out, strOf_size, digs_length]; omega
      have Hu2 : Hid (u / 2 = v / 2 ^ (k + 1)) := by show _ = _; rw [hu.out, Nat.pow_succ, Nat.div_div_eq_div_mul]
      obtain ⟨q, hq⟩ : ∃ q, u / 2 = q := ⟨_, rfl⟩
      have hqi : (u : Int) / 2 = (q : Int) := by omega
      have d1 : decide ((k : Int) < (n : Int)) = true := decide_eq_true (by omega)
      have d2 : decide (k < n) = true := decide_eq_true hlt
      rw [hq] at Hu2
      have hql : q < 1000000000 := by omega
      have hmod : u % 2 = 0 ∨ u % 2 = 1 := by omega
      have HO2 : ∀ d, u % 2 = d → Hid (strOf [48 + d] ++ O = strOf (digs v (k + 1))) := fun d hd => by
        show _ = _
        rw [hO.out, strOf_app]
        show _ = strOf ([48 + v / 2 ^ k % 2] ++ digs v k)
        rw [← hu.out, hd]
      rcases hmod with h2 | h2
      · have HF := HO2 0 h2
        have hm : (u : Int) % 2 = 0 := by omega
        have hadd := add_run (strOf [48]) O (by decide) (by omega)
        rw [show strOf [48] = ⟨#[48]⟩ from rfl] at hadd HF
        clear HO2 hq h2 hu hO
        go_wp2_with fail
        go_round
        case rel => exact ⟨k + 1, q, _, by omega, by go_num, rfl, rfl, Hu2, HF.out.symm ▸ rfl, hql⟩
        case measure => simp [intOf]; omega
      · have HF := HO2 1 h2
        have hm : (u : Int) % 2 = 1 := by omega
        have hadd := add_run (strOf [49]) O (by decide) (by omega)
        rw [show strOf [49] = ⟨#[49]⟩ from rfl] at hadd
        clear HO2 hq h2 hu hO
        go_wp2_with fail
        go_round
        case rel => exact ⟨k + 1, q, _, by omega, by go_num, rfl, rfl, Hu2, HF.out.symm ▸ rfl, hql⟩
        case measure => simp [intOf]; omega
    · obtain rfl : k = n := by omega
      have d1 : decide ((k : Int) < (k : Int)) = false := decide_eq_false (by omega)
      have d2 : decide (k < k) = false := decide_eq_false (by omega)
      have e := hO.out
      subst e
      clear hlt
      go_wp2_with fail
      go_ret
      exact ⟨rfl, rfl⟩
end Go.Proofs.Ytngnhkghpnamoaa
