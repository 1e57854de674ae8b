/- BitBools -/
import Derived.Test.YtngnhkghpnamoaaGb23
import Derived.Test.YtngnhkghpnamoaaHWBits
namespace Go.Proofs.Ytngnhkghpnamoaa
open Go.RowKit Bit
set_option linter.unusedVariables false

def num : List Bool → Nat
  | [] => 0
  | b :: l => b.toNat + 2 * num l
theorem num_append (l r : List Bool) : num (l ++ r) = num l + num r * 2 ^ l.length := by
  induction l with
  | nil => simp [num]
  | cons b l ih => simp only [List.cons_append, num, ih, List.length_cons, Nat.pow_succ]; rw [← Nat.mul_assoc]; generalize num r * 2 ^ l.length = p; omega
theorem num_lt (l : List Bool) : num l < 2 ^ l.length := by
  induction l with
  | nil => simp [num]
  | cons b l ih => simp only [num, List.length_cons, Nat.pow_succ]; have := Bool.toNat_lt b; omega
def bitAt (V i : Nat) : Bool := V / 2 ^ i % 2 == 1
theorem bitAt_nat (V i : Nat) : (bitAt V i).toNat = V / 2 ^ i % 2 := by
  unfold bitAt
  rcases Nat.mod_two_eq_zero_or_one (V / 2 ^ i) with h | h <;> simp [h]
def lowL (V m : Nat) : List Bool := (List.range m).map (bitAt V)
theorem lowL_succ (V m : Nat) : lowL V (m + 1) = lowL V m ++ [bitAt V m] := by simp [lowL, List.range_succ]
theorem lowL_length (V m : Nat) : (lowL V m).length = m := by simp [lowL]
theorem num_low (V m : Nat) : num (lowL V m) = V % 2 ^ m := by
  induction m with
  | zero => simp [lowL, num, Nat.mod_one]
  | succ m ih =>
    rw [lowL_succ, num_append, ih, lowL_length, Nat.pow_succ, Nat.mod_mul]
    simp only [num, bitAt_nat]
    rw [Nat.mul_comm]; simp
def turnL (V m k : Nat) : List Bool := (List.range k).map fun i => bitAt V (m - 1 - i)
theorem turnL_succ (V m k : Nat) : turnL V m (k + 1) = turnL V m k ++ [bitAt V (m - 1 - k)] := by simp [turnL, List.range_succ]
theorem turnL_length (V m k : Nat) : (turnL V m k).length = k := by simp [turnL]
theorem num_turn (V m k : Nat) : num (turnL V m k) = turned V m k := by
  induction k with
  | zero => rfl
  | succ k ih =>
    rw [turnL_succ, num_append, ih, turnL_length]
    simp only [num, bitAt_nat, turned]
    simp
theorem turn_low (V m : Nat) : (lowL V m).reverse = turnL V m m := by
  apply List.ext_getElem
  · simp [lowL_length, turnL_length]
  · intro i h1 h2
    simp [lowL, turnL]


set_option maxHeartbeats 2000000 in
theorem low_any (V m : Nat) (w : World) (hV : V < 4294967296) (hm : m ≤ 32) :
    Calls Try.prog 35 #[.int .u32 (V : Int), .int .i64 (m : Int)] w
      fun e w' => ∃ v, e = .returned v ∧ w'.ownsRow w.heap.size 4 1 v m (bools (lowL V m)) ∧ Below w.heap.size w w' := by
  obtain ⟨i0, hi0, hz0, hz1, hz2⟩ := info_parts boolinfo
  go_enter Try.func35, Try.ntmps35
  go_wp2_with fail
  go_loopw [0, 5, 6] (fun x v i W => ∃ k : Nat, k ≤ m ∧ x = .int .u32 ((V / 2 ^ k : Nat) : Int) ∧ i = .int .i64 (k : Int) ∧ W.ownsRow w.heap.size 4 1 v k (bools (lowL V k)) ∧ Below w.heap.size w W) (fun _ _ i _ => m - (intOf i).toNat)
  case atStart => exact ⟨0, by omega, by simp, rfl, ⟨rfl, .inl ⟨rfl, rfl⟩⟩, Below.refl _ _⟩
  case round =>
    obtain ⟨k, hk, rfl, rfl, hown, hb⟩ := hrel
    by_cases hlt : k < m
    · have Hl1 : Hid (k + 1 ≤ maxLen) := by unfold Hid maxLen; omega
      have Hl2 : Hid ((k + 1) * 1 ≤ 140737488355328) := by unfold Hid; omega
      have hbs := hb.size
      have hx : V / 2 ^ k / 2 = V / 2 ^ (k + 1) := by rw [Nat.div_div_eq_div_mul, ← Nat.pow_succ]
      have hbit : (((V / 2 ^ k : Nat) : Int) % 2 == 1) = bitAt V k := by
        unfold bitAt
        rcases Nat.mod_two_eq_zero_or_one (V / 2 ^ k) with h | h
        · have : ((V / 2 ^ k : Nat) : Int) % 2 = 0 := by omega
          rw [h, this]; rfl
        · have : ((V / 2 ^ k : Nat) : Int) % 2 = 1 := by omega
          rw [h, this]; rfl
      have hx2 : ((V / 2 ^ k : Nat) : Int) / 2 = ((V / 2 ^ (k + 1) : Nat) : Int) := by rw [← hx]; omega
      have hls : bools (lowL V k) ++ [Value.bool (bitAt V k)] = bools (lowL V (k + 1)) := by rw [lowL_succ]; simp [bools]
      have hylt : V / 2 ^ (k + 1) < 4294967296 := Nat.lt_of_le_of_lt (Nat.div_le_self _ _) hV
      obtain ⟨y, hy⟩ : ∃ y, y = V / 2 ^ (k + 1) := ⟨_, rfl⟩
      rw [← hy] at hx2 hylt
      generalize V / 2 ^ k = x at *
      generalize bitAt V k = bb at *
      have Hls := Lib.hid hls
      have Hy := Lib.hid hy
      clear hls hx hy
      go_wp2_with (at_builtin; refine app_one rfl (.tmp 12) (.tmp 16) 61 rfl w.heap.size 4 i0 _ 1 Try.underlying61 hi0 hz0 hz1 hz2 rfl _ _ _ rfl hown _ 1 rfl rfl Hl1.out Hl2.out hbs ?_)
      intro v1 w1 h2 h3 _
      rw [Hls.out] at h2
      have hb2 := below_of_grown hb hown h3 hbs
      clear h3 hown hb
      go_wp2
      go_roundw
      case rel => exact ⟨k + 1, hlt, by rw [← Hy.out], by go_num, h2, hb2⟩
      case measure => simp [intOf]; omega
    · obtain rfl : k = m := by omega
      go_wp2_with fail
      go_ret
      exact ⟨_, rfl, hown, hb⟩

end Go.Proofs.Ytngnhkghpnamoaa
