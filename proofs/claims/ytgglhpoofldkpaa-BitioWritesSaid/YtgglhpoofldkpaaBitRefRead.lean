/- Layer 1: the reference's Bits and Number; the reader's other methods. -/
import Derived.Test.YtgglhpoofldkpaaBitRead
import Derived.Test.YtgglhpoofldkpaaBitBools
namespace Go.Proofs.Ytgglhpoofldkpaa
open Go.RowKit Bit
set_option linter.unusedVariables false
set_option maxRecDepth 100000

/-- The first n bits of the bytes l, from bit p on. -/
def bitsFrom (l : List Nat) (p n : Nat) : List Bool := (List.range n).map fun k => bitOf l (p + k) == 1
theorem bitsFrom_succ (l : List Nat) (p n : Nat) : bitsFrom l p (n + 1) = bitsFrom l p n ++ [bitOf l (p + n) == 1] := by simp [bitsFrom, List.range_succ]
theorem bitsFrom_length (l : List Nat) (p n : Nat) : (bitsFrom l p n).length = n := by simp [bitsFrom]
theorem bitsFrom_get (l : List Nat) (p n k : Nat) (h : k < n) : (bitsFrom l p n)[k]? = some (bitOf l (p + k) == 1) := by simp [bitsFrom, h]
theorem num_bits (l : List Nat) (p m : Nat) : num (bitsFrom l p m) = valOf l p m := by
  induction m with
  | zero => simp [bitsFrom, num, valOf]
  | succ m ih =>
    rw [bitsFrom_succ, num_append, ih, bitsFrom_length]
    simp only [num, valOf]
    have := bitOf_lt l (p + m)
    have h : bitOf l (p + m) = 0 ∨ bitOf l (p + m) = 1 := by omega
    rcases h with h | h <;> simp [h]

set_option maxHeartbeats 4000000 in
theorem refBits_any (a : Option Addr) (c : Nat) (l : List Nat) (w : World) (h : Nums .u8 w w.heap.size a l) (hl : l.length ≤ 1000) (hd : ∀ x ∈ l, x < 256) :
    Calls Try.prog 9 #[.slice a l.length c] w
      fun e w' => ∃ v, e = .returned v ∧ w'.ownsRow w.heap.size 4 1 v (8 * l.length) (bools (bitsFrom l 0 (8 * l.length))) ∧ Below w.heap.size w w' := by
  obtain ⟨i0, hi0, hz0, hz1, hz2⟩ := info_parts boolinfo
  have hcell : Hid (∀ i, i < l.length → ∃ b off, a = some ⟨b, off, none⟩ ∧ b < w.heap.size ∧ w.cell? ⟨b, off + i, none⟩ = some (.int .u8 ((l.getD i 0 : Nat) : Int)) ∧ l.getD i 0 < 256) := fun i hi => by
    obtain ⟨b, off, e, hb, hc⟩ := h (by omega)
    refine ⟨b, off, e, hb, hc i hi, ?_⟩
    simp only [List.getD_eq_getElem?_getD, List.getElem?_eq_getElem hi, Option.getD_some]
    exact hd _ (List.getElem_mem hi)
  have hbit : Hid (∀ i k, k < 8 → bitOf l (8 * i + k) = l.getD i 0 / 2 ^ k % 2) := fun i k hk => by
    unfold bitOf
    rw [show (8 * i + k) / 8 = i by omega, show (8 * i + k) % 8 = k by omega]
  obtain ⟨L, hL⟩ : ∃ L, L = l.length := ⟨_, rfl⟩
  rw [← hL] at hl hcell ⊢
  clear h hd hL
  go_enter Try.func9, Try.ntmps9
  go_wp2_with fail
  go_loopw [3, 4] (fun v i W => ∃ k : Nat, k ≤ L ∧ i = .int .i64 (k : Int) ∧ W.ownsRow w.heap.size 4 1 v (8 * k) (bools (bitsFrom l 0 (8 * k))) ∧ Hid (Below w.heap.size w W)) (fun _ i _ => L - (intOf i).toNat)
  case atStart => exact ⟨0, by omega, rfl, ⟨rfl, .inl ⟨rfl, rfl⟩⟩, Below.refl _ _⟩
  case round =>
    obtain ⟨k, hk, rfl, hown, hb⟩ := hrel
    by_cases hlt : k < L
    · obtain ⟨b, off, rfl, hlb, hc, hx⟩ := hcell.out k hlt
      have hcW : wr.cell? ⟨b, off + k, none⟩ = some (.int .u8 ((l.getD k 0 : Nat) : Int)) := (hb.out.cell hlb).trans hc
      have Hbit := Lib.hid (hbit.out k)
      generalize l.getD k 0 = x at *
      clear hc
      obtain ⟨wo, hwo⟩ : ∃ wo : World, wo = wr := ⟨_, rfl⟩
      rw [← hwo] at hown hb hcW ⊢
      clear hwo
      go_wp2_with fail
      clear hcW
      go_loopw [3, 5, 6] (fun v cc j W => ∃ q : Nat, q ≤ 8 ∧ j = .int .i64 (q : Int) ∧ cc = .int .i64 ((x / 2 ^ q : Nat) : Int) ∧ W.ownsRow w.heap.size 4 1 v (8 * k + q) (bools (bitsFrom l 0 (8 * k + q))) ∧ Hid (Below w.heap.size w W)) (fun _ _ j _ => 8 - (intOf j).toNat)
      case atStart => exact ⟨0, by omega, rfl, by simp, hown, hb⟩
      case round =>
        obtain ⟨q, hq, rfl, rfl, hown2, hb2⟩ := hrel
        clear hown hb
        by_cases hlq : q < 8
        · have hbs := hb2.out.size
          have Hl1 : Hid (8 * k + q + 1 ≤ maxLen) := by unfold Hid maxLen; omega
          have Hl2 : Hid ((8 * k + q + 1) * 1 ≤ 140737488355328) := by unfold Hid; omega
          have hyl : x / 2 ^ q < 256 := Nat.lt_of_le_of_lt (Nat.div_le_self _ _) hx
          have hnx : Hid (x / 2 ^ (q + 1) = x / 2 ^ q / 2) := by show _ = _; rw [Nat.div_div_eq_div_mul, ← Nat.pow_succ]
          have hb1 := Hbit.out q hlq
          obtain ⟨y, hy⟩ : ∃ y, y = x / 2 ^ q := ⟨_, rfl⟩
          rw [← hy] at hnx hyl hb1 ⊢
          have hbv : ((y : Int) % 2 == 1) = (bitOf l (0 + (8 * k + q)) == 1) := by
            rw [Nat.zero_add, hb1]
            rcases Nat.mod_two_eq_zero_or_one y with h | h
            · have : (y : Int) % 2 = 0 := by omega
              rw [h, this]; rfl
            · have : (y : Int) % 2 = 1 := by omega
              rw [h, this]; rfl
          have Hls : Hid (bools (bitsFrom l 0 (8 * k + q)) ++ [Value.bool ((y : Int) % 2 == 1)] = bools (bitsFrom l 0 (8 * k + q + 1))) := by
            show _ = _
            rw [hbv, bitsFrom_succ]
            simp [bools]
          have hy2 : Hid ((y : Int) / 2 = ((y / 2 : Nat) : Int)) := by show _ = _; omega
          clear hy hb1 hbv
          go_wp2_with (at_builtin; refine app_one rfl (.tmp 22) (.tmp 26) 27 rfl w.heap.size 4 i0 _ 1 Try.underlying27 hi0 hz0 hz1 hz2 rfl _ _ _ rfl hown2 _ 1 rfl rfl Hl1.out Hl2.out hbs ?_)
          intro v1 w1 h2 h3 _
          rw [Hls.out] at h2
          have Hb3 := Lib.hid (below_of_grown hb2.out hown2 h3 hbs)
          clear h3 hown2 hb2
          go_wp2
          go_roundw
          case rel => exact ⟨q + 1, hlq, by go_num, by rw [hnx.out, ← hy2.out], h2, Hb3.out⟩
          case measure => simp [intOf] <;> omega
        · obtain rfl : q = 8 := by omega
          have hown3 : wr.ownsRow w.heap.size 4 1 u3 (8 * (k + 1)) (bools (bitsFrom l 0 (8 * (k + 1)))) := by
            rw [Nat.mul_add]; exact hown2
          have Hown := Lib.hid hown3
          clear hown2 hown3
          go_wp2_with fail
          go_roundw
          case rel => exact ⟨k + 1, hlt, by go_num, Hown.out, hb2.out⟩
          case measure => simp [intOf] <;> omega
    · obtain rfl : k = L := by omega
      have Hown := Lib.hid hown
      clear hown
      go_wp2_with fail
      go_ret
      exact ⟨_, rfl, Hown.out, hb.out⟩

theorem num_drop (xs : List Bool) (i : Nat) (h : i < xs.length) : num (xs.drop i) = (xs[i]?.getD false).toNat + 2 * num (xs.drop (i + 1)) := by
  rw [List.drop_eq_getElem_cons h]
  simp [num, List.getElem?_eq_getElem h]

set_option maxHeartbeats 2000000 in
theorem refNumber_any (xs : List Bool) (a : Option Addr) (c : Nat) (w : World) (h : Vals w w.heap.size 1 a xs.length (bools xs)) (hl : xs.length ≤ 32) :
    Calls Try.prog 12 #[.slice a xs.length c] w fun e w' => e = .returned (.int .u32 ((num xs : Nat) : Int)) ∧ w = w' := by
  obtain ⟨m, hm⟩ : ∃ m, m = xs.length := ⟨_, rfl⟩
  have hcell : Hid (∀ i, i < m → ∃ b off, a = some ⟨b, off, none⟩ ∧ w.cell? ⟨b, off + i, none⟩ = some (.bool (xs[i]?.getD false))) := fun i hi => by
    obtain ⟨hl1, h1⟩ := h
    have hlen : (bools xs).length = m := by rw [hm]; simp [bools]
    obtain ⟨b, off, rfl, hb, h2⟩ := h1 (by omega)
    refine ⟨b, off, rfl, ?_⟩
    rw [h2 i (by omega)]
    simp [bools, List.getElem?_eq_getElem (show i < xs.length by omega)]
  have hstep : Hid (∀ i, i < m → num (xs.drop i) = (xs[i]?.getD false).toNat + 2 * num (xs.drop (i + 1))) := fun i hi => num_drop xs i (by omega)
  have hend : Hid (num (xs.drop m) = 0) := by show _ = _; rw [List.drop_eq_nil_of_le (by omega)]; rfl
  have hbig : Hid (∀ i, i ≤ m → num (xs.drop i) < 2 ^ (m - i)) := fun i hi => by
    have := num_lt (xs.drop i)
    rwa [List.length_drop, ← hm] at this
  have h0 : Hid (num (xs.drop 0) = num xs) := by show _ = _; simp
  rw [← hm] at hl ⊢
  clear hm h
  go_enter Try.func12, Try.ntmps12
  have hwr : IntKind.i64.wrap ((m : Int) - 1) = (m : Int) - 1 := IntWalk.i64_in _ ⟨by omega, by omega⟩
  go_wp2_with fail
  clear hwr
  go_loop [3, 4] (fun v i => ∃ k : Nat, k ≤ m ∧ i = .int .i64 ((k : Int) - 1) ∧ v = .int .u32 ((num (xs.drop k) : Nat) : Int)) (fun _ i => (intOf i + 1).toNat)
  case atStart => exact ⟨m, Nat.le_refl _, rfl, by rw [hend.out]; rfl⟩
  case round =>
    obtain ⟨k, hk, rfl, rfl⟩ := hrel
    by_cases hk0 : k = 0
    · subst hk0
      rw [show (((0 : Nat) : Int) - 1) = -1 from rfl]
      clear hcell hstep hend hbig
      go_wp2_with fail
      go_ret
      exact ⟨by rw [← h0.out]; rfl, rfl⟩
    · obtain ⟨j, hj⟩ : ∃ j, k = j + 1 := ⟨k - 1, by omega⟩
      obtain ⟨b, off, rfl, hc⟩ := hcell.out j (by omega)
      have hs := hstep.out j (by omega)
      have hlt := hbig.out j (by omega)
      rw [← hj] at hs
      have hp : 2 ^ (m - j) ≤ 4294967296 := by
        have := Nat.pow_le_pow_right (n := 2) (by omega) (show m - j ≤ 32 by omega)
        simpa using this
      have hji : (k : Int) - 1 = (j : Int) := by omega
      have hj0 : (0 : Int) ≤ (j : Int) := by omega
      have hj1 : (j : Int) < (m : Int) := by omega
      have hwj : IntKind.i64.wrap ((j : Int) - 1) = (j : Int) - 1 := IntWalk.i64_in _ ⟨by omega, by omega⟩
      generalize hbb : xs[j]?.getD false = bb at *
      obtain ⟨z, hz⟩ : ∃ z, z = num (xs.drop k) := ⟨_, rfl⟩
      obtain ⟨y, hy⟩ : ∃ y, y = num (xs.drop j) := ⟨_, rfl⟩
      rw [← hz, ← hy] at hs
      rw [← hy] at hlt
      rw [← hz, hji]
      have Hy := Lib.hid hy
      have HJ := Lib.hid hj
      clear hj hji hk0 hz hy hbb hstep hend hbig hcell
      cases bb
      · have hyz : y = 2 * z := by simpa using hs
        have hzl : 2 * z < 4294967296 := by omega
        have Hyz := Lib.hid hyz
        clear hs hyz hlt hp
        go_wp2_with fail
        go_round
        case rel => exact ⟨j, by have := HJ.out; omega, rfl, by rw [← Hy.out, Hyz.out]; simp⟩
        case measure => have := HJ.out; simp [intOf] <;> omega
      · have hyz : y = 1 + 2 * z := by simpa using hs
        have hzl : 2 * z + 1 < 4294967296 := by omega
        have Hyz := Lib.hid hyz
        clear hs hyz hlt hp
        go_wp2_with fail
        go_round
        case rel => exact ⟨j, by have := HJ.out; omega, rfl, by rw [← Hy.out, Hyz.out]; exact congrArg (Value.int .u32) (by omega)⟩
        case measure => have := HJ.out; simp [intOf] <;> omega
end Go.Proofs.Ytgglhpoofldkpaa
