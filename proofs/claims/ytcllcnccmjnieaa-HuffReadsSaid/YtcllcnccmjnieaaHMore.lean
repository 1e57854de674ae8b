/- Walks over layer 1: the reader's At, a read that is too short, the reference's Bits. -/
import Derived.Test.YtcllcnccmjnieaaHRead
namespace Go.Proofs.Ytcllcnccmjnieaa
open Go.RowKit Bit
set_option linter.unusedVariables false
set_option maxRecDepth 100000

def bools (l : List Bool) : List Value := l.map Value.bool
theorem boolinfo : (Try.prog.info? 4).map (fun i => (i.zero, i.size, i.bytes)) = some (some (.bool false), 1, 1) := by kernel_rfl
/-- The first n bits of the bytes l, from bit p on. -/
def bitsFrom (l : List Nat) (p n : Nat) : List Bool := (List.range n).map fun k => bitOf l (p + k) == 1
theorem bitsFrom_succ (l : List Nat) (p n : Nat) : bitsFrom l p (n + 1) = bitsFrom l p n ++ [bitOf l (p + n) == 1] := by simp [bitsFrom, List.range_succ]
theorem bitsFrom_length (l : List Nat) (p n : Nat) : (bitsFrom l p n).length = n := by simp [bitsFrom]
theorem bitsFrom_get (l : List Nat) (p n k : Nat) (h : k < n) : (bitsFrom l p n)[k]? = some (bitOf l (p + k) == 1) := by simp [bitsFrom, h]
set_option maxHeartbeats 4000000 in
theorem refBits_any (a : Option Addr) (c : Nat) (l : List Nat) (w : World) (h : Nums .u8 w w.heap.size a l) (hl : l.length ≤ 1000) (hd : ∀ x ∈ l, x < 256) :
    Calls Try.prog 17 #[.slice a l.length c] w
      fun e w' => ∃ v, e = .returned v ∧ w'.ownsRow w.heap.size 4 1 v (8 * l.length) (bools (bitsFrom l 0 (8 * l.length))) ∧ Below w.heap.size w w' := by
  obtain ⟨i0, hi0, hz0, hz1, hz2⟩ := info_parts boolinfo
  have hcell : Hid (∀ i, i < l.length → ∃ b off, a = some ⟨b, off, none⟩ ∧ b < w.heap.size ∧ w.cell? ⟨b, off + i, none⟩ = some (.int .u8 ((l.getD i 0 : Nat) : Int)) ∧ l.getD i 0 < 256) := fun i hi => by
    obtain ⟨b, off, e, hb, hc⟩ := h (by omega)
    refine ⟨b, off, e, hb, hc i hi, ?_⟩
    simp only [List.getD_eq_getElem?_getD, List.getElem?_eq_getElem hi, Option.getD_some]
    exact hd _ (List.getElem_mem hi)
  have hbit : Hid (∀ i k, k < 8 → bitOf l (8 * i + k) = l.getD i 0 / 2 ^ k % 2) := fun i k hk => by
    unfold bitOf
    rw [show (8 * i + k) / 8 = i by omega, show (8 * i + k) % 8 = k by omega]
  obtain ⟨L, hL⟩ : ∃ L, L = l.length := ⟨_, rfl⟩
  rw [← hL] at hl hcell ⊢
  clear h hd hL
  go_enter Try.func17, Try.ntmps17
  go_wp2_with fail
  go_loopw [3, 4] (fun v i W => ∃ k : Nat, k ≤ L ∧ i = .int .i64 (k : Int) ∧ W.ownsRow w.heap.size 4 1 v (8 * k) (bools (bitsFrom l 0 (8 * k))) ∧ Hid (Below w.heap.size w W)) (fun _ i _ => L - (intOf i).toNat)
  case atStart => exact ⟨0, by omega, rfl, ⟨rfl, .inl ⟨rfl, rfl⟩⟩, Below.refl _ _⟩
  case round =>
    obtain ⟨k, hk, rfl, hown, hb⟩ := hrel
    by_cases hlt : k < L
    · obtain ⟨b, off, rfl, hlb, hc, hx⟩ := hcell.out k hlt
      have hcW : wr.cell? ⟨b, off + k, none⟩ = some (.int .u8 ((l.getD k 0 : Nat) : Int)) := (hb.out.cell hlb).trans hc
      have Hbit := Lib.hid (hbit.out k)
      generalize l.getD k 0 = x at *
      clear hc
      obtain ⟨wo, hwo⟩ : ∃ wo : World, wo = wr := ⟨_, rfl⟩
      rw [← hwo] at hown hb hcW ⊢
      clear hwo
      go_wp2_with fail
      clear hcW
      go_loopw [3, 5, 6] (fun v cc j W => ∃ q : Nat, q ≤ 8 ∧ j = .int .i64 (q : Int) ∧ cc = .int .i64 ((x / 2 ^ q : Nat) : Int) ∧ W.ownsRow w.heap.size 4 1 v (8 * k + q) (bools (bitsFrom l 0 (8 * k + q))) ∧ Hid (Below w.heap.size w W)) (fun _ _ j _ => 8 - (intOf j).toNat)
      case atStart => exact ⟨0, by omega, rfl, by simp, hown, hb⟩
      case round =>
        obtain ⟨q, hq, rfl, rfl, hown2, hb2⟩ := hrel
        clear hown hb
        by_cases hlq : q < 8
        · have hbs := hb2.out.size
          have Hl1 : Hid (8 * k + q + 1 ≤ maxLen) := by unfold Hid maxLen; omega
          have Hl2 : Hid ((8 * k + q + 1) * 1 ≤ 140737488355328) := by unfold Hid; omega
          have hyl : x / 2 ^ q < 256 := Nat.lt_of_le_of_lt (Nat.div_le_self _ _) hx
          have hnx : Hid (x / 2 ^ (q + 1) = x / 2 ^ q / 2) := by show _ = _; rw [Nat.div_div_eq_div_mul, ← Nat.pow_succ]
          have hb1 := Hbit.out q hlq
          obtain ⟨y, hy⟩ : ∃ y, y = x / 2 ^ q := ⟨_, rfl⟩
          rw [← hy] at hnx hyl hb1 ⊢
          have hbv : ((y : Int) % 2 == 1) = (bitOf l (0 + (8 * k + q)) == 1) := by
            rw [Nat.zero_add, hb1]
            rcases Nat.mod_two_eq_zero_or_one y with h | h
            · have : (y : Int) % 2 = 0 := by omega
              rw [h, this]; rfl
            · have : (y : Int) % 2 = 1 := by omega
              rw [h, this]; rfl
          have Hls : Hid (bools (bitsFrom l 0 (8 * k + q)) ++ [Value.bool ((y : Int) % 2 == 1)] = bools (bitsFrom l 0 (8 * k + q + 1))) := by
            show _ = _
            rw [hbv, bitsFrom_succ]
            simp [bools]
          have hy2 : Hid ((y : Int) / 2 = ((y / 2 : Nat) : Int)) := by show _ = _; omega
          clear hy hb1 hbv
          go_wp2_with (at_builtin; refine app_one rfl (.tmp 22) (.tmp 26) 46 rfl w.heap.size 4 i0 _ 1 Try.underlying46 hi0 hz0 hz1 hz2 rfl _ _ _ rfl hown2 _ 1 rfl rfl Hl1.out Hl2.out hbs ?_)
          intro v1 w1 h2 h3 _
          rw [Hls.out] at h2
          have Hb3 := Lib.hid (below_of_grown hb2.out hown2 h3 hbs)
          clear h3 hown2 hb2
          go_wp2
          go_roundw
          case rel => exact ⟨q + 1, hlq, by go_num, by rw [hnx.out, ← hy2.out], h2, Hb3.out⟩
          case measure => simp [intOf] <;> omega
        · obtain rfl : q = 8 := by omega
          have hown3 : wr.ownsRow w.heap.size 4 1 u3 (8 * (k + 1)) (bools (bitsFrom l 0 (8 * (k + 1)))) := by
            rw [Nat.mul_add]; exact hown2
          have Hown := Lib.hid hown3
          clear hown2 hown3
          go_wp2_with fail
          go_roundw
          case rel => exact ⟨k + 1, hlt, by go_num, Hown.out, hb2.out⟩
          case measure => simp [intOf] <;> omega
    · obtain rfl : k = L := by omega
      have Hown := Lib.hid hown
      clear hown
      go_wp2_with fail
      go_ret
      exact ⟨_, rfl, Hown.out, hb.out⟩

theorem at_any (g : Nat) (a : Option Addr) (c : Nat) (l : List Nat) (p : Nat) (w : World) (h : Rd w g a c l p) :
    Calls Try.prog 21 #[.pointer (some ⟨g, 0, none⟩)] w fun e w' => e = .returned (.int .i64 (p : Int)) ∧ w = w' := by
  have c1 : w.cell? ⟨g, 1, none⟩ = some (.int .i64 (p : Int)) := h.1.cell 1
  clear h
  go_enter Try.func21, Try.ntmps21
  go_wp2_with fail
  go_ret
  exact ⟨rfl, rfl⟩

theorem rbits_short (g : Nat) (a : Option Addr) (c : Nat) (l : List Nat) (p m : Nat) (w : World) (h : Rd w g a c l p) (hl : l.length ≤ 1000000) (hm : m ≤ 32) (hp : p ≤ 8 * l.length) (hs : 8 * l.length - p < m) :
    Calls Try.prog 33 #[.pointer (some ⟨g, 0, none⟩), .int .i64 (m : Int)] w fun e w' => e = .returned (.tuple #[.int .u32 0, .int .i64 2]) ∧ Below w.heap.size w w' := by
  have Hleft := Lib.hid (left_any g a c l p w h hl hp)
  clear h hp
  go_enter Try.func33, Try.ntmps33
  go_wp2_with fail
  refine Hleft.out.mono ?_
  rintro e W ⟨rfl, hb⟩
  have Hb := Lib.hid hb
  clear hb
  go_wp2_with fail
  go_ret2
  exact ⟨rfl, Hb.out⟩

end Go.Proofs.Ytcllcnccmjnieaa
