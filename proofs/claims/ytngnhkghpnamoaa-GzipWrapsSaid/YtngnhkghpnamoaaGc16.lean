/- HBits HBytes -/
import Derived.Test.YtngnhkghpnamoaaHPut
namespace Go.Proofs.Ytngnhkghpnamoaa
open Go.RowKit Bit
set_option linter.unusedVariables false

theorem check_ok (g n : Nat) (w : World) (hn : n ≤ 32) : Calls Try.prog 64 #[.pointer (some ⟨g, 0, none⟩), .int .i64 (n : Int)] w
    fun e w' => e = .returned (.int .i64 0) ∧ w = w' := by
  have h1 : ¬ ((n : Int) < 0) := by omega
  have h2 : ¬ (32 < n) := by omega
  go_enter Try.func64, Try.ntmps64
  go_wp2_with fail
  go_ret
  exact ⟨rfl, rfl⟩
theorem check_nil (n : Int) (w : World) (hn : -9223372036854775808 ≤ n ∧ n < 9223372036854775808) : Calls Try.prog 64 #[.pointer none, .int .i64 n] w
    fun e w' => e = .returned (.int .i64 7) ∧ w = w' := by
  go_enter Try.func64, Try.ntmps64
  go_wp2_with fail
  go_ret
  exact ⟨rfl, rfl⟩

/-- What the writer holds and has touched since the world w. -/
def Grew (w : World) (g : Nat) (v : Value) (M m : Nat) (W : World) : Prop :=
  ∃ v', Wr W g v' M m ∧ Only (touch g v) w W ∧ (v'.ownBlock = v.ownBlock ∨ ∃ k, v'.ownBlock = some k ∧ w.heap.size ≤ k)

theorem Grew.start {w : World} {g : Nat} {v : Value} {N n : Nat} (h : Wr w g v N n) : Grew w g v N n w := ⟨v, h, Only.refl _ _, .inl rfl⟩

theorem Grew.next {w W W' : World} {g : Nat} {v v' v'' : Value} {M m : Nat} (ho : Only (touch g v) w W) (hat : v'.ownBlock = v.ownBlock ∨ ∃ k, v'.ownBlock = some k ∧ w.heap.size ≤ k)
    (h : Wr W' g v'' M m) (ho' : Only (touch g v') W W') (hat' : v''.ownBlock = v'.ownBlock ∨ ∃ k, v''.ownBlock = some k ∧ W.heap.size ≤ k) : Grew w g v M m W' := by
  refine ⟨v'', h, ho.trans ho' ?_, ?_⟩
  · rintro b hb (e | e)
    · exact .inl e
    · rcases hat with h1 | ⟨k, h1, h2⟩
      · exact .inr (by rw [← h1]; exact e)
      · rw [h1] at e; injection e with e; omega
  · rcases hat' with e | ⟨k, e, hk⟩
    · rcases hat with h1 | ⟨k, h1, h2⟩
      · exact .inl (by rw [e, h1])
      · exact .inr ⟨k, by rw [e, h1], h2⟩
    · exact .inr ⟨k, e, Nat.le_trans ho.size hk⟩

/-- The m low bits of V, the highest of them first, as a number: its first k bits. -/
def turned (V m : Nat) : Nat → Nat
  | 0 => 0
  | k + 1 => turned V m k + V / 2 ^ (m - 1 - k) % 2 * 2 ^ k
theorem turned_step (N n V m k : Nat) : N + turned V m k * 2 ^ n + V / 2 ^ (m - 1 - k) % 2 * 2 ^ (n + k) = N + turned V m (k + 1) * 2 ^ n := by
  simp only [turned]
  rw [Nat.add_mul, Nat.pow_add, Nat.add_assoc, Nat.mul_assoc, Nat.mul_comm (2 ^ n)]

set_option maxHeartbeats 2000000 in
theorem wturned_ok (g N n V m : Nat) (v : Value) (w : World) (h : Wr w g v N n) (hn : n < 1000000000000) (hV : V < 4294967296) (hm : m ≤ 32) :
    Calls Try.prog 46 #[.pointer (some ⟨g, 0, none⟩), .int .u32 (V : Int), .int .i64 (m : Int)] w
      fun e w' => e = .returned (.int .i64 0) ∧ Grew w g v (N + turned V m m * 2 ^ n) (n + m) w' := by
  go_enter Try.func46, Try.ntmps46
  go_wp2_with (go_at_call 64; refine (check_ok g m _ hm).mono ?_; rintro e w' ⟨rfl, rfl⟩)
  go_loopw [16] (fun i W => ∃ k : Nat, k ≤ m ∧ i = .int .i64 (k : Int) ∧ Grew w g v (N + turned V m k * 2 ^ n) (n + k) W) (fun i _ => m - (intOf i).toNat)
  case atStart => exact ⟨0, by omega, rfl, by simpa [turned] using Grew.start h⟩
  case round =>
    obtain ⟨k, hk, rfl, v', hw, ho, hat⟩ := hrel
    by_cases hlt : k < m
    · obtain ⟨j, hj⟩ : ∃ j, j = m - 1 - k := ⟨_, rfl⟩
      have hVk : V / 2 ^ j < 4294967296 := Nat.lt_of_le_of_lt (Nat.div_le_self _ _) hV
      have hp := put_any g (N + turned V m k * 2 ^ n) (n + k) (V / 2 ^ j) v' _ hw (by omega) hVk
      rw [hj, turned_step, ← hj, Int.natCast_ediv, Int.natCast_pow] at hp
      have hji : (m : Int) - 1 - (k : Int) = (j : Int) := by omega
      clear hj
      go_wp2_with (go_at_call 65; refine hp.mono ?_; rintro e w' ⟨rfl, v'', hw', ho', hat'⟩)
      go_roundw
      case rel => exact ⟨k + 1, hlt, by go_num, Grew.next ho hat hw' ho' hat'⟩
      case measure => simp [intOf]; omega
    · obtain rfl : k = m := by omega
      go_wp2_with fail
      go_ret
      exact ⟨rfl, v', hw, ho, hat⟩
end Go.Proofs.Ytngnhkghpnamoaa

namespace Go.Proofs.Ytngnhkghpnamoaa
open Go.RowKit Bit
set_option linter.unusedVariables false

/-- The bytes l cloned: nil stays nil. -/
theorem clone_any (a : Option Addr) (c : Nat) (l : List Nat) (w : World) (h : Nums .u8 w w.heap.size a l) (hl : l.length ≤ 1000000000000) (hc : a = none → c = 0 ∧ l = []) :
    Calls Try.prog 48 #[.slice a l.length c] w
      fun e w' => ∃ a' c', e = .returned (.slice a' l.length c') ∧ Nums .u8 w' w'.heap.size a' l ∧ Below w.heap.size w w' := by
  obtain ⟨i0, hi0, hz0, hz1, hz2⟩ := info_parts u8info
  have hnil : ∀ (W : World) (A : Option Addr) (m k : Nat), (binOp .eql 22 (.slice A m k) (.slice none 0 0)).run Try.prog W = .ok (.bool A.isNone) W := fun W A m k => by apply Lib.run_eql_slice_nil; exact Try.underlying22
  cases a with
  | none =>
    obtain ⟨rfl, rfl⟩ := hc rfl
    go_enter Try.func48, Try.ntmps48
    go_wp2_with fail
    go_ret
    exact ⟨none, ⟨_, rfl⟩, h, Below.refl _ _⟩
  | some A =>
    have Hl1 : Hid (0 + l.length ≤ maxLen) := by unfold Hid maxLen; omega
    have Hl2 : Hid ((0 + l.length) * 1 ≤ 140737488355328) := by unfold Hid; omega
    clear hc
    have hV : Vals (w.alloc (.cells #[] 5)) w.heap.size 1 (some A) l.length (u8s l) := (Vals.of_nums h).only ((Only.refl _ _).alloc _ : Only (fun _ => False) w _) (Nat.le_refl _) (fun _ _ h => h)
    have hown : ∀ t : TypeId, (w.alloc (.cells #[] t)).ownsRow w.heap.size t 1 (.slice (some ⟨w.heap.size, 0, none⟩) 0 0) 0 [] := fun t => ⟨rfl, .inr ⟨w.heap.size, 0, #[], rfl, Nat.le_refl _, heap_alloc_new _ _, Nat.le_refl _, Nat.zero_le _, rfl, rfl⟩⟩
    have Hone : Hid (∀ u ∈ u8s l, u.oneCell' = true) := by
      intro u hu
      simp only [u8s, List.mem_map] at hu
      obtain ⟨n, _, rfl⟩ := hu
      rfl
    go_enter Try.func48, Try.ntmps48
    go_wp2_with (at_builtin; refine app_vals rfl (.tmp 5) (.tmp 6) 22 rfl w.heap.size 5 i0 _ 1 1 Try.underlying22 hi0 hz0 hz1 hz2 rfl (by omega) (.slice (some ⟨w.heap.size, 0, none⟩) 0 0) 0 [] rfl (hown _) w.heap.size _ _ _ _ rfl hV Hone.out Hl1.out Hl2.out (by simp) ?_)
    intro v' w' h2 h3 h5
    obtain ⟨a', c', rfl, _, _, h6⟩ := Vals.of_own h2
    have hb : Below w.heap.size w w' := ((Only.refl (fun _ => False) w).alloc _ |>.trans (Only.of_grown (S := fun k => k = w.heap.size) h3 (fun b e => by simp [Value.ownBlock] at e; exact e.symm)) (fun b hb e => by omega)).below (fun _ _ h => h) (Nat.le_refl _)
    have hn := Vals.to_nums h6
    clear h2 h3 h5 h6
    go_wp2
    go_ret
    exact ⟨a', c', rfl, hn, hb⟩

/-- The writer's bytes: what it has written, padded with zero bits. -/
theorem wbytes_any (g N n : Nat) (v : Value) (w : World) (h : Wr w g v N n) (hn : n < 1000000000000) :
    Calls Try.prog 22 #[.pointer (some ⟨g, 0, none⟩)] w
      fun e w' => ∃ a c, e = .returned (.slice a (bytesOf N n).length c) ∧ Nums .u8 w' w'.heap.size a (bytesOf N n) ∧ Below w.heap.size w w' := by
  obtain ⟨hW, hown, hN, hne⟩ := h
  have hlen : (bytesOf N n).length ≤ 1000000000000 := by rw [bytesOf, bytesTo_length]; omega
  have hnil : v.ownBlock = none → v = .slice none 0 0 ∧ bytesOf N n = [] := by
    intro e
    obtain ⟨hl, (⟨rfl, h0⟩ | ⟨k, cap, cur, rfl, _⟩)⟩ := hown
    · exact ⟨rfl, List.eq_nil_of_length_eq_zero h0⟩
    · cases e
  obtain ⟨a, c, rfl, _, _, hV⟩ := Vals.of_own hown
  have hcl := Lib.hid (clone_any a c (bytesOf N n) w (Vals.to_nums hV) hlen (fun e => by subst e; obtain ⟨h1, h2⟩ := hnil rfl; injection h1 with _ _ h3; exact ⟨h3, h2⟩))
  have c0 := hW.cell 0
  have c0' : w.cell? ⟨g, 0, none⟩ = some (.slice a (bytesOf N n).length c) := c0
  clear c0 hnil hown hne hV hlen hN
  go_enter Try.func22, Try.ntmps22
  go_wp2_with (go_at_call 48; refine hcl.out.mono ?_; rintro e w' ⟨a', c', rfl, h1, h2⟩)
  go_ret
  exact ⟨a', c', rfl, h1, h2⟩

theorem newWriter_any (w : World) :
    Calls Try.prog 19 #[] w fun e w' => e = .returned (.pointer (some ⟨w.heap.size, 0, none⟩)) ∧ Wr w' w.heap.size (.slice none 0 0) 0 0 ∧ Below w.heap.size w w' := by
  go_enter Try.func19, Try.ntmps19
  go_wp2_with fail
  go_ret
  exact ⟨rfl, ⟨heap_alloc_new _ _, ⟨rfl, .inl ⟨rfl, rfl⟩⟩, by decide, by simp [Value.ownBlock]⟩, (Below.refl _ _).alloc (Nat.le_refl _) _⟩
end Go.Proofs.Ytngnhkghpnamoaa
