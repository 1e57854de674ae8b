/- Walks over layer 1: live. -/
import Derived.Test.YtgglhpoofldkpaaBitBytes
import Derived.Test.YtgglhpoofldkpaaStr
namespace Go.Proofs.Ytgglhpoofldkpaa
open Go.RowKit Bit
set_option linter.unusedVariables false

theorem code_any (n : Int) (w : World) : Calls Try.prog 13 #[.int .i64 n] w fun e w' => e = .returned (.int .i64 n) ∧ w = w' := by
  go_enter Try.func13, Try.ntmps13
  go_wp2_with fail
  go_ret
  exact ⟨rfl, rfl⟩

theorem keepBelow {w w1 W : World} (h2 : Below w1.heap.size w1 W) (h : Below w.heap.size w w1) : Below w.heap.size w W := h.trans ⟨h2.os, h2.tape, h2.output, h2.size, fun k hk => h2.block k (Nat.lt_of_lt_of_le hk h.size)⟩
theorem Only.belowOf {S : Nat → Prop} {B : Nat} {w w1 W : World} (ho : Only S w1 W) (hb : Below B w w1) (hS : ∀ b, S b → B ≤ b) (hB : B ≤ w1.heap.size) : Below B w W :=
  hb.trans (ho.below (fun b hlt h => by have := hS b h; omega) hB)
theorem touch_le {g B : Nat} {v : Value} (hg : B ≤ g) (hv : ∀ k, v.ownBlock = some k → B ≤ k) : ∀ b, touch g v b → B ≤ b := by
  rintro b (rfl | e)
  · exact hg
  · exact hv b e
theorem own_le {B s : Nat} {v v' : Value} (hv : ∀ k, v.ownBlock = some k → B ≤ k) (hat : v'.ownBlock = v.ownBlock ∨ ∃ k, v'.ownBlock = some k ∧ s ≤ k) (hB : B ≤ s) : ∀ k, v'.ownBlock = some k → B ≤ k := by
  intro k e
  rcases hat with h | ⟨j, h, hj⟩
  · exact hv k (by rw [← h, e])
  · rw [h] at e; injection e with e; omega

attribute [local go_sem ↓] Go.wp_at_zero Go.wp_at_succ
set_option maxHeartbeats 2000000 in
theorem live_any (w : World) : Calls Try.prog 7 #[] w fun e w' => e = .returned (.bool true) ∧ Below w.heap.size w w' := by
  have hstr := fun (W : World) (a : Option Addr) (c : Nat) (h : Nums .u8 W W.heap.size a (bytesOf 69 7)) => str_of_nums (P := Try.prog) W W.heap.size 22 9 5 a c _ Try.underlying22 Try.underlying5 Try.underlying9 h (bytesTo_lt _ _)
  rw [show bytesOf 69 7 = [69] by decide, show strOf [69] = ⟨#[69]⟩ by rfl] at hstr
  have Hs := Lib.hid hstr
  clear hstr
  go_enter Try.func7, Try.ntmps7
  go_wp2_with (go_at_call 16; refine (newWriter_any _).mono ?_; rintro e w1 ⟨rfl, hW, hb⟩)
  refine (wbits_ok w.heap.size 0 0 5 3 _ _ hW (by omega) (by omega) (by omega)).mono ?_
  rintro e w2 ⟨rfl, v2, hW2, ho2, hat2⟩
  have hb2 : Below w.heap.size w w2 := ho2.belowOf hb (touch_le (Nat.le_refl _) (fun k e => by cases e)) hb.size
  have hv2 := own_le (B := w.heap.size) (fun k e => by cases e) hat2 hb.size
  go_wp2_with fail
  refine (wturned_ok w.heap.size _ _ 1 4 _ _ hW2 (by omega) (by omega) (by omega)).mono ?_
  rintro e w3 ⟨rfl, v3, hW3, ho3, hat3⟩
  have hb3 : Below w.heap.size w w3 := ho3.belowOf hb2 (touch_le (Nat.le_refl _) hv2) hb2.size
  rw [show 0 + 5 % 2 ^ 3 * 2 ^ 0 + turned 1 4 4 * 2 ^ (0 + 3) = 69 by decide] at hW3
  clear hb2 hb hW hW2 ho2 ho3 hat2 hat3 hv2
  have hBy := Lib.hid (wbytes_any w.heap.size 69 7 v3 w3 hW3 (by omega))
  rw [show bytesOf 69 7 = [69] by decide] at hBy
  go_wp2_with (first
    | (go_at_call 13; (with_reducible refine (code_any _ _).mono ?_); rintro e w' ⟨rfl, rfl⟩))
  refine hBy.out.mono ?_
  rintro e w4 ⟨a, c, rfl, hN, hb4⟩
  have hstr := Hs.out w4 a c hN
  rw [show ([69] : List Nat).length = 1 by rfl] at hstr
  have hW4 : Whole w4 w.heap.size 54 #[v3, .int .i64 7] := (hb4.block _ hW3.1.lt).trans hW3.1
  have hb5 := keepBelow hb4 hb3
  clear hBy hW3 hN hb4
  have hle := fun W => wlen_any w.heap.size v3 7 W
  go_wp2_with (go_at_call 22; (with_reducible refine (hle _ hW4).mono ?_); rintro e w' ⟨rfl, rfl⟩)
  go_ret
  exact ⟨rfl, hb5⟩
end Go.Proofs.Ytgglhpoofldkpaa
