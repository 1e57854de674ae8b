/- Walks over layer 7: SameInts of equal lists. -/
import Derived.Test.YtohgdlhijgjdkaaU32
import Derived.Test.YtohgdlhijgjdkaaHeld
namespace Go.Proofs.Ytohgdlhijgjdkaa
open Go.RowKit
set_option linter.unusedVariables false
set_option maxRecDepth 100000

theorem belowDrewN {B : Nat} {w W : World} (h : Below B w W) (n : Nat) : Below B w (W.drewN n) := ⟨h.os, h.tape, h.output, h.size, h.block⟩
def Yes (w : World) (e : Ending) (w' : World) : Prop := e = .returned (.bool true) ∧ Below w.heap.size w w'

set_option maxHeartbeats 2000000 in
theorem sameInts_eq (a b : Option Addr) (c d : Nat) (l : List Nat) (w : World) (ha : Nums .u32 w w.heap.size a l) (hb : Nums .u32 w w.heap.size b l) (hl : l.length ≤ 1000000) :
    Calls Try.prog 12 #[.slice a l.length c, .slice b l.length d] w (Yes w) := by
  obtain ⟨L, hL⟩ : ∃ L, L = l.length := ⟨_, rfl⟩
  have HA : Hid (∀ i, i < L → ∃ b off, a = some ⟨b, off, none⟩ ∧ b < w.heap.size ∧ w.cell? ⟨b, off + i, none⟩ = some (.int .u32 ((l.getD i 0 : Nat) : Int))) := fun i hi => by
    obtain ⟨b, off, rfl, h1, h2⟩ := ha (by omega); exact ⟨b, off, rfl, h1, h2 i (by omega)⟩
  have HB : Hid (∀ i, i < L → ∃ b' off, b = some ⟨b', off, none⟩ ∧ b' < w.heap.size ∧ w.cell? ⟨b', off + i, none⟩ = some (.int .u32 ((l.getD i 0 : Nat) : Int))) := fun i hi => by
    obtain ⟨b, off, rfl, h1, h2⟩ := hb (by omega); exact ⟨b, off, rfl, h1, h2 i (by omega)⟩
  rw [← hL] at hl ⊢
  clear hL ha hb
  go_enter Try.func12, Try.ntmps12
  go_wp2_with fail
  go_loopw [5] (fun i W => ∃ k : Nat, k ≤ L ∧ i = .int .i64 (k : Int) ∧ Hid (Below w.heap.size w W)) (fun i _ => L - (intOf i).toNat)
  case atStart => exact ⟨0, Nat.zero_le _, rfl, Below.refl _ _⟩
  case round =>
    obtain ⟨k, hk, rfl, hbw⟩ := hrel
    by_cases hlt : k < L
    · obtain ⟨b1, o1, rfl, h1, hc1⟩ := HA.out k hlt
      obtain ⟨b2, o2, rfl, h2, hc2⟩ := HB.out k hlt
      have hd1 := (hbw.out.cell (p := ⟨b1, o1 + k, none⟩) h1).trans hc1
      have hd2 := (hbw.out.cell (p := ⟨b2, o2 + k, none⟩) h2).trans hc2
      generalize l.getD k 0 = x at *
      have hk0 : (0 : Int) ≤ (k : Int) := by omega
      have hk1 : (k : Int) < (L : Int) := by omega
      clear hc1 hc2
      go_wp2_with fail
      go_quiet (fail)
      go_wp2_with fail
      go_roundw
      case rel => exact ⟨k + 1, hlt, by go_num, belowDrewN hbw.out _⟩
      case measure => simp [intOf]; omega
    · obtain rfl : k = L := by omega
      go_wp2_with fail
      go_ret
      exact ⟨rfl, hbw.out⟩
end Go.Proofs.Ytohgdlhijgjdkaa
