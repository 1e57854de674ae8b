/- Walks over layer 1: the reader's At, a read that is too short, the reference's Bits. -/
import Derived.Test.YtmheafadahdbfaaHRead
namespace Go.Proofs.Ytmheafadahdbfaa
open Go.RowKit Bit
set_option linter.unusedVariables false
set_option maxRecDepth 100000

def bools (l : List Bool) : List Value := l.map Value.bool
theorem boolinfo : (Try.prog.info? 4).map (fun i => (i.zero, i.size, i.bytes)) = some (some (.bool false), 1, 1) := by kernel_rfl
/-- The first n bits of the bytes l, from bit p on. -/
def bitsFrom (l : List Nat) (p n : Nat) : List Bool := (List.range n).map fun k => bitOf l (p + k) == 1
theorem bitsFrom_succ (l : List Nat) (p n : Nat) : bitsFrom l p (n + 1) = bitsFrom l p n ++ [bitOf l (p + n) == 1] := by simp [bitsFrom, List.range_succ]
theorem bitsFrom_length (l : List Nat) (p n : Nat) : (bitsFrom l p n).length = n := by simp [bitsFrom]
theorem bitsFrom_get (l : List Nat) (p n k : Nat) (h : k < n) : (bitsFrom l p n)[k]? = some (bitOf l (p + k) == 1) := by simp [bitsFrom, h]
theorem at_any (g : Nat) (a : Option Addr) (c : Nat) (l : List Nat) (p : Nat) (w : World) (h : Rd w g a c l p) :
    Calls Try.prog 52 #[.pointer (some ⟨g, 0, none⟩)] w fun e w' => e = .returned (.int .i64 (p : Int)) ∧ w = w' := by
  have c1 : w.cell? ⟨g, 1, none⟩ = some (.int .i64 (p : Int)) := h.1.cell 1
  clear h
  go_enter Try.func52, Try.ntmps52
  go_wp2_with fail
  go_ret
  exact ⟨rfl, rfl⟩

theorem rbits_short (g : Nat) (a : Option Addr) (c : Nat) (l : List Nat) (p m : Nat) (w : World) (h : Rd w g a c l p) (hl : l.length ≤ 1000000) (hm : m ≤ 32) (hp : p ≤ 8 * l.length) (hs : 8 * l.length - p < m) :
    Calls Try.prog 67 #[.pointer (some ⟨g, 0, none⟩), .int .i64 (m : Int)] w fun e w' => e = .returned (.tuple #[.int .u32 0, .int .i64 2]) ∧ Below w.heap.size w w' := by
  have Hleft := Lib.hid (left_any g a c l p w h hl hp)
  clear h hp
  go_enter Try.func67, Try.ntmps67
  go_wp2_with fail
  refine Hleft.out.mono ?_
  rintro e W ⟨rfl, hb⟩
  have Hb := Lib.hid hb
  clear hb
  go_wp2_with fail
  go_ret2
  exact ⟨rfl, Hb.out⟩

end Go.Proofs.Ytmheafadahdbfaa
