/- Layer 18: the reference's end, over, field. -/
import Derived.Test.YtceegpkgifflcaaDoorCsv4
namespace Go.Proofs.YtceegpkgifflcaaDoor
open Go.RowKit
set_option linter.unusedVariables false
set_option maxRecDepth 100000

/-- The byte at a place, in the walk's words. -/
theorem byteAt (s : ByteArray) (k : Nat) (h : k < s.size) : ∃ c, (s[k]'h).toNat = c ∧ (bs s).getD k 0 = c ∧ c < 256 :=
  ⟨_, rfl, (bs_get s k h).symm, (s[k]'h).toNat_lt⟩
def RFldPost (w : World) (F : List Nat × Nat × Int) (e : Ending) (w' : World) : Prop := e = .returned (.tuple #[.string (strOf F.1), .int .i64 (F.2.1 : Int), .int .i64 F.2.2]) ∧ Below w.heap.size w w'
structure RAt8 (w : World) (X : World) (v : Value) (k : Nat) (m : List Nat) : Prop where
  own : Own8 X w.heap.size v m
  below : Below w.heap.size w X
  len : m.length ≤ k
  byt : ∀ x ∈ m, x < 256
theorem RAt8.one {w X Y : World} {v v' : Value} {k k' c : Nat} {m : List Nat} (h : RAt8 w X v k m) (hk : k < k') (hc : c < 256) (h2 : Y.ownsRow w.heap.size 5 1 v' (m.length + 1) (u8s m ++ [.int .u8 (c : Int)])) (h3 : X.grownBy Y v.ownBlock) : RAt8 w Y v' k' (m ++ [c]) :=
  ⟨by unfold Own8; rw [List.length_append, u8s_append]; exact h2, h.below.grown h3 h.below.size (fun k hk => (h.own.lt k hk).1), by have := h.len; simp; omega, by
    intro x hx
    rcases List.mem_append.1 hx with h1 | h1
    · exact h.byt x h1
    · rw [List.mem_singleton.1 h1]; exact hc⟩
end Go.Proofs.YtceegpkgifflcaaDoor
