/- Layer 18: the reference's Parse. -/
import Derived.Test.YtceegpkgifflcaaDoorCsv5
namespace Go.Proofs.YtceegpkgifflcaaDoor
open Go.RowKit
set_option linter.unusedVariables false
set_option maxRecDepth 100000

structure RParAt (w X : World) (d : Value) (R : List (List ByteArray)) : Prop where
  own : OwnTT X w.heap.size d R
  below : Below w.heap.size w X
structure RRowAt (w X : World) (v : Value) (r : List ByteArray) : Prop where
  own : OwnT X w.heap.size v r
  below : Below w.heap.size w X
theorem RRowAt.one {w X Y : World} {v v' : Value} {t : ByteArray} {r : List ByteArray} (h : RRowAt w X v r) (h2 : Y.ownsRow w.heap.size 9 1 v' (r.length + 1) (txs r ++ [.string t])) (h3 : X.grownBy Y v.ownBlock) : RRowAt w Y v' (r ++ [t]) :=
  ⟨by unfold OwnT; rw [List.length_append, txs_append]; exact h2, h.below.grown h3 h.below.size (fun k hk => (h.own.lt k hk).1)⟩
theorem RRowAt.next {w X Y : World} {v : Value} {r : List ByteArray} (h : RRowAt w X v r) (hb : Below X.heap.size X Y) : RRowAt w Y v r := ⟨h.own.below hb, h.below.trans (hb.mono h.below.size)⟩
theorem RParAt.next {w X Y : World} {v : Value} {R : List (List ByteArray)} (h : RParAt w X v R) (hb : Below X.heap.size X Y) : RParAt w Y v R := ⟨h.own.below hb, h.below.trans (hb.mono h.below.size)⟩
end Go.Proofs.YtceegpkgifflcaaDoor
