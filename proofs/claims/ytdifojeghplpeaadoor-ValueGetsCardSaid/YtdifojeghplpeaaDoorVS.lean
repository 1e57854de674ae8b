/- Layer 8: utf8.ValidString by the shelf's contract. -/
import Derived.Test.YtdifojeghplpeaaDoorVal1
import Derived.Ground.NamesProg
import Derived.Shelf.Lay
import Derived.Shelf.Unicode.ValidAny
import Derived.Lib.LaidU8T
import Derived.Lib.ValidU
namespace Go.Proofs.YtdifojeghplpeaaDoor
open Go.RowKit Go.Shelf Go.Lib
set_option linter.unusedVariables false

shelf_lay Lays.n196 Nm 196 at Tryd as Tryd.laysValid

def Tabs (w : World) : Prop := Lib.Utf8Tabs (Tryd.laysValid_ren.g 3) (Tryd.laysValid_ren.g 4) w
theorem Tabs.below {w w' : World} (h : Tabs w) (hb : Below w.heap.size w w') : Tabs w' :=
  ⟨fun c hc => by
    have := h.1 c hc
    exact (hb.cell (World.block_lt_of_cell? _ _ this)).trans this, fun i hi => by
    obtain ⟨h1, h2⟩ := h.2 i hi
    exact ⟨(hb.cell (World.block_lt_of_cell? _ _ h1)).trans h1, (hb.cell (World.block_lt_of_cell? _ _ h2)).trans h2⟩⟩
def vstr (s : ByteArray) : Bool := Lib.validD s.data.toList
theorem valid_any (s : ByteArray) (w : World) (hs : s.size ≤ 9223372036854775807) (hT : Tabs w) : Calls Tryd.prog 25 #[.string s] w fun e w' => e = .returned (.bool (vstr s)) ∧ Below w.heap.size w w' :=
  Any.utf8_ValidString Tryd.laysValid s w hs hT
end Go.Proofs.YtdifojeghplpeaaDoor
