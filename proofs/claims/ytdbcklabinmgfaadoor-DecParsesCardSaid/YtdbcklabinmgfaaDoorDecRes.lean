/- Layer 16: three results, the first of them a decimal in its cells: over a frame that is a variable. -/
import Derived.Test.YtdbcklabinmgfaaDoorDec4
namespace Go.Proofs.YtdbcklabinmgfaaDoor
open Go.RowKit
set_option linter.unusedVariables false
set_option maxRecDepth 100000
theorem results_dec3 {fn : Func} (h : fn.results = #[.cell 2 24, .tmp 3, .tmp 4]) (tmps : Array Value) (w : World) (g : Nat) (cs : Array Value) (x y : Value)
    (hp : tmps.getD 2 undef = .pointer (some ⟨g, 0, none⟩)) (hx : tmps.getD 3 undef = x) (hy : tmps.getD 4 undef = y) (hg : w.heap[g]? = some (.cells cs 24 (0, 0))) (hs : cs.size = 3) :
    (results fn tmps).run Tryd.prog w = .ok (.tuple #[.agg cs, x, y]) w := by
  have hp' : tmps[2]?.getD undef = .pointer (some ⟨g, 0, none⟩) := by simpa using hp
  have hx' : tmps[3]?.getD undef = x := by simpa using hx
  have hy' : tmps[4]?.getD undef = y := by simpa using hy
  have hi : (Tryd.prog.info? 24).map (·.size) = some cs.size := by rw [hs]; kernel_rfl
  simp [results, h, hp', hx', hy', asAddr, run_loadVar_row w g 24 24 cs (0, 0) _ hg Tryd.underlying24 rfl hi]
end Go.Proofs.YtdbcklabinmgfaaDoor
