/-
  No cell of these rows narrows 'for every input' (looked for: loops, veiled, ifaces, maps, wideKeys, modest, calm, conditions, laid).
  DERIVED. THE GIVEN ROWS OF THIS SEAT. 3 by the template 'for every input the law returns true; each argument reads behind the call as it read before'; 0 by the template 'total and deterministic' (their statements: YtgfioofloaeecaaTotals.lean).
  GIVEN WITH THE SEED: the statements are not yours to turn. If you find one false, say at which input.
  Laid BY PROGRAM, IN A SANDBOX (cutbox-rows.mjs): the forced cells as the released guide's own fill.sh prints them over the translation 6a38fc04abcde8fd… (all of the seat's roots in one cut). By AI agents, Wed Nov 11 2026. No macro, syntax, notation, axiom, sorry.
-/
import Derived.Test.YtgfioofloaeecaaChecked
import GoSem.Claim
import GoSem.ClaimJoined
import GoSem.ClaimMapViews
import Derived.JoinedTies
import Derived.KernelRfl
namespace Go.Proofs.Ytgfioofloaeecaa
/- THE CELL 'sum', in the pinned program and in every row, IS THE sha256 OF THE DUMP (.gsa) THAT YtgfioofloaeecaaProg.lean LOADS. Nothing in Lean hashes anything: it is a label: what it is worth is what the hold of that sum in a sandbox is worth. -/
noncomputable def Try.pinned : Pinned := { name := "ytgfioofloaeecaa", sum := "6a38fc04abcde8fdf23ddc3342c522561987b02c50a380284e65620f3de53f3d", checked := Try.checked }
namespace Rows
def none {H : Type} : Left H := { results := [], args := [] }

/-- 'portolanlaw26.NormRounds': WHATEVER THE INPUT: true; the input reads as it did. -/
def normRoundsSpec : ChangeSpec := { name := "normRounds", fn := fun _ => fun
  | [d1, d2, d3, d4, d5] => { results := [.lit (.bool true)], args := [d1, d2, d3, d4, d5] }
  | _ => none }
def normRoundsRow : OpenClaim := { program := "ytgfioofloaeecaa", sum := "6a38fc04abcde8fdf23ddc3342c522561987b02c50a380284e65620f3de53f3d", func := "portolan/portolanlaw26.NormRounds", spec := "normRounds", unfollowed := true, recurses := true, apart := false }
def NormRoundsSaid : Prop := normRoundsRow.holds Try.pinned (OpenSpec.ofChange normRoundsSpec)

/-- ITS FALSE NEIGHBOUR: 'it returns false'. Refute it at one input. -/
def normRoundsWrong : ChangeSpec := { name := "normRounds", fn := fun _ => fun
  | [d1, d2, d3, d4, d5] => { results := [.lit (.bool false)], args := [d1, d2, d3, d4, d5] }
  | _ => none }
def NormRoundsWrongFalsely : Prop := normRoundsRow.holds Try.pinned (OpenSpec.ofChange normRoundsWrong)

/-- 'portolanlaw26.NormLines': WHATEVER THE INPUT: true; the input reads as it did. -/
def normLinesSpec : ChangeSpec := { name := "normLines", fn := fun _ => fun
  | [d] => { results := [.lit (.bool true)], args := [d] }
  | _ => none }
def normLinesRow : OpenClaim := { program := "ytgfioofloaeecaa", sum := "6a38fc04abcde8fdf23ddc3342c522561987b02c50a380284e65620f3de53f3d", func := "portolan/portolanlaw26.NormLines", spec := "normLines", unfollowed := true, recurses := true, apart := false }
def NormLinesSaid : Prop := normLinesRow.holds Try.pinned (OpenSpec.ofChange normLinesSpec)

/-- ITS FALSE NEIGHBOUR: 'it returns false'. Refute it at one input. -/
def normLinesWrong : ChangeSpec := { name := "normLines", fn := fun _ => fun
  | [d] => { results := [.lit (.bool false)], args := [d] }
  | _ => none }
def NormLinesWrongFalsely : Prop := normLinesRow.holds Try.pinned (OpenSpec.ofChange normLinesWrong)

/-- 'portolanlaw26.NormWhole': WHATEVER THE INPUT: true; the input reads as it did. -/
def normWholeSpec : ChangeSpec := { name := "normWhole", fn := fun _ => fun
  | [d1, d2, d3, d4] => { results := [.lit (.bool true)], args := [d1, d2, d3, d4] }
  | _ => none }
def normWholeRow : OpenClaim := { program := "ytgfioofloaeecaa", sum := "6a38fc04abcde8fdf23ddc3342c522561987b02c50a380284e65620f3de53f3d", func := "portolan/portolanlaw26.NormWhole", spec := "normWhole", unfollowed := true, recurses := true, apart := false }
def NormWholeSaid : Prop := normWholeRow.holds Try.pinned (OpenSpec.ofChange normWholeSpec)

/-- ITS FALSE NEIGHBOUR: 'it returns false'. Refute it at one input. -/
def normWholeWrong : ChangeSpec := { name := "normWhole", fn := fun _ => fun
  | [d1, d2, d3, d4] => { results := [.lit (.bool false)], args := [d1, d2, d3, d4] }
  | _ => none }
def NormWholeWrongFalsely : Prop := normWholeRow.holds Try.pinned (OpenSpec.ofChange normWholeWrong)

/- THE SECOND FORM. 'bulk': how many values and letters a reading holds, each counted each time it is reached (what is shared counts as often as it is met; a slice's spare places count too). A statement '..UptoSaid' is the law's where the arguments, and the package variables that the reading takes, are together of bulk at most 1048576: NARROWER than '..Said'. Prove '..Said' where nothing that the law and all that it calls make is longer than what came in: it says more and counts as full. Else prove '..UptoSaid'. A law counts once. -/
mutual
def uptoBulk {H : Type} : DataW H → Nat
  | .lit (.string bytes) => bytes.length + 1
  | .lit _ => 1
  | .nil => 1
  | .ptr d => uptoBulk d + 1
  | .slice elems spare => uptoBulkAll elems + uptoBulkAll spare + 1
  | .agg parts => uptoBulkAll parts + 1
  | .iface _ d => uptoBulk d + 1
  | .map entries => uptoBulkEntries entries + 1
  | .held _ => 1
def uptoBulkAll {H : Type} : List (DataW H) → Nat
  | [] => 0
  | d :: r => uptoBulk d + uptoBulkAll r
def uptoBulkEntries {H : Type} : List (Lit × DataW H) → Nat
  | [] => 0
  | x :: r => uptoBulkEntry x + uptoBulkEntries r
def uptoBulkEntry {H : Type} : Lit × DataW H → Nat
  | (.string bytes, d) => bytes.length + uptoBulk d + 1
  | (_, d) => uptoBulk d + 1
 end
def uptoSmall : (H : Type) → List (DataW H) → Bool := fun _ ds => decide (uptoBulkAll ds ≤ 1048576)
def OpenSpec.upto (s : _root_.Go.ChangeSpec) : _root_.Go.OpenSpec := { _root_.Go.OpenSpec.ofChange s with cond := some uptoSmall }

/-- 'portolanlaw26.NormRounds', WHERE WHAT IT READS IS OF BULK AT MOST 1048576: true; the input reads as it did. -/
def normRoundsUptoRow : OpenClaim := { program := "ytgfioofloaeecaa", sum := "6a38fc04abcde8fdf23ddc3342c522561987b02c50a380284e65620f3de53f3d", func := "portolan/portolanlaw26.NormRounds", spec := "normRounds", unfollowed := true, recurses := true, apart := false, narrowed := true }
def NormRoundsUptoSaid : Prop := normRoundsUptoRow.holds Try.pinned (OpenSpec.upto normRoundsSpec)

/-- 'portolanlaw26.NormLines', WHERE WHAT IT READS IS OF BULK AT MOST 1048576: true; the input reads as it did. -/
def normLinesUptoRow : OpenClaim := { program := "ytgfioofloaeecaa", sum := "6a38fc04abcde8fdf23ddc3342c522561987b02c50a380284e65620f3de53f3d", func := "portolan/portolanlaw26.NormLines", spec := "normLines", unfollowed := true, recurses := true, apart := false, narrowed := true }
def NormLinesUptoSaid : Prop := normLinesUptoRow.holds Try.pinned (OpenSpec.upto normLinesSpec)

/-- 'portolanlaw26.NormWhole', WHERE WHAT IT READS IS OF BULK AT MOST 1048576: true; the input reads as it did. -/
def normWholeUptoRow : OpenClaim := { program := "ytgfioofloaeecaa", sum := "6a38fc04abcde8fdf23ddc3342c522561987b02c50a380284e65620f3de53f3d", func := "portolan/portolanlaw26.NormWhole", spec := "normWhole", unfollowed := true, recurses := true, apart := false, narrowed := true }
def NormWholeUptoSaid : Prop := normWholeUptoRow.holds Try.pinned (OpenSpec.upto normWholeSpec)

end Rows
end Go.Proofs.Ytgfioofloaeecaa
