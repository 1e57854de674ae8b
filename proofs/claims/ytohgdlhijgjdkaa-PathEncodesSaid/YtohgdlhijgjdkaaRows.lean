/-
  No cell of these rows narrows 'for every input' (looked for: loops, veiled, ifaces, maps, wideKeys, modest, calm, conditions, laid).
  DERIVED. THE GIVEN ROWS OF THIS SEAT. 3 by the template 'for every input the law returns true; each argument reads behind the call as it read before'; 0 by the template 'total and deterministic' (their statements: YtohgdlhijgjdkaaTotals.lean).
  GIVEN WITH THE SEED: the statements are not yours to turn. If you find one false, say at which input.
  Laid BY PROGRAM, IN A SANDBOX (cutbox-rows.mjs): the forced cells as the released guide's own fill.sh prints them over the translation 80d2aefbfbd57927… (all of the seat's roots in one cut). By AI agents, Wed Nov 11 2026. No macro, syntax, notation, axiom, sorry.
-/
import Derived.Test.YtohgdlhijgjdkaaChecked
import GoSem.Claim
import GoSem.ClaimJoined
import GoSem.ClaimMapViews
import Derived.JoinedTies
import Derived.KernelRfl
namespace Go.Proofs.Ytohgdlhijgjdkaa
/- THE CELL 'sum', in the pinned program and in every row, IS THE sha256 OF THE DUMP (.gsa) THAT YtohgdlhijgjdkaaProg.lean LOADS. Nothing in Lean hashes anything: it is a label: what it is worth is what the hold of that sum in a sandbox is worth. -/
noncomputable def Try.pinned : Pinned := { name := "ytohgdlhijgjdkaa", sum := "80d2aefbfbd579270caabba64f7c30349a1c063dd1b04509cbbc9a5c3752776f", checked := Try.checked }
namespace Rows
def none {H : Type} : Left H := { results := [], args := [] }

/-- 'portolanlaw09.PathDecodes': WHATEVER THE INPUT: true; the input reads as it did. -/
def pathDecodesSpec : ChangeSpec := { name := "pathDecodes", fn := fun _ => fun
  | [d1, d2] => { results := [.lit (.bool true)], args := [d1, d2] }
  | _ => none }
def pathDecodesRow : OpenClaim := { program := "ytohgdlhijgjdkaa", sum := "80d2aefbfbd579270caabba64f7c30349a1c063dd1b04509cbbc9a5c3752776f", func := "portolan/portolanlaw09.PathDecodes", spec := "pathDecodes", unfollowed := true, recurses := true, apart := false }
def PathDecodesSaid : Prop := pathDecodesRow.holds Try.pinned (OpenSpec.ofChange pathDecodesSpec)

/-- ITS FALSE NEIGHBOUR: 'it returns false'. Refute it at one input. -/
def pathDecodesWrong : ChangeSpec := { name := "pathDecodes", fn := fun _ => fun
  | [d1, d2] => { results := [.lit (.bool false)], args := [d1, d2] }
  | _ => none }
def PathDecodesWrongFalsely : Prop := pathDecodesRow.holds Try.pinned (OpenSpec.ofChange pathDecodesWrong)

/-- 'portolanlaw09.PathEncodes': WHATEVER THE INPUT: true; the input reads as it did. -/
def pathEncodesSpec : ChangeSpec := { name := "pathEncodes", fn := fun _ => fun
  | [d1, d2] => { results := [.lit (.bool true)], args := [d1, d2] }
  | _ => none }
def pathEncodesRow : OpenClaim := { program := "ytohgdlhijgjdkaa", sum := "80d2aefbfbd579270caabba64f7c30349a1c063dd1b04509cbbc9a5c3752776f", func := "portolan/portolanlaw09.PathEncodes", spec := "pathEncodes", unfollowed := true, recurses := true, apart := false }
def PathEncodesSaid : Prop := pathEncodesRow.holds Try.pinned (OpenSpec.ofChange pathEncodesSpec)

/-- ITS FALSE NEIGHBOUR: 'it returns false'. Refute it at one input. -/
def pathEncodesWrong : ChangeSpec := { name := "pathEncodes", fn := fun _ => fun
  | [d1, d2] => { results := [.lit (.bool false)], args := [d1, d2] }
  | _ => none }
def PathEncodesWrongFalsely : Prop := pathEncodesRow.holds Try.pinned (OpenSpec.ofChange pathEncodesWrong)

/-- 'portolanlaw09.PathSames': WHATEVER THE INPUT: true; the input reads as it did. -/
def pathSamesSpec : ChangeSpec := { name := "pathSames", fn := fun _ => fun
  | [d1, d2] => { results := [.lit (.bool true)], args := [d1, d2] }
  | _ => none }
def pathSamesRow : OpenClaim := { program := "ytohgdlhijgjdkaa", sum := "80d2aefbfbd579270caabba64f7c30349a1c063dd1b04509cbbc9a5c3752776f", func := "portolan/portolanlaw09.PathSames", spec := "pathSames", unfollowed := true, recurses := true, apart := false }
def PathSamesSaid : Prop := pathSamesRow.holds Try.pinned (OpenSpec.ofChange pathSamesSpec)

/-- ITS FALSE NEIGHBOUR: 'it returns false'. Refute it at one input. -/
def pathSamesWrong : ChangeSpec := { name := "pathSames", fn := fun _ => fun
  | [d1, d2] => { results := [.lit (.bool false)], args := [d1, d2] }
  | _ => none }
def PathSamesWrongFalsely : Prop := pathSamesRow.holds Try.pinned (OpenSpec.ofChange pathSamesWrong)

/- THE SECOND FORM. 'bulk': how many values and letters a reading holds, each counted each time it is reached (what is shared counts as often as it is met; a slice's spare places count too). A statement '..UptoSaid' is the law's where the arguments, and the package variables that the reading takes, are together of bulk at most 1048576: NARROWER than '..Said'. Prove '..Said' where nothing that the law and all that it calls make is longer than what came in: it says more and counts as full. Else prove '..UptoSaid'. A law counts once. -/
mutual
def uptoBulk {H : Type} : DataW H → Nat
  | .lit (.string bytes) => bytes.length + 1
  | .lit _ => 1
  | .nil => 1
  | .ptr d => uptoBulk d + 1
  | .slice elems spare => uptoBulkAll elems + uptoBulkAll spare + 1
  | .agg parts => uptoBulkAll parts + 1
  | .iface _ d => uptoBulk d + 1
  | .map entries => uptoBulkEntries entries + 1
  | .held _ => 1
def uptoBulkAll {H : Type} : List (DataW H) → Nat
  | [] => 0
  | d :: r => uptoBulk d + uptoBulkAll r
def uptoBulkEntries {H : Type} : List (Lit × DataW H) → Nat
  | [] => 0
  | x :: r => uptoBulkEntry x + uptoBulkEntries r
def uptoBulkEntry {H : Type} : Lit × DataW H → Nat
  | (.string bytes, d) => bytes.length + uptoBulk d + 1
  | (_, d) => uptoBulk d + 1
 end
def uptoSmall : (H : Type) → List (DataW H) → Bool := fun _ ds => decide (uptoBulkAll ds ≤ 1048576)
def OpenSpec.upto (s : _root_.Go.ChangeSpec) : _root_.Go.OpenSpec := { _root_.Go.OpenSpec.ofChange s with cond := some uptoSmall }

/-- 'portolanlaw09.PathDecodes', WHERE WHAT IT READS IS OF BULK AT MOST 1048576: true; the input reads as it did. -/
def pathDecodesUptoRow : OpenClaim := { program := "ytohgdlhijgjdkaa", sum := "80d2aefbfbd579270caabba64f7c30349a1c063dd1b04509cbbc9a5c3752776f", func := "portolan/portolanlaw09.PathDecodes", spec := "pathDecodes", unfollowed := true, recurses := true, apart := false, narrowed := true }
def PathDecodesUptoSaid : Prop := pathDecodesUptoRow.holds Try.pinned (OpenSpec.upto pathDecodesSpec)

/-- 'portolanlaw09.PathEncodes', WHERE WHAT IT READS IS OF BULK AT MOST 1048576: true; the input reads as it did. -/
def pathEncodesUptoRow : OpenClaim := { program := "ytohgdlhijgjdkaa", sum := "80d2aefbfbd579270caabba64f7c30349a1c063dd1b04509cbbc9a5c3752776f", func := "portolan/portolanlaw09.PathEncodes", spec := "pathEncodes", unfollowed := true, recurses := true, apart := false, narrowed := true }
def PathEncodesUptoSaid : Prop := pathEncodesUptoRow.holds Try.pinned (OpenSpec.upto pathEncodesSpec)

/-- 'portolanlaw09.PathSames', WHERE WHAT IT READS IS OF BULK AT MOST 1048576: true; the input reads as it did. -/
def pathSamesUptoRow : OpenClaim := { program := "ytohgdlhijgjdkaa", sum := "80d2aefbfbd579270caabba64f7c30349a1c063dd1b04509cbbc9a5c3752776f", func := "portolan/portolanlaw09.PathSames", spec := "pathSames", unfollowed := true, recurses := true, apart := false, narrowed := true }
def PathSamesUptoSaid : Prop := pathSamesUptoRow.holds Try.pinned (OpenSpec.upto pathSamesSpec)

end Rows
end Go.Proofs.Ytohgdlhijgjdkaa
