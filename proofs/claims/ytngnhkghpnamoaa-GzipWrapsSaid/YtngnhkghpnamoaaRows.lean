/-
  No cell of these rows narrows 'for every input' (looked for: loops, veiled, ifaces, maps, wideKeys, modest, calm, conditions, laid).
  DERIVED. THE GIVEN ROWS OF THIS SEAT. 2 by the template 'for every input the law returns true; each argument reads behind the call as it read before'; 0 by the template 'total and deterministic' (their statements: YtngnhkghpnamoaaTotals.lean).
  GIVEN WITH THE SEED: the statements are not yours to turn. If you find one false, say at which input.
  Laid BY PROGRAM, IN A SANDBOX (cutbox-rows.mjs): the forced cells as the released guide's own fill.sh prints them over the translation 4e20f270a13c9449… (all of the seat's roots in one cut). By AI agents, Wed Nov 11 2026. No macro, syntax, notation, axiom, sorry.
-/
import Derived.Test.YtngnhkghpnamoaaChecked
import GoSem.Claim
import GoSem.ClaimJoined
import GoSem.ClaimMapViews
import Derived.JoinedTies
import Derived.KernelRfl
namespace Go.Proofs.Ytngnhkghpnamoaa
/- THE CELL 'sum', in the pinned program and in every row, IS THE sha256 OF THE DUMP (.gsa) THAT YtngnhkghpnamoaaProg.lean LOADS. Nothing in Lean hashes anything: it is a label: what it is worth is what the hold of that sum in a sandbox is worth. -/
noncomputable def Try.pinned : Pinned := { name := "ytngnhkghpnamoaa", sum := "4e20f270a13c94496c5fdb78a3c4e05cc83585aead1c7995e54dd81d43cdabfd", checked := Try.checked }
namespace Rows
def none {H : Type} : Left H := { results := [], args := [] }

/-- 'portolanlaw06.GzipWraps': WHATEVER THE INPUT: true; the input reads as it did. -/
def gzipWrapsSpec : ChangeSpec := { name := "gzipWraps", fn := fun _ => fun
  | [d1, d2] => { results := [.lit (.bool true)], args := [d1, d2] }
  | _ => none }
def gzipWrapsRow : OpenClaim := { program := "ytngnhkghpnamoaa", sum := "4e20f270a13c94496c5fdb78a3c4e05cc83585aead1c7995e54dd81d43cdabfd", func := "portolan/portolanlaw06.GzipWraps", spec := "gzipWraps", inPlace := ["internal/bytealg.IndexByte"], unfollowed := true, recurses := true, apart := false }
def GzipWrapsSaid : Prop := gzipWrapsRow.holds Try.pinned (OpenSpec.ofChange gzipWrapsSpec)

/-- ITS FALSE NEIGHBOUR: 'it returns false'. Refute it at one input. -/
def gzipWrapsWrong : ChangeSpec := { name := "gzipWraps", fn := fun _ => fun
  | [d1, d2] => { results := [.lit (.bool false)], args := [d1, d2] }
  | _ => none }
def GzipWrapsWrongFalsely : Prop := gzipWrapsRow.holds Try.pinned (OpenSpec.ofChange gzipWrapsWrong)

/-- 'portolanlaw06.GzipShort': WHATEVER THE INPUT: true; the input reads as it did. -/
def gzipShortSpec : ChangeSpec := { name := "gzipShort", fn := fun _ => fun
  | [d1, d2] => { results := [.lit (.bool true)], args := [d1, d2] }
  | _ => none }
def gzipShortRow : OpenClaim := { program := "ytngnhkghpnamoaa", sum := "4e20f270a13c94496c5fdb78a3c4e05cc83585aead1c7995e54dd81d43cdabfd", func := "portolan/portolanlaw06.GzipShort", spec := "gzipShort", inPlace := ["internal/bytealg.IndexByte"], unfollowed := true, recurses := true, apart := false }
def GzipShortSaid : Prop := gzipShortRow.holds Try.pinned (OpenSpec.ofChange gzipShortSpec)

/-- ITS FALSE NEIGHBOUR: 'it returns false'. Refute it at one input. -/
def gzipShortWrong : ChangeSpec := { name := "gzipShort", fn := fun _ => fun
  | [d1, d2] => { results := [.lit (.bool false)], args := [d1, d2] }
  | _ => none }
def GzipShortWrongFalsely : Prop := gzipShortRow.holds Try.pinned (OpenSpec.ofChange gzipShortWrong)

/- THE SECOND FORM. 'bulk': how many values and letters a reading holds, each counted each time it is reached (what is shared counts as often as it is met; a slice's spare places count too). A statement '..UptoSaid' is the law's where the arguments, and the package variables that the reading takes, are together of bulk at most 1048576: NARROWER than '..Said'. Prove '..Said' where nothing that the law and all that it calls make is longer than what came in: it says more and counts as full. Else prove '..UptoSaid'. A law counts once. -/
mutual
def uptoBulk {H : Type} : DataW H → Nat
  | .lit (.string bytes) => bytes.length + 1
  | .lit _ => 1
  | .nil => 1
  | .ptr d => uptoBulk d + 1
  | .slice elems spare => uptoBulkAll elems + uptoBulkAll spare + 1
  | .agg parts => uptoBulkAll parts + 1
  | .iface _ d => uptoBulk d + 1
  | .map entries => uptoBulkEntries entries + 1
  | .held _ => 1
def uptoBulkAll {H : Type} : List (DataW H) → Nat
  | [] => 0
  | d :: r => uptoBulk d + uptoBulkAll r
def uptoBulkEntries {H : Type} : List (Lit × DataW H) → Nat
  | [] => 0
  | x :: r => uptoBulkEntry x + uptoBulkEntries r
def uptoBulkEntry {H : Type} : Lit × DataW H → Nat
  | (.string bytes, d) => bytes.length + uptoBulk d + 1
  | (_, d) => uptoBulk d + 1
 end
def uptoSmall : (H : Type) → List (DataW H) → Bool := fun _ ds => decide (uptoBulkAll ds ≤ 1048576)
def OpenSpec.upto (s : _root_.Go.ChangeSpec) : _root_.Go.OpenSpec := { _root_.Go.OpenSpec.ofChange s with cond := some uptoSmall }

/-- 'portolanlaw06.GzipWraps', WHERE WHAT IT READS IS OF BULK AT MOST 1048576: true; the input reads as it did. -/
def gzipWrapsUptoRow : OpenClaim := { program := "ytngnhkghpnamoaa", sum := "4e20f270a13c94496c5fdb78a3c4e05cc83585aead1c7995e54dd81d43cdabfd", func := "portolan/portolanlaw06.GzipWraps", spec := "gzipWraps", inPlace := ["internal/bytealg.IndexByte"], unfollowed := true, recurses := true, apart := false, narrowed := true }
def GzipWrapsUptoSaid : Prop := gzipWrapsUptoRow.holds Try.pinned (OpenSpec.upto gzipWrapsSpec)

/-- 'portolanlaw06.GzipShort', WHERE WHAT IT READS IS OF BULK AT MOST 1048576: true; the input reads as it did. -/
def gzipShortUptoRow : OpenClaim := { program := "ytngnhkghpnamoaa", sum := "4e20f270a13c94496c5fdb78a3c4e05cc83585aead1c7995e54dd81d43cdabfd", func := "portolan/portolanlaw06.GzipShort", spec := "gzipShort", inPlace := ["internal/bytealg.IndexByte"], unfollowed := true, recurses := true, apart := false, narrowed := true }
def GzipShortUptoSaid : Prop := gzipShortUptoRow.holds Try.pinned (OpenSpec.upto gzipShortSpec)

end Rows
end Go.Proofs.Ytngnhkghpnamoaa
