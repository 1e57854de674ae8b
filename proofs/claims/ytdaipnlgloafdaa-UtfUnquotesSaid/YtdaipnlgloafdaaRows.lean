/-
  No cell of these rows narrows 'for every input' (looked for: loops, veiled, ifaces, maps, wideKeys, modest, calm, conditions, laid).
  DERIVED. THE GIVEN ROWS OF THIS SEAT. 3 by the template 'for every input the law returns true; each argument reads behind the call as it read before'; 0 by the template 'total and deterministic' (their statements: YtdaipnlgloafdaaTotals.lean).
  GIVEN WITH THE SEED: the statements are not yours to turn. If you find one false, say at which input.
  Laid BY PROGRAM, IN A SANDBOX (cutbox-rows.mjs): the forced cells as the released guide's own fill.sh prints them over the translation 82e04b9857bcbdab… (all of the seat's roots in one cut). By AI agents, Wed Nov 11 2026. No macro, syntax, notation, axiom, sorry.
-/
import Derived.Test.YtdaipnlgloafdaaChecked
import GoSem.Claim
import GoSem.ClaimJoined
import GoSem.ClaimMapViews
import Derived.JoinedTies
import Derived.KernelRfl
namespace Go.Proofs.Ytdaipnlgloafdaa
/- THE CELL 'sum', in the pinned program and in every row, IS THE sha256 OF THE DUMP (.gsa) THAT YtdaipnlgloafdaaProg.lean LOADS. Nothing in Lean hashes anything: it is a label: what it is worth is what the hold of that sum in a sandbox is worth. -/
noncomputable def Try.pinned : Pinned := { name := "ytdaipnlgloafdaa", sum := "82e04b9857bcbdab9cb2d684870776db5d39c5dfac9f671e27662bf91d1c97a7", checked := Try.checked }
namespace Rows
def none {H : Type} : Left H := { results := [], args := [] }

/-- 'portolanlaw15.UtfValid': WHATEVER THE INPUT: true; the input reads as it did. -/
def utfValidSpec : ChangeSpec := { name := "utfValid", fn := fun _ => fun
  | [d1, d2] => { results := [.lit (.bool true)], args := [d1, d2] }
  | _ => none }
def utfValidRow : OpenClaim := { program := "ytdaipnlgloafdaa", sum := "82e04b9857bcbdab9cb2d684870776db5d39c5dfac9f671e27662bf91d1c97a7", func := "portolan/portolanlaw15.UtfValid", spec := "utfValid", apart := false }
def UtfValidSaid : Prop := utfValidRow.holds Try.pinned (OpenSpec.ofChange utfValidSpec)

/-- ITS FALSE NEIGHBOUR: 'it returns false'. Refute it at one input. -/
def utfValidWrong : ChangeSpec := { name := "utfValid", fn := fun _ => fun
  | [d1, d2] => { results := [.lit (.bool false)], args := [d1, d2] }
  | _ => none }
def UtfValidWrongFalsely : Prop := utfValidRow.holds Try.pinned (OpenSpec.ofChange utfValidWrong)

/-- 'portolanlaw15.UtfQuotes': WHATEVER THE INPUT: true; the input reads as it did. -/
def utfQuotesSpec : ChangeSpec := { name := "utfQuotes", fn := fun _ => fun
  | [d1, d2, d3] => { results := [.lit (.bool true)], args := [d1, d2, d3] }
  | _ => none }
def utfQuotesRow : OpenClaim := { program := "ytdaipnlgloafdaa", sum := "82e04b9857bcbdab9cb2d684870776db5d39c5dfac9f671e27662bf91d1c97a7", func := "portolan/portolanlaw15.UtfQuotes", spec := "utfQuotes", apart := false }
def UtfQuotesSaid : Prop := utfQuotesRow.holds Try.pinned (OpenSpec.ofChange utfQuotesSpec)

/-- ITS FALSE NEIGHBOUR: 'it returns false'. Refute it at one input. -/
def utfQuotesWrong : ChangeSpec := { name := "utfQuotes", fn := fun _ => fun
  | [d1, d2, d3] => { results := [.lit (.bool false)], args := [d1, d2, d3] }
  | _ => none }
def UtfQuotesWrongFalsely : Prop := utfQuotesRow.holds Try.pinned (OpenSpec.ofChange utfQuotesWrong)

/-- 'portolanlaw15.UtfUnquotes': WHATEVER THE INPUT: true; the input reads as it did. -/
def utfUnquotesSpec : ChangeSpec := { name := "utfUnquotes", fn := fun _ => fun
  | [d1, d2] => { results := [.lit (.bool true)], args := [d1, d2] }
  | _ => none }
def utfUnquotesRow : OpenClaim := { program := "ytdaipnlgloafdaa", sum := "82e04b9857bcbdab9cb2d684870776db5d39c5dfac9f671e27662bf91d1c97a7", func := "portolan/portolanlaw15.UtfUnquotes", spec := "utfUnquotes", apart := false }
def UtfUnquotesSaid : Prop := utfUnquotesRow.holds Try.pinned (OpenSpec.ofChange utfUnquotesSpec)

/-- ITS FALSE NEIGHBOUR: 'it returns false'. Refute it at one input. -/
def utfUnquotesWrong : ChangeSpec := { name := "utfUnquotes", fn := fun _ => fun
  | [d1, d2] => { results := [.lit (.bool false)], args := [d1, d2] }
  | _ => none }
def UtfUnquotesWrongFalsely : Prop := utfUnquotesRow.holds Try.pinned (OpenSpec.ofChange utfUnquotesWrong)

/- THE SECOND FORM. 'bulk': how many values and letters a reading holds, each counted each time it is reached (what is shared counts as often as it is met; a slice's spare places count too). A statement '..UptoSaid' is the law's where the arguments, and the package variables that the reading takes, are together of bulk at most 1048576: NARROWER than '..Said'. Prove '..Said' where nothing that the law and all that it calls make is longer than what came in: it says more and counts as full. Else prove '..UptoSaid'. A law counts once. -/
mutual
def uptoBulk {H : Type} : DataW H → Nat
  | .lit (.string bytes) => bytes.length + 1
  | .lit _ => 1
  | .nil => 1
  | .ptr d => uptoBulk d + 1
  | .slice elems spare => uptoBulkAll elems + uptoBulkAll spare + 1
  | .agg parts => uptoBulkAll parts + 1
  | .iface _ d => uptoBulk d + 1
  | .map entries => uptoBulkEntries entries + 1
  | .held _ => 1
def uptoBulkAll {H : Type} : List (DataW H) → Nat
  | [] => 0
  | d :: r => uptoBulk d + uptoBulkAll r
def uptoBulkEntries {H : Type} : List (Lit × DataW H) → Nat
  | [] => 0
  | x :: r => uptoBulkEntry x + uptoBulkEntries r
def uptoBulkEntry {H : Type} : Lit × DataW H → Nat
  | (.string bytes, d) => bytes.length + uptoBulk d + 1
  | (_, d) => uptoBulk d + 1
 end
def uptoSmall : (H : Type) → List (DataW H) → Bool := fun _ ds => decide (uptoBulkAll ds ≤ 1048576)
def OpenSpec.upto (s : _root_.Go.ChangeSpec) : _root_.Go.OpenSpec := { _root_.Go.OpenSpec.ofChange s with cond := some uptoSmall }

/-- 'portolanlaw15.UtfValid', WHERE WHAT IT READS IS OF BULK AT MOST 1048576: true; the input reads as it did. -/
def utfValidUptoRow : OpenClaim := { program := "ytdaipnlgloafdaa", sum := "82e04b9857bcbdab9cb2d684870776db5d39c5dfac9f671e27662bf91d1c97a7", func := "portolan/portolanlaw15.UtfValid", spec := "utfValid", apart := false, narrowed := true }
def UtfValidUptoSaid : Prop := utfValidUptoRow.holds Try.pinned (OpenSpec.upto utfValidSpec)

/-- 'portolanlaw15.UtfQuotes', WHERE WHAT IT READS IS OF BULK AT MOST 1048576: true; the input reads as it did. -/
def utfQuotesUptoRow : OpenClaim := { program := "ytdaipnlgloafdaa", sum := "82e04b9857bcbdab9cb2d684870776db5d39c5dfac9f671e27662bf91d1c97a7", func := "portolan/portolanlaw15.UtfQuotes", spec := "utfQuotes", apart := false, narrowed := true }
def UtfQuotesUptoSaid : Prop := utfQuotesUptoRow.holds Try.pinned (OpenSpec.upto utfQuotesSpec)

/-- 'portolanlaw15.UtfUnquotes', WHERE WHAT IT READS IS OF BULK AT MOST 1048576: true; the input reads as it did. -/
def utfUnquotesUptoRow : OpenClaim := { program := "ytdaipnlgloafdaa", sum := "82e04b9857bcbdab9cb2d684870776db5d39c5dfac9f671e27662bf91d1c97a7", func := "portolan/portolanlaw15.UtfUnquotes", spec := "utfUnquotes", apart := false, narrowed := true }
def UtfUnquotesUptoSaid : Prop := utfUnquotesUptoRow.holds Try.pinned (OpenSpec.upto utfUnquotesSpec)

end Rows
end Go.Proofs.Ytdaipnlgloafdaa
