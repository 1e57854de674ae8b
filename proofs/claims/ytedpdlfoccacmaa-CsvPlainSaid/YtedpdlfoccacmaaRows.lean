/-
  No cell of these rows narrows 'for every input' (looked for: loops, veiled, ifaces, maps, wideKeys, modest, calm, conditions, laid).
  DERIVED. THE GIVEN ROWS OF THIS SEAT. 3 by the template 'for every input the law returns true; each argument reads behind the call as it read before'; 0 by the template 'total and deterministic' (their statements: YtedpdlfoccacmaaTotals.lean).
  GIVEN WITH THE SEED: the statements are not yours to turn. If you find one false, say at which input.
  Laid BY PROGRAM, IN A SANDBOX (cutbox-rows.mjs): the forced cells as the released guide's own fill.sh prints them over the translation f89ab11968a52c16… (all of the seat's roots in one cut). By AI agents, Wed Nov 11 2026. No macro, syntax, notation, axiom, sorry.
-/
import Derived.Test.YtedpdlfoccacmaaChecked
import GoSem.Claim
import GoSem.ClaimJoined
import GoSem.ClaimMapViews
import Derived.JoinedTies
import Derived.KernelRfl
namespace Go.Proofs.Ytedpdlfoccacmaa
/- THE CELL 'sum', in the pinned program and in every row, IS THE sha256 OF THE DUMP (.gsa) THAT YtedpdlfoccacmaaProg.lean LOADS. Nothing in Lean hashes anything: it is a label: what it is worth is what the hold of that sum in a sandbox is worth. -/
noncomputable def Try.pinned : Pinned := { name := "ytedpdlfoccacmaa", sum := "f89ab11968a52c16514c9fddeb69cb58fdf9d1bf13ea4f01bb108405a3a5df9e", checked := Try.checked }
namespace Rows
def none {H : Type} : Left H := { results := [], args := [] }

/-- 'portolanlaw18.CsvParses': WHATEVER THE INPUT: true; the input reads as it did. -/
def csvParsesSpec : ChangeSpec := { name := "csvParses", fn := fun _ => fun
  | [d] => { results := [.lit (.bool true)], args := [d] }
  | _ => none }
def csvParsesRow : OpenClaim := { program := "ytedpdlfoccacmaa", sum := "f89ab11968a52c16514c9fddeb69cb58fdf9d1bf13ea4f01bb108405a3a5df9e", func := "portolan/portolanlaw18.CsvParses", spec := "csvParses", inPlace := ["internal/bytealg.IndexByteString"], apart := false }
def CsvParsesSaid : Prop := csvParsesRow.holds Try.pinned (OpenSpec.ofChange csvParsesSpec)

/-- ITS FALSE NEIGHBOUR: 'it returns false'. Refute it at one input. -/
def csvParsesWrong : ChangeSpec := { name := "csvParses", fn := fun _ => fun
  | [d] => { results := [.lit (.bool false)], args := [d] }
  | _ => none }
def CsvParsesWrongFalsely : Prop := csvParsesRow.holds Try.pinned (OpenSpec.ofChange csvParsesWrong)

/-- 'portolanlaw18.CsvColumns': WHATEVER THE INPUT: true; the input reads as it did. -/
def csvColumnsSpec : ChangeSpec := { name := "csvColumns", fn := fun _ => fun
  | [d1, d2, d3] => { results := [.lit (.bool true)], args := [d1, d2, d3] }
  | _ => none }
def csvColumnsRow : OpenClaim := { program := "ytedpdlfoccacmaa", sum := "f89ab11968a52c16514c9fddeb69cb58fdf9d1bf13ea4f01bb108405a3a5df9e", func := "portolan/portolanlaw18.CsvColumns", spec := "csvColumns", inPlace := ["internal/bytealg.IndexByteString"], unfollowed := true, recurses := true, apart := false }
def CsvColumnsSaid : Prop := csvColumnsRow.holds Try.pinned (OpenSpec.ofChange csvColumnsSpec)

/-- ITS FALSE NEIGHBOUR: 'it returns false'. Refute it at one input. -/
def csvColumnsWrong : ChangeSpec := { name := "csvColumns", fn := fun _ => fun
  | [d1, d2, d3] => { results := [.lit (.bool false)], args := [d1, d2, d3] }
  | _ => none }
def CsvColumnsWrongFalsely : Prop := csvColumnsRow.holds Try.pinned (OpenSpec.ofChange csvColumnsWrong)

/-- 'portolanlaw18.CsvPlain': WHATEVER THE INPUT: true; the input reads as it did. -/
def csvPlainSpec : ChangeSpec := { name := "csvPlain", fn := fun _ => fun
  | [d1, d2, d3] => { results := [.lit (.bool true)], args := [d1, d2, d3] }
  | _ => none }
def csvPlainRow : OpenClaim := { program := "ytedpdlfoccacmaa", sum := "f89ab11968a52c16514c9fddeb69cb58fdf9d1bf13ea4f01bb108405a3a5df9e", func := "portolan/portolanlaw18.CsvPlain", spec := "csvPlain", inPlace := ["internal/bytealg.IndexByteString"], apart := false }
def CsvPlainSaid : Prop := csvPlainRow.holds Try.pinned (OpenSpec.ofChange csvPlainSpec)

/-- ITS FALSE NEIGHBOUR: 'it returns false'. Refute it at one input. -/
def csvPlainWrong : ChangeSpec := { name := "csvPlain", fn := fun _ => fun
  | [d1, d2, d3] => { results := [.lit (.bool false)], args := [d1, d2, d3] }
  | _ => none }
def CsvPlainWrongFalsely : Prop := csvPlainRow.holds Try.pinned (OpenSpec.ofChange csvPlainWrong)

/- THE SECOND FORM. 'bulk': how many values and letters a reading holds, each counted each time it is reached (what is shared counts as often as it is met; a slice's spare places count too). A statement '..UptoSaid' is the law's where the arguments, and the package variables that the reading takes, are together of bulk at most 1048576: NARROWER than '..Said'. Prove '..Said' where nothing that the law and all that it calls make is longer than what came in: it says more and counts as full. Else prove '..UptoSaid'. A law counts once. -/
mutual
def uptoBulk {H : Type} : DataW H → Nat
  | .lit (.string bytes) => bytes.length + 1
  | .lit _ => 1
  | .nil => 1
  | .ptr d => uptoBulk d + 1
  | .slice elems spare => uptoBulkAll elems + uptoBulkAll spare + 1
  | .agg parts => uptoBulkAll parts + 1
  | .iface _ d => uptoBulk d + 1
  | .map entries => uptoBulkEntries entries + 1
  | .held _ => 1
def uptoBulkAll {H : Type} : List (DataW H) → Nat
  | [] => 0
  | d :: r => uptoBulk d + uptoBulkAll r
def uptoBulkEntries {H : Type} : List (Lit × DataW H) → Nat
  | [] => 0
  | x :: r => uptoBulkEntry x + uptoBulkEntries r
def uptoBulkEntry {H : Type} : Lit × DataW H → Nat
  | (.string bytes, d) => bytes.length + uptoBulk d + 1
  | (_, d) => uptoBulk d + 1
 end
def uptoSmall : (H : Type) → List (DataW H) → Bool := fun _ ds => decide (uptoBulkAll ds ≤ 1048576)
def OpenSpec.upto (s : _root_.Go.ChangeSpec) : _root_.Go.OpenSpec := { _root_.Go.OpenSpec.ofChange s with cond := some uptoSmall }

/-- 'portolanlaw18.CsvParses', WHERE WHAT IT READS IS OF BULK AT MOST 1048576: true; the input reads as it did. -/
def csvParsesUptoRow : OpenClaim := { program := "ytedpdlfoccacmaa", sum := "f89ab11968a52c16514c9fddeb69cb58fdf9d1bf13ea4f01bb108405a3a5df9e", func := "portolan/portolanlaw18.CsvParses", spec := "csvParses", inPlace := ["internal/bytealg.IndexByteString"], apart := false, narrowed := true }
def CsvParsesUptoSaid : Prop := csvParsesUptoRow.holds Try.pinned (OpenSpec.upto csvParsesSpec)

/-- 'portolanlaw18.CsvColumns', WHERE WHAT IT READS IS OF BULK AT MOST 1048576: true; the input reads as it did. -/
def csvColumnsUptoRow : OpenClaim := { program := "ytedpdlfoccacmaa", sum := "f89ab11968a52c16514c9fddeb69cb58fdf9d1bf13ea4f01bb108405a3a5df9e", func := "portolan/portolanlaw18.CsvColumns", spec := "csvColumns", inPlace := ["internal/bytealg.IndexByteString"], unfollowed := true, recurses := true, apart := false, narrowed := true }
def CsvColumnsUptoSaid : Prop := csvColumnsUptoRow.holds Try.pinned (OpenSpec.upto csvColumnsSpec)

/-- 'portolanlaw18.CsvPlain', WHERE WHAT IT READS IS OF BULK AT MOST 1048576: true; the input reads as it did. -/
def csvPlainUptoRow : OpenClaim := { program := "ytedpdlfoccacmaa", sum := "f89ab11968a52c16514c9fddeb69cb58fdf9d1bf13ea4f01bb108405a3a5df9e", func := "portolan/portolanlaw18.CsvPlain", spec := "csvPlain", inPlace := ["internal/bytealg.IndexByteString"], apart := false, narrowed := true }
def CsvPlainUptoSaid : Prop := csvPlainUptoRow.holds Try.pinned (OpenSpec.upto csvPlainSpec)

end Rows
end Go.Proofs.Ytedpdlfoccacmaa
