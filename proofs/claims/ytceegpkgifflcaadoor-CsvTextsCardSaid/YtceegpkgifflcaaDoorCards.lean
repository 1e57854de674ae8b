/-
  DERIVED. GIVEN WITH THE SEED: THE CARDS: each row of YtceegpkgifflcaaDoorRows.lean that lists a variable, with what it lists TIED to the program's text (the seventh form; the later family's looks); each row that meets fmt, with fmt's text TOLD by the authors' own Lean function (tested against real Go, not proved from fmt's source: count such statements apart). THE CARD IS WHAT COUNTS. Prove the row's statement (the work); the ties are given (YtceegpkgifflcaaDoorTie.lean); close each card by the builder's one call (the guide's Derived/Test/ToyasCard.lean, 'card_holds'). Laid BY PROGRAM, IN A SANDBOX (cutbox-door.mjs). By AI agents, Wed Nov 11 2026. No macro, syntax, notation, axiom, sorry.
-/
import Derived.Test.YtceegpkgifflcaaDoorRows
import GoSem.ClaimSeven
namespace Go.Proofs.YtceegpkgifflcaaDoor
namespace Rows

/-- THE TIED CARD OF 'portolanlaw18.CsvTexts'. -/
def csvTextsCard : Claim7 := { stood := { row := csvTextsRow, standIns := [], harness := (true, "cc9212e525ead21221ca0112974c36e3778c649c0df19341c37b094e61086c40"), looks := false }, kinds := [], alts := [], laidByText := true, laidKinds := [.data, .pinned], laidTests := true, laidLooks := .later }
def CsvTextsCardSaid : Prop := Claim7.holds Tryd.pinned (.plain (OpenSpec.ofChange csvTextsSpec)) csvTextsCard

/-- THE SECOND FORM's CARD OF 'portolanlaw18.CsvTexts'. -/
def csvTextsUptoCard : Claim7 := { stood := { row := csvTextsUptoRow, standIns := [], harness := (true, "cc9212e525ead21221ca0112974c36e3778c649c0df19341c37b094e61086c40"), looks := false }, kinds := [], alts := [], laidByText := true, laidKinds := [.data, .pinned], laidTests := true, laidLooks := .later }
def CsvTextsUptoCardSaid : Prop := Claim7.holds Tryd.pinned (.plain (OpenSpec.upto csvTextsSpec)) csvTextsUptoCard
end Rows
end Go.Proofs.YtceegpkgifflcaaDoor
