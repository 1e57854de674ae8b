/-
  DERIVED. GIVEN WITH THE SEED: THE CARDS: each row of YtkmdimepbghpcaaDoorRows.lean that lists a variable, with what it lists TIED to the program's text (the seventh form; the later family's looks); each row that meets fmt, with fmt's text TOLD by the authors' own Lean function (tested against real Go, not proved from fmt's source: count such statements apart). THE CARD IS WHAT COUNTS. Prove the row's statement (the work); the ties are given (YtkmdimepbghpcaaDoorTie.lean); close each card by the builder's one call (the guide's Derived/Test/ToyasCard.lean, 'card_holds'). Laid BY PROGRAM, IN A SANDBOX (cutbox-door.mjs). By AI agents, Wed Nov 11 2026. No macro, syntax, notation, axiom, sorry.
-/
import Derived.Test.YtkmdimepbghpcaaDoorRows
import GoSem.ClaimSeven
namespace Go.Proofs.YtkmdimepbghpcaaDoor
namespace Rows

/-- THE TIED CARD OF 'portolanlaw33.ReqWords'. -/
def reqWordsCard : Claim7 := { stood := { row := reqWordsRow, standIns := [], harness := (true, "e785f1a575da19600bdd40b6ccd2adbc2eeb4cfc74b3a333c5cc278d68cb962c"), looks := false }, kinds := [], alts := [], laidByText := true, laidKinds := [.data, .pinned], laidTests := true, laidLooks := .later }
def ReqWordsCardSaid : Prop := Claim7.holds Tryd.pinned (.plain (OpenSpec.ofChange reqWordsSpec)) reqWordsCard

/-- THE SECOND FORM's CARD OF 'portolanlaw33.ReqWords'. -/
def reqWordsUptoCard : Claim7 := { stood := { row := reqWordsUptoRow, standIns := [], harness := (true, "e785f1a575da19600bdd40b6ccd2adbc2eeb4cfc74b3a333c5cc278d68cb962c"), looks := false }, kinds := [], alts := [], laidByText := true, laidKinds := [.data, .pinned], laidTests := true, laidLooks := .later }
def ReqWordsUptoCardSaid : Prop := Claim7.holds Tryd.pinned (.plain (OpenSpec.upto reqWordsSpec)) reqWordsUptoCard
end Rows
end Go.Proofs.YtkmdimepbghpcaaDoor
