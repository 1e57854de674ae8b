/-
  DERIVED. GIVEN WITH THE SEED: THE CARDS: each row of YtdbcklabinmgfaaDoorRows.lean that lists a variable, with what it lists TIED to the program's text (the seventh form; the later family's looks); each row that meets fmt, with fmt's text TOLD by the authors' own Lean function (tested against real Go, not proved from fmt's source: count such statements apart). THE CARD IS WHAT COUNTS. Prove the row's statement (the work); the ties are given (YtdbcklabinmgfaaDoorTie.lean); close each card by the builder's one call (the guide's Derived/Test/ToyasCard.lean, 'card_holds'). Laid BY PROGRAM, IN A SANDBOX (cutbox-door.mjs). By AI agents, Wed Nov 11 2026. No macro, syntax, notation, axiom, sorry.
-/
import Derived.Test.YtdbcklabinmgfaaDoorRows
import GoSem.ClaimSeven
namespace Go.Proofs.YtdbcklabinmgfaaDoor
namespace Rows

/-- THE TIED CARD OF 'portolanlaw16.DecParses'. -/
def decParsesCard : Claim7 := { stood := { row := decParsesRow, standIns := [], harness := (true, "34687c35b637fcaf18cd0c35a8b8cc67c7fc3b5e6ce33d7cf31fde3321fed757"), looks := false }, kinds := [], alts := [], laidByText := true, laidKinds := [.data, .data, .data, .data, .pinned], laidTests := true, laidLooks := .later }
def DecParsesCardSaid : Prop := Claim7.holds Tryd.pinned (.plain (OpenSpec.ofChange decParsesSpec)) decParsesCard

/-- THE TIED CARD OF 'portolanlaw16.DecTexts'. -/
def decTextsCard : Claim7 := { stood := { row := decTextsRow, standIns := [], harness := (true, "34687c35b637fcaf18cd0c35a8b8cc67c7fc3b5e6ce33d7cf31fde3321fed757"), looks := false }, kinds := [], alts := [], laidByText := true, laidKinds := [.data, .data, .data, .data, .pinned], laidTests := true, laidLooks := .later }
def DecTextsCardSaid : Prop := Claim7.holds Tryd.pinned (.plain (OpenSpec.ofChange decTextsSpec)) decTextsCard

/-- THE TIED CARD OF 'portolanlaw16.DecOrders'. -/
def decOrdersCard : Claim7 := { stood := { row := decOrdersRow, standIns := [], harness := (true, "34687c35b637fcaf18cd0c35a8b8cc67c7fc3b5e6ce33d7cf31fde3321fed757"), looks := false }, kinds := [], alts := [], laidByText := true, laidKinds := [.data, .data, .data, .data, .pinned], laidTests := true, laidLooks := .later }
def DecOrdersCardSaid : Prop := Claim7.holds Tryd.pinned (.plain (OpenSpec.ofChange decOrdersSpec)) decOrdersCard

/-- THE TIED CARD OF 'portolanlaw16.DecOfs'. -/
def decOfsCard : Claim7 := { stood := { row := decOfsRow, standIns := [], harness := (true, "34687c35b637fcaf18cd0c35a8b8cc67c7fc3b5e6ce33d7cf31fde3321fed757"), looks := false }, kinds := [], alts := [], laidByText := true, laidKinds := [.data, .data, .data, .data, .pinned], laidTests := true, laidLooks := .later }
def DecOfsCardSaid : Prop := Claim7.holds Tryd.pinned (.plain (OpenSpec.ofChange decOfsSpec)) decOfsCard

/-- THE TIED CARD OF 'portolanlaw16.DecLikes'. -/
def decLikesCard : Claim7 := { stood := { row := decLikesRow, standIns := [], harness := (true, "34687c35b637fcaf18cd0c35a8b8cc67c7fc3b5e6ce33d7cf31fde3321fed757"), looks := false }, kinds := [], alts := [], laidByText := true, laidKinds := [.data, .data, .data, .data, .pinned], laidTests := true, laidLooks := .later }
def DecLikesCardSaid : Prop := Claim7.holds Tryd.pinned (.plain (OpenSpec.ofChange decLikesSpec)) decLikesCard

/-- THE SECOND FORM's CARD OF 'portolanlaw16.DecParses'. -/
def decParsesUptoCard : Claim7 := { stood := { row := decParsesUptoRow, standIns := [], harness := (true, "34687c35b637fcaf18cd0c35a8b8cc67c7fc3b5e6ce33d7cf31fde3321fed757"), looks := false }, kinds := [], alts := [], laidByText := true, laidKinds := [.data, .data, .data, .data, .pinned], laidTests := true, laidLooks := .later }
def DecParsesUptoCardSaid : Prop := Claim7.holds Tryd.pinned (.plain (OpenSpec.upto decParsesSpec)) decParsesUptoCard

/-- THE SECOND FORM's CARD OF 'portolanlaw16.DecTexts'. -/
def decTextsUptoCard : Claim7 := { stood := { row := decTextsUptoRow, standIns := [], harness := (true, "34687c35b637fcaf18cd0c35a8b8cc67c7fc3b5e6ce33d7cf31fde3321fed757"), looks := false }, kinds := [], alts := [], laidByText := true, laidKinds := [.data, .data, .data, .data, .pinned], laidTests := true, laidLooks := .later }
def DecTextsUptoCardSaid : Prop := Claim7.holds Tryd.pinned (.plain (OpenSpec.upto decTextsSpec)) decTextsUptoCard

/-- THE SECOND FORM's CARD OF 'portolanlaw16.DecOrders'. -/
def decOrdersUptoCard : Claim7 := { stood := { row := decOrdersUptoRow, standIns := [], harness := (true, "34687c35b637fcaf18cd0c35a8b8cc67c7fc3b5e6ce33d7cf31fde3321fed757"), looks := false }, kinds := [], alts := [], laidByText := true, laidKinds := [.data, .data, .data, .data, .pinned], laidTests := true, laidLooks := .later }
def DecOrdersUptoCardSaid : Prop := Claim7.holds Tryd.pinned (.plain (OpenSpec.upto decOrdersSpec)) decOrdersUptoCard

/-- THE SECOND FORM's CARD OF 'portolanlaw16.DecOfs'. -/
def decOfsUptoCard : Claim7 := { stood := { row := decOfsUptoRow, standIns := [], harness := (true, "34687c35b637fcaf18cd0c35a8b8cc67c7fc3b5e6ce33d7cf31fde3321fed757"), looks := false }, kinds := [], alts := [], laidByText := true, laidKinds := [.data, .data, .data, .data, .pinned], laidTests := true, laidLooks := .later }
def DecOfsUptoCardSaid : Prop := Claim7.holds Tryd.pinned (.plain (OpenSpec.upto decOfsSpec)) decOfsUptoCard

/-- THE SECOND FORM's CARD OF 'portolanlaw16.DecLikes'. -/
def decLikesUptoCard : Claim7 := { stood := { row := decLikesUptoRow, standIns := [], harness := (true, "34687c35b637fcaf18cd0c35a8b8cc67c7fc3b5e6ce33d7cf31fde3321fed757"), looks := false }, kinds := [], alts := [], laidByText := true, laidKinds := [.data, .data, .data, .data, .pinned], laidTests := true, laidLooks := .later }
def DecLikesUptoCardSaid : Prop := Claim7.holds Tryd.pinned (.plain (OpenSpec.upto decLikesSpec)) decLikesUptoCard
end Rows
end Go.Proofs.YtdbcklabinmgfaaDoor
