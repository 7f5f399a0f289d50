/-
  DERIVED. GIVEN WITH THE SEED: THE CARDS: each row of YtelkmdklpcfobaaGreatDoorRows.lean that lists a variable, with what it lists TIED to the program's text (the seventh form; the later family's looks); each row that meets fmt, with fmt's text TOLD by the authors' own Lean function (tested against real Go, not proved from fmt's source: count such statements apart). THE CARD IS WHAT COUNTS. Prove the row's statement (the work); the ties are given (YtelkmdklpcfobaaGreatDoorTie.lean); close each card by the builder's one call (the guide's Derived/Test/ToyasCard.lean, 'card_holds'). Laid BY PROGRAM, IN A SANDBOX (cutbox-door.mjs). By AI agents, Wed Nov 11 2026. No macro, syntax, notation, axiom, sorry.
-/
import Derived.Test.YtelkmdklpcfobaaGreatDoorRows
import GoSem.ClaimSeven
namespace Go.Proofs.YtelkmdklpcfobaaGreatDoor
namespace Rows

/-- THE TIED CARD OF 'caissalaw06.PositionValid'. -/
def positionValidCard : Claim7 := { stood := { row := positionValidRow, standIns := [], harness := (true, "030f337916e3559c07eca6b400c5046e6b5d381ba01b7180a0d656fb182a6520"), looks := true }, kinds := [], alts := [], laidByText := true, laidKinds := [.data, .data, .data, .data, .data, .data, .data, .sentinel, .sentinel, .data, .pinned], laidTests := true, laidLooks := .later }
def PositionValidCardSaid : Prop := Claim7.holds Tryz.pinned (.plain (OpenSpec.ofChange positionValidSpec)) positionValidCard

/-- THE TIED CARD OF 'caissalaw06.PositionOf'. -/
def positionOfCard : Claim7 := { stood := { row := positionOfRow, standIns := [], harness := (true, "030f337916e3559c07eca6b400c5046e6b5d381ba01b7180a0d656fb182a6520"), looks := true }, kinds := [], alts := [], laidByText := true, laidKinds := [.data, .data, .data, .data, .data, .data, .data, .sentinel, .sentinel, .data, .pinned], laidTests := true, laidLooks := .later }
def PositionOfCardSaid : Prop := Claim7.holds Tryz.pinned (.plain (OpenSpec.ofChange positionOfSpec)) positionOfCard

/-- THE TIED CARD OF 'caissalaw06.PositionEqual'. -/
def positionEqualCard : Claim7 := { stood := { row := positionEqualRow, standIns := [], harness := (true, "030f337916e3559c07eca6b400c5046e6b5d381ba01b7180a0d656fb182a6520"), looks := true }, kinds := [], alts := [], laidByText := true, laidKinds := [.data, .data, .data, .data, .data, .data, .data, .sentinel, .sentinel, .data, .pinned], laidTests := true, laidLooks := .later }
def PositionEqualCardSaid : Prop := Claim7.holds Tryz.pinned (.plain (OpenSpec.ofChange positionEqualSpec)) positionEqualCard

/-- THE TIED CARD OF 'caissalaw06.PositionTexts'. -/
def positionTextsCard : Claim7 := { stood := { row := positionTextsRow, standIns := [], harness := (true, "030f337916e3559c07eca6b400c5046e6b5d381ba01b7180a0d656fb182a6520"), looks := true }, kinds := [], alts := [], laidByText := true, laidKinds := [.data, .data, .data, .data, .data, .data, .data, .sentinel, .sentinel, .data, .pinned], laidTests := true, laidLooks := .later }
def PositionTextsCardSaid : Prop := Claim7.holds Tryz.pinned (.plain (OpenSpec.ofChange positionTextsSpec)) positionTextsCard

/-- THE TIED CARD OF 'caissalaw06.PositionParses'. -/
def positionParsesCard : Claim7 := { stood := { row := positionParsesRow, standIns := [], harness := (true, "030f337916e3559c07eca6b400c5046e6b5d381ba01b7180a0d656fb182a6520"), looks := true }, kinds := [], alts := [], laidByText := true, laidKinds := [.data, .data, .data, .data, .data, .data, .data, .sentinel, .sentinel, .data, .pinned], laidTests := true, laidLooks := .later }
def PositionParsesCardSaid : Prop := Claim7.holds Tryz.pinned (.plain (OpenSpec.ofChange positionParsesSpec)) positionParsesCard

/-- THE TIED CARD OF 'caissalaw06.PositionHolds'. -/
def positionHoldsCard : Claim7 := { stood := { row := positionHoldsRow, standIns := [], harness := (true, "030f337916e3559c07eca6b400c5046e6b5d381ba01b7180a0d656fb182a6520"), looks := true }, kinds := [], alts := [], laidByText := true, laidKinds := [.data, .data, .data, .data, .data, .data, .data, .sentinel, .sentinel, .data, .pinned], laidTests := true, laidLooks := .later }
def PositionHoldsCardSaid : Prop := Claim7.holds Tryz.pinned (.plain (OpenSpec.ofChange positionHoldsSpec)) positionHoldsCard

/-- THE SECOND FORM's CARD OF 'caissalaw06.PositionValid'. -/
def positionValidUptoCard : Claim7 := { stood := { row := positionValidUptoRow, standIns := [], harness := (true, "030f337916e3559c07eca6b400c5046e6b5d381ba01b7180a0d656fb182a6520"), looks := true }, kinds := [], alts := [], laidByText := true, laidKinds := [.data, .data, .data, .data, .data, .data, .data, .sentinel, .sentinel, .data, .pinned], laidTests := true, laidLooks := .later }
def PositionValidUptoCardSaid : Prop := Claim7.holds Tryz.pinned (.plain (OpenSpec.upto positionValidSpec)) positionValidUptoCard

/-- THE SECOND FORM's CARD OF 'caissalaw06.PositionOf'. -/
def positionOfUptoCard : Claim7 := { stood := { row := positionOfUptoRow, standIns := [], harness := (true, "030f337916e3559c07eca6b400c5046e6b5d381ba01b7180a0d656fb182a6520"), looks := true }, kinds := [], alts := [], laidByText := true, laidKinds := [.data, .data, .data, .data, .data, .data, .data, .sentinel, .sentinel, .data, .pinned], laidTests := true, laidLooks := .later }
def PositionOfUptoCardSaid : Prop := Claim7.holds Tryz.pinned (.plain (OpenSpec.upto positionOfSpec)) positionOfUptoCard

/-- THE SECOND FORM's CARD OF 'caissalaw06.PositionEqual'. -/
def positionEqualUptoCard : Claim7 := { stood := { row := positionEqualUptoRow, standIns := [], harness := (true, "030f337916e3559c07eca6b400c5046e6b5d381ba01b7180a0d656fb182a6520"), looks := true }, kinds := [], alts := [], laidByText := true, laidKinds := [.data, .data, .data, .data, .data, .data, .data, .sentinel, .sentinel, .data, .pinned], laidTests := true, laidLooks := .later }
def PositionEqualUptoCardSaid : Prop := Claim7.holds Tryz.pinned (.plain (OpenSpec.upto positionEqualSpec)) positionEqualUptoCard

/-- THE SECOND FORM's CARD OF 'caissalaw06.PositionTexts'. -/
def positionTextsUptoCard : Claim7 := { stood := { row := positionTextsUptoRow, standIns := [], harness := (true, "030f337916e3559c07eca6b400c5046e6b5d381ba01b7180a0d656fb182a6520"), looks := true }, kinds := [], alts := [], laidByText := true, laidKinds := [.data, .data, .data, .data, .data, .data, .data, .sentinel, .sentinel, .data, .pinned], laidTests := true, laidLooks := .later }
def PositionTextsUptoCardSaid : Prop := Claim7.holds Tryz.pinned (.plain (OpenSpec.upto positionTextsSpec)) positionTextsUptoCard

/-- THE SECOND FORM's CARD OF 'caissalaw06.PositionParses'. -/
def positionParsesUptoCard : Claim7 := { stood := { row := positionParsesUptoRow, standIns := [], harness := (true, "030f337916e3559c07eca6b400c5046e6b5d381ba01b7180a0d656fb182a6520"), looks := true }, kinds := [], alts := [], laidByText := true, laidKinds := [.data, .data, .data, .data, .data, .data, .data, .sentinel, .sentinel, .data, .pinned], laidTests := true, laidLooks := .later }
def PositionParsesUptoCardSaid : Prop := Claim7.holds Tryz.pinned (.plain (OpenSpec.upto positionParsesSpec)) positionParsesUptoCard

/-- THE SECOND FORM's CARD OF 'caissalaw06.PositionHolds'. -/
def positionHoldsUptoCard : Claim7 := { stood := { row := positionHoldsUptoRow, standIns := [], harness := (true, "030f337916e3559c07eca6b400c5046e6b5d381ba01b7180a0d656fb182a6520"), looks := true }, kinds := [], alts := [], laidByText := true, laidKinds := [.data, .data, .data, .data, .data, .data, .data, .sentinel, .sentinel, .data, .pinned], laidTests := true, laidLooks := .later }
def PositionHoldsUptoCardSaid : Prop := Claim7.holds Tryz.pinned (.plain (OpenSpec.upto positionHoldsSpec)) positionHoldsUptoCard
end Rows
end Go.Proofs.YtelkmdklpcfobaaGreatDoor
