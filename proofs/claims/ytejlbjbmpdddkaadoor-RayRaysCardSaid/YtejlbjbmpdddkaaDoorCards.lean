/-
  DERIVED. GIVEN WITH THE SEED: THE CARDS: each row of YtejlbjbmpdddkaaDoorRows.lean that lists a variable, with what it lists TIED to the program's text (the seventh form; the later family's looks); each row that meets fmt, with fmt's text TOLD by the authors' own Lean function (tested against real Go, not proved from fmt's source: count such statements apart). THE CARD IS WHAT COUNTS. Prove the row's statement (the work); the ties are given (YtejlbjbmpdddkaaDoorTie.lean); close each card by the builder's one call (the guide's Derived/Test/ToyasCard.lean, 'card_holds'). Laid BY PROGRAM, IN A SANDBOX (cutbox-door.mjs). By AI agents, Wed Nov 11 2026. No macro, syntax, notation, axiom, sorry.
-/
import Derived.Test.YtejlbjbmpdddkaaDoorRows
import GoSem.ClaimSeven
namespace Go.Proofs.YtejlbjbmpdddkaaDoor
namespace Rows

/-- THE TIED CARD OF 'caissalaw04.RayRays'. -/
def rayRaysCard : Claim7 := { stood := { row := rayRaysRow, standIns := [], harness := (true, "8e2c1191af29c33edbe57553d720566601cfe58285f88da87ec1d46fb4a6a449"), looks := false }, kinds := [], alts := [], laidByText := true, laidKinds := [.data, .data], laidTests := true, laidLooks := .later }
def RayRaysCardSaid : Prop := Claim7.holds Tryd.pinned (.plain (OpenSpec.ofChange rayRaysSpec)) rayRaysCard

/-- THE TIED CARD OF 'caissalaw04.RayLines'. -/
def rayLinesCard : Claim7 := { stood := { row := rayLinesRow, standIns := [], harness := (true, "8e2c1191af29c33edbe57553d720566601cfe58285f88da87ec1d46fb4a6a449"), looks := false }, kinds := [], alts := [], laidByText := true, laidKinds := [.data, .data], laidTests := true, laidLooks := .later }
def RayLinesCardSaid : Prop := Claim7.holds Tryd.pinned (.plain (OpenSpec.ofChange rayLinesSpec)) rayLinesCard

/-- THE TIED CARD OF 'caissalaw04.RayReaches'. -/
def rayReachesCard : Claim7 := { stood := { row := rayReachesRow, standIns := [], harness := (true, "8e2c1191af29c33edbe57553d720566601cfe58285f88da87ec1d46fb4a6a449"), looks := false }, kinds := [], alts := [], laidByText := true, laidKinds := [.data, .data], laidTests := true, laidLooks := .later }
def RayReachesCardSaid : Prop := Claim7.holds Tryd.pinned (.plain (OpenSpec.ofChange rayReachesSpec)) rayReachesCard

/-- THE TIED CARD OF 'caissalaw04.RayPawns'. -/
def rayPawnsCard : Claim7 := { stood := { row := rayPawnsRow, standIns := [], harness := (true, "8e2c1191af29c33edbe57553d720566601cfe58285f88da87ec1d46fb4a6a449"), looks := false }, kinds := [], alts := [], laidByText := true, laidKinds := [.data, .data], laidTests := true, laidLooks := .later }
def RayPawnsCardSaid : Prop := Claim7.holds Tryd.pinned (.plain (OpenSpec.ofChange rayPawnsSpec)) rayPawnsCard

/-- THE TIED CARD OF 'caissalaw04.RayHolds'. -/
def rayHoldsCard : Claim7 := { stood := { row := rayHoldsRow, standIns := [], harness := (true, "8e2c1191af29c33edbe57553d720566601cfe58285f88da87ec1d46fb4a6a449"), looks := false }, kinds := [], alts := [], laidByText := true, laidKinds := [.data, .data], laidTests := true, laidLooks := .later }
def RayHoldsCardSaid : Prop := Claim7.holds Tryd.pinned (.plain (OpenSpec.ofChange rayHoldsSpec)) rayHoldsCard

/-- THE SECOND FORM's CARD OF 'caissalaw04.RayRays'. -/
def rayRaysUptoCard : Claim7 := { stood := { row := rayRaysUptoRow, standIns := [], harness := (true, "8e2c1191af29c33edbe57553d720566601cfe58285f88da87ec1d46fb4a6a449"), looks := false }, kinds := [], alts := [], laidByText := true, laidKinds := [.data, .data], laidTests := true, laidLooks := .later }
def RayRaysUptoCardSaid : Prop := Claim7.holds Tryd.pinned (.plain (OpenSpec.upto rayRaysSpec)) rayRaysUptoCard

/-- THE SECOND FORM's CARD OF 'caissalaw04.RayLines'. -/
def rayLinesUptoCard : Claim7 := { stood := { row := rayLinesUptoRow, standIns := [], harness := (true, "8e2c1191af29c33edbe57553d720566601cfe58285f88da87ec1d46fb4a6a449"), looks := false }, kinds := [], alts := [], laidByText := true, laidKinds := [.data, .data], laidTests := true, laidLooks := .later }
def RayLinesUptoCardSaid : Prop := Claim7.holds Tryd.pinned (.plain (OpenSpec.upto rayLinesSpec)) rayLinesUptoCard

/-- THE SECOND FORM's CARD OF 'caissalaw04.RayReaches'. -/
def rayReachesUptoCard : Claim7 := { stood := { row := rayReachesUptoRow, standIns := [], harness := (true, "8e2c1191af29c33edbe57553d720566601cfe58285f88da87ec1d46fb4a6a449"), looks := false }, kinds := [], alts := [], laidByText := true, laidKinds := [.data, .data], laidTests := true, laidLooks := .later }
def RayReachesUptoCardSaid : Prop := Claim7.holds Tryd.pinned (.plain (OpenSpec.upto rayReachesSpec)) rayReachesUptoCard

/-- THE SECOND FORM's CARD OF 'caissalaw04.RayPawns'. -/
def rayPawnsUptoCard : Claim7 := { stood := { row := rayPawnsUptoRow, standIns := [], harness := (true, "8e2c1191af29c33edbe57553d720566601cfe58285f88da87ec1d46fb4a6a449"), looks := false }, kinds := [], alts := [], laidByText := true, laidKinds := [.data, .data], laidTests := true, laidLooks := .later }
def RayPawnsUptoCardSaid : Prop := Claim7.holds Tryd.pinned (.plain (OpenSpec.upto rayPawnsSpec)) rayPawnsUptoCard

/-- THE SECOND FORM's CARD OF 'caissalaw04.RayHolds'. -/
def rayHoldsUptoCard : Claim7 := { stood := { row := rayHoldsUptoRow, standIns := [], harness := (true, "8e2c1191af29c33edbe57553d720566601cfe58285f88da87ec1d46fb4a6a449"), looks := false }, kinds := [], alts := [], laidByText := true, laidKinds := [.data, .data], laidTests := true, laidLooks := .later }
def RayHoldsUptoCardSaid : Prop := Claim7.holds Tryd.pinned (.plain (OpenSpec.upto rayHoldsSpec)) rayHoldsUptoCard
end Rows
end Go.Proofs.YtejlbjbmpdddkaaDoor
