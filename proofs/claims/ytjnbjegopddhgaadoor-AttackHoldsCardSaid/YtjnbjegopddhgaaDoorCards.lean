/-
  DERIVED. GIVEN WITH THE SEED: THE CARDS: each row of YtjnbjegopddhgaaDoorRows.lean that lists a variable, with what it lists TIED to the program's text (the seventh form; the later family's looks); each row that meets fmt, with fmt's text TOLD by the authors' own Lean function (tested against real Go, not proved from fmt's source: count such statements apart). THE CARD IS WHAT COUNTS. Prove the row's statement (the work); the ties are given (YtjnbjegopddhgaaDoorTie.lean); close each card by the builder's one call (the guide's Derived/Test/ToyasCard.lean, 'card_holds'). Laid BY PROGRAM, IN A SANDBOX (cutbox-door.mjs). By AI agents, Wed Nov 11 2026. No macro, syntax, notation, axiom, sorry.
-/
import Derived.Test.YtjnbjegopddhgaaDoorRows
import GoSem.ClaimSeven
namespace Go.Proofs.YtjnbjegopddhgaaDoor
namespace Rows

/-- THE TIED CARD OF 'caissalaw05.AttackAttackers'. -/
def attackAttackersCard : Claim7 := { stood := { row := attackAttackersRow, standIns := [], harness := (true, "7d07d52d1be505db826ea81341d744e75cca0b06f4e0721bba810f05ba7d4e97"), looks := false }, kinds := [], alts := [], laidByText := true, laidKinds := [.data, .data, .data], laidTests := true, laidLooks := .later }
def AttackAttackersCardSaid : Prop := Claim7.holds Tryd.pinned (.plain (OpenSpec.ofChange attackAttackersSpec)) attackAttackersCard

/-- THE TIED CARD OF 'caissalaw05.AttackAll'. -/
def attackAllCard : Claim7 := { stood := { row := attackAllRow, standIns := [], harness := (true, "7d07d52d1be505db826ea81341d744e75cca0b06f4e0721bba810f05ba7d4e97"), looks := false }, kinds := [], alts := [], laidByText := true, laidKinds := [.data, .data, .data], laidTests := true, laidLooks := .later }
def AttackAllCardSaid : Prop := Claim7.holds Tryd.pinned (.plain (OpenSpec.ofChange attackAllSpec)) attackAllCard

/-- THE TIED CARD OF 'caissalaw05.AttackChecks'. -/
def attackChecksCard : Claim7 := { stood := { row := attackChecksRow, standIns := [], harness := (true, "7d07d52d1be505db826ea81341d744e75cca0b06f4e0721bba810f05ba7d4e97"), looks := false }, kinds := [], alts := [], laidByText := true, laidKinds := [.data, .data, .data], laidTests := true, laidLooks := .later }
def AttackChecksCardSaid : Prop := Claim7.holds Tryd.pinned (.plain (OpenSpec.ofChange attackChecksSpec)) attackChecksCard

/-- THE TIED CARD OF 'caissalaw05.AttackPins'. -/
def attackPinsCard : Claim7 := { stood := { row := attackPinsRow, standIns := [], harness := (true, "7d07d52d1be505db826ea81341d744e75cca0b06f4e0721bba810f05ba7d4e97"), looks := false }, kinds := [], alts := [], laidByText := true, laidKinds := [.data, .data, .data], laidTests := true, laidLooks := .later }
def AttackPinsCardSaid : Prop := Claim7.holds Tryd.pinned (.plain (OpenSpec.ofChange attackPinsSpec)) attackPinsCard

/-- THE TIED CARD OF 'caissalaw05.AttackHolds'. -/
def attackHoldsCard : Claim7 := { stood := { row := attackHoldsRow, standIns := [], harness := (true, "7d07d52d1be505db826ea81341d744e75cca0b06f4e0721bba810f05ba7d4e97"), looks := false }, kinds := [], alts := [], laidByText := true, laidKinds := [.data, .data, .data], laidTests := true, laidLooks := .later }
def AttackHoldsCardSaid : Prop := Claim7.holds Tryd.pinned (.plain (OpenSpec.ofChange attackHoldsSpec)) attackHoldsCard

/-- THE SECOND FORM's CARD OF 'caissalaw05.AttackAttackers'. -/
def attackAttackersUptoCard : Claim7 := { stood := { row := attackAttackersUptoRow, standIns := [], harness := (true, "7d07d52d1be505db826ea81341d744e75cca0b06f4e0721bba810f05ba7d4e97"), looks := false }, kinds := [], alts := [], laidByText := true, laidKinds := [.data, .data, .data], laidTests := true, laidLooks := .later }
def AttackAttackersUptoCardSaid : Prop := Claim7.holds Tryd.pinned (.plain (OpenSpec.upto attackAttackersSpec)) attackAttackersUptoCard

/-- THE SECOND FORM's CARD OF 'caissalaw05.AttackAll'. -/
def attackAllUptoCard : Claim7 := { stood := { row := attackAllUptoRow, standIns := [], harness := (true, "7d07d52d1be505db826ea81341d744e75cca0b06f4e0721bba810f05ba7d4e97"), looks := false }, kinds := [], alts := [], laidByText := true, laidKinds := [.data, .data, .data], laidTests := true, laidLooks := .later }
def AttackAllUptoCardSaid : Prop := Claim7.holds Tryd.pinned (.plain (OpenSpec.upto attackAllSpec)) attackAllUptoCard

/-- THE SECOND FORM's CARD OF 'caissalaw05.AttackChecks'. -/
def attackChecksUptoCard : Claim7 := { stood := { row := attackChecksUptoRow, standIns := [], harness := (true, "7d07d52d1be505db826ea81341d744e75cca0b06f4e0721bba810f05ba7d4e97"), looks := false }, kinds := [], alts := [], laidByText := true, laidKinds := [.data, .data, .data], laidTests := true, laidLooks := .later }
def AttackChecksUptoCardSaid : Prop := Claim7.holds Tryd.pinned (.plain (OpenSpec.upto attackChecksSpec)) attackChecksUptoCard

/-- THE SECOND FORM's CARD OF 'caissalaw05.AttackPins'. -/
def attackPinsUptoCard : Claim7 := { stood := { row := attackPinsUptoRow, standIns := [], harness := (true, "7d07d52d1be505db826ea81341d744e75cca0b06f4e0721bba810f05ba7d4e97"), looks := false }, kinds := [], alts := [], laidByText := true, laidKinds := [.data, .data, .data], laidTests := true, laidLooks := .later }
def AttackPinsUptoCardSaid : Prop := Claim7.holds Tryd.pinned (.plain (OpenSpec.upto attackPinsSpec)) attackPinsUptoCard

/-- THE SECOND FORM's CARD OF 'caissalaw05.AttackHolds'. -/
def attackHoldsUptoCard : Claim7 := { stood := { row := attackHoldsUptoRow, standIns := [], harness := (true, "7d07d52d1be505db826ea81341d744e75cca0b06f4e0721bba810f05ba7d4e97"), looks := false }, kinds := [], alts := [], laidByText := true, laidKinds := [.data, .data, .data], laidTests := true, laidLooks := .later }
def AttackHoldsUptoCardSaid : Prop := Claim7.holds Tryd.pinned (.plain (OpenSpec.upto attackHoldsSpec)) attackHoldsUptoCard
end Rows
end Go.Proofs.YtjnbjegopddhgaaDoor
