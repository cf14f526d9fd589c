/-
  DERIVED. GIVEN WITH THE SEED: THE CARDS: each row of YthaelhaijeegjaaGreatDoorRows.lean that lists a variable, with what it lists TIED to the program's text (the seventh form; the later family's looks); each row that meets fmt, with fmt's text TOLD by the authors' own Lean function (tested against real Go, not proved from fmt's source: count such statements apart). THE CARD IS WHAT COUNTS. Prove the row's statement (the work); the ties are given (YthaelhaijeegjaaGreatDoorTie.lean); close each card by the builder's one call (the guide's Derived/Test/ToyasCard.lean, 'card_holds'). Laid BY PROGRAM, IN A SANDBOX (cutbox-door.mjs). By AI agents, Wed Nov 11 2026. No macro, syntax, notation, axiom, sorry.
-/
import Derived.Test.YthaelhaijeegjaaGreatDoorRows
import GoSem.ClaimSeven
namespace Go.Proofs.YthaelhaijeegjaaGreatDoor
namespace Rows

/-- THE TIED CARD OF 'towncrierlaw11.AckEncodes'. -/
def ackEncodesCard : Claim7 := { stood := { row := ackEncodesRow, standIns := [], harness := (true, "82b37337cd5d282d7dc70ab7481bbecd4c1b991dd88ad093439761fbc20a80e2"), looks := true }, kinds := [], alts := [], laidByText := true, laidKinds := [.handle, .sentinel, .sentinel, .sentinel, .sentinel, .sentinel, .sentinel, .sentinel], laidTests := true, laidLooks := .later }
def AckEncodesCardSaid : Prop := Claim7.holds Tryz.pinned (.plain (OpenSpec.ofChange ackEncodesSpec)) ackEncodesCard

/-- THE TIED CARD OF 'towncrierlaw11.AckBack'. -/
def ackBackCard : Claim7 := { stood := { row := ackBackRow, standIns := [], harness := (true, "82b37337cd5d282d7dc70ab7481bbecd4c1b991dd88ad093439761fbc20a80e2"), looks := true }, kinds := [], alts := [], laidByText := true, laidKinds := [.handle, .sentinel, .sentinel, .sentinel, .sentinel, .sentinel], laidTests := true, laidLooks := .later }
def AckBackCardSaid : Prop := Claim7.holds Tryz.pinned (.plain (OpenSpec.ofChange ackBackSpec)) ackBackCard

/-- THE TIED CARD OF 'towncrierlaw13.UnsubEncodes'. -/
def unsubEncodesCard : Claim7 := { stood := { row := unsubEncodesRow, standIns := [], harness := (true, "82b37337cd5d282d7dc70ab7481bbecd4c1b991dd88ad093439761fbc20a80e2"), looks := true }, kinds := [], alts := [], laidByText := true, laidKinds := [.handle, .sentinel, .sentinel, .sentinel, .sentinel, .sentinel, .sentinel, .sentinel], laidTests := true, laidLooks := .later }
def UnsubEncodesCardSaid : Prop := Claim7.holds Tryz.pinned (.plain (OpenSpec.ofChange unsubEncodesSpec)) unsubEncodesCard

/-- THE TIED CARD OF 'towncrierlaw13.UnsubBack'. -/
def unsubBackCard : Claim7 := { stood := { row := unsubBackRow, standIns := [], harness := (true, "82b37337cd5d282d7dc70ab7481bbecd4c1b991dd88ad093439761fbc20a80e2"), looks := true }, kinds := [], alts := [], laidByText := true, laidKinds := [.handle, .sentinel, .sentinel, .sentinel, .sentinel, .sentinel], laidTests := true, laidLooks := .later }
def UnsubBackCardSaid : Prop := Claim7.holds Tryz.pinned (.plain (OpenSpec.ofChange unsubBackSpec)) unsubBackCard

/-- THE TIED CARD OF 'towncrierlaw14.MiscEncodes'. -/
def miscEncodesCard : Claim7 := { stood := { row := miscEncodesRow, standIns := [], harness := (true, "82b37337cd5d282d7dc70ab7481bbecd4c1b991dd88ad093439761fbc20a80e2"), looks := true }, kinds := [], alts := [], laidByText := true, laidKinds := [.handle, .sentinel, .sentinel, .sentinel, .sentinel, .sentinel, .sentinel, .sentinel], laidTests := true, laidLooks := .later }
def MiscEncodesCardSaid : Prop := Claim7.holds Tryz.pinned (.plain (OpenSpec.ofChange miscEncodesSpec)) miscEncodesCard

/-- THE TIED CARD OF 'towncrierlaw14.MiscBack'. -/
def miscBackCard : Claim7 := { stood := { row := miscBackRow, standIns := [], harness := (true, "82b37337cd5d282d7dc70ab7481bbecd4c1b991dd88ad093439761fbc20a80e2"), looks := true }, kinds := [], alts := [], laidByText := true, laidKinds := [.handle, .sentinel, .sentinel, .sentinel, .sentinel, .sentinel, .sentinel, .sentinel], laidTests := true, laidLooks := .later }
def MiscBackCardSaid : Prop := Claim7.holds Tryz.pinned (.plain (OpenSpec.ofChange miscBackSpec)) miscBackCard

/-- THE SECOND FORM's CARD OF 'towncrierlaw11.AckEncodes'. -/
def ackEncodesUptoCard : Claim7 := { stood := { row := ackEncodesUptoRow, standIns := [], harness := (true, "82b37337cd5d282d7dc70ab7481bbecd4c1b991dd88ad093439761fbc20a80e2"), looks := true }, kinds := [], alts := [], laidByText := true, laidKinds := [.handle, .sentinel, .sentinel, .sentinel, .sentinel, .sentinel, .sentinel, .sentinel], laidTests := true, laidLooks := .later }
def AckEncodesUptoCardSaid : Prop := Claim7.holds Tryz.pinned (.plain (OpenSpec.upto ackEncodesSpec)) ackEncodesUptoCard

/-- THE SECOND FORM's CARD OF 'towncrierlaw11.AckBack'. -/
def ackBackUptoCard : Claim7 := { stood := { row := ackBackUptoRow, standIns := [], harness := (true, "82b37337cd5d282d7dc70ab7481bbecd4c1b991dd88ad093439761fbc20a80e2"), looks := true }, kinds := [], alts := [], laidByText := true, laidKinds := [.handle, .sentinel, .sentinel, .sentinel, .sentinel, .sentinel], laidTests := true, laidLooks := .later }
def AckBackUptoCardSaid : Prop := Claim7.holds Tryz.pinned (.plain (OpenSpec.upto ackBackSpec)) ackBackUptoCard

/-- THE SECOND FORM's CARD OF 'towncrierlaw13.UnsubEncodes'. -/
def unsubEncodesUptoCard : Claim7 := { stood := { row := unsubEncodesUptoRow, standIns := [], harness := (true, "82b37337cd5d282d7dc70ab7481bbecd4c1b991dd88ad093439761fbc20a80e2"), looks := true }, kinds := [], alts := [], laidByText := true, laidKinds := [.handle, .sentinel, .sentinel, .sentinel, .sentinel, .sentinel, .sentinel, .sentinel], laidTests := true, laidLooks := .later }
def UnsubEncodesUptoCardSaid : Prop := Claim7.holds Tryz.pinned (.plain (OpenSpec.upto unsubEncodesSpec)) unsubEncodesUptoCard

/-- THE SECOND FORM's CARD OF 'towncrierlaw13.UnsubBack'. -/
def unsubBackUptoCard : Claim7 := { stood := { row := unsubBackUptoRow, standIns := [], harness := (true, "82b37337cd5d282d7dc70ab7481bbecd4c1b991dd88ad093439761fbc20a80e2"), looks := true }, kinds := [], alts := [], laidByText := true, laidKinds := [.handle, .sentinel, .sentinel, .sentinel, .sentinel, .sentinel], laidTests := true, laidLooks := .later }
def UnsubBackUptoCardSaid : Prop := Claim7.holds Tryz.pinned (.plain (OpenSpec.upto unsubBackSpec)) unsubBackUptoCard

/-- THE SECOND FORM's CARD OF 'towncrierlaw14.MiscEncodes'. -/
def miscEncodesUptoCard : Claim7 := { stood := { row := miscEncodesUptoRow, standIns := [], harness := (true, "82b37337cd5d282d7dc70ab7481bbecd4c1b991dd88ad093439761fbc20a80e2"), looks := true }, kinds := [], alts := [], laidByText := true, laidKinds := [.handle, .sentinel, .sentinel, .sentinel, .sentinel, .sentinel, .sentinel, .sentinel], laidTests := true, laidLooks := .later }
def MiscEncodesUptoCardSaid : Prop := Claim7.holds Tryz.pinned (.plain (OpenSpec.upto miscEncodesSpec)) miscEncodesUptoCard

/-- THE SECOND FORM's CARD OF 'towncrierlaw14.MiscBack'. -/
def miscBackUptoCard : Claim7 := { stood := { row := miscBackUptoRow, standIns := [], harness := (true, "82b37337cd5d282d7dc70ab7481bbecd4c1b991dd88ad093439761fbc20a80e2"), looks := true }, kinds := [], alts := [], laidByText := true, laidKinds := [.handle, .sentinel, .sentinel, .sentinel, .sentinel, .sentinel, .sentinel, .sentinel], laidTests := true, laidLooks := .later }
def MiscBackUptoCardSaid : Prop := Claim7.holds Tryz.pinned (.plain (OpenSpec.upto miscBackSpec)) miscBackUptoCard
end Rows
end Go.Proofs.YthaelhaijeegjaaGreatDoor
