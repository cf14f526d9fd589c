/-
  DERIVED. GIVEN WITH THE SEED: THE CARDS: each row of YtinhecggmakbnaaGreatDoorRows.lean that lists a variable, with what it lists TIED to the program's text (the seventh form; the later family's looks); each row that meets fmt, with fmt's text TOLD by the authors' own Lean function (tested against real Go, not proved from fmt's source: count such statements apart). THE CARD IS WHAT COUNTS. Prove the row's statement (the work); the ties are given (YtinhecggmakbnaaGreatDoorTie.lean); close each card by the builder's one call (the guide's Derived/Test/ToyasCard.lean, 'card_holds'). Laid BY PROGRAM, IN A SANDBOX (cutbox-door.mjs). By AI agents, Wed Nov 11 2026. No macro, syntax, notation, axiom, sorry.
-/
import Derived.Test.YtinhecggmakbnaaGreatDoorRows
import GoSem.ClaimSeven
namespace Go.Proofs.YtinhecggmakbnaaGreatDoor
namespace Rows

/-- THE TIED CARD OF 'towncrierlaw08.ConnectEncodes'. -/
def connectEncodesCard : Claim7 := { stood := { row := connectEncodesRow, standIns := [], harness := (true, "7a6a570cd7a659659d4e2adac8d2f63fde0b2201c9aa26f6cfe09202c4e1790b"), looks := true }, kinds := [], alts := [], laidByText := true, laidKinds := [.handle, .sentinel, .sentinel, .sentinel, .sentinel, .sentinel, .sentinel, .sentinel], laidTests := true, laidLooks := .later }
def ConnectEncodesCardSaid : Prop := Claim7.holds Tryz.pinned (.plain (OpenSpec.ofChange connectEncodesSpec)) connectEncodesCard

/-- THE TIED CARD OF 'towncrierlaw09.ConnackEncodes'. -/
def connackEncodesCard : Claim7 := { stood := { row := connackEncodesRow, standIns := [], harness := (true, "7a6a570cd7a659659d4e2adac8d2f63fde0b2201c9aa26f6cfe09202c4e1790b"), looks := true }, kinds := [], alts := [], laidByText := true, laidKinds := [.handle, .sentinel, .sentinel, .sentinel, .sentinel, .sentinel, .sentinel, .sentinel], laidTests := true, laidLooks := .later }
def ConnackEncodesCardSaid : Prop := Claim7.holds Tryz.pinned (.plain (OpenSpec.ofChange connackEncodesSpec)) connackEncodesCard

/-- THE TIED CARD OF 'towncrierlaw11.AckEncodes'. -/
def ackEncodesCard : Claim7 := { stood := { row := ackEncodesRow, standIns := [], harness := (true, "7a6a570cd7a659659d4e2adac8d2f63fde0b2201c9aa26f6cfe09202c4e1790b"), looks := true }, kinds := [], alts := [], laidByText := true, laidKinds := [.handle, .sentinel, .sentinel, .sentinel, .sentinel, .sentinel, .sentinel, .sentinel], laidTests := true, laidLooks := .later }
def AckEncodesCardSaid : Prop := Claim7.holds Tryz.pinned (.plain (OpenSpec.ofChange ackEncodesSpec)) ackEncodesCard

/-- THE TIED CARD OF 'towncrierlaw12.SubscribeEncodes'. -/
def subscribeEncodesCard : Claim7 := { stood := { row := subscribeEncodesRow, standIns := [], harness := (true, "7a6a570cd7a659659d4e2adac8d2f63fde0b2201c9aa26f6cfe09202c4e1790b"), looks := true }, kinds := [], alts := [], laidByText := true, laidKinds := [.handle, .sentinel, .sentinel, .sentinel, .sentinel, .sentinel, .sentinel, .sentinel], laidTests := true, laidLooks := .later }
def SubscribeEncodesCardSaid : Prop := Claim7.holds Tryz.pinned (.plain (OpenSpec.ofChange subscribeEncodesSpec)) subscribeEncodesCard

/-- THE TIED CARD OF 'towncrierlaw13.UnsubEncodes'. -/
def unsubEncodesCard : Claim7 := { stood := { row := unsubEncodesRow, standIns := [], harness := (true, "7a6a570cd7a659659d4e2adac8d2f63fde0b2201c9aa26f6cfe09202c4e1790b"), looks := true }, kinds := [], alts := [], laidByText := true, laidKinds := [.handle, .sentinel, .sentinel, .sentinel, .sentinel, .sentinel, .sentinel, .sentinel], laidTests := true, laidLooks := .later }
def UnsubEncodesCardSaid : Prop := Claim7.holds Tryz.pinned (.plain (OpenSpec.ofChange unsubEncodesSpec)) unsubEncodesCard

/-- THE TIED CARD OF 'towncrierlaw14.MiscEncodes'. -/
def miscEncodesCard : Claim7 := { stood := { row := miscEncodesRow, standIns := [], harness := (true, "7a6a570cd7a659659d4e2adac8d2f63fde0b2201c9aa26f6cfe09202c4e1790b"), looks := true }, kinds := [], alts := [], laidByText := true, laidKinds := [.handle, .sentinel, .sentinel, .sentinel, .sentinel, .sentinel, .sentinel, .sentinel], laidTests := true, laidLooks := .later }
def MiscEncodesCardSaid : Prop := Claim7.holds Tryz.pinned (.plain (OpenSpec.ofChange miscEncodesSpec)) miscEncodesCard

/-- THE TIED CARD OF 'towncrierlaw15.PacketBack'. -/
def packetBackCard : Claim7 := { stood := { row := packetBackRow, standIns := [], harness := (true, "7a6a570cd7a659659d4e2adac8d2f63fde0b2201c9aa26f6cfe09202c4e1790b"), looks := true }, kinds := [], alts := [], laidByText := true, laidKinds := [.handle, .sentinel, .sentinel, .sentinel, .sentinel, .sentinel, .sentinel, .sentinel], laidTests := true, laidLooks := .later }
def PacketBackCardSaid : Prop := Claim7.holds Tryz.pinned (.plain (OpenSpec.ofChange packetBackSpec)) packetBackCard

/-- THE SECOND FORM's CARD OF 'towncrierlaw08.ConnectEncodes'. -/
def connectEncodesUptoCard : Claim7 := { stood := { row := connectEncodesUptoRow, standIns := [], harness := (true, "7a6a570cd7a659659d4e2adac8d2f63fde0b2201c9aa26f6cfe09202c4e1790b"), looks := true }, kinds := [], alts := [], laidByText := true, laidKinds := [.handle, .sentinel, .sentinel, .sentinel, .sentinel, .sentinel, .sentinel, .sentinel], laidTests := true, laidLooks := .later }
def ConnectEncodesUptoCardSaid : Prop := Claim7.holds Tryz.pinned (.plain (OpenSpec.upto connectEncodesSpec)) connectEncodesUptoCard

/-- THE SECOND FORM's CARD OF 'towncrierlaw09.ConnackEncodes'. -/
def connackEncodesUptoCard : Claim7 := { stood := { row := connackEncodesUptoRow, standIns := [], harness := (true, "7a6a570cd7a659659d4e2adac8d2f63fde0b2201c9aa26f6cfe09202c4e1790b"), looks := true }, kinds := [], alts := [], laidByText := true, laidKinds := [.handle, .sentinel, .sentinel, .sentinel, .sentinel, .sentinel, .sentinel, .sentinel], laidTests := true, laidLooks := .later }
def ConnackEncodesUptoCardSaid : Prop := Claim7.holds Tryz.pinned (.plain (OpenSpec.upto connackEncodesSpec)) connackEncodesUptoCard

/-- THE SECOND FORM's CARD OF 'towncrierlaw11.AckEncodes'. -/
def ackEncodesUptoCard : Claim7 := { stood := { row := ackEncodesUptoRow, standIns := [], harness := (true, "7a6a570cd7a659659d4e2adac8d2f63fde0b2201c9aa26f6cfe09202c4e1790b"), looks := true }, kinds := [], alts := [], laidByText := true, laidKinds := [.handle, .sentinel, .sentinel, .sentinel, .sentinel, .sentinel, .sentinel, .sentinel], laidTests := true, laidLooks := .later }
def AckEncodesUptoCardSaid : Prop := Claim7.holds Tryz.pinned (.plain (OpenSpec.upto ackEncodesSpec)) ackEncodesUptoCard

/-- THE SECOND FORM's CARD OF 'towncrierlaw12.SubscribeEncodes'. -/
def subscribeEncodesUptoCard : Claim7 := { stood := { row := subscribeEncodesUptoRow, standIns := [], harness := (true, "7a6a570cd7a659659d4e2adac8d2f63fde0b2201c9aa26f6cfe09202c4e1790b"), looks := true }, kinds := [], alts := [], laidByText := true, laidKinds := [.handle, .sentinel, .sentinel, .sentinel, .sentinel, .sentinel, .sentinel, .sentinel], laidTests := true, laidLooks := .later }
def SubscribeEncodesUptoCardSaid : Prop := Claim7.holds Tryz.pinned (.plain (OpenSpec.upto subscribeEncodesSpec)) subscribeEncodesUptoCard

/-- THE SECOND FORM's CARD OF 'towncrierlaw13.UnsubEncodes'. -/
def unsubEncodesUptoCard : Claim7 := { stood := { row := unsubEncodesUptoRow, standIns := [], harness := (true, "7a6a570cd7a659659d4e2adac8d2f63fde0b2201c9aa26f6cfe09202c4e1790b"), looks := true }, kinds := [], alts := [], laidByText := true, laidKinds := [.handle, .sentinel, .sentinel, .sentinel, .sentinel, .sentinel, .sentinel, .sentinel], laidTests := true, laidLooks := .later }
def UnsubEncodesUptoCardSaid : Prop := Claim7.holds Tryz.pinned (.plain (OpenSpec.upto unsubEncodesSpec)) unsubEncodesUptoCard

/-- THE SECOND FORM's CARD OF 'towncrierlaw14.MiscEncodes'. -/
def miscEncodesUptoCard : Claim7 := { stood := { row := miscEncodesUptoRow, standIns := [], harness := (true, "7a6a570cd7a659659d4e2adac8d2f63fde0b2201c9aa26f6cfe09202c4e1790b"), looks := true }, kinds := [], alts := [], laidByText := true, laidKinds := [.handle, .sentinel, .sentinel, .sentinel, .sentinel, .sentinel, .sentinel, .sentinel], laidTests := true, laidLooks := .later }
def MiscEncodesUptoCardSaid : Prop := Claim7.holds Tryz.pinned (.plain (OpenSpec.upto miscEncodesSpec)) miscEncodesUptoCard

/-- THE SECOND FORM's CARD OF 'towncrierlaw15.PacketBack'. -/
def packetBackUptoCard : Claim7 := { stood := { row := packetBackUptoRow, standIns := [], harness := (true, "7a6a570cd7a659659d4e2adac8d2f63fde0b2201c9aa26f6cfe09202c4e1790b"), looks := true }, kinds := [], alts := [], laidByText := true, laidKinds := [.handle, .sentinel, .sentinel, .sentinel, .sentinel, .sentinel, .sentinel, .sentinel], laidTests := true, laidLooks := .later }
def PacketBackUptoCardSaid : Prop := Claim7.holds Tryz.pinned (.plain (OpenSpec.upto packetBackSpec)) packetBackUptoCard
end Rows
end Go.Proofs.YtinhecggmakbnaaGreatDoor
