/-
  DERIVED. GIVEN WITH THE SEED: THE CARDS: each row of YtfkimpcaokgldaaGreatDoorRows.lean that lists a variable, with what it lists TIED to the program's text (the seventh form; the later family's looks); each row that meets fmt, with fmt's text TOLD by the authors' own Lean function (tested against real Go, not proved from fmt's source: count such statements apart). THE CARD IS WHAT COUNTS. Prove the row's statement (the work); the ties are given (YtfkimpcaokgldaaGreatDoorTie.lean); close each card by the builder's one call (the guide's Derived/Test/ToyasCard.lean, 'card_holds'). Laid BY PROGRAM, IN A SANDBOX (cutbox-door.mjs). By AI agents, Wed Nov 11 2026. No macro, syntax, notation, axiom, sorry.
-/
import Derived.Test.YtfkimpcaokgldaaGreatDoorRows
import GoSem.ClaimSeven
namespace Go.Proofs.YtfkimpcaokgldaaGreatDoor
namespace Rows

/-- THE TIED CARD OF 'towncrierlaw08.ConnectEncodes'. -/
def connectEncodesCard : Claim7 := { stood := { row := connectEncodesRow, standIns := [], harness := (true, "f6b72c44098926aead223be27acde663147fae2feff41e30307fafb8c78853a6"), looks := true }, kinds := [], alts := [], laidByText := true, laidKinds := [.handle, .sentinel, .sentinel, .sentinel, .sentinel, .sentinel, .sentinel, .sentinel], laidTests := true, laidLooks := .later }
def ConnectEncodesCardSaid : Prop := Claim7.holds Tryz.pinned (.plain (OpenSpec.ofChange connectEncodesSpec)) connectEncodesCard

/-- THE TIED CARD OF 'towncrierlaw15.PacketBack'. -/
def packetBackCard : Claim7 := { stood := { row := packetBackRow, standIns := [], harness := (true, "f6b72c44098926aead223be27acde663147fae2feff41e30307fafb8c78853a6"), looks := true }, kinds := [], alts := [], laidByText := true, laidKinds := [.handle, .sentinel, .sentinel, .sentinel, .sentinel, .sentinel, .sentinel, .sentinel], laidTests := true, laidLooks := .later }
def PacketBackCardSaid : Prop := Claim7.holds Tryz.pinned (.plain (OpenSpec.ofChange packetBackSpec)) packetBackCard

/-- THE SECOND FORM's CARD OF 'towncrierlaw08.ConnectEncodes'. -/
def connectEncodesUptoCard : Claim7 := { stood := { row := connectEncodesUptoRow, standIns := [], harness := (true, "f6b72c44098926aead223be27acde663147fae2feff41e30307fafb8c78853a6"), looks := true }, kinds := [], alts := [], laidByText := true, laidKinds := [.handle, .sentinel, .sentinel, .sentinel, .sentinel, .sentinel, .sentinel, .sentinel], laidTests := true, laidLooks := .later }
def ConnectEncodesUptoCardSaid : Prop := Claim7.holds Tryz.pinned (.plain (OpenSpec.upto connectEncodesSpec)) connectEncodesUptoCard

/-- THE SECOND FORM's CARD OF 'towncrierlaw15.PacketBack'. -/
def packetBackUptoCard : Claim7 := { stood := { row := packetBackUptoRow, standIns := [], harness := (true, "f6b72c44098926aead223be27acde663147fae2feff41e30307fafb8c78853a6"), looks := true }, kinds := [], alts := [], laidByText := true, laidKinds := [.handle, .sentinel, .sentinel, .sentinel, .sentinel, .sentinel, .sentinel, .sentinel], laidTests := true, laidLooks := .later }
def PacketBackUptoCardSaid : Prop := Claim7.holds Tryz.pinned (.plain (OpenSpec.upto packetBackSpec)) packetBackUptoCard
end Rows
end Go.Proofs.YtfkimpcaokgldaaGreatDoor
