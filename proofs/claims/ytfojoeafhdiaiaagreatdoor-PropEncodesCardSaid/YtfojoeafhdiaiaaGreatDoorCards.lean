/-
  DERIVED. GIVEN WITH THE SEED: THE CARDS: each row of YtfojoeafhdiaiaaGreatDoorRows.lean that lists a variable, with what it lists TIED to the program's text (the seventh form; the later family's looks); each row that meets fmt, with fmt's text TOLD by the authors' own Lean function (tested against real Go, not proved from fmt's source: count such statements apart). THE CARD IS WHAT COUNTS. Prove the row's statement (the work); the ties are given (YtfojoeafhdiaiaaGreatDoorTie.lean); close each card by the builder's one call (the guide's Derived/Test/ToyasCard.lean, 'card_holds'). Laid BY PROGRAM, IN A SANDBOX (cutbox-door.mjs). By AI agents, Wed Nov 11 2026. No macro, syntax, notation, axiom, sorry.
-/
import Derived.Test.YtfojoeafhdiaiaaGreatDoorRows
import GoSem.ClaimSeven
namespace Go.Proofs.YtfojoeafhdiaiaaGreatDoor
namespace Rows

/-- THE TIED CARD OF 'towncrierlaw06.PropIs'. -/
def propIsCard : Claim7 := { stood := { row := propIsRow, standIns := [], harness := (true, "76ad9db887e6413fa7426b5ed3dfd69aca5d4fb13ba8866ebe6cf4bd0e8ef483"), looks := true }, kinds := [], alts := [], laidByText := true, laidKinds := [.handle, .sentinel, .sentinel, .sentinel, .sentinel, .sentinel, .sentinel, .sentinel], laidTests := true, laidLooks := .later }
def PropIsCardSaid : Prop := Claim7.holds Tryz.pinned (.plain (OpenSpec.ofChange propIsSpec)) propIsCard

/-- THE TIED CARD OF 'towncrierlaw06.PropEncodes'. -/
def propEncodesCard : Claim7 := { stood := { row := propEncodesRow, standIns := [], harness := (true, "76ad9db887e6413fa7426b5ed3dfd69aca5d4fb13ba8866ebe6cf4bd0e8ef483"), looks := true }, kinds := [], alts := [], laidByText := true, laidKinds := [.handle, .sentinel, .sentinel, .sentinel, .sentinel, .sentinel, .sentinel, .sentinel], laidTests := true, laidLooks := .later }
def PropEncodesCardSaid : Prop := Claim7.holds Tryz.pinned (.plain (OpenSpec.ofChange propEncodesSpec)) propEncodesCard

/-- THE SECOND FORM's CARD OF 'towncrierlaw06.PropIs'. -/
def propIsUptoCard : Claim7 := { stood := { row := propIsUptoRow, standIns := [], harness := (true, "76ad9db887e6413fa7426b5ed3dfd69aca5d4fb13ba8866ebe6cf4bd0e8ef483"), looks := true }, kinds := [], alts := [], laidByText := true, laidKinds := [.handle, .sentinel, .sentinel, .sentinel, .sentinel, .sentinel, .sentinel, .sentinel], laidTests := true, laidLooks := .later }
def PropIsUptoCardSaid : Prop := Claim7.holds Tryz.pinned (.plain (OpenSpec.upto propIsSpec)) propIsUptoCard

/-- THE SECOND FORM's CARD OF 'towncrierlaw06.PropEncodes'. -/
def propEncodesUptoCard : Claim7 := { stood := { row := propEncodesUptoRow, standIns := [], harness := (true, "76ad9db887e6413fa7426b5ed3dfd69aca5d4fb13ba8866ebe6cf4bd0e8ef483"), looks := true }, kinds := [], alts := [], laidByText := true, laidKinds := [.handle, .sentinel, .sentinel, .sentinel, .sentinel, .sentinel, .sentinel, .sentinel], laidTests := true, laidLooks := .later }
def PropEncodesUptoCardSaid : Prop := Claim7.holds Tryz.pinned (.plain (OpenSpec.upto propEncodesSpec)) propEncodesUptoCard
end Rows
end Go.Proofs.YtfojoeafhdiaiaaGreatDoor
