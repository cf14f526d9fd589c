/-
  DERIVED. GIVEN WITH THE SEED: THE CARDS: each row of YtldpdhliigkboaaDoorRows.lean that lists a variable, with what it lists TIED to the program's text (the seventh form; the later family's looks); each row that meets fmt, with fmt's text TOLD by the authors' own Lean function (tested against real Go, not proved from fmt's source: count such statements apart). THE CARD IS WHAT COUNTS. Prove the row's statement (the work); the ties are given (YtldpdhliigkboaaDoorTie.lean); close each card by the builder's one call (the guide's Derived/Test/ToyasCard.lean, 'card_holds'). Laid BY PROGRAM, IN A SANDBOX (cutbox-door.mjs). By AI agents, Wed Nov 11 2026. No macro, syntax, notation, axiom, sorry.
-/
import Derived.Test.YtldpdhliigkboaaDoorRows
import GoSem.ClaimSeven
namespace Go.Proofs.YtldpdhliigkboaaDoor
namespace Rows

/-- THE TIED CARD OF 'towncrierlaw26.AliasIn'. -/
def aliasInCard : Claim7 := { stood := { row := aliasInRow, standIns := [], harness := (true, "1d37c7e41468fde8a4075e3a18b29d320c707b8f1eff12c31174a73f53da6dea"), looks := true }, kinds := [], alts := [], laidByText := true, laidKinds := [.handle, .sentinel, .sentinel, .sentinel, .sentinel, .sentinel, .sentinel, .sentinel], laidTests := true, laidLooks := .later }
def AliasInCardSaid : Prop := Claim7.holds Tryd.pinned (.plain (OpenSpec.ofChange aliasInSpec)) aliasInCard

/-- THE TIED CARD OF 'towncrierlaw26.AliasOut'. -/
def aliasOutCard : Claim7 := { stood := { row := aliasOutRow, standIns := [], harness := (true, "1d37c7e41468fde8a4075e3a18b29d320c707b8f1eff12c31174a73f53da6dea"), looks := true }, kinds := [], alts := [], laidByText := true, laidKinds := [.handle, .sentinel], laidTests := true, laidLooks := .later }
def AliasOutCardSaid : Prop := Claim7.holds Tryd.pinned (.plain (OpenSpec.ofChange aliasOutSpec)) aliasOutCard

/-- THE TIED CARD OF 'towncrierlaw26.AliasBack'. -/
def aliasBackCard : Claim7 := { stood := { row := aliasBackRow, standIns := [], harness := (true, "1d37c7e41468fde8a4075e3a18b29d320c707b8f1eff12c31174a73f53da6dea"), looks := true }, kinds := [], alts := [], laidByText := true, laidKinds := [.handle, .sentinel], laidTests := true, laidLooks := .later }
def AliasBackCardSaid : Prop := Claim7.holds Tryd.pinned (.plain (OpenSpec.ofChange aliasBackSpec)) aliasBackCard

/-- THE SECOND FORM's CARD OF 'towncrierlaw26.AliasIn'. -/
def aliasInUptoCard : Claim7 := { stood := { row := aliasInUptoRow, standIns := [], harness := (true, "1d37c7e41468fde8a4075e3a18b29d320c707b8f1eff12c31174a73f53da6dea"), looks := true }, kinds := [], alts := [], laidByText := true, laidKinds := [.handle, .sentinel, .sentinel, .sentinel, .sentinel, .sentinel, .sentinel, .sentinel], laidTests := true, laidLooks := .later }
def AliasInUptoCardSaid : Prop := Claim7.holds Tryd.pinned (.plain (OpenSpec.upto aliasInSpec)) aliasInUptoCard

/-- THE SECOND FORM's CARD OF 'towncrierlaw26.AliasOut'. -/
def aliasOutUptoCard : Claim7 := { stood := { row := aliasOutUptoRow, standIns := [], harness := (true, "1d37c7e41468fde8a4075e3a18b29d320c707b8f1eff12c31174a73f53da6dea"), looks := true }, kinds := [], alts := [], laidByText := true, laidKinds := [.handle, .sentinel], laidTests := true, laidLooks := .later }
def AliasOutUptoCardSaid : Prop := Claim7.holds Tryd.pinned (.plain (OpenSpec.upto aliasOutSpec)) aliasOutUptoCard

/-- THE SECOND FORM's CARD OF 'towncrierlaw26.AliasBack'. -/
def aliasBackUptoCard : Claim7 := { stood := { row := aliasBackUptoRow, standIns := [], harness := (true, "1d37c7e41468fde8a4075e3a18b29d320c707b8f1eff12c31174a73f53da6dea"), looks := true }, kinds := [], alts := [], laidByText := true, laidKinds := [.handle, .sentinel], laidTests := true, laidLooks := .later }
def AliasBackUptoCardSaid : Prop := Claim7.holds Tryd.pinned (.plain (OpenSpec.upto aliasBackSpec)) aliasBackUptoCard
end Rows
end Go.Proofs.YtldpdhliigkboaaDoor
