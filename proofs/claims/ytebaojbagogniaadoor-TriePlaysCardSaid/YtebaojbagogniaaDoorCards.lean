/-
  DERIVED. GIVEN WITH THE SEED: THE CARDS: each row of YtebaojbagogniaaDoorRows.lean that lists a variable, with what it lists TIED to the program's text (the seventh form; the later family's looks); each row that meets fmt, with fmt's text TOLD by the authors' own Lean function (tested against real Go, not proved from fmt's source: count such statements apart). THE CARD IS WHAT COUNTS. Prove the row's statement (the work); the ties are given (YtebaojbagogniaaDoorTie.lean); close each card by the builder's one call (the guide's Derived/Test/ToyasCard.lean, 'card_holds'). Laid BY PROGRAM, IN A SANDBOX (cutbox-door.mjs). By AI agents, Wed Nov 11 2026. No macro, syntax, notation, axiom, sorry.
-/
import Derived.Test.YtebaojbagogniaaDoorRows
import GoSem.ClaimSeven
namespace Go.Proofs.YtebaojbagogniaaDoor
namespace Rows

/-- THE TIED CARD OF 'towncrierlaw18.TriePlays'. -/
def triePlaysCard : Claim7 := { stood := { row := triePlaysRow, standIns := [], harness := (true, "6b648f730d88d9b34a8fe7e7a9d84b04b7a67322054fb24800d640456b46a9fd"), looks := false }, kinds := [], alts := [], laidByText := true, laidKinds := [.sentinel, .sentinel], laidTests := true, laidLooks := .later }
def TriePlaysCardSaid : Prop := Claim7.holds Tryd.pinned (.plain (OpenSpec.ofChange triePlaysSpec)) triePlaysCard

/-- THE TIED CARD OF 'towncrierlaw18.TrieOrder'. -/
def trieOrderCard : Claim7 := { stood := { row := trieOrderRow, standIns := [], harness := (true, "6b648f730d88d9b34a8fe7e7a9d84b04b7a67322054fb24800d640456b46a9fd"), looks := false }, kinds := [], alts := [], laidByText := true, laidKinds := [.sentinel, .sentinel], laidTests := true, laidLooks := .later }
def TrieOrderCardSaid : Prop := Claim7.holds Tryd.pinned (.plain (OpenSpec.ofChange trieOrderSpec)) trieOrderCard

/-- THE TIED CARD OF 'towncrierlaw18.TrieClean'. -/
def trieCleanCard : Claim7 := { stood := { row := trieCleanRow, standIns := [], harness := (true, "6b648f730d88d9b34a8fe7e7a9d84b04b7a67322054fb24800d640456b46a9fd"), looks := false }, kinds := [], alts := [], laidByText := true, laidKinds := [.sentinel, .sentinel], laidTests := true, laidLooks := .later }
def TrieCleanCardSaid : Prop := Claim7.holds Tryd.pinned (.plain (OpenSpec.ofChange trieCleanSpec)) trieCleanCard

/-- THE SECOND FORM's CARD OF 'towncrierlaw18.TriePlays'. -/
def triePlaysUptoCard : Claim7 := { stood := { row := triePlaysUptoRow, standIns := [], harness := (true, "6b648f730d88d9b34a8fe7e7a9d84b04b7a67322054fb24800d640456b46a9fd"), looks := false }, kinds := [], alts := [], laidByText := true, laidKinds := [.sentinel, .sentinel], laidTests := true, laidLooks := .later }
def TriePlaysUptoCardSaid : Prop := Claim7.holds Tryd.pinned (.plain (OpenSpec.upto triePlaysSpec)) triePlaysUptoCard

/-- THE SECOND FORM's CARD OF 'towncrierlaw18.TrieOrder'. -/
def trieOrderUptoCard : Claim7 := { stood := { row := trieOrderUptoRow, standIns := [], harness := (true, "6b648f730d88d9b34a8fe7e7a9d84b04b7a67322054fb24800d640456b46a9fd"), looks := false }, kinds := [], alts := [], laidByText := true, laidKinds := [.sentinel, .sentinel], laidTests := true, laidLooks := .later }
def TrieOrderUptoCardSaid : Prop := Claim7.holds Tryd.pinned (.plain (OpenSpec.upto trieOrderSpec)) trieOrderUptoCard

/-- THE SECOND FORM's CARD OF 'towncrierlaw18.TrieClean'. -/
def trieCleanUptoCard : Claim7 := { stood := { row := trieCleanUptoRow, standIns := [], harness := (true, "6b648f730d88d9b34a8fe7e7a9d84b04b7a67322054fb24800d640456b46a9fd"), looks := false }, kinds := [], alts := [], laidByText := true, laidKinds := [.sentinel, .sentinel], laidTests := true, laidLooks := .later }
def TrieCleanUptoCardSaid : Prop := Claim7.holds Tryd.pinned (.plain (OpenSpec.upto trieCleanSpec)) trieCleanUptoCard
end Rows
end Go.Proofs.YtebaojbagogniaaDoor
