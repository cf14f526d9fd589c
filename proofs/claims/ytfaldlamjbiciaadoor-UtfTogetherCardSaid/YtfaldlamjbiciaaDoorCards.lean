/-
  DERIVED. GIVEN WITH THE SEED: THE CARDS: each row of YtfaldlamjbiciaaDoorRows.lean that lists a variable, with what it lists TIED to the program's text (the seventh form; the later family's looks); each row that meets fmt, with fmt's text TOLD by the authors' own Lean function (tested against real Go, not proved from fmt's source: count such statements apart). THE CARD IS WHAT COUNTS. Prove the row's statement (the work); the ties are given (YtfaldlamjbiciaaDoorTie.lean); close each card by the builder's one call (the guide's Derived/Test/ToyasCard.lean, 'card_holds'). Laid BY PROGRAM, IN A SANDBOX (cutbox-door.mjs). By AI agents, Wed Nov 11 2026. No macro, syntax, notation, axiom, sorry.
-/
import Derived.Test.YtfaldlamjbiciaaDoorRows
import GoSem.ClaimSeven
namespace Go.Proofs.YtfaldlamjbiciaaDoor
namespace Rows

/-- THE TIED CARD OF 'towncrierlaw02.VarintPuts'. -/
def varintPutsCard : Claim7 := { stood := { row := varintPutsRow, standIns := [], harness := (true, "ef3fba2082a5ff1c71d8c3ec44545ca73bd3669dc2a325df351d7630cdb8758b"), looks := true }, kinds := [], alts := [], laidByText := true, laidKinds := [.handle, .sentinel, .sentinel, .sentinel, .sentinel, .sentinel, .sentinel, .sentinel], laidTests := true, laidLooks := .later }
def VarintPutsCardSaid : Prop := Claim7.holds Tryd.pinned (.plain (OpenSpec.ofChange varintPutsSpec)) varintPutsCard

/-- THE TIED CARD OF 'towncrierlaw02.VarintTakes'. -/
def varintTakesCard : Claim7 := { stood := { row := varintTakesRow, standIns := [], harness := (true, "ef3fba2082a5ff1c71d8c3ec44545ca73bd3669dc2a325df351d7630cdb8758b"), looks := true }, kinds := [], alts := [], laidByText := true, laidKinds := [.handle, .sentinel, .sentinel, .sentinel, .sentinel, .sentinel, .sentinel, .sentinel], laidTests := true, laidLooks := .later }
def VarintTakesCardSaid : Prop := Claim7.holds Tryd.pinned (.plain (OpenSpec.ofChange varintTakesSpec)) varintTakesCard

/-- THE TIED CARD OF 'towncrierlaw02.VarintBack'. -/
def varintBackCard : Claim7 := { stood := { row := varintBackRow, standIns := [], harness := (true, "ef3fba2082a5ff1c71d8c3ec44545ca73bd3669dc2a325df351d7630cdb8758b"), looks := true }, kinds := [], alts := [], laidByText := true, laidKinds := [.handle, .sentinel, .sentinel, .sentinel, .sentinel, .sentinel, .sentinel, .sentinel], laidTests := true, laidLooks := .later }
def VarintBackCardSaid : Prop := Claim7.holds Tryd.pinned (.plain (OpenSpec.ofChange varintBackSpec)) varintBackCard

/-- THE TIED CARD OF 'towncrierlaw03.UtfIs'. -/
def utfIsCard : Claim7 := { stood := { row := utfIsRow, standIns := [], harness := (true, "ef3fba2082a5ff1c71d8c3ec44545ca73bd3669dc2a325df351d7630cdb8758b"), looks := true }, kinds := [], alts := [], laidByText := true, laidKinds := [.handle, .sentinel, .sentinel, .sentinel, .sentinel, .sentinel, .sentinel, .sentinel], laidTests := true, laidLooks := .later }
def UtfIsCardSaid : Prop := Claim7.holds Tryd.pinned (.plain (OpenSpec.ofChange utfIsSpec)) utfIsCard

/-- THE TIED CARD OF 'towncrierlaw03.UtfLetters'. -/
def utfLettersCard : Claim7 := { stood := { row := utfLettersRow, standIns := [], harness := (true, "ef3fba2082a5ff1c71d8c3ec44545ca73bd3669dc2a325df351d7630cdb8758b"), looks := true }, kinds := [], alts := [], laidByText := true, laidKinds := [.handle, .sentinel, .sentinel, .sentinel, .sentinel, .sentinel, .sentinel, .sentinel], laidTests := true, laidLooks := .later }
def UtfLettersCardSaid : Prop := Claim7.holds Tryd.pinned (.plain (OpenSpec.ofChange utfLettersSpec)) utfLettersCard

/-- THE TIED CARD OF 'towncrierlaw03.UtfTogether'. -/
def utfTogetherCard : Claim7 := { stood := { row := utfTogetherRow, standIns := [], harness := (true, "ef3fba2082a5ff1c71d8c3ec44545ca73bd3669dc2a325df351d7630cdb8758b"), looks := true }, kinds := [], alts := [], laidByText := true, laidKinds := [.handle, .sentinel, .sentinel, .sentinel, .sentinel, .sentinel, .sentinel, .sentinel], laidTests := true, laidLooks := .later }
def UtfTogetherCardSaid : Prop := Claim7.holds Tryd.pinned (.plain (OpenSpec.ofChange utfTogetherSpec)) utfTogetherCard

/-- THE TIED CARD OF 'towncrierlaw04.FieldWrites'. -/
def fieldWritesCard : Claim7 := { stood := { row := fieldWritesRow, standIns := [], harness := (true, "ef3fba2082a5ff1c71d8c3ec44545ca73bd3669dc2a325df351d7630cdb8758b"), looks := true }, kinds := [], alts := [], laidByText := true, laidKinds := [.handle, .sentinel, .sentinel, .sentinel, .sentinel, .sentinel, .sentinel, .sentinel], laidTests := true, laidLooks := .later }
def FieldWritesCardSaid : Prop := Claim7.holds Tryd.pinned (.plain (OpenSpec.ofChange fieldWritesSpec)) fieldWritesCard

/-- THE TIED CARD OF 'towncrierlaw04.FieldBack'. -/
def fieldBackCard : Claim7 := { stood := { row := fieldBackRow, standIns := [], harness := (true, "ef3fba2082a5ff1c71d8c3ec44545ca73bd3669dc2a325df351d7630cdb8758b"), looks := true }, kinds := [], alts := [], laidByText := true, laidKinds := [.handle, .sentinel, .sentinel, .sentinel, .sentinel, .sentinel, .sentinel, .sentinel], laidTests := true, laidLooks := .later }
def FieldBackCardSaid : Prop := Claim7.holds Tryd.pinned (.plain (OpenSpec.ofChange fieldBackSpec)) fieldBackCard

/-- THE SECOND FORM's CARD OF 'towncrierlaw02.VarintPuts'. -/
def varintPutsUptoCard : Claim7 := { stood := { row := varintPutsUptoRow, standIns := [], harness := (true, "ef3fba2082a5ff1c71d8c3ec44545ca73bd3669dc2a325df351d7630cdb8758b"), looks := true }, kinds := [], alts := [], laidByText := true, laidKinds := [.handle, .sentinel, .sentinel, .sentinel, .sentinel, .sentinel, .sentinel, .sentinel], laidTests := true, laidLooks := .later }
def VarintPutsUptoCardSaid : Prop := Claim7.holds Tryd.pinned (.plain (OpenSpec.upto varintPutsSpec)) varintPutsUptoCard

/-- THE SECOND FORM's CARD OF 'towncrierlaw02.VarintTakes'. -/
def varintTakesUptoCard : Claim7 := { stood := { row := varintTakesUptoRow, standIns := [], harness := (true, "ef3fba2082a5ff1c71d8c3ec44545ca73bd3669dc2a325df351d7630cdb8758b"), looks := true }, kinds := [], alts := [], laidByText := true, laidKinds := [.handle, .sentinel, .sentinel, .sentinel, .sentinel, .sentinel, .sentinel, .sentinel], laidTests := true, laidLooks := .later }
def VarintTakesUptoCardSaid : Prop := Claim7.holds Tryd.pinned (.plain (OpenSpec.upto varintTakesSpec)) varintTakesUptoCard

/-- THE SECOND FORM's CARD OF 'towncrierlaw02.VarintBack'. -/
def varintBackUptoCard : Claim7 := { stood := { row := varintBackUptoRow, standIns := [], harness := (true, "ef3fba2082a5ff1c71d8c3ec44545ca73bd3669dc2a325df351d7630cdb8758b"), looks := true }, kinds := [], alts := [], laidByText := true, laidKinds := [.handle, .sentinel, .sentinel, .sentinel, .sentinel, .sentinel, .sentinel, .sentinel], laidTests := true, laidLooks := .later }
def VarintBackUptoCardSaid : Prop := Claim7.holds Tryd.pinned (.plain (OpenSpec.upto varintBackSpec)) varintBackUptoCard

/-- THE SECOND FORM's CARD OF 'towncrierlaw03.UtfIs'. -/
def utfIsUptoCard : Claim7 := { stood := { row := utfIsUptoRow, standIns := [], harness := (true, "ef3fba2082a5ff1c71d8c3ec44545ca73bd3669dc2a325df351d7630cdb8758b"), looks := true }, kinds := [], alts := [], laidByText := true, laidKinds := [.handle, .sentinel, .sentinel, .sentinel, .sentinel, .sentinel, .sentinel, .sentinel], laidTests := true, laidLooks := .later }
def UtfIsUptoCardSaid : Prop := Claim7.holds Tryd.pinned (.plain (OpenSpec.upto utfIsSpec)) utfIsUptoCard

/-- THE SECOND FORM's CARD OF 'towncrierlaw03.UtfLetters'. -/
def utfLettersUptoCard : Claim7 := { stood := { row := utfLettersUptoRow, standIns := [], harness := (true, "ef3fba2082a5ff1c71d8c3ec44545ca73bd3669dc2a325df351d7630cdb8758b"), looks := true }, kinds := [], alts := [], laidByText := true, laidKinds := [.handle, .sentinel, .sentinel, .sentinel, .sentinel, .sentinel, .sentinel, .sentinel], laidTests := true, laidLooks := .later }
def UtfLettersUptoCardSaid : Prop := Claim7.holds Tryd.pinned (.plain (OpenSpec.upto utfLettersSpec)) utfLettersUptoCard

/-- THE SECOND FORM's CARD OF 'towncrierlaw03.UtfTogether'. -/
def utfTogetherUptoCard : Claim7 := { stood := { row := utfTogetherUptoRow, standIns := [], harness := (true, "ef3fba2082a5ff1c71d8c3ec44545ca73bd3669dc2a325df351d7630cdb8758b"), looks := true }, kinds := [], alts := [], laidByText := true, laidKinds := [.handle, .sentinel, .sentinel, .sentinel, .sentinel, .sentinel, .sentinel, .sentinel], laidTests := true, laidLooks := .later }
def UtfTogetherUptoCardSaid : Prop := Claim7.holds Tryd.pinned (.plain (OpenSpec.upto utfTogetherSpec)) utfTogetherUptoCard

/-- THE SECOND FORM's CARD OF 'towncrierlaw04.FieldWrites'. -/
def fieldWritesUptoCard : Claim7 := { stood := { row := fieldWritesUptoRow, standIns := [], harness := (true, "ef3fba2082a5ff1c71d8c3ec44545ca73bd3669dc2a325df351d7630cdb8758b"), looks := true }, kinds := [], alts := [], laidByText := true, laidKinds := [.handle, .sentinel, .sentinel, .sentinel, .sentinel, .sentinel, .sentinel, .sentinel], laidTests := true, laidLooks := .later }
def FieldWritesUptoCardSaid : Prop := Claim7.holds Tryd.pinned (.plain (OpenSpec.upto fieldWritesSpec)) fieldWritesUptoCard

/-- THE SECOND FORM's CARD OF 'towncrierlaw04.FieldBack'. -/
def fieldBackUptoCard : Claim7 := { stood := { row := fieldBackUptoRow, standIns := [], harness := (true, "ef3fba2082a5ff1c71d8c3ec44545ca73bd3669dc2a325df351d7630cdb8758b"), looks := true }, kinds := [], alts := [], laidByText := true, laidKinds := [.handle, .sentinel, .sentinel, .sentinel, .sentinel, .sentinel, .sentinel, .sentinel], laidTests := true, laidLooks := .later }
def FieldBackUptoCardSaid : Prop := Claim7.holds Tryd.pinned (.plain (OpenSpec.upto fieldBackSpec)) fieldBackUptoCard
end Rows
end Go.Proofs.YtfaldlamjbiciaaDoor
