/-
  DERIVED. GIVEN WITH THE SEED: THE CARDS: each row of YtibjnaccdhcbcaaDoorRows.lean that lists a variable, with what it lists TIED to the program's text (the seventh form; the later family's looks); each row that meets fmt, with fmt's text TOLD by the authors' own Lean function (tested against real Go, not proved from fmt's source: count such statements apart). THE CARD IS WHAT COUNTS. Prove the row's statement (the work); the ties are given (YtibjnaccdhcbcaaDoorTie.lean); close each card by the builder's one call (the guide's Derived/Test/ToyasCard.lean, 'card_holds'). Laid BY PROGRAM, IN A SANDBOX (cutbox-door.mjs). By AI agents, Wed Nov 11 2026. No macro, syntax, notation, axiom, sorry.
-/
import Derived.Test.YtibjnaccdhcbcaaDoorRows
import GoSem.ClaimSeven
namespace Go.Proofs.YtibjnaccdhcbcaaDoor
namespace Rows

/-- THE TIED CARD OF 'towncrierlaw04.FieldWrites'. -/
def fieldWritesCard : Claim7 := { stood := { row := fieldWritesRow, standIns := [], harness := (true, "af3fcf35a77b42911124b1db5c908fbd86d5b27318f201d1090b7844823988c4"), looks := true }, kinds := [], alts := [], laidByText := true, laidKinds := [.handle, .sentinel, .sentinel, .sentinel, .sentinel, .sentinel, .sentinel, .sentinel], laidTests := true, laidLooks := .later }
def FieldWritesCardSaid : Prop := Claim7.holds Tryd.pinned (.plain (OpenSpec.ofChange fieldWritesSpec)) fieldWritesCard

/-- THE TIED CARD OF 'towncrierlaw04.FieldBack'. -/
def fieldBackCard : Claim7 := { stood := { row := fieldBackRow, standIns := [], harness := (true, "af3fcf35a77b42911124b1db5c908fbd86d5b27318f201d1090b7844823988c4"), looks := true }, kinds := [], alts := [], laidByText := true, laidKinds := [.handle, .sentinel, .sentinel, .sentinel, .sentinel, .sentinel, .sentinel, .sentinel], laidTests := true, laidLooks := .later }
def FieldBackCardSaid : Prop := Claim7.holds Tryd.pinned (.plain (OpenSpec.ofChange fieldBackSpec)) fieldBackCard

/-- THE TIED CARD OF 'towncrierlaw16.TopicIs'. -/
def topicIsCard : Claim7 := { stood := { row := topicIsRow, standIns := [], harness := (true, "af3fcf35a77b42911124b1db5c908fbd86d5b27318f201d1090b7844823988c4"), looks := true }, kinds := [], alts := [], laidByText := true, laidKinds := [.sentinel, .sentinel], laidTests := true, laidLooks := .later }
def TopicIsCardSaid : Prop := Claim7.holds Tryd.pinned (.plain (OpenSpec.ofChange topicIsSpec)) topicIsCard

/-- THE TIED CARD OF 'towncrierlaw16.TopicMatch'. -/
def topicMatchCard : Claim7 := { stood := { row := topicMatchRow, standIns := [], harness := (true, "af3fcf35a77b42911124b1db5c908fbd86d5b27318f201d1090b7844823988c4"), looks := true }, kinds := [], alts := [], laidByText := true, laidKinds := [.sentinel, .sentinel], laidTests := true, laidLooks := .later }
def TopicMatchCardSaid : Prop := Claim7.holds Tryd.pinned (.plain (OpenSpec.ofChange topicMatchSpec)) topicMatchCard

/-- THE TIED CARD OF 'towncrierlaw16.TopicWide'. -/
def topicWideCard : Claim7 := { stood := { row := topicWideRow, standIns := [], harness := (true, "af3fcf35a77b42911124b1db5c908fbd86d5b27318f201d1090b7844823988c4"), looks := true }, kinds := [], alts := [], laidByText := true, laidKinds := [.sentinel, .sentinel], laidTests := true, laidLooks := .later }
def TopicWideCardSaid : Prop := Claim7.holds Tryd.pinned (.plain (OpenSpec.ofChange topicWideSpec)) topicWideCard

/-- THE TIED CARD OF 'towncrierlaw16.TopicLevels'. -/
def topicLevelsCard : Claim7 := { stood := { row := topicLevelsRow, standIns := [], harness := (true, "af3fcf35a77b42911124b1db5c908fbd86d5b27318f201d1090b7844823988c4"), looks := true }, kinds := [], alts := [], laidByText := true, laidKinds := [.sentinel, .sentinel], laidTests := true, laidLooks := .later }
def TopicLevelsCardSaid : Prop := Claim7.holds Tryd.pinned (.plain (OpenSpec.ofChange topicLevelsSpec)) topicLevelsCard

/-- THE TIED CARD OF 'towncrierlaw17.ShareIs'. -/
def shareIsCard : Claim7 := { stood := { row := shareIsRow, standIns := [], harness := (true, "af3fcf35a77b42911124b1db5c908fbd86d5b27318f201d1090b7844823988c4"), looks := true }, kinds := [], alts := [], laidByText := true, laidKinds := [.sentinel, .sentinel], laidTests := true, laidLooks := .later }
def ShareIsCardSaid : Prop := Claim7.holds Tryd.pinned (.plain (OpenSpec.ofChange shareIsSpec)) shareIsCard

/-- THE TIED CARD OF 'towncrierlaw17.ShareBack'. -/
def shareBackCard : Claim7 := { stood := { row := shareBackRow, standIns := [], harness := (true, "af3fcf35a77b42911124b1db5c908fbd86d5b27318f201d1090b7844823988c4"), looks := true }, kinds := [], alts := [], laidByText := true, laidKinds := [.sentinel, .sentinel], laidTests := true, laidLooks := .later }
def ShareBackCardSaid : Prop := Claim7.holds Tryd.pinned (.plain (OpenSpec.ofChange shareBackSpec)) shareBackCard

/-- THE TIED CARD OF 'towncrierlaw17.ShareKeys'. -/
def shareKeysCard : Claim7 := { stood := { row := shareKeysRow, standIns := [], harness := (true, "af3fcf35a77b42911124b1db5c908fbd86d5b27318f201d1090b7844823988c4"), looks := true }, kinds := [], alts := [], laidByText := true, laidKinds := [.sentinel, .sentinel], laidTests := true, laidLooks := .later }
def ShareKeysCardSaid : Prop := Claim7.holds Tryd.pinned (.plain (OpenSpec.ofChange shareKeysSpec)) shareKeysCard

/-- THE TIED CARD OF 'towncrierlaw17.ShareStrategy'. -/
def shareStrategyCard : Claim7 := { stood := { row := shareStrategyRow, standIns := [], harness := (true, "af3fcf35a77b42911124b1db5c908fbd86d5b27318f201d1090b7844823988c4"), looks := true }, kinds := [], alts := [], laidByText := true, laidKinds := [.sentinel, .sentinel], laidTests := true, laidLooks := .later }
def ShareStrategyCardSaid : Prop := Claim7.holds Tryd.pinned (.plain (OpenSpec.ofChange shareStrategySpec)) shareStrategyCard

/-- THE SECOND FORM's CARD OF 'towncrierlaw04.FieldWrites'. -/
def fieldWritesUptoCard : Claim7 := { stood := { row := fieldWritesUptoRow, standIns := [], harness := (true, "af3fcf35a77b42911124b1db5c908fbd86d5b27318f201d1090b7844823988c4"), looks := true }, kinds := [], alts := [], laidByText := true, laidKinds := [.handle, .sentinel, .sentinel, .sentinel, .sentinel, .sentinel, .sentinel, .sentinel], laidTests := true, laidLooks := .later }
def FieldWritesUptoCardSaid : Prop := Claim7.holds Tryd.pinned (.plain (OpenSpec.upto fieldWritesSpec)) fieldWritesUptoCard

/-- THE SECOND FORM's CARD OF 'towncrierlaw04.FieldBack'. -/
def fieldBackUptoCard : Claim7 := { stood := { row := fieldBackUptoRow, standIns := [], harness := (true, "af3fcf35a77b42911124b1db5c908fbd86d5b27318f201d1090b7844823988c4"), looks := true }, kinds := [], alts := [], laidByText := true, laidKinds := [.handle, .sentinel, .sentinel, .sentinel, .sentinel, .sentinel, .sentinel, .sentinel], laidTests := true, laidLooks := .later }
def FieldBackUptoCardSaid : Prop := Claim7.holds Tryd.pinned (.plain (OpenSpec.upto fieldBackSpec)) fieldBackUptoCard

/-- THE SECOND FORM's CARD OF 'towncrierlaw16.TopicIs'. -/
def topicIsUptoCard : Claim7 := { stood := { row := topicIsUptoRow, standIns := [], harness := (true, "af3fcf35a77b42911124b1db5c908fbd86d5b27318f201d1090b7844823988c4"), looks := true }, kinds := [], alts := [], laidByText := true, laidKinds := [.sentinel, .sentinel], laidTests := true, laidLooks := .later }
def TopicIsUptoCardSaid : Prop := Claim7.holds Tryd.pinned (.plain (OpenSpec.upto topicIsSpec)) topicIsUptoCard

/-- THE SECOND FORM's CARD OF 'towncrierlaw16.TopicMatch'. -/
def topicMatchUptoCard : Claim7 := { stood := { row := topicMatchUptoRow, standIns := [], harness := (true, "af3fcf35a77b42911124b1db5c908fbd86d5b27318f201d1090b7844823988c4"), looks := true }, kinds := [], alts := [], laidByText := true, laidKinds := [.sentinel, .sentinel], laidTests := true, laidLooks := .later }
def TopicMatchUptoCardSaid : Prop := Claim7.holds Tryd.pinned (.plain (OpenSpec.upto topicMatchSpec)) topicMatchUptoCard

/-- THE SECOND FORM's CARD OF 'towncrierlaw16.TopicWide'. -/
def topicWideUptoCard : Claim7 := { stood := { row := topicWideUptoRow, standIns := [], harness := (true, "af3fcf35a77b42911124b1db5c908fbd86d5b27318f201d1090b7844823988c4"), looks := true }, kinds := [], alts := [], laidByText := true, laidKinds := [.sentinel, .sentinel], laidTests := true, laidLooks := .later }
def TopicWideUptoCardSaid : Prop := Claim7.holds Tryd.pinned (.plain (OpenSpec.upto topicWideSpec)) topicWideUptoCard

/-- THE SECOND FORM's CARD OF 'towncrierlaw16.TopicLevels'. -/
def topicLevelsUptoCard : Claim7 := { stood := { row := topicLevelsUptoRow, standIns := [], harness := (true, "af3fcf35a77b42911124b1db5c908fbd86d5b27318f201d1090b7844823988c4"), looks := true }, kinds := [], alts := [], laidByText := true, laidKinds := [.sentinel, .sentinel], laidTests := true, laidLooks := .later }
def TopicLevelsUptoCardSaid : Prop := Claim7.holds Tryd.pinned (.plain (OpenSpec.upto topicLevelsSpec)) topicLevelsUptoCard

/-- THE SECOND FORM's CARD OF 'towncrierlaw17.ShareIs'. -/
def shareIsUptoCard : Claim7 := { stood := { row := shareIsUptoRow, standIns := [], harness := (true, "af3fcf35a77b42911124b1db5c908fbd86d5b27318f201d1090b7844823988c4"), looks := true }, kinds := [], alts := [], laidByText := true, laidKinds := [.sentinel, .sentinel], laidTests := true, laidLooks := .later }
def ShareIsUptoCardSaid : Prop := Claim7.holds Tryd.pinned (.plain (OpenSpec.upto shareIsSpec)) shareIsUptoCard

/-- THE SECOND FORM's CARD OF 'towncrierlaw17.ShareBack'. -/
def shareBackUptoCard : Claim7 := { stood := { row := shareBackUptoRow, standIns := [], harness := (true, "af3fcf35a77b42911124b1db5c908fbd86d5b27318f201d1090b7844823988c4"), looks := true }, kinds := [], alts := [], laidByText := true, laidKinds := [.sentinel, .sentinel], laidTests := true, laidLooks := .later }
def ShareBackUptoCardSaid : Prop := Claim7.holds Tryd.pinned (.plain (OpenSpec.upto shareBackSpec)) shareBackUptoCard

/-- THE SECOND FORM's CARD OF 'towncrierlaw17.ShareKeys'. -/
def shareKeysUptoCard : Claim7 := { stood := { row := shareKeysUptoRow, standIns := [], harness := (true, "af3fcf35a77b42911124b1db5c908fbd86d5b27318f201d1090b7844823988c4"), looks := true }, kinds := [], alts := [], laidByText := true, laidKinds := [.sentinel, .sentinel], laidTests := true, laidLooks := .later }
def ShareKeysUptoCardSaid : Prop := Claim7.holds Tryd.pinned (.plain (OpenSpec.upto shareKeysSpec)) shareKeysUptoCard

/-- THE SECOND FORM's CARD OF 'towncrierlaw17.ShareStrategy'. -/
def shareStrategyUptoCard : Claim7 := { stood := { row := shareStrategyUptoRow, standIns := [], harness := (true, "af3fcf35a77b42911124b1db5c908fbd86d5b27318f201d1090b7844823988c4"), looks := true }, kinds := [], alts := [], laidByText := true, laidKinds := [.sentinel, .sentinel], laidTests := true, laidLooks := .later }
def ShareStrategyUptoCardSaid : Prop := Claim7.holds Tryd.pinned (.plain (OpenSpec.upto shareStrategySpec)) shareStrategyUptoCard
end Rows
end Go.Proofs.YtibjnaccdhcbcaaDoor
