/-
  DERIVED. GIVEN WITH THE SEED: THE CARDS: each row of YtfmkeapbddhndaaDoorRows.lean that lists a variable, with what it lists TIED to the program's text (the seventh form; the later family's looks); each row that meets fmt, with fmt's text TOLD by the authors' own Lean function (tested against real Go, not proved from fmt's source: count such statements apart). THE CARD IS WHAT COUNTS. Prove the row's statement (the work); the ties are given (YtfmkeapbddhndaaDoorTie.lean); close each card by the builder's one call (the guide's Derived/Test/ToyasCard.lean, 'card_holds'). Laid BY PROGRAM, IN A SANDBOX (cutbox-door.mjs). By AI agents, Wed Nov 11 2026. No macro, syntax, notation, axiom, sorry.
-/
import Derived.Test.YtfmkeapbddhndaaDoorRows
import GoSem.ClaimSeven
namespace Go.Proofs.YtfmkeapbddhndaaDoor
namespace Rows

/-- THE TIED CARD OF 'towncrierlaw18.TriePlays'. -/
def triePlaysCard : Claim7 := { stood := { row := triePlaysRow, standIns := [], harness := (true, "e8045a71e41106f8ef6d4a435377a92cac66e04f9bd5b476d0a44389c2668da3"), looks := false }, kinds := [], alts := [], laidByText := true, laidKinds := [.sentinel, .sentinel], laidTests := true, laidLooks := .later }
def TriePlaysCardSaid : Prop := Claim7.holds Tryd.pinned (.plain (OpenSpec.ofChange triePlaysSpec)) triePlaysCard

/-- THE TIED CARD OF 'towncrierlaw18.TrieOrder'. -/
def trieOrderCard : Claim7 := { stood := { row := trieOrderRow, standIns := [], harness := (true, "e8045a71e41106f8ef6d4a435377a92cac66e04f9bd5b476d0a44389c2668da3"), looks := false }, kinds := [], alts := [], laidByText := true, laidKinds := [.sentinel, .sentinel], laidTests := true, laidLooks := .later }
def TrieOrderCardSaid : Prop := Claim7.holds Tryd.pinned (.plain (OpenSpec.ofChange trieOrderSpec)) trieOrderCard

/-- THE TIED CARD OF 'towncrierlaw18.TrieClean'. -/
def trieCleanCard : Claim7 := { stood := { row := trieCleanRow, standIns := [], harness := (true, "e8045a71e41106f8ef6d4a435377a92cac66e04f9bd5b476d0a44389c2668da3"), looks := false }, kinds := [], alts := [], laidByText := true, laidKinds := [.sentinel, .sentinel], laidTests := true, laidLooks := .later }
def TrieCleanCardSaid : Prop := Claim7.holds Tryd.pinned (.plain (OpenSpec.ofChange trieCleanSpec)) trieCleanCard

/-- THE TIED CARD OF 'towncrierlaw19.RetainPlays'. -/
def retainPlaysCard : Claim7 := { stood := { row := retainPlaysRow, standIns := [], harness := (true, "e8045a71e41106f8ef6d4a435377a92cac66e04f9bd5b476d0a44389c2668da3"), looks := false }, kinds := [], alts := [], laidByText := true, laidKinds := [.sentinel, .sentinel], laidTests := true, laidLooks := .later }
def RetainPlaysCardSaid : Prop := Claim7.holds Tryd.pinned (.plain (OpenSpec.ofChange retainPlaysSpec)) retainPlaysCard

/-- THE TIED CARD OF 'towncrierlaw19.RetainLast'. -/
def retainLastCard : Claim7 := { stood := { row := retainLastRow, standIns := [], harness := (true, "e8045a71e41106f8ef6d4a435377a92cac66e04f9bd5b476d0a44389c2668da3"), looks := false }, kinds := [], alts := [], laidByText := true, laidKinds := [.sentinel, .sentinel], laidTests := true, laidLooks := .later }
def RetainLastCardSaid : Prop := Claim7.holds Tryd.pinned (.plain (OpenSpec.ofChange retainLastSpec)) retainLastCard

/-- THE TIED CARD OF 'towncrierlaw19.RetainNobody'. -/
def retainNobodyCard : Claim7 := { stood := { row := retainNobodyRow, standIns := [], harness := (true, "e8045a71e41106f8ef6d4a435377a92cac66e04f9bd5b476d0a44389c2668da3"), looks := false }, kinds := [], alts := [], laidByText := true, laidKinds := [.sentinel, .sentinel], laidTests := true, laidLooks := .later }
def RetainNobodyCardSaid : Prop := Claim7.holds Tryd.pinned (.plain (OpenSpec.ofChange retainNobodySpec)) retainNobodyCard

/-- THE SECOND FORM's CARD OF 'towncrierlaw18.TriePlays'. -/
def triePlaysUptoCard : Claim7 := { stood := { row := triePlaysUptoRow, standIns := [], harness := (true, "e8045a71e41106f8ef6d4a435377a92cac66e04f9bd5b476d0a44389c2668da3"), looks := false }, kinds := [], alts := [], laidByText := true, laidKinds := [.sentinel, .sentinel], laidTests := true, laidLooks := .later }
def TriePlaysUptoCardSaid : Prop := Claim7.holds Tryd.pinned (.plain (OpenSpec.upto triePlaysSpec)) triePlaysUptoCard

/-- THE SECOND FORM's CARD OF 'towncrierlaw18.TrieOrder'. -/
def trieOrderUptoCard : Claim7 := { stood := { row := trieOrderUptoRow, standIns := [], harness := (true, "e8045a71e41106f8ef6d4a435377a92cac66e04f9bd5b476d0a44389c2668da3"), looks := false }, kinds := [], alts := [], laidByText := true, laidKinds := [.sentinel, .sentinel], laidTests := true, laidLooks := .later }
def TrieOrderUptoCardSaid : Prop := Claim7.holds Tryd.pinned (.plain (OpenSpec.upto trieOrderSpec)) trieOrderUptoCard

/-- THE SECOND FORM's CARD OF 'towncrierlaw18.TrieClean'. -/
def trieCleanUptoCard : Claim7 := { stood := { row := trieCleanUptoRow, standIns := [], harness := (true, "e8045a71e41106f8ef6d4a435377a92cac66e04f9bd5b476d0a44389c2668da3"), looks := false }, kinds := [], alts := [], laidByText := true, laidKinds := [.sentinel, .sentinel], laidTests := true, laidLooks := .later }
def TrieCleanUptoCardSaid : Prop := Claim7.holds Tryd.pinned (.plain (OpenSpec.upto trieCleanSpec)) trieCleanUptoCard

/-- THE SECOND FORM's CARD OF 'towncrierlaw19.RetainPlays'. -/
def retainPlaysUptoCard : Claim7 := { stood := { row := retainPlaysUptoRow, standIns := [], harness := (true, "e8045a71e41106f8ef6d4a435377a92cac66e04f9bd5b476d0a44389c2668da3"), looks := false }, kinds := [], alts := [], laidByText := true, laidKinds := [.sentinel, .sentinel], laidTests := true, laidLooks := .later }
def RetainPlaysUptoCardSaid : Prop := Claim7.holds Tryd.pinned (.plain (OpenSpec.upto retainPlaysSpec)) retainPlaysUptoCard

/-- THE SECOND FORM's CARD OF 'towncrierlaw19.RetainLast'. -/
def retainLastUptoCard : Claim7 := { stood := { row := retainLastUptoRow, standIns := [], harness := (true, "e8045a71e41106f8ef6d4a435377a92cac66e04f9bd5b476d0a44389c2668da3"), looks := false }, kinds := [], alts := [], laidByText := true, laidKinds := [.sentinel, .sentinel], laidTests := true, laidLooks := .later }
def RetainLastUptoCardSaid : Prop := Claim7.holds Tryd.pinned (.plain (OpenSpec.upto retainLastSpec)) retainLastUptoCard

/-- THE SECOND FORM's CARD OF 'towncrierlaw19.RetainNobody'. -/
def retainNobodyUptoCard : Claim7 := { stood := { row := retainNobodyUptoRow, standIns := [], harness := (true, "e8045a71e41106f8ef6d4a435377a92cac66e04f9bd5b476d0a44389c2668da3"), looks := false }, kinds := [], alts := [], laidByText := true, laidKinds := [.sentinel, .sentinel], laidTests := true, laidLooks := .later }
def RetainNobodyUptoCardSaid : Prop := Claim7.holds Tryd.pinned (.plain (OpenSpec.upto retainNobodySpec)) retainNobodyUptoCard
end Rows
end Go.Proofs.YtfmkeapbddhndaaDoor
