/-
  NARROWER THAN 'FOR EVERY INPUT', by the rows' own cells (each row's printed sentence says how): FieldWrites: laid · FieldBack: laid · TopicIs: laid · TopicMatch: laid · TopicWide: laid · TopicLevels: laid · ShareIs: laid · ShareBack: laid · ShareKeys: laid · ShareStrategy: laid.
  DERIVED. THE GIVEN ROWS OF THIS SEAT. 10 by the template 'for every input the law returns true; each argument reads behind the call as it read before'; 0 by the template 'total and deterministic' (their statements: YtibjnaccdhcbcaaDoorTotals.lean).
  GIVEN WITH THE SEED: the statements are not yours to turn. If you find one false, say at which input.
  Laid BY PROGRAM, IN A SANDBOX (cutbox-rows.mjs): the forced cells as the released guide's own fill.sh prints them over the translation 7420614ed98f3c67… (all of the seat's roots in one cut). By AI agents, Wed Nov 11 2026. No macro, syntax, notation, axiom, sorry.
-/
import Derived.Test.YtibjnaccdhcbcaaDoorChecked
import GoSem.Claim
import GoSem.ClaimJoined
import GoSem.ClaimMapViews
import Derived.JoinedTies
import Derived.KernelRfl
namespace Go.Proofs.YtibjnaccdhcbcaaDoor
/- THE CELL 'sum', in the pinned program and in every row, IS THE sha256 OF THE DUMP (.gsa) THAT YtibjnaccdhcbcaaDoorProg.lean LOADS. Nothing in Lean hashes anything: it is a label: what it is worth is what the hold of that sum in a sandbox is worth. -/
noncomputable def Tryd.pinned : Pinned := { name := "ytibjnaccdhcbcaadoor", sum := "7420614ed98f3c67cc70f09095e2a0ba8a1bf1d0fb4e37ff49a2df57edff52d0", checked := Tryd.checked }
namespace Rows
def none {H : Type} : Left H := { results := [], args := [] }

/- WHAT THE LISTED PACKAGE-LEVEL VARIABLES READ AS WHEN THE CALL BEGINS. Each datum BY PROGRAM (the guide's laid-datum.mjs) off the statement by which the dump's own 'gosem.cut.vars' lays the variable. In a bare row this is a premise. The card (YtibjnaccdhcbcaaDoorCards.lean) ties it to the program's text. -/
def laid_errors_errorType {H : Type} : DataW H := .iface "internal/reflectlite.rtype" (.agg [.ptr (.lit (.string [101, 114, 114, 111, 114]))])
def laid_towncrier_api_ErrShort {H : Type} : DataW H := .iface "*errors.errorString" (.ptr (.agg [.lit (.string [116, 111, 111, 32, 102, 101, 119, 32, 98, 121, 116, 101, 115])]))
def laid_towncrier_api_ErrMalformed {H : Type} : DataW H := .iface "*errors.errorString" (.ptr (.agg [.lit (.string [109, 97, 108, 102, 111, 114, 109, 101, 100])]))
def laid_towncrier_api_ErrProtocol {H : Type} : DataW H := .iface "*errors.errorString" (.ptr (.agg [.lit (.string [97, 103, 97, 105, 110, 115, 116, 32, 116, 104, 101, 32, 112, 114, 111, 116, 111, 99, 111, 108])]))
def laid_towncrier_api_ErrTooLarge {H : Type} : DataW H := .iface "*errors.errorString" (.ptr (.agg [.lit (.string [116, 111, 111, 32, 108, 97, 114, 103, 101])]))
def laid_towncrier_api_ErrQuota {H : Type} : DataW H := .iface "*errors.errorString" (.ptr (.agg [.lit (.string [110, 111, 32, 114, 111, 111, 109])]))
def laid_towncrier_api_ErrState {H : Type} : DataW H := .iface "*errors.errorString" (.ptr (.agg [.lit (.string [110, 111, 116, 32, 110, 111, 119])]))
def laid_towncrier_api_ErrArgument {H : Type} : DataW H := .iface "*errors.errorString" (.ptr (.agg [.lit (.string [110, 111, 32, 115, 117, 99, 104, 32, 116, 104, 105, 110, 103])]))

/-- 'towncrierlaw04.FieldWrites': WHATEVER THE INPUT: true; the input reads as it did. -/
def fieldWritesSpec : ChangeSpec := { name := "fieldWrites", fn := fun _ => fun
  | [d] => { results := [.lit (.bool true)], args := [d] }
  | _ => none }
def fieldWritesRow : OpenClaim := { program := "ytibjnaccdhcbcaadoor", sum := "7420614ed98f3c67cc70f09095e2a0ba8a1bf1d0fb4e37ff49a2df57edff52d0", func := "towncrier/towncrierlaw04.FieldWrites", spec := "fieldWrites", inPlace := ["internal/reflectlite.ValueOf", "(internal/reflectlite.Value).Type", "(internal/reflectlite.Value).IsNil", "internal/reflectlite.TypeOf", "(internal/reflectlite.Value).Elem", "(internal/reflectlite.Value).Set"], unfollowed := true, recurses := true, named := ["towncrier/api.ErrTooLarge", "errors.errorType", "towncrier/api.ErrMalformed", "towncrier/api.ErrShort", "towncrier/api.ErrProtocol", "towncrier/api.ErrQuota", "towncrier/api.ErrState", "towncrier/api.ErrArgument"], apart := false, laid := [("errors.errorType", laid_errors_errorType), ("towncrier/api.ErrShort", laid_towncrier_api_ErrShort), ("towncrier/api.ErrMalformed", laid_towncrier_api_ErrMalformed), ("towncrier/api.ErrProtocol", laid_towncrier_api_ErrProtocol), ("towncrier/api.ErrTooLarge", laid_towncrier_api_ErrTooLarge), ("towncrier/api.ErrQuota", laid_towncrier_api_ErrQuota), ("towncrier/api.ErrState", laid_towncrier_api_ErrState), ("towncrier/api.ErrArgument", laid_towncrier_api_ErrArgument)] }
def FieldWritesSaid : Prop := fieldWritesRow.holds Tryd.pinned (OpenSpec.ofChange fieldWritesSpec)

/-- ITS FALSE NEIGHBOUR: 'it returns false'. Refute it at one input. -/
def fieldWritesWrong : ChangeSpec := { name := "fieldWrites", fn := fun _ => fun
  | [d] => { results := [.lit (.bool false)], args := [d] }
  | _ => none }
def FieldWritesWrongFalsely : Prop := fieldWritesRow.holds Tryd.pinned (OpenSpec.ofChange fieldWritesWrong)

/-- 'towncrierlaw04.FieldBack': WHATEVER THE INPUT: true; the input reads as it did. -/
def fieldBackSpec : ChangeSpec := { name := "fieldBack", fn := fun _ => fun
  | [d1, d2] => { results := [.lit (.bool true)], args := [d1, d2] }
  | _ => none }
def fieldBackRow : OpenClaim := { program := "ytibjnaccdhcbcaadoor", sum := "7420614ed98f3c67cc70f09095e2a0ba8a1bf1d0fb4e37ff49a2df57edff52d0", func := "towncrier/towncrierlaw04.FieldBack", spec := "fieldBack", inPlace := ["internal/reflectlite.ValueOf", "(internal/reflectlite.Value).Type", "(internal/reflectlite.Value).IsNil", "internal/reflectlite.TypeOf", "(internal/reflectlite.Value).Elem", "(internal/reflectlite.Value).Set"], unfollowed := true, recurses := true, named := ["towncrier/api.ErrTooLarge", "errors.errorType", "towncrier/api.ErrMalformed", "towncrier/api.ErrShort", "towncrier/api.ErrProtocol", "towncrier/api.ErrQuota", "towncrier/api.ErrState", "towncrier/api.ErrArgument"], apart := false, laid := [("errors.errorType", laid_errors_errorType), ("towncrier/api.ErrShort", laid_towncrier_api_ErrShort), ("towncrier/api.ErrMalformed", laid_towncrier_api_ErrMalformed), ("towncrier/api.ErrProtocol", laid_towncrier_api_ErrProtocol), ("towncrier/api.ErrTooLarge", laid_towncrier_api_ErrTooLarge), ("towncrier/api.ErrQuota", laid_towncrier_api_ErrQuota), ("towncrier/api.ErrState", laid_towncrier_api_ErrState), ("towncrier/api.ErrArgument", laid_towncrier_api_ErrArgument)] }
def FieldBackSaid : Prop := fieldBackRow.holds Tryd.pinned (OpenSpec.ofChange fieldBackSpec)

/-- ITS FALSE NEIGHBOUR: 'it returns false'. Refute it at one input. -/
def fieldBackWrong : ChangeSpec := { name := "fieldBack", fn := fun _ => fun
  | [d1, d2] => { results := [.lit (.bool false)], args := [d1, d2] }
  | _ => none }
def FieldBackWrongFalsely : Prop := fieldBackRow.holds Tryd.pinned (OpenSpec.ofChange fieldBackWrong)

/-- 'towncrierlaw16.TopicIs': WHATEVER THE INPUT: true; the input reads as it did. -/
def topicIsSpec : ChangeSpec := { name := "topicIs", fn := fun _ => fun
  | [d] => { results := [.lit (.bool true)], args := [d] }
  | _ => none }
def topicIsRow : OpenClaim := { program := "ytibjnaccdhcbcaadoor", sum := "7420614ed98f3c67cc70f09095e2a0ba8a1bf1d0fb4e37ff49a2df57edff52d0", func := "towncrier/towncrierlaw16.TopicIs", spec := "topicIs", inPlace := ["internal/bytealg.CountString", "internal/bytealg.IndexByteString", "internal/bytealg.IndexString"], named := ["towncrier/api.ErrTooLarge", "towncrier/api.ErrMalformed", "internal/bytealg.MaxLen"], apart := false, laid := [("towncrier/api.ErrMalformed", laid_towncrier_api_ErrMalformed), ("towncrier/api.ErrTooLarge", laid_towncrier_api_ErrTooLarge)] }
def TopicIsSaid : Prop := topicIsRow.holds Tryd.pinned (OpenSpec.ofChange topicIsSpec)

/-- ITS FALSE NEIGHBOUR: 'it returns false'. Refute it at one input. -/
def topicIsWrong : ChangeSpec := { name := "topicIs", fn := fun _ => fun
  | [d] => { results := [.lit (.bool false)], args := [d] }
  | _ => none }
def TopicIsWrongFalsely : Prop := topicIsRow.holds Tryd.pinned (OpenSpec.ofChange topicIsWrong)

/-- 'towncrierlaw16.TopicMatch': WHATEVER THE INPUT: true; the input reads as it did. -/
def topicMatchSpec : ChangeSpec := { name := "topicMatch", fn := fun _ => fun
  | [d1, d2] => { results := [.lit (.bool true)], args := [d1, d2] }
  | _ => none }
def topicMatchRow : OpenClaim := { program := "ytibjnaccdhcbcaadoor", sum := "7420614ed98f3c67cc70f09095e2a0ba8a1bf1d0fb4e37ff49a2df57edff52d0", func := "towncrier/towncrierlaw16.TopicMatch", spec := "topicMatch", inPlace := ["internal/bytealg.CountString", "internal/bytealg.IndexByteString", "internal/bytealg.IndexString"], recurses := true, named := ["towncrier/api.ErrTooLarge", "towncrier/api.ErrMalformed", "internal/bytealg.MaxLen"], apart := false, laid := [("towncrier/api.ErrMalformed", laid_towncrier_api_ErrMalformed), ("towncrier/api.ErrTooLarge", laid_towncrier_api_ErrTooLarge)] }
def TopicMatchSaid : Prop := topicMatchRow.holds Tryd.pinned (OpenSpec.ofChange topicMatchSpec)

/-- ITS FALSE NEIGHBOUR: 'it returns false'. Refute it at one input. -/
def topicMatchWrong : ChangeSpec := { name := "topicMatch", fn := fun _ => fun
  | [d1, d2] => { results := [.lit (.bool false)], args := [d1, d2] }
  | _ => none }
def TopicMatchWrongFalsely : Prop := topicMatchRow.holds Tryd.pinned (OpenSpec.ofChange topicMatchWrong)

/-- 'towncrierlaw16.TopicWide': WHATEVER THE INPUT: true; the input reads as it did. -/
def topicWideSpec : ChangeSpec := { name := "topicWide", fn := fun _ => fun
  | [d1, d2, d3] => { results := [.lit (.bool true)], args := [d1, d2, d3] }
  | _ => none }
def topicWideRow : OpenClaim := { program := "ytibjnaccdhcbcaadoor", sum := "7420614ed98f3c67cc70f09095e2a0ba8a1bf1d0fb4e37ff49a2df57edff52d0", func := "towncrier/towncrierlaw16.TopicWide", spec := "topicWide", inPlace := ["internal/bytealg.CountString", "internal/bytealg.IndexByteString", "internal/bytealg.IndexString"], named := ["towncrier/api.ErrTooLarge", "towncrier/api.ErrMalformed", "internal/bytealg.MaxLen"], apart := false, laid := [("towncrier/api.ErrMalformed", laid_towncrier_api_ErrMalformed), ("towncrier/api.ErrTooLarge", laid_towncrier_api_ErrTooLarge)] }
def TopicWideSaid : Prop := topicWideRow.holds Tryd.pinned (OpenSpec.ofChange topicWideSpec)

/-- ITS FALSE NEIGHBOUR: 'it returns false'. Refute it at one input. -/
def topicWideWrong : ChangeSpec := { name := "topicWide", fn := fun _ => fun
  | [d1, d2, d3] => { results := [.lit (.bool false)], args := [d1, d2, d3] }
  | _ => none }
def TopicWideWrongFalsely : Prop := topicWideRow.holds Tryd.pinned (OpenSpec.ofChange topicWideWrong)

/-- 'towncrierlaw16.TopicLevels': WHATEVER THE INPUT: true; the input reads as it did. -/
def topicLevelsSpec : ChangeSpec := { name := "topicLevels", fn := fun _ => fun
  | [d] => { results := [.lit (.bool true)], args := [d] }
  | _ => none }
def topicLevelsRow : OpenClaim := { program := "ytibjnaccdhcbcaadoor", sum := "7420614ed98f3c67cc70f09095e2a0ba8a1bf1d0fb4e37ff49a2df57edff52d0", func := "towncrier/towncrierlaw16.TopicLevels", spec := "topicLevels", inPlace := ["internal/bytealg.CountString", "internal/bytealg.IndexByteString", "internal/bytealg.IndexString"], named := ["towncrier/api.ErrTooLarge", "towncrier/api.ErrMalformed", "internal/bytealg.MaxLen"], apart := false, laid := [("towncrier/api.ErrMalformed", laid_towncrier_api_ErrMalformed), ("towncrier/api.ErrTooLarge", laid_towncrier_api_ErrTooLarge)] }
def TopicLevelsSaid : Prop := topicLevelsRow.holds Tryd.pinned (OpenSpec.ofChange topicLevelsSpec)

/-- ITS FALSE NEIGHBOUR: 'it returns false'. Refute it at one input. -/
def topicLevelsWrong : ChangeSpec := { name := "topicLevels", fn := fun _ => fun
  | [d] => { results := [.lit (.bool false)], args := [d] }
  | _ => none }
def TopicLevelsWrongFalsely : Prop := topicLevelsRow.holds Tryd.pinned (OpenSpec.ofChange topicLevelsWrong)

/-- 'towncrierlaw17.ShareIs': WHATEVER THE INPUT: true; the input reads as it did. -/
def shareIsSpec : ChangeSpec := { name := "shareIs", fn := fun _ => fun
  | [d1, d2] => { results := [.lit (.bool true)], args := [d1, d2] }
  | _ => none }
def shareIsRow : OpenClaim := { program := "ytibjnaccdhcbcaadoor", sum := "7420614ed98f3c67cc70f09095e2a0ba8a1bf1d0fb4e37ff49a2df57edff52d0", func := "towncrier/towncrierlaw17.ShareIs", spec := "shareIs", inPlace := ["internal/bytealg.CountString", "internal/bytealg.IndexByteString", "internal/bytealg.IndexString"], named := ["towncrier/api.ErrTooLarge", "towncrier/api.ErrMalformed", "internal/bytealg.MaxLen"], apart := false, laid := [("towncrier/api.ErrMalformed", laid_towncrier_api_ErrMalformed), ("towncrier/api.ErrTooLarge", laid_towncrier_api_ErrTooLarge)] }
def ShareIsSaid : Prop := shareIsRow.holds Tryd.pinned (OpenSpec.ofChange shareIsSpec)

/-- ITS FALSE NEIGHBOUR: 'it returns false'. Refute it at one input. -/
def shareIsWrong : ChangeSpec := { name := "shareIs", fn := fun _ => fun
  | [d1, d2] => { results := [.lit (.bool false)], args := [d1, d2] }
  | _ => none }
def ShareIsWrongFalsely : Prop := shareIsRow.holds Tryd.pinned (OpenSpec.ofChange shareIsWrong)

/-- 'towncrierlaw17.ShareBack': WHATEVER THE INPUT: true; the input reads as it did. -/
def shareBackSpec : ChangeSpec := { name := "shareBack", fn := fun _ => fun
  | [d] => { results := [.lit (.bool true)], args := [d] }
  | _ => none }
def shareBackRow : OpenClaim := { program := "ytibjnaccdhcbcaadoor", sum := "7420614ed98f3c67cc70f09095e2a0ba8a1bf1d0fb4e37ff49a2df57edff52d0", func := "towncrier/towncrierlaw17.ShareBack", spec := "shareBack", inPlace := ["internal/bytealg.CountString", "internal/bytealg.IndexByteString", "internal/bytealg.IndexString"], named := ["towncrier/api.ErrTooLarge", "towncrier/api.ErrMalformed", "internal/bytealg.MaxLen"], apart := false, laid := [("towncrier/api.ErrMalformed", laid_towncrier_api_ErrMalformed), ("towncrier/api.ErrTooLarge", laid_towncrier_api_ErrTooLarge)] }
def ShareBackSaid : Prop := shareBackRow.holds Tryd.pinned (OpenSpec.ofChange shareBackSpec)

/-- ITS FALSE NEIGHBOUR: 'it returns false'. Refute it at one input. -/
def shareBackWrong : ChangeSpec := { name := "shareBack", fn := fun _ => fun
  | [d] => { results := [.lit (.bool false)], args := [d] }
  | _ => none }
def ShareBackWrongFalsely : Prop := shareBackRow.holds Tryd.pinned (OpenSpec.ofChange shareBackWrong)

/-- 'towncrierlaw17.ShareKeys': WHATEVER THE INPUT: true; the input reads as it did. -/
def shareKeysSpec : ChangeSpec := { name := "shareKeys", fn := fun _ => fun
  | [d1, d2] => { results := [.lit (.bool true)], args := [d1, d2] }
  | _ => none }
def shareKeysRow : OpenClaim := { program := "ytibjnaccdhcbcaadoor", sum := "7420614ed98f3c67cc70f09095e2a0ba8a1bf1d0fb4e37ff49a2df57edff52d0", func := "towncrier/towncrierlaw17.ShareKeys", spec := "shareKeys", inPlace := ["internal/bytealg.CountString", "internal/bytealg.IndexByteString", "internal/bytealg.IndexString"], named := ["towncrier/api.ErrTooLarge", "towncrier/api.ErrMalformed", "internal/bytealg.MaxLen"], apart := false, laid := [("towncrier/api.ErrMalformed", laid_towncrier_api_ErrMalformed), ("towncrier/api.ErrTooLarge", laid_towncrier_api_ErrTooLarge)] }
def ShareKeysSaid : Prop := shareKeysRow.holds Tryd.pinned (OpenSpec.ofChange shareKeysSpec)

/-- ITS FALSE NEIGHBOUR: 'it returns false'. Refute it at one input. -/
def shareKeysWrong : ChangeSpec := { name := "shareKeys", fn := fun _ => fun
  | [d1, d2] => { results := [.lit (.bool false)], args := [d1, d2] }
  | _ => none }
def ShareKeysWrongFalsely : Prop := shareKeysRow.holds Tryd.pinned (OpenSpec.ofChange shareKeysWrong)

/-- 'towncrierlaw17.ShareStrategy': WHATEVER THE INPUT: true; the input reads as it did. -/
def shareStrategySpec : ChangeSpec := { name := "shareStrategy", fn := fun _ => fun
  | [d1, d2] => { results := [.lit (.bool true)], args := [d1, d2] }
  | _ => none }
def shareStrategyRow : OpenClaim := { program := "ytibjnaccdhcbcaadoor", sum := "7420614ed98f3c67cc70f09095e2a0ba8a1bf1d0fb4e37ff49a2df57edff52d0", func := "towncrier/towncrierlaw17.ShareStrategy", spec := "shareStrategy", inPlace := ["internal/bytealg.CountString", "internal/bytealg.IndexByteString", "internal/bytealg.IndexString"], named := ["towncrier/api.ErrTooLarge", "towncrier/api.ErrMalformed", "internal/bytealg.MaxLen"], apart := false, laid := [("towncrier/api.ErrMalformed", laid_towncrier_api_ErrMalformed), ("towncrier/api.ErrTooLarge", laid_towncrier_api_ErrTooLarge)] }
def ShareStrategySaid : Prop := shareStrategyRow.holds Tryd.pinned (OpenSpec.ofChange shareStrategySpec)

/-- ITS FALSE NEIGHBOUR: 'it returns false'. Refute it at one input. -/
def shareStrategyWrong : ChangeSpec := { name := "shareStrategy", fn := fun _ => fun
  | [d1, d2] => { results := [.lit (.bool false)], args := [d1, d2] }
  | _ => none }
def ShareStrategyWrongFalsely : Prop := shareStrategyRow.holds Tryd.pinned (OpenSpec.ofChange shareStrategyWrong)

/- THE SECOND FORM. 'bulk': how many values and letters a reading holds, each counted each time it is reached (what is shared counts as often as it is met; a slice's spare places count too). A statement '..UptoSaid' is the law's where the arguments, and the package variables that the reading takes, are together of bulk at most 1048576: NARROWER than '..Said'. Prove '..Said' where nothing that the law and all that it calls make is longer than what came in: it says more and counts as full. Else prove '..UptoSaid'. A law counts once. -/
mutual
def uptoBulk {H : Type} : DataW H → Nat
  | .lit (.string bytes) => bytes.length + 1
  | .lit _ => 1
  | .nil => 1
  | .ptr d => uptoBulk d + 1
  | .slice elems spare => uptoBulkAll elems + uptoBulkAll spare + 1
  | .agg parts => uptoBulkAll parts + 1
  | .iface _ d => uptoBulk d + 1
  | .map entries => uptoBulkEntries entries + 1
  | .held _ => 1
def uptoBulkAll {H : Type} : List (DataW H) → Nat
  | [] => 0
  | d :: r => uptoBulk d + uptoBulkAll r
def uptoBulkEntries {H : Type} : List (Lit × DataW H) → Nat
  | [] => 0
  | x :: r => uptoBulkEntry x + uptoBulkEntries r
def uptoBulkEntry {H : Type} : Lit × DataW H → Nat
  | (.string bytes, d) => bytes.length + uptoBulk d + 1
  | (_, d) => uptoBulk d + 1
 end
def uptoSmall : (H : Type) → List (DataW H) → Bool := fun _ ds => decide (uptoBulkAll ds ≤ 1048576)
def OpenSpec.upto (s : _root_.Go.ChangeSpec) : _root_.Go.OpenSpec := { _root_.Go.OpenSpec.ofChange s with cond := some uptoSmall }

/-- 'towncrierlaw04.FieldWrites', WHERE WHAT IT READS IS OF BULK AT MOST 1048576: true; the input reads as it did. -/
def fieldWritesUptoRow : OpenClaim := { program := "ytibjnaccdhcbcaadoor", sum := "7420614ed98f3c67cc70f09095e2a0ba8a1bf1d0fb4e37ff49a2df57edff52d0", func := "towncrier/towncrierlaw04.FieldWrites", spec := "fieldWrites", inPlace := ["internal/reflectlite.ValueOf", "(internal/reflectlite.Value).Type", "(internal/reflectlite.Value).IsNil", "internal/reflectlite.TypeOf", "(internal/reflectlite.Value).Elem", "(internal/reflectlite.Value).Set"], unfollowed := true, recurses := true, named := ["towncrier/api.ErrTooLarge", "errors.errorType", "towncrier/api.ErrMalformed", "towncrier/api.ErrShort", "towncrier/api.ErrProtocol", "towncrier/api.ErrQuota", "towncrier/api.ErrState", "towncrier/api.ErrArgument"], apart := false, laid := [("errors.errorType", laid_errors_errorType), ("towncrier/api.ErrShort", laid_towncrier_api_ErrShort), ("towncrier/api.ErrMalformed", laid_towncrier_api_ErrMalformed), ("towncrier/api.ErrProtocol", laid_towncrier_api_ErrProtocol), ("towncrier/api.ErrTooLarge", laid_towncrier_api_ErrTooLarge), ("towncrier/api.ErrQuota", laid_towncrier_api_ErrQuota), ("towncrier/api.ErrState", laid_towncrier_api_ErrState), ("towncrier/api.ErrArgument", laid_towncrier_api_ErrArgument)], narrowed := true }
def FieldWritesUptoSaid : Prop := fieldWritesUptoRow.holds Tryd.pinned (OpenSpec.upto fieldWritesSpec)

/-- 'towncrierlaw04.FieldBack', WHERE WHAT IT READS IS OF BULK AT MOST 1048576: true; the input reads as it did. -/
def fieldBackUptoRow : OpenClaim := { program := "ytibjnaccdhcbcaadoor", sum := "7420614ed98f3c67cc70f09095e2a0ba8a1bf1d0fb4e37ff49a2df57edff52d0", func := "towncrier/towncrierlaw04.FieldBack", spec := "fieldBack", inPlace := ["internal/reflectlite.ValueOf", "(internal/reflectlite.Value).Type", "(internal/reflectlite.Value).IsNil", "internal/reflectlite.TypeOf", "(internal/reflectlite.Value).Elem", "(internal/reflectlite.Value).Set"], unfollowed := true, recurses := true, named := ["towncrier/api.ErrTooLarge", "errors.errorType", "towncrier/api.ErrMalformed", "towncrier/api.ErrShort", "towncrier/api.ErrProtocol", "towncrier/api.ErrQuota", "towncrier/api.ErrState", "towncrier/api.ErrArgument"], apart := false, laid := [("errors.errorType", laid_errors_errorType), ("towncrier/api.ErrShort", laid_towncrier_api_ErrShort), ("towncrier/api.ErrMalformed", laid_towncrier_api_ErrMalformed), ("towncrier/api.ErrProtocol", laid_towncrier_api_ErrProtocol), ("towncrier/api.ErrTooLarge", laid_towncrier_api_ErrTooLarge), ("towncrier/api.ErrQuota", laid_towncrier_api_ErrQuota), ("towncrier/api.ErrState", laid_towncrier_api_ErrState), ("towncrier/api.ErrArgument", laid_towncrier_api_ErrArgument)], narrowed := true }
def FieldBackUptoSaid : Prop := fieldBackUptoRow.holds Tryd.pinned (OpenSpec.upto fieldBackSpec)

/-- 'towncrierlaw16.TopicIs', WHERE WHAT IT READS IS OF BULK AT MOST 1048576: true; the input reads as it did. -/
def topicIsUptoRow : OpenClaim := { program := "ytibjnaccdhcbcaadoor", sum := "7420614ed98f3c67cc70f09095e2a0ba8a1bf1d0fb4e37ff49a2df57edff52d0", func := "towncrier/towncrierlaw16.TopicIs", spec := "topicIs", inPlace := ["internal/bytealg.CountString", "internal/bytealg.IndexByteString", "internal/bytealg.IndexString"], named := ["towncrier/api.ErrTooLarge", "towncrier/api.ErrMalformed", "internal/bytealg.MaxLen"], apart := false, laid := [("towncrier/api.ErrMalformed", laid_towncrier_api_ErrMalformed), ("towncrier/api.ErrTooLarge", laid_towncrier_api_ErrTooLarge)], narrowed := true }
def TopicIsUptoSaid : Prop := topicIsUptoRow.holds Tryd.pinned (OpenSpec.upto topicIsSpec)

/-- 'towncrierlaw16.TopicMatch', WHERE WHAT IT READS IS OF BULK AT MOST 1048576: true; the input reads as it did. -/
def topicMatchUptoRow : OpenClaim := { program := "ytibjnaccdhcbcaadoor", sum := "7420614ed98f3c67cc70f09095e2a0ba8a1bf1d0fb4e37ff49a2df57edff52d0", func := "towncrier/towncrierlaw16.TopicMatch", spec := "topicMatch", inPlace := ["internal/bytealg.CountString", "internal/bytealg.IndexByteString", "internal/bytealg.IndexString"], recurses := true, named := ["towncrier/api.ErrTooLarge", "towncrier/api.ErrMalformed", "internal/bytealg.MaxLen"], apart := false, laid := [("towncrier/api.ErrMalformed", laid_towncrier_api_ErrMalformed), ("towncrier/api.ErrTooLarge", laid_towncrier_api_ErrTooLarge)], narrowed := true }
def TopicMatchUptoSaid : Prop := topicMatchUptoRow.holds Tryd.pinned (OpenSpec.upto topicMatchSpec)

/-- 'towncrierlaw16.TopicWide', WHERE WHAT IT READS IS OF BULK AT MOST 1048576: true; the input reads as it did. -/
def topicWideUptoRow : OpenClaim := { program := "ytibjnaccdhcbcaadoor", sum := "7420614ed98f3c67cc70f09095e2a0ba8a1bf1d0fb4e37ff49a2df57edff52d0", func := "towncrier/towncrierlaw16.TopicWide", spec := "topicWide", inPlace := ["internal/bytealg.CountString", "internal/bytealg.IndexByteString", "internal/bytealg.IndexString"], named := ["towncrier/api.ErrTooLarge", "towncrier/api.ErrMalformed", "internal/bytealg.MaxLen"], apart := false, laid := [("towncrier/api.ErrMalformed", laid_towncrier_api_ErrMalformed), ("towncrier/api.ErrTooLarge", laid_towncrier_api_ErrTooLarge)], narrowed := true }
def TopicWideUptoSaid : Prop := topicWideUptoRow.holds Tryd.pinned (OpenSpec.upto topicWideSpec)

/-- 'towncrierlaw16.TopicLevels', WHERE WHAT IT READS IS OF BULK AT MOST 1048576: true; the input reads as it did. -/
def topicLevelsUptoRow : OpenClaim := { program := "ytibjnaccdhcbcaadoor", sum := "7420614ed98f3c67cc70f09095e2a0ba8a1bf1d0fb4e37ff49a2df57edff52d0", func := "towncrier/towncrierlaw16.TopicLevels", spec := "topicLevels", inPlace := ["internal/bytealg.CountString", "internal/bytealg.IndexByteString", "internal/bytealg.IndexString"], named := ["towncrier/api.ErrTooLarge", "towncrier/api.ErrMalformed", "internal/bytealg.MaxLen"], apart := false, laid := [("towncrier/api.ErrMalformed", laid_towncrier_api_ErrMalformed), ("towncrier/api.ErrTooLarge", laid_towncrier_api_ErrTooLarge)], narrowed := true }
def TopicLevelsUptoSaid : Prop := topicLevelsUptoRow.holds Tryd.pinned (OpenSpec.upto topicLevelsSpec)

/-- 'towncrierlaw17.ShareIs', WHERE WHAT IT READS IS OF BULK AT MOST 1048576: true; the input reads as it did. -/
def shareIsUptoRow : OpenClaim := { program := "ytibjnaccdhcbcaadoor", sum := "7420614ed98f3c67cc70f09095e2a0ba8a1bf1d0fb4e37ff49a2df57edff52d0", func := "towncrier/towncrierlaw17.ShareIs", spec := "shareIs", inPlace := ["internal/bytealg.CountString", "internal/bytealg.IndexByteString", "internal/bytealg.IndexString"], named := ["towncrier/api.ErrTooLarge", "towncrier/api.ErrMalformed", "internal/bytealg.MaxLen"], apart := false, laid := [("towncrier/api.ErrMalformed", laid_towncrier_api_ErrMalformed), ("towncrier/api.ErrTooLarge", laid_towncrier_api_ErrTooLarge)], narrowed := true }
def ShareIsUptoSaid : Prop := shareIsUptoRow.holds Tryd.pinned (OpenSpec.upto shareIsSpec)

/-- 'towncrierlaw17.ShareBack', WHERE WHAT IT READS IS OF BULK AT MOST 1048576: true; the input reads as it did. -/
def shareBackUptoRow : OpenClaim := { program := "ytibjnaccdhcbcaadoor", sum := "7420614ed98f3c67cc70f09095e2a0ba8a1bf1d0fb4e37ff49a2df57edff52d0", func := "towncrier/towncrierlaw17.ShareBack", spec := "shareBack", inPlace := ["internal/bytealg.CountString", "internal/bytealg.IndexByteString", "internal/bytealg.IndexString"], named := ["towncrier/api.ErrTooLarge", "towncrier/api.ErrMalformed", "internal/bytealg.MaxLen"], apart := false, laid := [("towncrier/api.ErrMalformed", laid_towncrier_api_ErrMalformed), ("towncrier/api.ErrTooLarge", laid_towncrier_api_ErrTooLarge)], narrowed := true }
def ShareBackUptoSaid : Prop := shareBackUptoRow.holds Tryd.pinned (OpenSpec.upto shareBackSpec)

/-- 'towncrierlaw17.ShareKeys', WHERE WHAT IT READS IS OF BULK AT MOST 1048576: true; the input reads as it did. -/
def shareKeysUptoRow : OpenClaim := { program := "ytibjnaccdhcbcaadoor", sum := "7420614ed98f3c67cc70f09095e2a0ba8a1bf1d0fb4e37ff49a2df57edff52d0", func := "towncrier/towncrierlaw17.ShareKeys", spec := "shareKeys", inPlace := ["internal/bytealg.CountString", "internal/bytealg.IndexByteString", "internal/bytealg.IndexString"], named := ["towncrier/api.ErrTooLarge", "towncrier/api.ErrMalformed", "internal/bytealg.MaxLen"], apart := false, laid := [("towncrier/api.ErrMalformed", laid_towncrier_api_ErrMalformed), ("towncrier/api.ErrTooLarge", laid_towncrier_api_ErrTooLarge)], narrowed := true }
def ShareKeysUptoSaid : Prop := shareKeysUptoRow.holds Tryd.pinned (OpenSpec.upto shareKeysSpec)

/-- 'towncrierlaw17.ShareStrategy', WHERE WHAT IT READS IS OF BULK AT MOST 1048576: true; the input reads as it did. -/
def shareStrategyUptoRow : OpenClaim := { program := "ytibjnaccdhcbcaadoor", sum := "7420614ed98f3c67cc70f09095e2a0ba8a1bf1d0fb4e37ff49a2df57edff52d0", func := "towncrier/towncrierlaw17.ShareStrategy", spec := "shareStrategy", inPlace := ["internal/bytealg.CountString", "internal/bytealg.IndexByteString", "internal/bytealg.IndexString"], named := ["towncrier/api.ErrTooLarge", "towncrier/api.ErrMalformed", "internal/bytealg.MaxLen"], apart := false, laid := [("towncrier/api.ErrMalformed", laid_towncrier_api_ErrMalformed), ("towncrier/api.ErrTooLarge", laid_towncrier_api_ErrTooLarge)], narrowed := true }
def ShareStrategyUptoSaid : Prop := shareStrategyUptoRow.holds Tryd.pinned (OpenSpec.upto shareStrategySpec)

end Rows
end Go.Proofs.YtibjnaccdhcbcaaDoor
