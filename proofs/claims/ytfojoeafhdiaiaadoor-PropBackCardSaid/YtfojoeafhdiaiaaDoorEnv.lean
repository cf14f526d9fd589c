/- What is proved here: what the rows list of the package-level variables gives the walks: seven different errors, and the handle of the type error; and the program's own start-up code lays just that. No further conditions. -/
import Derived.Test.YtfojoeafhdiaiaaDoorLib
import Derived.Test.YtfojoeafhdiaiaaDoorErr
namespace Go.Proofs.YtfojoeafhdiaiaaDoor
open Go.ChangeShapes Go.WideShapes Go.ChangeAt Go.RowKit

def sents : List (String × List UInt8 × Nat) := [
  ("towncrier/api.ErrShort", [116, 111, 111, 32, 102, 101, 119, 32, 98, 121, 116, 101, 115], 0),
  ("towncrier/api.ErrMalformed", [109, 97, 108, 102, 111, 114, 109, 101, 100], 1),
  ("towncrier/api.ErrProtocol", [97, 103, 97, 105, 110, 115, 116, 32, 116, 104, 101, 32, 112, 114, 111, 116, 111, 99, 111, 108], 2),
  ("towncrier/api.ErrTooLarge", [116, 111, 111, 32, 108, 97, 114, 103, 101], 3),
  ("towncrier/api.ErrQuota", [110, 111, 32, 114, 111, 111, 109], 4),
  ("towncrier/api.ErrState", [110, 111, 116, 32, 110, 111, 119], 5),
  ("towncrier/api.ErrArgument", [110, 111, 32, 115, 117, 99, 104, 32, 116, 104, 105, 110, 103], 6)]
def sentsLaid : List (String × DataW Unit) := sents.map fun x => (x.1, .iface "*errors.errorString" (.ptr (.agg [.lit (.string x.2.1)])))
def handleData : DataW Unit := .iface "internal/reflectlite.rtype" (.agg [.ptr (.lit (.string [101, 114, 114, 111, 114]))])
def handleLaid : List (String × DataW Unit) := [("errors.errorType", handleData)]

theorem Tryd.own : ownKnob Tryd.prog.godebug = none := by kernel_rfl
theorem Tryd.laidOut : laidOutB Tryd.prog = true := by kernel_rfl
theorem Tryd.cells66 : Tryd.prog.cellsOf 197 = 1 := by kernel_rfl
theorem Tryd.cells9 : Tryd.prog.cellsOf 9 = 1 := by kernel_rfl
theorem Tryd.star : "*" ++ "errors.errorString" = "*errors.errorString" := by decide
theorem Tryd.row64 (u : TypeId) (h : Tryd.prog.typeName? 3 u = some "*errors.errorString") : u = 177 :=
  typeName_ptr_named (nm := "errors.errorString") (by rw [Tryd.star]; kernel_rfl) (by kernel_rfl) (by decide) u (by rw [Tryd.star]; exact h)
theorem Tryd.names : ∀ x ∈ sents, Tryd.prog.globalNamed x.1 = some x.2.2 ∧ (Tryd.prog.globals[x.2.2]?).map (·.type) = some 28 := by
  intro x hx
  simp only [sents, List.mem_cons, List.not_mem_nil, or_false] at hx
  rcases hx with rfl | rfl | rfl | rfl | rfl | rfl | rfl
  all_goals exact ⟨by kernel_rfl, by kernel_rfl⟩
theorem Tryd.oneRow : ((List.range 207).filter fun t => Tryd.prog.rowNamed t [101, 114, 114, 111, 114]) = [28] := by kernel_rfl
theorem Tryd.size : Tryd.prog.types.size = 207 := by kernel_rfl
theorem Tryd.rt : (Tryd.prog.cutTypes.find? (·.1 == "internal/reflectlite.rtype")).map (·.2) = some 150 := by kernel_rfl
theorem Tryd.et : Tryd.prog.globalNamed "errors.errorType" = some 7 := by kernel_rfl

theorem handle_of {W : World} (h : handlesMet Tryd.prog handleLaid W) : Handle W := by
  have hh : typeHandle Tryd.prog 28 = .pointer (some ⟨8, 28, none⟩) := by kernel_rfl
  have := handle_of_list (n := "errors.errorType") (d := handleData) (nm := [101, 114, 114, 111, 114]) (ty := 28) h (List.mem_singleton.2 rfl) (by kernel_rfl) (by kernel_rfl) Tryd.rt ?_ Tryd.et
  · rw [hh] at this; exact this
  · intro t h1 h2
    have hm : t ∈ (List.range 207).filter fun t => Tryd.prog.rowNamed t [101, 114, 114, 111, 114] := List.mem_filter.2 ⟨List.mem_range.2 (by rw [← Tryd.size]; exact h1), h2⟩
    rw [Tryd.oneRow] at hm
    exact List.mem_singleton.1 hm

theorem env_of {W : World} (h : laidMet Tryd.prog sentsLaid W) (hh : handlesMet Tryd.prog handleLaid W) : ∃ S, Env W S := by
  obtain ⟨ps, h1, h2, h3⟩ := h
  obtain ⟨S, hS, hne⟩ := sent_list Tryd.underlying28 Tryd.row64 Tryd.underlying177 Tryd.underlying197 rfl rfl Tryd.underlying9 Tryd.cells66 Tryd.cells9 sents ps h1 h2 h3 Tryd.names
  have key : ∀ i, i < 7 → ∃ x, sents[i]? = some x ∧ x.2.2 = kindAt i := by
    intro i hi
    rcases (show i = 0 ∨ i = 1 ∨ i = 2 ∨ i = 3 ∨ i = 4 ∨ i = 5 ∨ i = 6 by omega) with rfl | rfl | rfl | rfl | rfl | rfl | rfl
    all_goals exact ⟨_, rfl, rfl⟩
  refine ⟨S, fun i hi => ?_, fun i hi => ?_, fun i j hi hj => hne i j hi hj, handle_of hh⟩
  · obtain ⟨x, hx, hxi⟩ := key i hi
    have := (hS i x hx).1
    rw [hxi] at this
    exact this
  · obtain ⟨x, hx, hxi⟩ := key i hi
    exact (hS i x hx).2.1

end Go.Proofs.YtfojoeafhdiaiaaDoor
