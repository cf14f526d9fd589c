/- What is proved here: what the rows list of the package-level variables gives the walks: seven different errors, and the handle of the type error; and the program's own start-up code lays just that. No further conditions. -/
import Derived.Test.YtfojoeafhdiaiaaGreatDoorLib
import Derived.Test.YtfojoeafhdiaiaaGreatDoorErr
namespace Go.Proofs.YtfojoeafhdiaiaaGreatDoor
open Go.ChangeShapes Go.WideShapes Go.ChangeAt Go.RowKit

def sents : List (String × List UInt8 × Nat) := [
  ("towncrier/api.ErrShort", [116, 111, 111, 32, 102, 101, 119, 32, 98, 121, 116, 101, 115], 0),
  ("towncrier/api.ErrMalformed", [109, 97, 108, 102, 111, 114, 109, 101, 100], 1),
  ("towncrier/api.ErrProtocol", [97, 103, 97, 105, 110, 115, 116, 32, 116, 104, 101, 32, 112, 114, 111, 116, 111, 99, 111, 108], 2),
  ("towncrier/api.ErrTooLarge", [116, 111, 111, 32, 108, 97, 114, 103, 101], 3),
  ("towncrier/api.ErrQuota", [110, 111, 32, 114, 111, 111, 109], 4),
  ("towncrier/api.ErrState", [110, 111, 116, 32, 110, 111, 119], 5),
  ("towncrier/api.ErrArgument", [110, 111, 32, 115, 117, 99, 104, 32, 116, 104, 105, 110, 103], 6)]
def sentsLaid : List (String × DataW Unit) := sents.map fun x => (x.1, .iface "*errors.errorString" (.ptr (.agg [.lit (.string x.2.1)])))
def handleData : DataW Unit := .iface "internal/reflectlite.rtype" (.agg [.ptr (.lit (.string [101, 114, 114, 111, 114]))])
def handleLaid : List (String × DataW Unit) := [("errors.errorType", handleData)]

theorem Tryz.own : ownKnob Tryz.prog.godebug = none := by kernel_rfl
theorem Tryz.laidOut : laidOutB Tryz.prog = true := by kernel_rfl
theorem Tryz.cells66 : Tryz.prog.cellsOf 169 = 1 := by kernel_rfl
theorem Tryz.cells9 : Tryz.prog.cellsOf 9 = 1 := by kernel_rfl
theorem Tryz.star : "*" ++ "errors.errorString" = "*errors.errorString" := by decide
theorem Tryz.row64 (u : TypeId) (h : Tryz.prog.typeName? 3 u = some "*errors.errorString") : u = 149 :=
  typeName_ptr_named (nm := "errors.errorString") (by rw [Tryz.star]; kernel_rfl) (by kernel_rfl) (by decide) u (by rw [Tryz.star]; exact h)
theorem Tryz.names : ∀ x ∈ sents, Tryz.prog.globalNamed x.1 = some x.2.2 ∧ (Tryz.prog.globals[x.2.2]?).map (·.type) = some 36 := by
  intro x hx
  simp only [sents, List.mem_cons, List.not_mem_nil, or_false] at hx
  rcases hx with rfl | rfl | rfl | rfl | rfl | rfl | rfl
  all_goals exact ⟨by kernel_rfl, by kernel_rfl⟩
theorem Tryz.oneRow : ((List.range 180).filter fun t => Tryz.prog.rowNamed t [101, 114, 114, 111, 114]) = [36] := by kernel_rfl
theorem Tryz.size : Tryz.prog.types.size = 180 := by kernel_rfl
theorem Tryz.rt : (Tryz.prog.cutTypes.find? (·.1 == "internal/reflectlite.rtype")).map (·.2) = some 125 := by kernel_rfl
theorem Tryz.et : Tryz.prog.globalNamed "errors.errorType" = some 7 := by kernel_rfl

theorem handle_of {W : World} (h : handlesMet Tryz.prog handleLaid W) : Handle W := by
  have hh : typeHandle Tryz.prog 36 = .pointer (some ⟨8, 36, none⟩) := by kernel_rfl
  have := handle_of_list (n := "errors.errorType") (d := handleData) (nm := [101, 114, 114, 111, 114]) (ty := 36) h (List.mem_singleton.2 rfl) (by kernel_rfl) (by kernel_rfl) Tryz.rt ?_ Tryz.et
  · rw [hh] at this; exact this
  · intro t h1 h2
    have hm : t ∈ (List.range 180).filter fun t => Tryz.prog.rowNamed t [101, 114, 114, 111, 114] := List.mem_filter.2 ⟨List.mem_range.2 (by rw [← Tryz.size]; exact h1), h2⟩
    rw [Tryz.oneRow] at hm
    exact List.mem_singleton.1 hm

theorem env_of {W : World} (h : laidMet Tryz.prog sentsLaid W) (hh : handlesMet Tryz.prog handleLaid W) : ∃ S, Env W S := by
  obtain ⟨ps, h1, h2, h3⟩ := h
  obtain ⟨S, hS, hne⟩ := sent_list Tryz.underlying36 Tryz.row64 Tryz.underlying149 Tryz.underlying169 rfl rfl Tryz.underlying9 Tryz.cells66 Tryz.cells9 sents ps h1 h2 h3 Tryz.names
  have key : ∀ i, i < 7 → ∃ x, sents[i]? = some x ∧ x.2.2 = kindAt i := by
    intro i hi
    rcases (show i = 0 ∨ i = 1 ∨ i = 2 ∨ i = 3 ∨ i = 4 ∨ i = 5 ∨ i = 6 by omega) with rfl | rfl | rfl | rfl | rfl | rfl | rfl
    all_goals exact ⟨_, rfl, rfl⟩
  refine ⟨S, fun i hi => ?_, fun i hi => ?_, fun i j hi hj => hne i j hi hj, handle_of hh⟩
  · obtain ⟨x, hx, hxi⟩ := key i hi
    have := (hS i x hx).1
    rw [hxi] at this
    exact this
  · obtain ⟨x, hx, hxi⟩ := key i hi
    exact (hS i x hx).2.1

end Go.Proofs.YtfojoeafhdiaiaaGreatDoor
