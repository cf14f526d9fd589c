/- What is proved here: what the rows of layers 16 and 17 list gives the walks: the two errors that utf.Check names. No further conditions. -/
import Derived.Test.YtebaojbagogniaaDoorTopA16
namespace Go.Proofs.YtebaojbagogniaaDoor
open Go.ChangeShapes Go.WideShapes Go.ChangeAt Go.RowKit

theorem Tryd.own : ownKnob Tryd.prog.godebug = none := by kernel_rfl
theorem Tryd.laidOut : laidOutB Tryd.prog = true := by kernel_rfl
theorem Tryd.cells66 : Tryd.prog.cellsOf 135 = 1 := by kernel_rfl
theorem Tryd.cells9 : Tryd.prog.cellsOf 9 = 1 := by kernel_rfl
theorem Tryd.star : "*" ++ "errors.errorString" = "*errors.errorString" := by decide
theorem Tryd.row64 (u : TypeId) (h : Tryd.prog.typeName? 3 u = some "*errors.errorString") : u = 119 :=
  typeName_ptr_named (nm := "errors.errorString") (by rw [Tryd.star]; kernel_rfl) (by kernel_rfl) (by decide) u (by rw [Tryd.star]; exact h)
def sentsT : List (String × List UInt8 × Nat) := [
  ("towncrier/api.ErrMalformed", [109, 97, 108, 102, 111, 114, 109, 101, 100], 1),
  ("towncrier/api.ErrTooLarge", [116, 111, 111, 32, 108, 97, 114, 103, 101], 0)]
def sentsTLaid : List (String × DataW Unit) := sentsT.map fun x => (x.1, .iface "*errors.errorString" (.ptr (.agg [.lit (.string x.2.1)])))
theorem Tryd.namesT : ∀ x ∈ sentsT, Tryd.prog.globalNamed x.1 = some x.2.2 ∧ (Tryd.prog.globals[x.2.2]?).map (·.type) = some 83 := by
  intro x hx
  simp only [sentsT, List.mem_cons, List.not_mem_nil, or_false] at hx
  rcases hx with rfl | rfl
  all_goals exact ⟨by kernel_rfl, by kernel_rfl⟩
theorem envT_of {W : World} (h : laidMet Tryd.prog sentsTLaid W) : ∃ S, EnvT W S := by
  obtain ⟨ps, h1, h2, h3⟩ := h
  obtain ⟨S, hS, hne⟩ := sent_list Tryd.underlying83 Tryd.row64 Tryd.underlying119 Tryd.underlying135 rfl rfl Tryd.underlying9 Tryd.cells66 Tryd.cells9 sentsT ps h1 h2 h3 Tryd.namesT
  exact ⟨fun i => if i = 1 then S 0 else S 1, (hS 0 _ rfl).1, (hS 1 _ rfl).1⟩
end Go.Proofs.YtebaojbagogniaaDoor
