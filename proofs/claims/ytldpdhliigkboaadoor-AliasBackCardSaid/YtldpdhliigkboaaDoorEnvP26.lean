/- What is proved here: what the rows of AliasOut and AliasBack list gives the walks: the error of the protocol, and the handle of the type error; and AliasOut's walk out of it. No further conditions. -/
import Derived.Test.YtldpdhliigkboaaDoorEnv
import Derived.Test.YtldpdhliigkboaaDoorLawA26
namespace Go.Proofs.YtldpdhliigkboaaDoor
open Go.ChangeShapes Go.WideShapes Go.ChangeAt Go.RowKit
def sentsP : List (String × List UInt8 × Nat) := [
  ("towncrier/api.ErrProtocol", [97, 103, 97, 105, 110, 115, 116, 32, 116, 104, 101, 32, 112, 114, 111, 116, 111, 99, 111, 108], 0)]
def sentsPLaid : List (String × DataW Unit) := sentsP.map fun x => (x.1, .iface "*errors.errorString" (.ptr (.agg [.lit (.string x.2.1)])))
theorem Tryd.namesP : ∀ x ∈ sentsP, Tryd.prog.globalNamed x.1 = some x.2.2 ∧ (Tryd.prog.globals[x.2.2]?).map (·.type) = some 36 := by
  intro x hx
  simp only [sentsP, List.mem_cons, List.not_mem_nil, or_false] at hx
  rcases hx with rfl
  exact ⟨by kernel_rfl, by kernel_rfl⟩
/-- The error of the protocol, and the handle. -/
def EnvP (W : World) (S : Nat → Addr) : Prop := ProtoAt W (S 0) ∧ Handle W
theorem envP_of {W : World} (h : laidMet Tryd.prog sentsPLaid W) (hh : handlesMet Tryd.prog handleLaid W) : ∃ S, EnvP W S := by
  obtain ⟨ps, h1, h2, h3⟩ := h
  obtain ⟨S, hS, hne⟩ := sent_list Tryd.underlying36 Tryd.row64 Tryd.underlying110 Tryd.underlying132 rfl rfl Tryd.underlying9 Tryd.cells66 Tryd.cells9 sentsP ps h1 h2 h3 Tryd.namesP
  exact ⟨S, (hS 0 _ rfl).1, handle_of hh⟩
theorem aliasOut_walk (S : Nat → Addr) (most : Int) (A : Option Addr) (n c : Nat) (L : List ByteArray) (w : World) (h : EnvP w S) (_ : (Lit.int .i64 most).wf = true) (hnz : n ≤ maxLen) (ha : StrsOf w A n L) : Calls Tryd.prog 4 #[.int .i64 most, .slice A n c] w fun x w' => x = .returned (.bool true) ∧ Below w.heap.size w w' :=
  aliasOut_core most A n c L (S 0) w hnz ha h.1 h.2
end Go.Proofs.YtldpdhliigkboaaDoor
