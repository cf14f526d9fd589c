/- What is proved here: what the statements' write does to a writer, and to nobody; a Writer of package field that is nil. Conditions: the writer is there, with few bytes; what the rows list of the package's variables. -/
import Derived.Test.YtfojoeafhdiaiaaGreatDoorWri04
namespace Go.Proofs.YtfojoeafhdiaiaaGreatDoor
open Go.RowKit Go.Extern.Stop Go.Stop Go.Extern
section
variable {w w' : World} {S : Nat → Addr} {B g : Nat} {v : Value} {W : EV}
/-- A field as a value. -/
def FV.agg (a : FV) : Value := .agg #[.int .i64 a.k, .int .i64 a.n, .string a.s]
theorem stepW_none (W : EV) : stepW W ⟨0, 0, []⟩ = W := by
  obtain ⟨no, a, L⟩ := W
  by_cases h0 : no = 0
  · subst h0
    rw [stepW_ok rfl rfl, List.append_nil]
  · rw [stepW_stuck h0]
theorem WSays.pre {w w1 : World} {W' : EV} {x : Ending} {w' : World} (h : WSays w1 S B g v W' x w') (hb : Below w.heap.size w w1) : WSays w S B g v W' x w' := ⟨h.1, h.2.choose, h.2.choose_spec.pre hb⟩
end
end Go.Proofs.YtfojoeafhdiaiaaGreatDoor
