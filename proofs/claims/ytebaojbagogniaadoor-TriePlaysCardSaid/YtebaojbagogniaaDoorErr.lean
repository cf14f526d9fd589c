/- What is proved here: a fault that is made is an error, and leaves elder memory as it was. No conditions. (For seats that list two errors alone, and no look at errors.) -/
import Derived.Test.YtebaojbagogniaaDoorObj
import Derived.WalkKit
import Derived.Stop.Asserts
import Derived.Lib.Hide
import Derived.Below
import Derived.OneCell
import Derived.Deep.LoopGhost
import Derived.WalkSpells
import Derived.WalkLawsBesides
import Derived.Outline
namespace Go.Proofs.YtebaojbagogniaaDoor
open Go.RowKit Go.Extern.Stop Go.Stop Go.Extern
theorem Below.one (w : World) (o : Obj) : Below w.heap.size w (w.alloc o) := (Below.refl _ _).alloc (Nat.le_refl _) _
theorem lt_of_cell {w : World} {k i : Nat} {v : Value} (h : w.cell? ⟨k, i, none⟩ = some v) : k < w.heap.size := by
  rcases Nat.lt_or_ge k w.heap.size with h' | h'
  · exact h'
  · simp [World.cell?, Array.getElem?_eq_none h'] at h

/-- An error that is there. -/
structure IsErr (e : Value) : Prop where
  iface : ∃ t v, e = .iface t v
theorem new_chain {w : World} {S : Nat → Addr} (i : Nat) (r a : Int) :
    Calls Tryd.prog 68 #[.int .i64 r, .int .i64 a, .iface 119 (.pointer (some (S i)))] w fun x w' => ∃ e', x = .returned e' ∧ IsErr e' ∧ Below w.heap.size w w' := by
  have HB := Lib.hid (Below.one w (.cells #[.int .i64 r, .int .i64 a, .iface 119 (.pointer (some (S i)))] 108))
  go_enter Tryd.func68, Tryd.ntmps68
  go_wp2
  go_ret
  exact ⟨_, rfl, ⟨⟨_, _, rfl⟩⟩, HB.out⟩
end Go.Proofs.YtebaojbagogniaaDoor
