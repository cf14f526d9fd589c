/- What is proved here: items in transit, as a list; where one stands, and what waits. No conditions. -/
import Derived.Test.YtkjghlmlfanafaaOwn32
import Derived.Test.YtkjghlmlfanafaaSMap
import Derived.Test.YtkjghlmlfanafaaLawB32
import Derived.Deep.Cut
import Derived.Deep.CutRange
import Derived.Deep.CutBlock
import Derived.Deep.DeepMust
namespace Go.Proofs.Ytkjghlmlfanafaa
open Go.RowKit Go.Extern.Stop Go.Stop Go.Extern
/-- An item. -/
structure IV where
  topic : ByteArray
  payload : ByteArray
  qos : Int
  retain : Bool
  pa : Option Addr
  pn : Nat
  pc : Nat
  frm : ByteArray
  til : Int
  seq : Int
  grp : ByteArray
  who : ByteArray
  ba : Option Addr
  bn : Nat
  bc : Nat
  again : Bool
def i0 : IV := ⟨e0, e0, 0, false, none, 0, 0, e0, 0, 0, e0, e0, none, 0, 0, false⟩
def IV.msg (m : IV) : Value := .agg #[.string m.topic, .string m.payload, .int .i64 m.qos, .bool m.retain, .slice m.pa m.pn m.pc, .string m.frm, .int .i64 m.til, .int .i64 m.seq, .string m.grp]
def IV.agg (m : IV) : Value := .agg #[.string m.topic, .string m.payload, .int .i64 m.qos, .bool m.retain, .slice m.pa m.pn m.pc, .string m.frm, .int .i64 m.til, .int .i64 m.seq, .string m.grp, .string m.who, .slice m.ba m.bn m.bc, .bool m.again]
def IV.cells (m : IV) : List Value := [.string m.topic, .string m.payload, .int .i64 m.qos, .bool m.retain, .slice m.pa m.pn m.pc, .string m.frm, .int .i64 m.til, .int .i64 m.seq, .string m.grp, .string m.who, .slice m.ba m.bn m.bc, .bool m.again]
/-- Does it wait? -/
def IV.w (m : IV) : Bool := m.who.toList.isEmpty
abbrev IL := List IV
/-- The cells of an item. -/
structure ICells (w : World) (g o : Nat) (m : IV) : Prop where
  c0 : w.cell? ⟨g, o, none⟩ = some (.string m.topic)
  c1 : w.cell? ⟨g, o + 1, none⟩ = some (.string m.payload)
  c2 : w.cell? ⟨g, o + 2, none⟩ = some (.int .i64 m.qos)
  c3 : w.cell? ⟨g, o + 3, none⟩ = some (.bool m.retain)
  c4 : w.cell? ⟨g, o + 4, none⟩ = some (.slice m.pa m.pn m.pc)
  c5 : w.cell? ⟨g, o + 5, none⟩ = some (.string m.frm)
  c6 : w.cell? ⟨g, o + 6, none⟩ = some (.int .i64 m.til)
  c7 : w.cell? ⟨g, o + 7, none⟩ = some (.int .i64 m.seq)
  c8 : w.cell? ⟨g, o + 8, none⟩ = some (.string m.grp)
  c9 : w.cell? ⟨g, o + 9, none⟩ = some (.string m.who)
  c10 : w.cell? ⟨g, o + 10, none⟩ = some (.slice m.ba m.bn m.bc)
  c11 : w.cell? ⟨g, o + 11, none⟩ = some (.bool m.again)
/-- These items stand at an address, if there are any. -/
def ItRd (w : World) (A : Option Addr) (L : IL) : Prop := 0 < L.length → ∃ g off, A = some ⟨g, off, none⟩ ∧ ∀ k, k < L.length → ICells w g (off + k * 12) (L.getD k i0)
section
variable {w w' : World} {A : Option Addr} {L : IL}
theorem ICells.at {g o : Nat} {m : IV} (h : ICells w g o m) (hb : w'.heap[g]? = w.heap[g]?) : ICells w' g o m :=
  ⟨(World.cell?_of_block (w := w) hb).trans h.c0, (World.cell?_of_block (w := w) hb).trans h.c1, (World.cell?_of_block (w := w) hb).trans h.c2, (World.cell?_of_block (w := w) hb).trans h.c3, (World.cell?_of_block (w := w) hb).trans h.c4, (World.cell?_of_block (w := w) hb).trans h.c5, (World.cell?_of_block (w := w) hb).trans h.c6, (World.cell?_of_block (w := w) hb).trans h.c7, (World.cell?_of_block (w := w) hb).trans h.c8, (World.cell?_of_block (w := w) hb).trans h.c9, (World.cell?_of_block (w := w) hb).trans h.c10, (World.cell?_of_block (w := w) hb).trans h.c11⟩
theorem ItRd.below (h : ItRd w A L) (hb : Below w.heap.size w w') : ItRd w' A L := by
  intro hp
  obtain ⟨g, off, e, hc⟩ := h hp
  exact ⟨g, off, e, fun k hk => (hc k hk).at (hb.block g (lt_of_cell (hc k hk).c0))⟩
theorem ItRd.drewN (h : ItRd w A L) (d : Nat) : ItRd (w.drewN d) A L := fun hp => by
  obtain ⟨g, off, e, hc⟩ := h hp
  exact ⟨g, off, e, fun k hk => (hc k hk).at rfl⟩
end
section
variable {w : World}
theorem waits_any (m : IV) (w : World) : Calls Try.prog 64 #[m.agg] w fun x w' => x = .returned (.bool m.w) ∧ Below w.heap.size w w' := by
  have HB := Lib.hid ((Below.refl w.heap.size w).alloc (Nat.le_refl _) (.cells #[.string m.topic, .string m.payload, .int .i64 m.qos, .bool m.retain, .slice m.pa m.pn m.pc, .string m.frm, .int .i64 m.til, .int .i64 m.seq, .string m.grp, .string m.who, .slice m.ba m.bn m.bc, .bool m.again] 69))
  unfold IV.agg IV.w
  go_enter Try.func64, Try.ntmps64
  go_wp2_with fail
  go_ret
  exact ⟨rfl, HB.out⟩
def IV.s (m : IV) : Bool := !m.w
theorem sent_any (m : IV) (w : World) : Calls Try.prog 63 #[m.agg] w fun x w' => x = .returned (.bool m.s) ∧ Below w.heap.size w w' := by
  have HW := Lib.hid (waits_any m)
  have HB0 := Lib.hid ((Below.refl w.heap.size w).alloc (Nat.le_refl _) (.cells #[.string m.topic, .string m.payload, .int .i64 m.qos, .bool m.retain, .slice m.pa m.pn m.pc, .string m.frm, .int .i64 m.til, .int .i64 m.seq, .string m.grp, .string m.who, .slice m.ba m.bn m.bc, .bool m.again] 69))
  unfold IV.agg at *
  go_enter Try.func63, Try.ntmps63
  go_wp2_with fail
  refine (HW.out _).mono ?_
  rintro x w1 ⟨rfl, hb⟩
  have HB := Lib.hid (HB0.out.trans (hb.mono HB0.out.size))
  clear hb
  go_wp2_with fail
  go_ret
  exact ⟨rfl, HB.out⟩
theorem key_any (m : IV) (w : World) : Calls Try.prog 45 #[m.msg] w fun x w' => x = .returned (.string m.topic) ∧ Below w.heap.size w w' := by
  have HB := Lib.hid ((Below.refl w.heap.size w).alloc (Nat.le_refl _) (.cells #[.string m.topic, .string m.payload, .int .i64 m.qos, .bool m.retain, .slice m.pa m.pn m.pc, .string m.frm, .int .i64 m.til, .int .i64 m.seq, .string m.grp] 67))
  unfold IV.msg
  go_enter Try.func45, Try.ntmps45
  go_wp2_with fail
  go_ret
  exact ⟨rfl, HB.out⟩
end
end Go.Proofs.Ytkjghlmlfanafaa
