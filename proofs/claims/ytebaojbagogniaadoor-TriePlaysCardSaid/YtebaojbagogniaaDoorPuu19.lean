/- What is proved here: retained messages by their topics: what stands, and what New, Len and Get answer. Conditions: those that each theorem names. What is proved here: what Put does to retained messages. Conditions: those that each theorem names. What is proved here: what Put does to retained messages, of a message with a name. Conditions: those that each theorem names. -/
import Derived.Test.YtebaojbagogniaaDoorMat16
import Derived.Test.YtebaojbagogniaaDoorRMat16
import Derived.Test.YtebaojbagogniaaDoorAct18
import Derived.Test.YtebaojbagogniaaDoorAMapIn
import Derived.Test.YtebaojbagogniaaDoorOwn
import Derived.Deep.QuietTactic
import Derived.BigQuiet
import Derived.Deep.DeepMust
import Derived.Deep.DeepCutAuto
namespace Go.Proofs.YtebaojbagogniaaDoor
open Go.RowKit Go.Extern.Stop Go.Stop Go.Extern Go.Maps
set_option maxRecDepth 100000
theorem res_own10 {P : Program} {X : List Nat} {w0 w : World} {L : OL} {fn : Func} {tmps : Array Value} {i j h : Nat} {tB : TypeId} {zB cB : Array Value} (n : Nat) (hO : Own X w0 w L) (hTB : Ty P tB zB) (hr : fn.results = #[.cell i tB, .tmp j]) (hi : tmps.getD i undef = .pointer (some ⟨h, 0, none⟩)) {u : Value} (hj : tmps.getD j undef = u)
    (hn : L[n]? = some (h, tB, cB)) (nB : cB.size = zB.size) : (results fn tmps).run P w = .ok (.tuple #[.agg cB, u]) w := by
  subst hj
  have h2 := run_load_own hTB (hO.get n hn) nB
  have hi' : tmps[i]?.getD undef = .pointer (some ⟨h, 0, none⟩) := by simpa using hi
  simp [results, hr, hi', asAddr, h2]
section
variable {P : Program} {X : List Nat} {w0 w w' : World} {L : OL} {ops : Array Oper} {rest : List Oper} {op : Oper} {a : Act} {Q : Exit → Act → World → Prop} {z c old : Array Value} {k : Nat} {t : TypeId} {G : World → Prop}
theorem wpg_store (hO : Own X w0 w L) (i : Nat) (hT : Ty P t z) (hi : L[i]? = some (k, t, old)) (hG : ∀ W, Fr [k] w W → G W) (x y : Operand) (hgd : op.guard = none) (ho : op.op = .store t x y)
    (hx : a.eval x = .pointer (some ⟨k, 0, none⟩)) (hy : a.eval y = .agg c) (hold : old.size = z.size) (hc : c.size = z.size) (h1 : c.toList.all (·.oneCell') = true)
    (h : ∀ W, Own X w0 W (L.set i (k, t, c)) → G W → wpList P ops Q rest (a.put op.dst undef) W) : wpList P ops Q (op :: rest) a w :=
  wpList_plain hgd fun _ hK => wp_store_row t x y ho k c hx hy t old (hO.get i hi) (by rw [hc]; exact hT.ip) (by rw [hold, hc]) (by simpa using h1) (hK _ _ (h _ (hO.row i hi c) (hG _ (fr_setRow w k c))))
end
theorem KS : Keyed Tryd.prog 9 := string_keyed Tryd.underlying9
def entQ (q : QV) : ByteArray × QV := (q.m.topic, q)
def tops (L : QL) : List ByteArray := L.map (fun q => q.m.topic)
section
variable {w w' : World} {g bm : Nat} {most : Int} {L : QL}
/-- What the map holds at a topic. -/
def At (L : QL) (s : ByteArray) (q : QV) (b : Bool) : Prop := (b = true ∧ q ∈ L ∧ q.m.topic = s) ∨ (b = false ∧ q = q0 ∧ s ∉ tops L)
theorem at_any (L : QL) (s : ByteArray) : ∃ q b, At L s q b := by
  by_cases h : s ∈ tops L
  · obtain ⟨q, hq, rfl⟩ := List.mem_map.1 h
    exact ⟨q, true, .inl ⟨rfl, hq, rfl⟩⟩
  · exact ⟨q0, false, .inr ⟨rfl, rfl, h⟩⟩
end
end Go.Proofs.YtebaojbagogniaaDoor
namespace Go.Proofs.YtebaojbagogniaaDoor
open Go.RowKit Go.Extern.Stop Go.Stop Go.Extern Go.Maps Go.Deep
set_option maxRecDepth 100000
/-- Without those of a topic. -/
def woT (s : ByteArray) (L : QL) : QL := L.filter (fun q => decide (q.m.topic ≠ s))
theorem woT_ent (s : ByteArray) (L : QL) : wo s (L.map entQ) = (woT s L).map entQ := by
  unfold wo woT
  rw [List.filter_map]
  rfl
theorem mem_woT {s : ByteArray} {L : QL} {q : QV} : q ∈ woT s L ↔ q ∈ L ∧ q.m.topic ≠ s := by simp [woT, List.mem_filter]
theorem woT_le (s : ByteArray) (L : QL) : (woT s L).length ≤ L.length := List.length_filter_le _ _
section
variable {w W : World} {g bm : Nat} {most : Int} {L : QL} {S : Nat → Addr}
end
end Go.Proofs.YtebaojbagogniaaDoor
namespace Go.Proofs.YtebaojbagogniaaDoor
open Go.RowKit Go.Extern.Stop Go.Stop Go.Extern Go.Maps Go.Deep
set_option maxRecDepth 100000
section
variable {w W : World} {g bm : Nat} {most : Int} {L : QL} {S : Nat → Addr}
/-- The name and the payload, told ahead: a message's first walk. -/
def PutHead (w : World) (q : QV) : Prop := ∀ W, Below w.heap.size w W → Calls Tryd.prog 33 #[.string q.m.topic] W fun x w' => x = .returned (.bool true) ∧ Below W.heap.size W w'
theorem putHead {q : QV} (hs : q.m.topic.size ≤ 1000) (he : EnvT w S) (hn : nameB q.m.topic = true) : PutHead w q := fun W hb => by
  have := isName_any q.m.topic (by omega) (he.later hb)
  rw [hn] at this
  exact this
theorem drew_bel (W : World) : Below W.heap.size W W.drew := (Below.refl _ _).drew
theorem text_ne19 {s : ByteArray} (h : ¬ s = ⟨#[]⟩) : s.toList.isEmpty = false ∧ ¬ s.toList = [] := by
  have h1 : ¬ s.toList = [] := fun e => h (ByteArray.ext (Array.toList_inj.mp (by rw [← ByteArray.toList_eq, e])))
  exact ⟨by rw [List.isEmpty_eq_false_iff]; exact h1, h1⟩
theorem bva {V W : World} (h : Below V.heap.size V W) (o : Obj) : Below V.heap.size V (W.alloc o) := h.alloc h.size o
theorem bvd {V W : World} (h : Below V.heap.size V W) : Below V.heap.size V W.drew := h.drew
theorem bvn {V W : World} (h : Below V.heap.size V W) (d : Nat) : Below V.heap.size V (W.drewN d) := ⟨h.os, h.tape, h.output, h.size, h.block⟩
theorem bvs {V W : World} (h : Below V.heap.size V W) {p : Addr} (hp : V.heap.size ≤ p.block) (u : Value) : Below V.heap.size V (W.setCell p u) := h.setCell hp u
end
end Go.Proofs.YtebaojbagogniaaDoor
