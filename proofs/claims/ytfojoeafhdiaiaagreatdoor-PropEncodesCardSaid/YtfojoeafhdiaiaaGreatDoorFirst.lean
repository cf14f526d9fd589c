/- What is proved here: the first fault of a chain is its head; an error of errors.New has none. Condition: the variable errors.errorType holds the handle of the type error. -/
import Derived.Test.YtfojoeafhdiaiaaGreatDoorAs
import Derived.Test.YtfojoeafhdiaiaaGreatDoorNum
namespace Go.Proofs.YtfojoeafhdiaiaaGreatDoor
open Go.RowKit Go.Extern.Stop Go.Stop Go.Extern

theorem lt_of_cell {w : World} {k i : Nat} {v : Value} (h : w.cell? ⟨k, i, none⟩ = some v) : k < w.heap.size := by
  rcases Nat.lt_or_ge k w.heap.size with h' | h'
  · exact h'
  · simp [World.cell?, Array.getElem?_eq_none h'] at h

/-- A block of one cell, written, and then only new blocks. -/
theorem own_later {w w1 : World} {old v : Value} {T : TypeId} (hb : Below (w.alloc (.cells #[old] T)).heap.size ((w.alloc (.cells #[old] T)).setCell ⟨w.heap.size, 0, none⟩ v) w1) :
    w1.heap[w.heap.size]? = some (.cells #[v] T (0, 0)) := by
  rw [hb.block w.heap.size (by rw [World.size_alloc]; omega)]
  exact one_setCell (MapKept.heap_alloc w _).1

/-- errors.As of a fault, told by what becomes of the target and of older memory. -/
theorem as_fault (k t : Nat) (old : Value) (w : World) (hg : w.cell? ⟨7, 0, none⟩ = some (.iface 125 (.agg #[.pointer (some ⟨8, 36, none⟩)]))) (ht : w.heap[t]? = some (.cells #[old] 84 (0, 0))) :
    Calls Tryz.prog 79 #[.iface 84 (.pointer (some ⟨k, 0, none⟩)), .iface 117 (.pointer (some ⟨t, 0, none⟩))] w fun x w' => x = .returned (.bool true) ∧ Below w.heap.size (w.setCell ⟨t, 0, none⟩ (.pointer (some ⟨k, 0, none⟩))) w' := by
  refine (as_hit ⟨k, 0, none⟩ ⟨t, 0, none⟩ old w hg (by rw [cell_block ht]; rfl) (by simp [World.frozen?, ht])).mono ?_
  rintro x w' ⟨rfl, rfl⟩
  refine ⟨rfl, ?_⟩
  have htl := lt_of_block ht
  generalize hv : Value.pointer (some ⟨k, 0, none⟩) = v
  rw [World.setCell_alloc_past, World.setCell_alloc_past, World.setCell_alloc_past, World.setCell_alloc_past]
  · refine ((((Below.refl _ _).alloc ?_ _).alloc ?_ _).alloc ?_ _).alloc ?_ _ <;> simp [World.setCell] <;> omega
  all_goals (try simp)
  all_goals omega

/-- errors.As of an error of errors.New. -/
theorem as_leaf (s : Addr) (t : Addr) (w : World) (hg : w.cell? ⟨7, 0, none⟩ = some (.iface 125 (.agg #[.pointer (some ⟨8, 36, none⟩)]))) :
    Calls Tryz.prog 79 #[.iface 149 (.pointer (some s)), .iface 117 (.pointer (some t))] w fun x w' => x = .returned (.bool false) ∧ Below w.heap.size w w' := by
  refine (as_miss s t w hg).mono ?_
  rintro x w' ⟨rfl, rfl⟩
  exact ⟨rfl, (((Below.refl _ _).alloc (by simp) _).alloc (by simp; try omega) _).alloc (by simp; try omega) _⟩

set_option maxHeartbeats 1000000 in
theorem first_fault (k : Nat) (w : World) (hg : w.cell? ⟨7, 0, none⟩ = some (.iface 125 (.agg #[.pointer (some ⟨8, 36, none⟩)]))) :
    Calls Tryz.prog 50 #[.iface 84 (.pointer (some ⟨k, 0, none⟩))] w fun x w' => x = .returned (.pointer (some ⟨k, 0, none⟩)) ∧ Below w.heap.size w w' := by
  have hmf : ∀ (fn : Fn) (first cap : Array Value) (w : World), (Instr.makeFunc fn first cap).run Tryz.prog w = .ok (.func fn first cap) w := fun _ _ _ _ => rfl
  have h7 := lt_of_cell hg
  have hg' : (w.alloc (.cells #[.pointer none] 84)).cell? ⟨7, 0, none⟩ = some (.iface 125 (.agg #[.pointer (some ⟨8, 36, none⟩)])) := by
    rw [World.cell?_alloc_past _ _ _ h7]; exact hg
  have hN : (w.alloc (.cells #[.pointer none] 84)).heap[w.heap.size]? = some (.cells #[.pointer none] 84 (0, 0)) := (MapKept.heap_alloc w _).1
  have HG := Lib.hid hg'
  have HN := Lib.hid hN
  clear hg hg' hN
  go_enter_defers Tryz.func50, Tryz.ntmps50
  go_wp2_with (go_at_call 48; refine (ends_fault k _).mono ?_; rintro x w' ⟨rfl, rfl⟩)
  refine (as_fault k w.heap.size (.pointer none) _ HG.out HN.out).mono ?_
  rintro x w1 ⟨rfl, hb⟩
  have ho := own_later hb
  have hc1 := cell_of_one ho
  have hf1 := free_of_one ho
  have hc2 := Lib.hid (cell_of_one (one_setCell (u := .pointer (some ⟨k, 0, none⟩)) ho))
  clear ho
  have HB := Lib.hid hb
  clear hb
  go_wp2
  refine leaves_cons (f := 78) (args := #[.pointer (some ⟨w.heap.size, 0, none⟩)]) (by simp) (by simp [go_sem]) ?_
  refine (catch_first ⟨w.heap.size, 0, none⟩ _).mono ?_
  rintro e u' w'' ⟨rfl, rfl, rfl⟩
  have hc3 := hc2.out
  simp only [Leaves, settle, results, Tryz.results50, go_sem]
  simp [hc3, go_sem]
  have hb1 : Below w.heap.size w ((w.alloc (.cells #[.pointer none] 84)).setCell ⟨w.heap.size, 0, none⟩ (.pointer (some ⟨k, 0, none⟩))) := ((Below.refl _ _).alloc (Nat.le_refl _) _).setCell (Nat.le_refl _) _
  exact (hb1.trans (HB.out.mono (by rw [World.size_alloc]; omega))).setCell (Nat.le_refl _) _

set_option maxHeartbeats 1000000 in
theorem first_leaf (s : Addr) (w : World) (hg : w.cell? ⟨7, 0, none⟩ = some (.iface 125 (.agg #[.pointer (some ⟨8, 36, none⟩)]))) :
    Calls Tryz.prog 50 #[.iface 149 (.pointer (some s))] w fun x w' => x = .returned (.pointer none) ∧ Below w.heap.size w w' := by
  have hmf : ∀ (fn : Fn) (first cap : Array Value) (w : World), (Instr.makeFunc fn first cap).run Tryz.prog w = .ok (.func fn first cap) w := fun _ _ _ _ => rfl
  have h7 := lt_of_cell hg
  have hg' : (w.alloc (.cells #[.pointer none] 84)).cell? ⟨7, 0, none⟩ = some (.iface 125 (.agg #[.pointer (some ⟨8, 36, none⟩)])) := by
    rw [World.cell?_alloc_past _ _ _ h7]; exact hg
  have hN : (w.alloc (.cells #[.pointer none] 84)).heap[w.heap.size]? = some (.cells #[.pointer none] 84 (0, 0)) := (MapKept.heap_alloc w _).1
  have HG := Lib.hid hg'
  have HN := Lib.hid hN
  clear hg hg' hN
  go_enter_defers Tryz.func50, Tryz.ntmps50
  go_wp2_with (go_at_call 48; refine (ends_leaf true s _).mono ?_; rintro x w' ⟨rfl, rfl⟩)
  refine (as_leaf s ⟨w.heap.size, 0, none⟩ _ HG.out).mono ?_
  rintro x w1 ⟨rfl, hb⟩
  have ho : w1.heap[w.heap.size]? = some (.cells #[.pointer none] 84 (0, 0)) := by
    rw [hb.block w.heap.size (by rw [World.size_alloc]; omega)]; exact HN.out
  have hc1 := cell_of_one ho
  have hf1 := free_of_one ho
  have hc2 := Lib.hid (cell_of_one (one_setCell (u := .pointer none) ho))
  clear ho
  have HB := Lib.hid hb
  clear hb
  go_wp2
  refine leaves_cons (f := 78) (args := #[.pointer (some ⟨w.heap.size, 0, none⟩)]) (by simp) (by simp [go_sem]) ?_
  refine (catch_first ⟨w.heap.size, 0, none⟩ _).mono ?_
  rintro e u' w'' ⟨rfl, rfl, rfl⟩
  have hc3 := hc2.out
  simp only [Leaves, settle, results, Tryz.results50, go_sem]
  simp [hc3, go_sem]
  exact ((((Below.refl _ _).alloc (Nat.le_refl _) _).trans (HB.out.mono (by rw [World.size_alloc]; omega)))).setCell (Nat.le_refl _) _

end Go.Proofs.YtfojoeafhdiaiaaGreatDoor
