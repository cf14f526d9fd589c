/- What is proved here: the reason and the place of a chain of faults are those of its head; an error of errors.New has the reason 128 and the place 0. Condition: the variable errors.errorType holds the handle of the type error. -/
import Derived.Test.YtfojoeafhdiaiaaGreatDoorFirst
namespace Go.Proofs.YtfojoeafhdiaiaaGreatDoor
open Go.RowKit Go.Extern.Stop Go.Stop Go.Extern

/-- The variable errors.errorType. -/
def Handle (w : World) : Prop := w.cell? ⟨7, 0, none⟩ = some (.iface 125 (.agg #[.pointer (some ⟨8, 36, none⟩)]))

theorem reason_nil (w : World) :
    Calls Tryz.prog 36 #[.nilIface] w fun x w' => x = .returned (.int .i64 0) ∧ w = w' := by
  go_enter Tryz.func36, Tryz.ntmps36
  go_wp2
  go_ret
  exact ⟨rfl, rfl⟩
theorem reason_fault (k : Nat) (r a : Int) (e : Value) (w : World) (hg : Handle w) (h : w.heap[k]? = some (.cells #[.int .i64 r, .int .i64 a, e] 87 (0, 0))) :
    Calls Tryz.prog 36 #[.iface 84 (.pointer (some ⟨k, 0, none⟩))] w fun x w' => x = .returned (.int .i64 r) ∧ Below w.heap.size w w' := by
  have hk := lt_of_block h
  have H := Lib.hid h
  clear h
  go_enter Tryz.func36, Tryz.ntmps36
  go_wp2_with fail
  refine (first_fault k _ hg).mono ?_
  rintro x w1 ⟨rfl, hb⟩
  have hc : w1.cell? ⟨k, 0, none⟩ = some (.int .i64 r) := by rw [hb.cell (p := ⟨k, 0, none⟩) hk, cell_block H.out]; rfl
  have HB := Lib.hid hb
  clear hb
  go_wp2
  go_ret
  exact ⟨rfl, HB.out⟩
theorem reason_leaf (s : Addr) (w : World) (hg : Handle w) :
    Calls Tryz.prog 36 #[.iface 149 (.pointer (some s))] w fun x w' => x = .returned (.int .i64 128) ∧ Below w.heap.size w w' := by
  go_enter Tryz.func36, Tryz.ntmps36
  go_wp2_with (go_at_call 50; refine (first_leaf s _ hg).mono ?_; rintro x w1 ⟨rfl, hb⟩)
  have HB := Lib.hid hb
  clear hb
  go_wp2
  go_ret
  exact ⟨rfl, HB.out⟩
theorem at_fault (k : Nat) (r a : Int) (e : Value) (w : World) (hg : Handle w) (h : w.heap[k]? = some (.cells #[.int .i64 r, .int .i64 a, e] 87 (0, 0))) :
    Calls Tryz.prog 26 #[.iface 84 (.pointer (some ⟨k, 0, none⟩))] w fun x w' => x = .returned (.int .i64 a) ∧ Below w.heap.size w w' := by
  have hk := lt_of_block h
  have H := Lib.hid h
  clear h
  go_enter Tryz.func26, Tryz.ntmps26
  go_wp2_with fail
  refine (first_fault k _ hg).mono ?_
  rintro x w1 ⟨rfl, hb⟩
  have hc : w1.cell? ⟨k, 1, none⟩ = some (.int .i64 a) := by rw [hb.cell (p := ⟨k, 1, none⟩) hk, cell_block H.out]; rfl
  have HB := Lib.hid hb
  clear hb
  go_wp2
  go_ret
  exact ⟨rfl, HB.out⟩
theorem at_leaf (s : Addr) (w : World) (hg : Handle w) :
    Calls Tryz.prog 26 #[.iface 149 (.pointer (some s))] w fun x w' => x = .returned (.int .i64 0) ∧ Below w.heap.size w w' := by
  go_enter Tryz.func26, Tryz.ntmps26
  go_wp2_with (go_at_call 50; refine (first_leaf s _ hg).mono ?_; rintro x w1 ⟨rfl, hb⟩)
  have HB := Lib.hid hb
  clear hb
  go_wp2
  go_ret
  exact ⟨rfl, HB.out⟩

/-- A new fault. -/
theorem new_nil (r a : Int) (w : World) :
    Calls Tryz.prog 65 #[.int .i64 r, .int .i64 a, .nilIface] w fun x w' => x = .returned .nilIface ∧ w = w' := by
  go_enter Tryz.func65, Tryz.ntmps65
  go_wp2
  go_ret
  exact ⟨rfl, rfl⟩
theorem new_any (r a : Int) (t : TypeId) (v : Value) (w : World) :
    Calls Tryz.prog 65 #[.int .i64 r, .int .i64 a, .iface t v] w fun x w' => x = .returned (.iface 84 (.pointer (some ⟨w.heap.size, 0, none⟩))) ∧ w' = w.alloc (.cells #[.int .i64 r, .int .i64 a, .iface t v] 87) := by
  go_enter Tryz.func65, Tryz.ntmps65
  go_wp2
  go_ret
  exact ⟨rfl, rfl⟩
end Go.Proofs.YtfojoeafhdiaiaaGreatDoor
