/- What is proved here: the walk of the package's own look at a chain of faults that ends in an error of errors.New always ends with true. No conditions beyond those that each theorem names. -/
import Derived.Test.YtfojoeafhdiaiaaGreatDoorIs
namespace Go.Proofs.YtfojoeafhdiaiaaGreatDoor
open Go.RowKit Go.Extern.Stop Go.Stop Go.Extern

theorem Tryz.toFaultE (v : Value) (xT : TypeId) (w : World) : (Instr.typeAssert (.iface 149 v) xT 84 true).run Tryz.prog w = .ok (.tuple #[.pointer none, .bool false]) w := by kernel_rfl
theorem Tryz.toFaultF (v : Value) (xT : TypeId) (w : World) : (Instr.typeAssert (.iface 84 v) xT 84 true).run Tryz.prog w = .ok (.tuple #[v, .bool true]) w := by kernel_rfl
theorem Tryz.faultSize : (Tryz.prog.info? 87).map (·.size) = some 3 := by kernel_rfl

/-- errors.Unwrap of an error of errors.New: nil. -/
theorem unwrapE (a : Addr) (w : World) :
    Calls Tryz.prog 75 #[.iface 149 (.pointer (some a))] w fun x w' => x = .returned .nilIface ∧ w = w' := by
  have uE := Tryz.noUnwrapE
  go_enter Tryz.func75, Tryz.ntmps75
  go_wp2
  go_ret
  exact ⟨rfl, rfl⟩

/-- The look at a chain, as far as its first fault. -/
theorem ends_fault (k : Nat) (w : World) :
    Calls Tryz.prog 48 #[.iface 84 (.pointer (some ⟨k, 0, none⟩)), .int .i64 0, .bool true] w fun x w' => x = .returned (.bool true) ∧ w = w' := by
  have tF := Tryz.toFaultF
  go_enter Tryz.func48, Tryz.ntmps48
  go_wp2
  refine wp_loop_rounds 1 ?_
  rw [rounds_succ]
  go_wp2
  go_ret
  exact ⟨rfl, rfl⟩
theorem ends_leaf (t : Bool) (s : Addr) (w : World) :
    Calls Tryz.prog 48 #[.iface 149 (.pointer (some s)), .int .i64 0, .bool t] w fun x w' => x = .returned (.bool true) ∧ w = w' := by
  have tE := Tryz.toFaultE
  have vE := Tryz.noUnwrapsE
  go_enter Tryz.func48, Tryz.ntmps48
  go_wp2
  refine wp_loop_rounds 2 ?_
  rw [rounds_succ]
  go_wp2_with (go_at_call 75; refine (unwrapE s _).mono ?_; rintro x w' ⟨rfl, rfl⟩)
  rw [rounds_succ]
  go_wp2
  go_ret
  exact ⟨rfl, rfl⟩

/-- The place that was passed last: none, or an outer fault. -/
def MarkOk (w : World) (B : Nat) (m : Value) : Prop := m = .pointer none ∨ ∃ (k : Nat) (c : Array Value) (t : TypeId), B ≤ k ∧ m = .pointer (some ⟨k, 0, none⟩) ∧ w.heap[k]? = some (.cells c t (0, 0))
def EndsRel (w : World) (s : Addr) (n : Nat) (e d m st tu : Value) : Prop :=
  (e = .nilIface ∧ d = .int .i64 1 ∧ n = 0) ∨
  ∃ (B : Nat) (l : List (Int × Int)), n = l.length + 1 ∧ d = .int .i64 0 ∧ Chain w (.iface 149 (.pointer (some s))) B l e ∧ MarkOk w B m ∧ ∃ x y : Int, st = .int .i64 x ∧ tu = .int .i64 y

set_option maxRecDepth 100000 in
/-- The look at a chain, as far as its end. -/
theorem ends_chain (B : Nat) (l : List (Int × Int)) (e : Value) (s : Addr) (w : World)
    (hc : Chain w (.iface 149 (.pointer (some s))) B l e) :
    Calls Tryz.prog 48 #[e, .int .i64 0, .bool false] w fun x w' => x = .returned (.bool true) ∧ w = w' := by
  have tE := Tryz.toFaultE
  have tF := Tryz.toFaultF
  have vE := Tryz.noUnwrapsE
  obtain ⟨j, hj, hjs⟩ := Option.map_eq_some_iff.1 Tryz.faultSize
  have HJ := Lib.hid hj
  have HS := Lib.hid hjs
  clear hj hjs
  go_enter Tryz.func48, Tryz.ntmps48
  go_wp2
  go_loopg [0, 1, 7, 8, 9] (l.length + 1) (fun n e d m st tu wr => w = wr ∧ EndsRel w s n e d m st tu)
  case atStart => exact ⟨rfl, .inr ⟨B, l, rfl, rfl, hc, .inl rfl, 0, 1, rfl, rfl⟩⟩
  case round =>
    obtain ⟨rfl, ⟨rfl, rfl, rfl⟩ | ⟨B, l, rfl, rfl, hc, hm, x, y, rfl, rfl⟩⟩ := hrel
    · go_wp2
      go_ret
      exact ⟨rfl, rfl⟩
    · cases l with
      | nil =>
        obtain rfl := hc
        clear hm
        go_wp2_with (go_at_call 75; refine (unwrapE s _).mono ?_; rintro x w' ⟨rfl, rfl⟩)
        go_roundg 0
        case rel => exact ⟨rfl, .inl ⟨rfl, rfl, rfl⟩⟩
        case measure => simp
      | cons z l =>
        obtain ⟨r, a⟩ := z
        obtain ⟨k, e', hk, rfl, hb, hc'⟩ := hc
        have h2 : w.cell? ⟨k, 2, none⟩ = some e' := by rw [cell_block hb]; rfl
        have Hb := Lib.hid hb
        have Hc := Lib.hid hc'
        have hfin : MarkOk w k (.pointer (some ⟨k, 0, none⟩)) := .inr ⟨k, _, _, Nat.le_refl _, rfl, hb⟩
        have hkeep : MarkOk w k u7 := by
          rcases hm with h | ⟨m, c, t, h1, h2, h3⟩
          · exact .inl h
          · exact .inr ⟨m, c, t, by omega, h2, h3⟩
        have Hf := Lib.hid hfin
        have Hk := Lib.hid hkeep
        have heq : (Go.binOp .eql 84 (.pointer (some ⟨k, 0, none⟩)) u7).run Tryz.prog w = .ok (.bool false) w := by
          rcases hm with rfl | ⟨m, c, t, h1, rfl, h3⟩
          · exact run_eql_pointer_nil (P := Tryz.prog) (w := w) 84 (some ⟨k, 0, none⟩) Tryz.underlying84
          · exact run_eql_ptr_other (P := Tryz.prog) (w := w) Tryz.underlying84 HJ.out (by rw [HS.out]; decide) (by intro h; cases h; omega) hb h3
        clear hb hc' hk hm hfin hkeep
        go_wp2
        all_goals go_roundg (l.length + 1)
        case rel => exact ⟨rfl, .inr ⟨k, l, rfl, rfl, Hc.out, Hf.out, _, _, rfl, rfl⟩⟩
        case measure => simp
        case rel => exact ⟨rfl, .inr ⟨k, l, rfl, rfl, Hc.out, Hk.out, _, _, rfl, rfl⟩⟩
        case measure => simp
end Go.Proofs.YtfojoeafhdiaiaaGreatDoor
