/- What is proved here: the walk of the package's own look at a chain of faults that ends in an error of errors.New always ends with true. No conditions beyond those that each theorem names. What is proved here: the number of a chain of faults is that of the kind at its end. Condition: the seven kinds are seven different errors of errors.New. What is proved here: the first fault of a chain is its head; an error of errors.New has none. Condition: the variable errors.errorType holds the handle of the type error. What is proved here: the reason and the place of a chain of faults are those of its head; an error of errors.New has the reason 128 and the place 0. Condition: the variable errors.errorType holds the handle of the type error. What is proved here: the number, the reason and the place of an error that is a chain of faults over one of the kinds. Condition: the package's errors are seven different errors of errors.New, and errors.errorType holds the handle of the type error. What is proved here: what the rows list of the package-level variables gives the walks: seven different errors, and the handle of the type error; and the program's own start-up code lays just that. No further conditions. -/
import Derived.Test.YtnolnhpmpjgnaaaGreatDoorIs
import Derived.Recover
import Derived.Test.YtnolnhpmpjgnaaaGreatDoorAs
import Derived.Test.YtnolnhpmpjgnaaaGreatDoorLib
namespace Go.Proofs.YtnolnhpmpjgnaaaGreatDoor
open Go.RowKit Go.Extern.Stop Go.Stop Go.Extern

theorem Tryz.toFaultE (v : Value) (xT : TypeId) (w : World) : (Instr.typeAssert (.iface 188 v) xT 94 true).run Tryz.prog w = .ok (.tuple #[.pointer none, .bool false]) w := by kernel_rfl
theorem Tryz.toFaultF (v : Value) (xT : TypeId) (w : World) : (Instr.typeAssert (.iface 94 v) xT 94 true).run Tryz.prog w = .ok (.tuple #[v, .bool true]) w := by kernel_rfl
theorem Tryz.faultSize : (Tryz.prog.info? 96).map (·.size) = some 3 := by kernel_rfl

/-- errors.Unwrap of an error of errors.New: nil. -/
theorem unwrapE (a : Addr) (w : World) :
    Calls Tryz.prog 83 #[.iface 188 (.pointer (some a))] w fun x w' => x = .returned .nilIface ∧ w = w' := by
  have uE := Tryz.noUnwrapE
  go_enter Tryz.func83, Tryz.ntmps83
  go_wp2
  go_ret
  exact ⟨rfl, rfl⟩

/-- The look at a chain, as far as its first fault. -/
theorem ends_fault (k : Nat) (w : World) :
    Calls Tryz.prog 61 #[.iface 94 (.pointer (some ⟨k, 0, none⟩)), .int .i64 0, .bool true] w fun x w' => x = .returned (.bool true) ∧ w = w' := by
  have tF := Tryz.toFaultF
  go_enter Tryz.func61, Tryz.ntmps61
  go_wp2
  refine wp_loop_rounds 1 ?_
  rw [rounds_succ]
  go_wp2
  go_ret
  exact ⟨rfl, rfl⟩
theorem ends_leaf (t : Bool) (s : Addr) (w : World) :
    Calls Tryz.prog 61 #[.iface 188 (.pointer (some s)), .int .i64 0, .bool t] w fun x w' => x = .returned (.bool true) ∧ w = w' := by
  have tE := Tryz.toFaultE
  have vE := Tryz.noUnwrapsE
  go_enter Tryz.func61, Tryz.ntmps61
  go_wp2
  refine wp_loop_rounds 2 ?_
  rw [rounds_succ]
  go_wp2_with (go_at_call 83; refine (unwrapE s _).mono ?_; rintro x w' ⟨rfl, rfl⟩)
  rw [rounds_succ]
  go_wp2
  go_ret
  exact ⟨rfl, rfl⟩

/-- The place that was passed last: none, or an outer fault. -/
def MarkOk (w : World) (B : Nat) (m : Value) : Prop := m = .pointer none ∨ ∃ (k : Nat) (c : Array Value) (t : TypeId), B ≤ k ∧ m = .pointer (some ⟨k, 0, none⟩) ∧ w.heap[k]? = some (.cells c t (0, 0))
def EndsRel (w : World) (s : Addr) (n : Nat) (e d m st tu : Value) : Prop :=
  (e = .nilIface ∧ d = .int .i64 1 ∧ n = 0) ∨
  ∃ (B : Nat) (l : List (Int × Int)), n = l.length + 1 ∧ d = .int .i64 0 ∧ Chain w (.iface 188 (.pointer (some s))) B l e ∧ MarkOk w B m ∧ ∃ x y : Int, st = .int .i64 x ∧ tu = .int .i64 y

set_option maxRecDepth 100000 in
/-- The look at a chain, as far as its end. -/
theorem ends_chain (B : Nat) (l : List (Int × Int)) (e : Value) (s : Addr) (w : World)
    (hc : Chain w (.iface 188 (.pointer (some s))) B l e) :
    Calls Tryz.prog 61 #[e, .int .i64 0, .bool false] w fun x w' => x = .returned (.bool true) ∧ w = w' := by
  have tE := Tryz.toFaultE
  have tF := Tryz.toFaultF
  have vE := Tryz.noUnwrapsE
  obtain ⟨j, hj, hjs⟩ := Option.map_eq_some_iff.1 Tryz.faultSize
  have HJ := Lib.hid hj
  have HS := Lib.hid hjs
  clear hj hjs
  go_enter Tryz.func61, Tryz.ntmps61
  go_wp2
  go_loopg [0, 1, 7, 8, 9] (l.length + 1) (fun n e d m st tu wr => w = wr ∧ EndsRel w s n e d m st tu)
  case atStart => exact ⟨rfl, .inr ⟨B, l, rfl, rfl, hc, .inl rfl, 0, 1, rfl, rfl⟩⟩
  case round =>
    obtain ⟨rfl, ⟨rfl, rfl, rfl⟩ | ⟨B, l, rfl, rfl, hc, hm, x, y, rfl, rfl⟩⟩ := hrel
    · go_wp2
      go_ret
      exact ⟨rfl, rfl⟩
    · cases l with
      | nil =>
        obtain rfl := hc
        clear hm
        go_wp2_with (go_at_call 83; refine (unwrapE s _).mono ?_; rintro x w' ⟨rfl, rfl⟩)
        go_roundg 0
        case rel => exact ⟨rfl, .inl ⟨rfl, rfl, rfl⟩⟩
        case measure => simp
      | cons z l =>
        obtain ⟨r, a⟩ := z
        obtain ⟨k, e', hk, rfl, hb, hc'⟩ := hc
        have h2 : w.cell? ⟨k, 2, none⟩ = some e' := by rw [cell_block hb]; rfl
        have Hb := Lib.hid hb
        have Hc := Lib.hid hc'
        have hfin : MarkOk w k (.pointer (some ⟨k, 0, none⟩)) := .inr ⟨k, _, _, Nat.le_refl _, rfl, hb⟩
        have hkeep : MarkOk w k u7 := by
          rcases hm with h | ⟨m, c, t, h1, h2, h3⟩
          · exact .inl h
          · exact .inr ⟨m, c, t, by omega, h2, h3⟩
        have Hf := Lib.hid hfin
        have Hk := Lib.hid hkeep
        have heq : (Go.binOp .eql 94 (.pointer (some ⟨k, 0, none⟩)) u7).run Tryz.prog w = .ok (.bool false) w := by
          rcases hm with rfl | ⟨m, c, t, h1, rfl, h3⟩
          · exact run_eql_pointer_nil (P := Tryz.prog) (w := w) 94 (some ⟨k, 0, none⟩) Tryz.underlying94
          · exact run_eql_ptr_other (P := Tryz.prog) (w := w) Tryz.underlying94 HJ.out (by rw [HS.out]; decide) (by intro h; cases h; omega) hb h3
        clear hb hc' hk hm hfin hkeep
        go_wp2
        all_goals go_roundg (l.length + 1)
        case rel => exact ⟨rfl, .inr ⟨k, l, rfl, rfl, Hc.out, Hf.out, _, _, rfl, rfl⟩⟩
        case measure => simp
        case rel => exact ⟨rfl, .inr ⟨k, l, rfl, rfl, Hc.out, Hk.out, _, _, rfl, rfl⟩⟩
        case measure => simp
end Go.Proofs.YtnolnhpmpjgnaaaGreatDoor
namespace Go.Proofs.YtnolnhpmpjgnaaaGreatDoor
open Go.RowKit Go.Extern.Stop Go.Stop Go.Extern

/-- The deferred recover finds nothing. -/
theorem catch_number (p : Addr) (w : World) :
    CallsD Tryz.prog 60 #[.pointer (some p)] .returning w fun e u' w' => e = .returned (.tuple #[]) ∧ u' = .returning ∧ w' = w := by
  refine callsD_of_wpS Tryz.func60 rfl fun c₀ cs hu => ?_
  apply wpS_seq
  apply wpS_region
  simp [wpOpsS, go_sem, recoverD, hu, Tryz.ntmps60, Exit.thenS]
  refine wpS_cond (t := false) (by simp [Act.eval, Array.replicate]) ?_
  simp only [Bool.false_eq_true, if_false]
  refine wpS_of_wp (wp_skip ?_)
  cases c₀
  simp_all [bodyPostS, results, Tryz.results60]

theorem catch_first (p : Addr) (w : World) :
    CallsD Tryz.prog 86 #[.pointer (some p)] .returning w fun e u' w' => e = .returned (.tuple #[]) ∧ u' = .returning ∧ w' = w := by
  refine callsD_of_wpS Tryz.func86 rfl fun c₀ cs hu => ?_
  apply wpS_seq
  apply wpS_region
  simp [wpOpsS, go_sem, recoverD, hu, Tryz.ntmps86, Exit.thenS]
  refine wpS_cond (t := false) (by simp [Act.eval, Array.replicate]) ?_
  simp only [Bool.false_eq_true, if_false]
  refine wpS_of_wp (wp_skip ?_)
  cases c₀
  simp_all [bodyPostS, results, Tryz.results86]

theorem number_nil (w : World) :
    Calls Tryz.prog 36 #[.nilIface] w fun x w' => x = .returned (.int .i64 0) ∧ Below w.heap.size w w' := by
  have hmf : ∀ (fn : Fn) (first cap : Array Value) (w : World), (Instr.makeFunc fn first cap).run Tryz.prog w = .ok (.func fn first cap) w := fun _ _ _ _ => rfl
  go_enter_defers Tryz.func36, Tryz.ntmps36
  go_wp2
  refine ⟨.int .i64 0, ?_, rfl, (Below.refl _ _).alloc (Nat.le_refl _) _⟩
  simp [results, Tryz.results36, go_sem]

/-- What errors.Is answers of the error and a kind, in a world. -/
def IsSays (e : Value) (s : Addr) (b : Bool) (w : World) : Prop := Calls Tryz.prog 62 #[e, .iface 188 (.pointer (some s))] w fun x w' => x = .returned (.bool b) ∧ w = w'
def EndsSays (e : Value) (w : World) : Prop := Calls Tryz.prog 61 #[e, .int .i64 0, .bool false] w fun x w' => x = .returned (.bool true) ∧ w = w'
def Kind (w : World) (i : Nat) (s : Addr) : Prop := w.cell? ⟨i, 0, none⟩ = some (.iface 188 (.pointer (some s)))

theorem number_1 (t : TypeId) (v : Value) (s0 : Addr) (w : World) (hE : EndsSays (.iface t v) (w.alloc (.cells #[.int .i64 0] 32))) (g0 : Kind (w.alloc (.cells #[.int .i64 0] 32)) 2 s0) (h0 : IsSays (.iface t v) s0 true (w.alloc (.cells #[.int .i64 0] 32))) :
    Calls Tryz.prog 36 #[.iface t v] w fun x w' => x = .returned (.int .i64 1) ∧ Below w.heap.size w w' := by
  have hmf : ∀ (fn : Fn) (first cap : Array Value) (w : World), (Instr.makeFunc fn first cap).run Tryz.prog w = .ok (.func fn first cap) w := fun _ _ _ _ => rfl
  unfold Kind at g0
  go_enter_defers Tryz.func36, Tryz.ntmps36
  go_wp2_with fail
  refine Calls.mono hE ?_
  rintro x w' ⟨rfl, rfl⟩
  go_wp2_with fail
  refine Calls.mono h0 ?_
  rintro x w' ⟨rfl, rfl⟩
  go_wp2
  refine leaves_cons (f := 60) (args := #[.pointer (some ⟨w.heap.size, 0, none⟩)]) (by simp) (by simp [go_sem]) ?_
  refine (catch_number ⟨w.heap.size, 0, none⟩ _).mono ?_
  rintro e u' w'' ⟨rfl, rfl, rfl⟩
  simp [Leaves, settle, results, Tryz.results36, go_sem]
  exact (Below.refl _ _).alloc (Nat.le_refl _) _

theorem number_2 (t : TypeId) (v : Value) (s0 s1 : Addr) (w : World) (hE : EndsSays (.iface t v) (w.alloc (.cells #[.int .i64 0] 32))) (g0 : Kind (w.alloc (.cells #[.int .i64 0] 32)) 2 s0) (h0 : IsSays (.iface t v) s0 false (w.alloc (.cells #[.int .i64 0] 32))) (g1 : Kind (w.alloc (.cells #[.int .i64 0] 32)) 0 s1) (h1 : IsSays (.iface t v) s1 true (w.alloc (.cells #[.int .i64 0] 32))) :
    Calls Tryz.prog 36 #[.iface t v] w fun x w' => x = .returned (.int .i64 2) ∧ Below w.heap.size w w' := by
  have hmf : ∀ (fn : Fn) (first cap : Array Value) (w : World), (Instr.makeFunc fn first cap).run Tryz.prog w = .ok (.func fn first cap) w := fun _ _ _ _ => rfl
  unfold Kind at g0
  unfold Kind at g1
  go_enter_defers Tryz.func36, Tryz.ntmps36
  go_wp2_with fail
  refine Calls.mono hE ?_
  rintro x w' ⟨rfl, rfl⟩
  go_wp2_with fail
  refine Calls.mono h0 ?_
  rintro x w' ⟨rfl, rfl⟩
  go_wp2_with fail
  refine Calls.mono h1 ?_
  rintro x w' ⟨rfl, rfl⟩
  go_wp2
  refine leaves_cons (f := 60) (args := #[.pointer (some ⟨w.heap.size, 0, none⟩)]) (by simp) (by simp [go_sem]) ?_
  refine (catch_number ⟨w.heap.size, 0, none⟩ _).mono ?_
  rintro e u' w'' ⟨rfl, rfl, rfl⟩
  simp [Leaves, settle, results, Tryz.results36, go_sem]
  exact (Below.refl _ _).alloc (Nat.le_refl _) _

theorem number_3 (t : TypeId) (v : Value) (s0 s1 s2 : Addr) (w : World) (hE : EndsSays (.iface t v) (w.alloc (.cells #[.int .i64 0] 32))) (g0 : Kind (w.alloc (.cells #[.int .i64 0] 32)) 2 s0) (h0 : IsSays (.iface t v) s0 false (w.alloc (.cells #[.int .i64 0] 32))) (g1 : Kind (w.alloc (.cells #[.int .i64 0] 32)) 0 s1) (h1 : IsSays (.iface t v) s1 false (w.alloc (.cells #[.int .i64 0] 32))) (g2 : Kind (w.alloc (.cells #[.int .i64 0] 32)) 3 s2) (h2 : IsSays (.iface t v) s2 true (w.alloc (.cells #[.int .i64 0] 32))) :
    Calls Tryz.prog 36 #[.iface t v] w fun x w' => x = .returned (.int .i64 3) ∧ Below w.heap.size w w' := by
  have hmf : ∀ (fn : Fn) (first cap : Array Value) (w : World), (Instr.makeFunc fn first cap).run Tryz.prog w = .ok (.func fn first cap) w := fun _ _ _ _ => rfl
  unfold Kind at g0
  unfold Kind at g1
  unfold Kind at g2
  go_enter_defers Tryz.func36, Tryz.ntmps36
  go_wp2_with fail
  refine Calls.mono hE ?_
  rintro x w' ⟨rfl, rfl⟩
  go_wp2_with fail
  refine Calls.mono h0 ?_
  rintro x w' ⟨rfl, rfl⟩
  go_wp2_with fail
  refine Calls.mono h1 ?_
  rintro x w' ⟨rfl, rfl⟩
  go_wp2_with fail
  refine Calls.mono h2 ?_
  rintro x w' ⟨rfl, rfl⟩
  go_wp2
  refine leaves_cons (f := 60) (args := #[.pointer (some ⟨w.heap.size, 0, none⟩)]) (by simp) (by simp [go_sem]) ?_
  refine (catch_number ⟨w.heap.size, 0, none⟩ _).mono ?_
  rintro e u' w'' ⟨rfl, rfl, rfl⟩
  simp [Leaves, settle, results, Tryz.results36, go_sem]
  exact (Below.refl _ _).alloc (Nat.le_refl _) _

theorem number_4 (t : TypeId) (v : Value) (s0 s1 s2 s3 : Addr) (w : World) (hE : EndsSays (.iface t v) (w.alloc (.cells #[.int .i64 0] 32))) (g0 : Kind (w.alloc (.cells #[.int .i64 0] 32)) 2 s0) (h0 : IsSays (.iface t v) s0 false (w.alloc (.cells #[.int .i64 0] 32))) (g1 : Kind (w.alloc (.cells #[.int .i64 0] 32)) 0 s1) (h1 : IsSays (.iface t v) s1 false (w.alloc (.cells #[.int .i64 0] 32))) (g2 : Kind (w.alloc (.cells #[.int .i64 0] 32)) 3 s2) (h2 : IsSays (.iface t v) s2 false (w.alloc (.cells #[.int .i64 0] 32))) (g3 : Kind (w.alloc (.cells #[.int .i64 0] 32)) 4 s3) (h3 : IsSays (.iface t v) s3 true (w.alloc (.cells #[.int .i64 0] 32))) :
    Calls Tryz.prog 36 #[.iface t v] w fun x w' => x = .returned (.int .i64 4) ∧ Below w.heap.size w w' := by
  have hmf : ∀ (fn : Fn) (first cap : Array Value) (w : World), (Instr.makeFunc fn first cap).run Tryz.prog w = .ok (.func fn first cap) w := fun _ _ _ _ => rfl
  unfold Kind at g0
  unfold Kind at g1
  unfold Kind at g2
  unfold Kind at g3
  go_enter_defers Tryz.func36, Tryz.ntmps36
  go_wp2_with fail
  refine Calls.mono hE ?_
  rintro x w' ⟨rfl, rfl⟩
  go_wp2_with fail
  refine Calls.mono h0 ?_
  rintro x w' ⟨rfl, rfl⟩
  go_wp2_with fail
  refine Calls.mono h1 ?_
  rintro x w' ⟨rfl, rfl⟩
  go_wp2_with fail
  refine Calls.mono h2 ?_
  rintro x w' ⟨rfl, rfl⟩
  go_wp2_with fail
  refine Calls.mono h3 ?_
  rintro x w' ⟨rfl, rfl⟩
  go_wp2
  refine leaves_cons (f := 60) (args := #[.pointer (some ⟨w.heap.size, 0, none⟩)]) (by simp) (by simp [go_sem]) ?_
  refine (catch_number ⟨w.heap.size, 0, none⟩ _).mono ?_
  rintro e u' w'' ⟨rfl, rfl, rfl⟩
  simp [Leaves, settle, results, Tryz.results36, go_sem]
  exact (Below.refl _ _).alloc (Nat.le_refl _) _

theorem number_5 (t : TypeId) (v : Value) (s0 s1 s2 s3 s4 : Addr) (w : World) (hE : EndsSays (.iface t v) (w.alloc (.cells #[.int .i64 0] 32))) (g0 : Kind (w.alloc (.cells #[.int .i64 0] 32)) 2 s0) (h0 : IsSays (.iface t v) s0 false (w.alloc (.cells #[.int .i64 0] 32))) (g1 : Kind (w.alloc (.cells #[.int .i64 0] 32)) 0 s1) (h1 : IsSays (.iface t v) s1 false (w.alloc (.cells #[.int .i64 0] 32))) (g2 : Kind (w.alloc (.cells #[.int .i64 0] 32)) 3 s2) (h2 : IsSays (.iface t v) s2 false (w.alloc (.cells #[.int .i64 0] 32))) (g3 : Kind (w.alloc (.cells #[.int .i64 0] 32)) 4 s3) (h3 : IsSays (.iface t v) s3 false (w.alloc (.cells #[.int .i64 0] 32))) (g4 : Kind (w.alloc (.cells #[.int .i64 0] 32)) 5 s4) (h4 : IsSays (.iface t v) s4 true (w.alloc (.cells #[.int .i64 0] 32))) :
    Calls Tryz.prog 36 #[.iface t v] w fun x w' => x = .returned (.int .i64 5) ∧ Below w.heap.size w w' := by
  have hmf : ∀ (fn : Fn) (first cap : Array Value) (w : World), (Instr.makeFunc fn first cap).run Tryz.prog w = .ok (.func fn first cap) w := fun _ _ _ _ => rfl
  unfold Kind at g0
  unfold Kind at g1
  unfold Kind at g2
  unfold Kind at g3
  unfold Kind at g4
  go_enter_defers Tryz.func36, Tryz.ntmps36
  go_wp2_with fail
  refine Calls.mono hE ?_
  rintro x w' ⟨rfl, rfl⟩
  go_wp2_with fail
  refine Calls.mono h0 ?_
  rintro x w' ⟨rfl, rfl⟩
  go_wp2_with fail
  refine Calls.mono h1 ?_
  rintro x w' ⟨rfl, rfl⟩
  go_wp2_with fail
  refine Calls.mono h2 ?_
  rintro x w' ⟨rfl, rfl⟩
  go_wp2_with fail
  refine Calls.mono h3 ?_
  rintro x w' ⟨rfl, rfl⟩
  go_wp2_with fail
  refine Calls.mono h4 ?_
  rintro x w' ⟨rfl, rfl⟩
  go_wp2
  refine leaves_cons (f := 60) (args := #[.pointer (some ⟨w.heap.size, 0, none⟩)]) (by simp) (by simp [go_sem]) ?_
  refine (catch_number ⟨w.heap.size, 0, none⟩ _).mono ?_
  rintro e u' w'' ⟨rfl, rfl, rfl⟩
  simp [Leaves, settle, results, Tryz.results36, go_sem]
  exact (Below.refl _ _).alloc (Nat.le_refl _) _

theorem number_6 (t : TypeId) (v : Value) (s0 s1 s2 s3 s4 s5 : Addr) (w : World) (hE : EndsSays (.iface t v) (w.alloc (.cells #[.int .i64 0] 32))) (g0 : Kind (w.alloc (.cells #[.int .i64 0] 32)) 2 s0) (h0 : IsSays (.iface t v) s0 false (w.alloc (.cells #[.int .i64 0] 32))) (g1 : Kind (w.alloc (.cells #[.int .i64 0] 32)) 0 s1) (h1 : IsSays (.iface t v) s1 false (w.alloc (.cells #[.int .i64 0] 32))) (g2 : Kind (w.alloc (.cells #[.int .i64 0] 32)) 3 s2) (h2 : IsSays (.iface t v) s2 false (w.alloc (.cells #[.int .i64 0] 32))) (g3 : Kind (w.alloc (.cells #[.int .i64 0] 32)) 4 s3) (h3 : IsSays (.iface t v) s3 false (w.alloc (.cells #[.int .i64 0] 32))) (g4 : Kind (w.alloc (.cells #[.int .i64 0] 32)) 5 s4) (h4 : IsSays (.iface t v) s4 false (w.alloc (.cells #[.int .i64 0] 32))) (g5 : Kind (w.alloc (.cells #[.int .i64 0] 32)) 6 s5) (h5 : IsSays (.iface t v) s5 true (w.alloc (.cells #[.int .i64 0] 32))) :
    Calls Tryz.prog 36 #[.iface t v] w fun x w' => x = .returned (.int .i64 6) ∧ Below w.heap.size w w' := by
  have hmf : ∀ (fn : Fn) (first cap : Array Value) (w : World), (Instr.makeFunc fn first cap).run Tryz.prog w = .ok (.func fn first cap) w := fun _ _ _ _ => rfl
  unfold Kind at g0
  unfold Kind at g1
  unfold Kind at g2
  unfold Kind at g3
  unfold Kind at g4
  unfold Kind at g5
  go_enter_defers Tryz.func36, Tryz.ntmps36
  go_wp2_with fail
  refine Calls.mono hE ?_
  rintro x w' ⟨rfl, rfl⟩
  go_wp2_with fail
  refine Calls.mono h0 ?_
  rintro x w' ⟨rfl, rfl⟩
  go_wp2_with fail
  refine Calls.mono h1 ?_
  rintro x w' ⟨rfl, rfl⟩
  go_wp2_with fail
  refine Calls.mono h2 ?_
  rintro x w' ⟨rfl, rfl⟩
  go_wp2_with fail
  refine Calls.mono h3 ?_
  rintro x w' ⟨rfl, rfl⟩
  go_wp2_with fail
  refine Calls.mono h4 ?_
  rintro x w' ⟨rfl, rfl⟩
  go_wp2_with fail
  refine Calls.mono h5 ?_
  rintro x w' ⟨rfl, rfl⟩
  go_wp2
  refine leaves_cons (f := 60) (args := #[.pointer (some ⟨w.heap.size, 0, none⟩)]) (by simp) (by simp [go_sem]) ?_
  refine (catch_number ⟨w.heap.size, 0, none⟩ _).mono ?_
  rintro e u' w'' ⟨rfl, rfl, rfl⟩
  simp [Leaves, settle, results, Tryz.results36, go_sem]
  exact (Below.refl _ _).alloc (Nat.le_refl _) _

theorem number_7 (t : TypeId) (v : Value) (s0 s1 s2 s3 s4 s5 s6 : Addr) (w : World) (hE : EndsSays (.iface t v) (w.alloc (.cells #[.int .i64 0] 32))) (g0 : Kind (w.alloc (.cells #[.int .i64 0] 32)) 2 s0) (h0 : IsSays (.iface t v) s0 false (w.alloc (.cells #[.int .i64 0] 32))) (g1 : Kind (w.alloc (.cells #[.int .i64 0] 32)) 0 s1) (h1 : IsSays (.iface t v) s1 false (w.alloc (.cells #[.int .i64 0] 32))) (g2 : Kind (w.alloc (.cells #[.int .i64 0] 32)) 3 s2) (h2 : IsSays (.iface t v) s2 false (w.alloc (.cells #[.int .i64 0] 32))) (g3 : Kind (w.alloc (.cells #[.int .i64 0] 32)) 4 s3) (h3 : IsSays (.iface t v) s3 false (w.alloc (.cells #[.int .i64 0] 32))) (g4 : Kind (w.alloc (.cells #[.int .i64 0] 32)) 5 s4) (h4 : IsSays (.iface t v) s4 false (w.alloc (.cells #[.int .i64 0] 32))) (g5 : Kind (w.alloc (.cells #[.int .i64 0] 32)) 6 s5) (h5 : IsSays (.iface t v) s5 false (w.alloc (.cells #[.int .i64 0] 32))) (g6 : Kind (w.alloc (.cells #[.int .i64 0] 32)) 1 s6) (h6 : IsSays (.iface t v) s6 true (w.alloc (.cells #[.int .i64 0] 32))) :
    Calls Tryz.prog 36 #[.iface t v] w fun x w' => x = .returned (.int .i64 7) ∧ Below w.heap.size w w' := by
  have hmf : ∀ (fn : Fn) (first cap : Array Value) (w : World), (Instr.makeFunc fn first cap).run Tryz.prog w = .ok (.func fn first cap) w := fun _ _ _ _ => rfl
  unfold Kind at g0
  unfold Kind at g1
  unfold Kind at g2
  unfold Kind at g3
  unfold Kind at g4
  unfold Kind at g5
  unfold Kind at g6
  go_enter_defers Tryz.func36, Tryz.ntmps36
  go_wp2_with fail
  refine Calls.mono hE ?_
  rintro x w' ⟨rfl, rfl⟩
  go_wp2_with fail
  refine Calls.mono h0 ?_
  rintro x w' ⟨rfl, rfl⟩
  go_wp2_with fail
  refine Calls.mono h1 ?_
  rintro x w' ⟨rfl, rfl⟩
  go_wp2_with fail
  refine Calls.mono h2 ?_
  rintro x w' ⟨rfl, rfl⟩
  go_wp2_with fail
  refine Calls.mono h3 ?_
  rintro x w' ⟨rfl, rfl⟩
  go_wp2_with fail
  refine Calls.mono h4 ?_
  rintro x w' ⟨rfl, rfl⟩
  go_wp2_with fail
  refine Calls.mono h5 ?_
  rintro x w' ⟨rfl, rfl⟩
  go_wp2_with fail
  refine Calls.mono h6 ?_
  rintro x w' ⟨rfl, rfl⟩
  go_wp2
  refine leaves_cons (f := 60) (args := #[.pointer (some ⟨w.heap.size, 0, none⟩)]) (by simp) (by simp [go_sem]) ?_
  refine (catch_number ⟨w.heap.size, 0, none⟩ _).mono ?_
  rintro e u' w'' ⟨rfl, rfl, rfl⟩
  simp [Leaves, settle, results, Tryz.results36, go_sem]
  exact (Below.refl _ _).alloc (Nat.le_refl _) _

theorem number_8 (t : TypeId) (v : Value) (s0 s1 s2 s3 s4 s5 s6 : Addr) (w : World) (hE : EndsSays (.iface t v) (w.alloc (.cells #[.int .i64 0] 32))) (g0 : Kind (w.alloc (.cells #[.int .i64 0] 32)) 2 s0) (h0 : IsSays (.iface t v) s0 false (w.alloc (.cells #[.int .i64 0] 32))) (g1 : Kind (w.alloc (.cells #[.int .i64 0] 32)) 0 s1) (h1 : IsSays (.iface t v) s1 false (w.alloc (.cells #[.int .i64 0] 32))) (g2 : Kind (w.alloc (.cells #[.int .i64 0] 32)) 3 s2) (h2 : IsSays (.iface t v) s2 false (w.alloc (.cells #[.int .i64 0] 32))) (g3 : Kind (w.alloc (.cells #[.int .i64 0] 32)) 4 s3) (h3 : IsSays (.iface t v) s3 false (w.alloc (.cells #[.int .i64 0] 32))) (g4 : Kind (w.alloc (.cells #[.int .i64 0] 32)) 5 s4) (h4 : IsSays (.iface t v) s4 false (w.alloc (.cells #[.int .i64 0] 32))) (g5 : Kind (w.alloc (.cells #[.int .i64 0] 32)) 6 s5) (h5 : IsSays (.iface t v) s5 false (w.alloc (.cells #[.int .i64 0] 32))) (g6 : Kind (w.alloc (.cells #[.int .i64 0] 32)) 1 s6) (h6 : IsSays (.iface t v) s6 false (w.alloc (.cells #[.int .i64 0] 32))) :
    Calls Tryz.prog 36 #[.iface t v] w fun x w' => x = .returned (.int .i64 8) ∧ Below w.heap.size w w' := by
  have hmf : ∀ (fn : Fn) (first cap : Array Value) (w : World), (Instr.makeFunc fn first cap).run Tryz.prog w = .ok (.func fn first cap) w := fun _ _ _ _ => rfl
  unfold Kind at g0
  unfold Kind at g1
  unfold Kind at g2
  unfold Kind at g3
  unfold Kind at g4
  unfold Kind at g5
  unfold Kind at g6
  go_enter_defers Tryz.func36, Tryz.ntmps36
  go_wp2_with fail
  refine Calls.mono hE ?_
  rintro x w' ⟨rfl, rfl⟩
  go_wp2_with fail
  refine Calls.mono h0 ?_
  rintro x w' ⟨rfl, rfl⟩
  go_wp2_with fail
  refine Calls.mono h1 ?_
  rintro x w' ⟨rfl, rfl⟩
  go_wp2_with fail
  refine Calls.mono h2 ?_
  rintro x w' ⟨rfl, rfl⟩
  go_wp2_with fail
  refine Calls.mono h3 ?_
  rintro x w' ⟨rfl, rfl⟩
  go_wp2_with fail
  refine Calls.mono h4 ?_
  rintro x w' ⟨rfl, rfl⟩
  go_wp2_with fail
  refine Calls.mono h5 ?_
  rintro x w' ⟨rfl, rfl⟩
  go_wp2_with fail
  refine Calls.mono h6 ?_
  rintro x w' ⟨rfl, rfl⟩
  go_wp2
  refine leaves_cons (f := 60) (args := #[.pointer (some ⟨w.heap.size, 0, none⟩)]) (by simp) (by simp [go_sem]) ?_
  refine (catch_number ⟨w.heap.size, 0, none⟩ _).mono ?_
  rintro e u' w'' ⟨rfl, rfl, rfl⟩
  simp [Leaves, settle, results, Tryz.results36, go_sem]
  exact (Below.refl _ _).alloc (Nat.le_refl _) _
end Go.Proofs.YtnolnhpmpjgnaaaGreatDoor
namespace Go.Proofs.YtnolnhpmpjgnaaaGreatDoor
open Go.RowKit Go.Extern.Stop Go.Stop Go.Extern

theorem lt_of_cell {w : World} {k i : Nat} {v : Value} (h : w.cell? ⟨k, i, none⟩ = some v) : k < w.heap.size := by
  rcases Nat.lt_or_ge k w.heap.size with h' | h'
  · exact h'
  · simp [World.cell?, Array.getElem?_eq_none h'] at h

/-- A block of one cell, written, and then only new blocks. -/
theorem own_later {w w1 : World} {old v : Value} {T : TypeId} (hb : Below (w.alloc (.cells #[old] T)).heap.size ((w.alloc (.cells #[old] T)).setCell ⟨w.heap.size, 0, none⟩ v) w1) :
    w1.heap[w.heap.size]? = some (.cells #[v] T (0, 0)) := by
  rw [hb.block w.heap.size (by rw [World.size_alloc]; omega)]
  exact one_setCell (MapKept.heap_alloc w _).1

/-- errors.As of a fault, told by what becomes of the target and of older memory. -/
theorem as_fault (k t : Nat) (old : Value) (w : World) (hg : w.cell? ⟨7, 0, none⟩ = some (.iface 157 (.agg #[.pointer (some ⟨8, 29, none⟩)]))) (ht : w.heap[t]? = some (.cells #[old] 94 (0, 0))) :
    Calls Tryz.prog 87 #[.iface 94 (.pointer (some ⟨k, 0, none⟩)), .iface 137 (.pointer (some ⟨t, 0, none⟩))] w fun x w' => x = .returned (.bool true) ∧ Below w.heap.size (w.setCell ⟨t, 0, none⟩ (.pointer (some ⟨k, 0, none⟩))) w' := by
  refine (as_hit ⟨k, 0, none⟩ ⟨t, 0, none⟩ old w hg (by rw [cell_block ht]; rfl) (by simp [World.frozen?, ht])).mono ?_
  rintro x w' ⟨rfl, rfl⟩
  refine ⟨rfl, ?_⟩
  have htl := lt_of_block ht
  generalize hv : Value.pointer (some ⟨k, 0, none⟩) = v
  rw [World.setCell_alloc_past, World.setCell_alloc_past, World.setCell_alloc_past, World.setCell_alloc_past]
  · refine ((((Below.refl _ _).alloc ?_ _).alloc ?_ _).alloc ?_ _).alloc ?_ _ <;> simp [World.setCell] <;> omega
  all_goals (try simp)
  all_goals omega

/-- errors.As of an error of errors.New. -/
theorem as_leaf (s : Addr) (t : Addr) (w : World) (hg : w.cell? ⟨7, 0, none⟩ = some (.iface 157 (.agg #[.pointer (some ⟨8, 29, none⟩)]))) :
    Calls Tryz.prog 87 #[.iface 188 (.pointer (some s)), .iface 137 (.pointer (some t))] w fun x w' => x = .returned (.bool false) ∧ Below w.heap.size w w' := by
  refine (as_miss s t w hg).mono ?_
  rintro x w' ⟨rfl, rfl⟩
  exact ⟨rfl, (((Below.refl _ _).alloc (by simp) _).alloc (by simp; try omega) _).alloc (by simp; try omega) _⟩

set_option maxHeartbeats 1000000 in
theorem first_fault (k : Nat) (w : World) (hg : w.cell? ⟨7, 0, none⟩ = some (.iface 157 (.agg #[.pointer (some ⟨8, 29, none⟩)]))) :
    Calls Tryz.prog 63 #[.iface 94 (.pointer (some ⟨k, 0, none⟩))] w fun x w' => x = .returned (.pointer (some ⟨k, 0, none⟩)) ∧ Below w.heap.size w w' := by
  have hmf : ∀ (fn : Fn) (first cap : Array Value) (w : World), (Instr.makeFunc fn first cap).run Tryz.prog w = .ok (.func fn first cap) w := fun _ _ _ _ => rfl
  have h7 := lt_of_cell hg
  have hg' : (w.alloc (.cells #[.pointer none] 94)).cell? ⟨7, 0, none⟩ = some (.iface 157 (.agg #[.pointer (some ⟨8, 29, none⟩)])) := by
    rw [World.cell?_alloc_past _ _ _ h7]; exact hg
  have hN : (w.alloc (.cells #[.pointer none] 94)).heap[w.heap.size]? = some (.cells #[.pointer none] 94 (0, 0)) := (MapKept.heap_alloc w _).1
  have HG := Lib.hid hg'
  have HN := Lib.hid hN
  clear hg hg' hN
  go_enter_defers Tryz.func63, Tryz.ntmps63
  go_wp2_with (go_at_call 61; refine (ends_fault k _).mono ?_; rintro x w' ⟨rfl, rfl⟩)
  refine (as_fault k w.heap.size (.pointer none) _ HG.out HN.out).mono ?_
  rintro x w1 ⟨rfl, hb⟩
  have ho := own_later hb
  have hc1 := cell_of_one ho
  have hf1 := free_of_one ho
  have hc2 := Lib.hid (cell_of_one (one_setCell (u := .pointer (some ⟨k, 0, none⟩)) ho))
  clear ho
  have HB := Lib.hid hb
  clear hb
  go_wp2
  refine leaves_cons (f := 86) (args := #[.pointer (some ⟨w.heap.size, 0, none⟩)]) (by simp) (by simp [go_sem]) ?_
  refine (catch_first ⟨w.heap.size, 0, none⟩ _).mono ?_
  rintro e u' w'' ⟨rfl, rfl, rfl⟩
  have hc3 := hc2.out
  simp only [Leaves, settle, results, Tryz.results63, go_sem]
  simp [hc3, go_sem]
  have hb1 : Below w.heap.size w ((w.alloc (.cells #[.pointer none] 94)).setCell ⟨w.heap.size, 0, none⟩ (.pointer (some ⟨k, 0, none⟩))) := ((Below.refl _ _).alloc (Nat.le_refl _) _).setCell (Nat.le_refl _) _
  exact (hb1.trans (HB.out.mono (by rw [World.size_alloc]; omega))).setCell (Nat.le_refl _) _

set_option maxHeartbeats 1000000 in
theorem first_leaf (s : Addr) (w : World) (hg : w.cell? ⟨7, 0, none⟩ = some (.iface 157 (.agg #[.pointer (some ⟨8, 29, none⟩)]))) :
    Calls Tryz.prog 63 #[.iface 188 (.pointer (some s))] w fun x w' => x = .returned (.pointer none) ∧ Below w.heap.size w w' := by
  have hmf : ∀ (fn : Fn) (first cap : Array Value) (w : World), (Instr.makeFunc fn first cap).run Tryz.prog w = .ok (.func fn first cap) w := fun _ _ _ _ => rfl
  have h7 := lt_of_cell hg
  have hg' : (w.alloc (.cells #[.pointer none] 94)).cell? ⟨7, 0, none⟩ = some (.iface 157 (.agg #[.pointer (some ⟨8, 29, none⟩)])) := by
    rw [World.cell?_alloc_past _ _ _ h7]; exact hg
  have hN : (w.alloc (.cells #[.pointer none] 94)).heap[w.heap.size]? = some (.cells #[.pointer none] 94 (0, 0)) := (MapKept.heap_alloc w _).1
  have HG := Lib.hid hg'
  have HN := Lib.hid hN
  clear hg hg' hN
  go_enter_defers Tryz.func63, Tryz.ntmps63
  go_wp2_with (go_at_call 61; refine (ends_leaf true s _).mono ?_; rintro x w' ⟨rfl, rfl⟩)
  refine (as_leaf s ⟨w.heap.size, 0, none⟩ _ HG.out).mono ?_
  rintro x w1 ⟨rfl, hb⟩
  have ho : w1.heap[w.heap.size]? = some (.cells #[.pointer none] 94 (0, 0)) := by
    rw [hb.block w.heap.size (by rw [World.size_alloc]; omega)]; exact HN.out
  have hc1 := cell_of_one ho
  have hf1 := free_of_one ho
  have hc2 := Lib.hid (cell_of_one (one_setCell (u := .pointer none) ho))
  clear ho
  have HB := Lib.hid hb
  clear hb
  go_wp2
  refine leaves_cons (f := 86) (args := #[.pointer (some ⟨w.heap.size, 0, none⟩)]) (by simp) (by simp [go_sem]) ?_
  refine (catch_first ⟨w.heap.size, 0, none⟩ _).mono ?_
  rintro e u' w'' ⟨rfl, rfl, rfl⟩
  have hc3 := hc2.out
  simp only [Leaves, settle, results, Tryz.results63, go_sem]
  simp [hc3, go_sem]
  exact ((((Below.refl _ _).alloc (Nat.le_refl _) _).trans (HB.out.mono (by rw [World.size_alloc]; omega)))).setCell (Nat.le_refl _) _

end Go.Proofs.YtnolnhpmpjgnaaaGreatDoor
namespace Go.Proofs.YtnolnhpmpjgnaaaGreatDoor
open Go.RowKit Go.Extern.Stop Go.Stop Go.Extern

/-- The variable errors.errorType. -/
def Handle (w : World) : Prop := w.cell? ⟨7, 0, none⟩ = some (.iface 157 (.agg #[.pointer (some ⟨8, 29, none⟩)]))

theorem reason_nil (w : World) :
    Calls Tryz.prog 37 #[.nilIface] w fun x w' => x = .returned (.int .i64 0) ∧ w = w' := by
  go_enter Tryz.func37, Tryz.ntmps37
  go_wp2
  go_ret
  exact ⟨rfl, rfl⟩
theorem reason_fault (k : Nat) (r a : Int) (e : Value) (w : World) (hg : Handle w) (h : w.heap[k]? = some (.cells #[.int .i64 r, .int .i64 a, e] 96 (0, 0))) :
    Calls Tryz.prog 37 #[.iface 94 (.pointer (some ⟨k, 0, none⟩))] w fun x w' => x = .returned (.int .i64 r) ∧ Below w.heap.size w w' := by
  have hk := lt_of_block h
  have H := Lib.hid h
  clear h
  go_enter Tryz.func37, Tryz.ntmps37
  go_wp2_with fail
  refine (first_fault k _ hg).mono ?_
  rintro x w1 ⟨rfl, hb⟩
  have hc : w1.cell? ⟨k, 0, none⟩ = some (.int .i64 r) := by rw [hb.cell (p := ⟨k, 0, none⟩) hk, cell_block H.out]; rfl
  have HB := Lib.hid hb
  clear hb
  go_wp2
  go_ret
  exact ⟨rfl, HB.out⟩
theorem reason_leaf (s : Addr) (w : World) (hg : Handle w) :
    Calls Tryz.prog 37 #[.iface 188 (.pointer (some s))] w fun x w' => x = .returned (.int .i64 128) ∧ Below w.heap.size w w' := by
  go_enter Tryz.func37, Tryz.ntmps37
  go_wp2_with (go_at_call 63; refine (first_leaf s _ hg).mono ?_; rintro x w1 ⟨rfl, hb⟩)
  have HB := Lib.hid hb
  clear hb
  go_wp2
  go_ret
  exact ⟨rfl, HB.out⟩
theorem at_fault (k : Nat) (r a : Int) (e : Value) (w : World) (hg : Handle w) (h : w.heap[k]? = some (.cells #[.int .i64 r, .int .i64 a, e] 96 (0, 0))) :
    Calls Tryz.prog 38 #[.iface 94 (.pointer (some ⟨k, 0, none⟩))] w fun x w' => x = .returned (.int .i64 a) ∧ Below w.heap.size w w' := by
  have hk := lt_of_block h
  have H := Lib.hid h
  clear h
  go_enter Tryz.func38, Tryz.ntmps38
  go_wp2_with fail
  refine (first_fault k _ hg).mono ?_
  rintro x w1 ⟨rfl, hb⟩
  have hc : w1.cell? ⟨k, 1, none⟩ = some (.int .i64 a) := by rw [hb.cell (p := ⟨k, 1, none⟩) hk, cell_block H.out]; rfl
  have HB := Lib.hid hb
  clear hb
  go_wp2
  go_ret
  exact ⟨rfl, HB.out⟩
theorem at_leaf (s : Addr) (w : World) (hg : Handle w) :
    Calls Tryz.prog 38 #[.iface 188 (.pointer (some s))] w fun x w' => x = .returned (.int .i64 0) ∧ Below w.heap.size w w' := by
  go_enter Tryz.func38, Tryz.ntmps38
  go_wp2_with (go_at_call 63; refine (first_leaf s _ hg).mono ?_; rintro x w1 ⟨rfl, hb⟩)
  have HB := Lib.hid hb
  clear hb
  go_wp2
  go_ret
  exact ⟨rfl, HB.out⟩

/-- A new fault. -/
theorem new_nil (r a : Int) (w : World) :
    Calls Tryz.prog 29 #[.int .i64 r, .int .i64 a, .nilIface] w fun x w' => x = .returned .nilIface ∧ w = w' := by
  go_enter Tryz.func29, Tryz.ntmps29
  go_wp2
  go_ret
  exact ⟨rfl, rfl⟩
theorem new_any (r a : Int) (t : TypeId) (v : Value) (w : World) :
    Calls Tryz.prog 29 #[.int .i64 r, .int .i64 a, .iface t v] w fun x w' => x = .returned (.iface 94 (.pointer (some ⟨w.heap.size, 0, none⟩))) ∧ w' = w.alloc (.cells #[.int .i64 r, .int .i64 a, .iface t v] 96) := by
  go_enter Tryz.func29, Tryz.ntmps29
  go_wp2
  go_ret
  exact ⟨rfl, rfl⟩
end Go.Proofs.YtnolnhpmpjgnaaaGreatDoor
namespace Go.Proofs.YtnolnhpmpjgnaaaGreatDoor
open Go.RowKit Go.Extern.Stop Go.Stop Go.Extern

/-- The variable of the i-th kind. -/
def kindAt : Nat → Nat
  | 0 => 2
  | 1 => 0
  | 2 => 3
  | 3 => 4
  | 4 => 5
  | 5 => 6
  | _ => 1
/-- The package-level variables, as start-up code lays them: errors but two of the seven, and the handle of the type error. -/
structure Env (w : World) (S : Nat → Addr) : Prop where
  kind : ∀ i, i < 7 → i ≠ 4 → i ≠ 5 → w.cell? ⟨kindAt i, 0, none⟩ = some (.iface 188 (.pointer (some (S i))))
  there : ∀ i, i < 7 → i ≠ 4 → i ≠ 5 → ∃ c t, w.heap[(S i).block]? = some (.cells c t (0, 0))
  handle : Handle w
/-- All seven, which are different. -/
structure EnvN (w : World) (S : Nat → Addr) : Prop where
  kind : ∀ i, i < 7 → w.cell? ⟨kindAt i, 0, none⟩ = some (.iface 188 (.pointer (some (S i))))
  there : ∀ i, i < 7 → ∃ c t, w.heap[(S i).block]? = some (.cells c t (0, 0))
  apart : ∀ i j, i < 7 → j < 7 → i ≠ j → S i ≠ S j
  handle : Handle w
theorem EnvN.env {w : World} {S : Nat → Addr} (h : EnvN w S) : Env w S := ⟨fun i hi _ _ => h.kind i hi, fun i hi _ _ => h.there i hi, h.handle⟩
theorem Env.later {w w' : World} {S : Nat → Addr} (h : Env w S) (hb : Below w.heap.size w w') : Env w' S := by
  refine ⟨fun i hi h4 h5 => ?_, fun i hi h4 h5 => ?_, ?_⟩
  · rw [hb.cell (p := ⟨kindAt i, 0, none⟩) (lt_of_cell (h.kind i hi h4 h5))]; exact h.kind i hi h4 h5
  · obtain ⟨c, t, hc⟩ := h.there i hi h4 h5
    exact ⟨c, t, (hb.block _ (lt_of_block hc)).trans hc⟩
  · unfold Handle
    rw [hb.cell (p := ⟨7, 0, none⟩) (lt_of_cell h.handle)]; exact h.handle
theorem EnvN.later {w w' : World} {S : Nat → Addr} (h : EnvN w S) (hb : Below w.heap.size w w') : EnvN w' S := by
  refine ⟨fun i hi => ?_, fun i hi => ?_, h.apart, ?_⟩
  · rw [hb.cell (p := ⟨kindAt i, 0, none⟩) (lt_of_cell (h.kind i hi))]; exact h.kind i hi
  · obtain ⟨c, t, hc⟩ := h.there i hi
    exact ⟨c, t, (hb.block _ (lt_of_block hc)).trans hc⟩
  · unfold Handle
    rw [hb.cell (p := ⟨7, 0, none⟩) (lt_of_cell h.handle)]; exact h.handle

theorem Env.kShort {w : World} {S : Nat → Addr} (h : Env w S) : w.cell? ⟨2, 0, none⟩ = some (.iface 188 (.pointer (some (S 0)))) := h.kind 0 (by omega) (by omega) (by omega)
theorem Env.kMalformed {w : World} {S : Nat → Addr} (h : Env w S) : w.cell? ⟨0, 0, none⟩ = some (.iface 188 (.pointer (some (S 1)))) := h.kind 1 (by omega) (by omega) (by omega)
theorem Env.kProtocol {w : World} {S : Nat → Addr} (h : Env w S) : w.cell? ⟨3, 0, none⟩ = some (.iface 188 (.pointer (some (S 2)))) := h.kind 2 (by omega) (by omega) (by omega)
theorem Env.kTooLarge {w : World} {S : Nat → Addr} (h : Env w S) : w.cell? ⟨4, 0, none⟩ = some (.iface 188 (.pointer (some (S 3)))) := h.kind 3 (by omega) (by omega) (by omega)
theorem Env.kArgument {w : World} {S : Nat → Addr} (h : Env w S) : w.cell? ⟨1, 0, none⟩ = some (.iface 188 (.pointer (some (S 6)))) := h.kind 6 (by omega) (by omega) (by omega)

theorem Below.one (w : World) (o : Obj) : Below w.heap.size w (w.alloc o) := (Below.refl _ _).alloc (Nat.le_refl _) _

theorem is_yes {w : World} {S : Nat → Addr} (h : EnvN w S) (i : Nat) {l : List (Int × Int)} {t : TypeId} {v : Value} (hc : Chain w (.iface 188 (.pointer (some (S i)))) w.heap.size l (.iface t v)) :
    IsSays (.iface t v) (S i) true (w.alloc (.cells #[.int .i64 0] 32)) :=
  have _ := h
  Is_same _ l _ _ _ (hc.later (Below.one w _) (Nat.le_refl _))
theorem is_no {w : World} {S : Nat → Addr} (h : EnvN w S) {s : Addr} (j : Nat) (hj : j < 7) (hs : ∃ c t, w.heap[s.block]? = some (.cells c t (0, 0))) (hne : s ≠ S j) {l : List (Int × Int)} {t : TypeId} {v : Value} (hc : Chain w (.iface 188 (.pointer (some s))) w.heap.size l (.iface t v)) :
    IsSays (.iface t v) (S j) false (w.alloc (.cells #[.int .i64 0] 32)) := by
  obtain ⟨cs, ts, hs⟩ := hs
  obtain ⟨cb, tb, hb⟩ := h.there j hj
  have one := Below.one w (.cells #[.int .i64 0] 32)
  have h1 := (one.block _ (lt_of_block hs)).trans hs
  have h2 := (one.block _ (lt_of_block hb)).trans hb
  exact Is_other w.heap.size l (.iface t v) s (S j) (w.alloc (.cells #[.int .i64 0] 32)) cs cb ts tb (hc.later one (Nat.le_refl _)) hne h1 h2
theorem ends_yes {w : World} {s : Addr} {l : List (Int × Int)} {t : TypeId} {v : Value} (hc : Chain w (.iface 188 (.pointer (some s))) w.heap.size l (.iface t v)) :
    EndsSays (.iface t v) (w.alloc (.cells #[.int .i64 0] 32)) :=
  ends_chain _ l _ _ _ (hc.later (Below.one w _) (Nat.le_refl _))

/-- The number of a chain at whose end stands the i-th kind. -/
theorem number_kind {w : World} {S : Nat → Addr} (h : EnvN w S) (i : Nat) (hi : i < 7) {l : List (Int × Int)} {e : Value} (hc : Chain w (.iface 188 (.pointer (some (S i)))) w.heap.size l e) :
    Calls Tryz.prog 36 #[e] w fun x w' => x = .returned (.int .i64 (i + 1 : Nat)) ∧ Below w.heap.size w w' := by
  obtain ⟨t, v, rfl⟩ := hc.iface
  have k := (h.later (Below.one w (.cells #[.int .i64 0] 32))).kind
  have yes := is_yes h i hc
  have no := fun j hj (hne : i ≠ j) => is_no h j hj (h.there i hi) (h.apart i j hi hj hne) hc
  have he := ends_yes hc
  clear hc h
  have K := fun j (hj : j < 7) => show Kind (w.alloc (.cells #[.int .i64 0] 32)) (kindAt j) (S j) from k j hj
  clear k
  rcases (show i = 0 ∨ i = 1 ∨ i = 2 ∨ i = 3 ∨ i = 4 ∨ i = 5 ∨ i = 6 by omega) with rfl | rfl | rfl | rfl | rfl | rfl | rfl
  · exact (number_1 t v _ w he (K 0 (by omega)) yes).mono fun _ _ h => ⟨h.1, h.2⟩
  · exact (number_2 t v _ _ w he (K 0 (by omega)) (no 0 (by omega) (by omega)) (K 1 (by omega)) yes).mono fun _ _ h => ⟨h.1, h.2⟩
  · exact (number_3 t v _ _ _ w he (K 0 (by omega)) (no 0 (by omega) (by omega)) (K 1 (by omega)) (no 1 (by omega) (by omega)) (K 2 (by omega)) yes).mono fun _ _ h => ⟨h.1, h.2⟩
  · exact (number_4 t v _ _ _ _ w he (K 0 (by omega)) (no 0 (by omega) (by omega)) (K 1 (by omega)) (no 1 (by omega) (by omega)) (K 2 (by omega)) (no 2 (by omega) (by omega)) (K 3 (by omega)) yes).mono fun _ _ h => ⟨h.1, h.2⟩
  · exact (number_5 t v _ _ _ _ _ w he (K 0 (by omega)) (no 0 (by omega) (by omega)) (K 1 (by omega)) (no 1 (by omega) (by omega)) (K 2 (by omega)) (no 2 (by omega) (by omega)) (K 3 (by omega)) (no 3 (by omega) (by omega)) (K 4 (by omega)) yes).mono fun _ _ h => ⟨h.1, h.2⟩
  · exact (number_6 t v _ _ _ _ _ _ w he (K 0 (by omega)) (no 0 (by omega) (by omega)) (K 1 (by omega)) (no 1 (by omega) (by omega)) (K 2 (by omega)) (no 2 (by omega) (by omega)) (K 3 (by omega)) (no 3 (by omega) (by omega)) (K 4 (by omega)) (no 4 (by omega) (by omega)) (K 5 (by omega)) yes).mono fun _ _ h => ⟨h.1, h.2⟩
  · exact (number_7 t v _ _ _ _ _ _ _ w he (K 0 (by omega)) (no 0 (by omega) (by omega)) (K 1 (by omega)) (no 1 (by omega) (by omega)) (K 2 (by omega)) (no 2 (by omega) (by omega)) (K 3 (by omega)) (no 3 (by omega) (by omega)) (K 4 (by omega)) (no 4 (by omega) (by omega)) (K 5 (by omega)) (no 5 (by omega) (by omega)) (K 6 (by omega)) yes).mono fun _ _ h => ⟨h.1, h.2⟩

/-- The number of a chain at whose end stands another error. -/
theorem number_other {w : World} {S : Nat → Addr} (h : EnvN w S) {s : Addr} (hs : ∃ c t, w.heap[s.block]? = some (.cells c t (0, 0))) (hne : ∀ j, j < 7 → s ≠ S j) {l : List (Int × Int)} {e : Value} (hc : Chain w (.iface 188 (.pointer (some s))) w.heap.size l e) :
    Calls Tryz.prog 36 #[e] w fun x w' => x = .returned (.int .i64 8) ∧ Below w.heap.size w w' := by
  obtain ⟨t, v, rfl⟩ := hc.iface
  have k := (h.later (Below.one w (.cells #[.int .i64 0] 32))).kind
  have K := fun j (hj : j < 7) => show Kind (w.alloc (.cells #[.int .i64 0] 32)) (kindAt j) (S j) from k j hj
  have no := fun j hj => is_no h j hj hs (hne j hj) hc
  have he := ends_yes hc
  exact number_8 t v _ _ _ _ _ _ _ w he (K 0 (by omega)) (no 0 (by omega)) (K 1 (by omega)) (no 1 (by omega)) (K 2 (by omega)) (no 2 (by omega)) (K 3 (by omega)) (no 3 (by omega)) (K 4 (by omega)) (no 4 (by omega)) (K 5 (by omega)) (no 5 (by omega)) (K 6 (by omega)) (no 6 (by omega))

/-- Reason and At on a chain. -/
theorem reason_chain {w : World} (hg : Handle w) {leaf : Value} {r a : Int} {B : Nat} {l : List (Int × Int)} {e : Value} (hc : Chain w leaf B ((r, a) :: l) e) :
    Calls Tryz.prog 37 #[e] w fun x w' => x = .returned (.int .i64 r) ∧ Below w.heap.size w w' := by
  obtain ⟨k, e', hk, rfl, hb, hc'⟩ := hc
  exact reason_fault k r a e' w hg hb
theorem at_chain {w : World} (hg : Handle w) {leaf : Value} {r a : Int} {B : Nat} {l : List (Int × Int)} {e : Value} (hc : Chain w leaf B ((r, a) :: l) e) :
    Calls Tryz.prog 38 #[e] w fun x w' => x = .returned (.int .i64 a) ∧ Below w.heap.size w w' := by
  obtain ⟨k, e', hk, rfl, hb, hc'⟩ := hc
  exact at_fault k r a e' w hg hb
/-- New, with a kind. -/
theorem new_chain {w : World} {S : Nat → Addr} (i : Nat) (r a : Int) :
    Calls Tryz.prog 29 #[.int .i64 r, .int .i64 a, .iface 188 (.pointer (some (S i)))] w fun x w' => ∃ e', x = .returned e' ∧ Chain w' (.iface 188 (.pointer (some (S i)))) w'.heap.size [(r, a)] e' ∧ Below w.heap.size w w' := by
  refine (new_any r a 188 (.pointer (some (S i))) w).mono ?_
  rintro x w' ⟨rfl, rfl⟩
  exact ⟨_, rfl, ⟨w.heap.size, _, by rw [World.size_alloc]; omega, rfl, (MapKept.heap_alloc w _).1, rfl⟩, Below.one w _⟩

/-- An error of the i-th kind, with its reason and its place. -/
def ErrIs (w : World) (S : Nat → Addr) (i : Nat) (r a : Int) (e : Value) : Prop := ∃ l, Chain w (.iface 188 (.pointer (some (S i)))) w.heap.size ((r, a) :: l) e
theorem ErrIs.later {w w' : World} {S : Nat → Addr} {i : Nat} {r a : Int} {e : Value} (h : ErrIs w S i r a e) (hb : Below w.heap.size w w') : ErrIs w' S i r a e := by
  obtain ⟨l, hc⟩ := h
  exact ⟨l, (hc.later hb (Nat.le_refl _)).mono hb.size⟩
theorem ErrIs.iface {w : World} {S : Nat → Addr} {i : Nat} {r a : Int} {e : Value} (h : ErrIs w S i r a e) : ∃ t v, e = .iface t v := by
  obtain ⟨l, hc⟩ := h
  exact hc.iface
theorem number_err {w : World} {S : Nat → Addr} (h : EnvN w S) {i : Nat} {r a : Int} {e : Value} (hi : i < 7) (he : ErrIs w S i r a e) :
    Calls Tryz.prog 36 #[e] w fun x w' => x = .returned (.int .i64 (i + 1 : Nat)) ∧ Below w.heap.size w w' := by
  obtain ⟨l, hc⟩ := he
  exact number_kind h i hi hc
theorem reason_err {w : World} {S : Nat → Addr} (h : Env w S) {i : Nat} {r a : Int} {e : Value} (he : ErrIs w S i r a e) :
    Calls Tryz.prog 37 #[e] w fun x w' => x = .returned (.int .i64 r) ∧ Below w.heap.size w w' := by
  obtain ⟨l, hc⟩ := he
  exact reason_chain h.handle hc
theorem at_err {w : World} {S : Nat → Addr} (h : Env w S) {i : Nat} {r a : Int} {e : Value} (he : ErrIs w S i r a e) :
    Calls Tryz.prog 38 #[e] w fun x w' => x = .returned (.int .i64 a) ∧ Below w.heap.size w w' := by
  obtain ⟨l, hc⟩ := he
  exact at_chain h.handle hc
/-- New makes one. -/
theorem new_err {w : World} (S : Nat → Addr) (i : Nat) (r a : Int) :
    Calls Tryz.prog 29 #[.int .i64 r, .int .i64 a, .iface 188 (.pointer (some (S i)))] w fun x w' => ∃ e, x = .returned e ∧ ErrIs w' S i r a e ∧ Below w.heap.size w w' := by
  refine (new_chain i r a).mono ?_
  rintro x w' ⟨e, rfl, hc, hb⟩
  exact ⟨e, rfl, ⟨[], hc⟩, hb⟩
/-- What a call tells: its error's number (0: none), and where it is; its reason is r. -/
def ErrOf (w : World) (S : Nat → Addr) (r : Int) (no at_ : Nat) (e : Value) : Prop := if no = 0 then e = .nilIface else no ≤ 7 ∧ ErrIs w S (no - 1) r at_ e
theorem ErrOf.later {w w' : World} {S : Nat → Addr} {r : Int} {no a : Nat} {e : Value} (h : ErrOf w S r no a e) (hb : Below w.heap.size w w') : ErrOf w' S r no a e := by
  unfold ErrOf at *
  split
  · rename_i h0; rw [if_pos h0] at h; exact h
  · rename_i h0; rw [if_neg h0] at h; exact ⟨h.1, h.2.later hb⟩
theorem ErrOf.none {w : World} {S : Nat → Addr} {r : Int} {a : Nat} : ErrOf w S r 0 a .nilIface := by unfold ErrOf; rw [if_pos rfl]
theorem ErrOf.some {w : World} {S : Nat → Addr} {r : Int} {no a : Nat} {e : Value} (hn : 1 ≤ no) (h7 : no ≤ 7) (h : ErrIs w S (no - 1) r a e) : ErrOf w S r no a e := by
  unfold ErrOf; rw [if_neg (by omega)]; exact ⟨h7, h⟩
theorem ErrOf.is {w : World} {S : Nat → Addr} {r : Int} {no a : Nat} {e : Value} (h : ErrOf w S r no a e) (h0 : no ≠ 0) : ErrIs w S (no - 1) r a e := by
  unfold ErrOf at h; rw [if_neg h0] at h; exact h.2
theorem number_of {w : World} {S : Nat → Addr} (h : EnvN w S) {r : Int} {no a : Nat} {e : Value} (he : ErrOf w S r no a e) :
    Calls Tryz.prog 36 #[e] w fun x w' => x = .returned (.int .i64 no) ∧ Below w.heap.size w w' := by
  unfold ErrOf at he
  split at he
  · rename_i h0; subst h0; subst he; exact number_nil w
  · rename_i h0
    refine (number_err h (by omega) he.2).mono ?_
    rintro x w' ⟨rfl, hb⟩
    have e : no - 1 + 1 = no := by omega
    rw [e]
    exact ⟨rfl, hb⟩
end Go.Proofs.YtnolnhpmpjgnaaaGreatDoor
namespace Go.Proofs.YtnolnhpmpjgnaaaGreatDoor
open Go.ChangeShapes Go.WideShapes Go.ChangeAt Go.RowKit

def sents : List (String × List UInt8 × Nat) := [
  ("towncrier/api.ErrShort", [116, 111, 111, 32, 102, 101, 119, 32, 98, 121, 116, 101, 115], 2),
  ("towncrier/api.ErrMalformed", [109, 97, 108, 102, 111, 114, 109, 101, 100], 0),
  ("towncrier/api.ErrProtocol", [97, 103, 97, 105, 110, 115, 116, 32, 116, 104, 101, 32, 112, 114, 111, 116, 111, 99, 111, 108], 3),
  ("towncrier/api.ErrTooLarge", [116, 111, 111, 32, 108, 97, 114, 103, 101], 4),
  ("towncrier/api.ErrQuota", [110, 111, 32, 114, 111, 111, 109], 5),
  ("towncrier/api.ErrState", [110, 111, 116, 32, 110, 111, 119], 6),
  ("towncrier/api.ErrArgument", [110, 111, 32, 115, 117, 99, 104, 32, 116, 104, 105, 110, 103], 1)]
def sentsLaid : List (String × DataW Unit) := sents.map fun x => (x.1, .iface "*errors.errorString" (.ptr (.agg [.lit (.string x.2.1)])))
def handleData : DataW Unit := .iface "internal/reflectlite.rtype" (.agg [.ptr (.lit (.string [101, 114, 114, 111, 114]))])
def handleLaid : List (String × DataW Unit) := [("errors.errorType", handleData)]

theorem Tryz.own : ownKnob Tryz.prog.godebug = none := by kernel_rfl
theorem Tryz.laidOut : laidOutB Tryz.prog = true := by kernel_rfl
theorem Tryz.cells66 : Tryz.prog.cellsOf 208 = 1 := by kernel_rfl
theorem Tryz.cells9 : Tryz.prog.cellsOf 9 = 1 := by kernel_rfl
theorem Tryz.star : "*" ++ "errors.errorString" = "*errors.errorString" := by decide
theorem Tryz.row64 (u : TypeId) (h : Tryz.prog.typeName? 3 u = some "*errors.errorString") : u = 188 :=
  typeName_ptr_named (nm := "errors.errorString") (by rw [Tryz.star]; kernel_rfl) (by kernel_rfl) (by decide) u (by rw [Tryz.star]; exact h)
theorem Tryz.names : ∀ x ∈ sents, Tryz.prog.globalNamed x.1 = some x.2.2 ∧ (Tryz.prog.globals[x.2.2]?).map (·.type) = some 29 := by
  intro x hx
  simp only [sents, List.mem_cons, List.not_mem_nil, or_false] at hx
  rcases hx with rfl | rfl | rfl | rfl | rfl | rfl | rfl
  all_goals exact ⟨by kernel_rfl, by kernel_rfl⟩
theorem Tryz.oneRow : ((List.range 219).filter fun t => Tryz.prog.rowNamed t [101, 114, 114, 111, 114]) = [29] := by kernel_rfl
theorem Tryz.size : Tryz.prog.types.size = 219 := by kernel_rfl
theorem Tryz.rt : (Tryz.prog.cutTypes.find? (·.1 == "internal/reflectlite.rtype")).map (·.2) = some 157 := by kernel_rfl
theorem Tryz.et : Tryz.prog.globalNamed "errors.errorType" = some 7 := by kernel_rfl

theorem handle_of {W : World} (h : handlesMet Tryz.prog handleLaid W) : Handle W := by
  have hh : typeHandle Tryz.prog 29 = .pointer (some ⟨8, 29, none⟩) := by kernel_rfl
  have := handle_of_list (n := "errors.errorType") (d := handleData) (nm := [101, 114, 114, 111, 114]) (ty := 29) h (List.mem_singleton.2 rfl) (by kernel_rfl) (by kernel_rfl) Tryz.rt ?_ Tryz.et
  · rw [hh] at this; exact this
  · intro t h1 h2
    have hm : t ∈ (List.range 219).filter fun t => Tryz.prog.rowNamed t [101, 114, 114, 111, 114] := List.mem_filter.2 ⟨List.mem_range.2 (by rw [← Tryz.size]; exact h1), h2⟩
    rw [Tryz.oneRow] at hm
    exact List.mem_singleton.1 hm

theorem env_of {W : World} (h : laidMet Tryz.prog sentsLaid W) (hh : handlesMet Tryz.prog handleLaid W) : ∃ S, EnvN W S := by
  obtain ⟨ps, h1, h2, h3⟩ := h
  obtain ⟨S, hS, hne⟩ := sent_list Tryz.underlying29 Tryz.row64 Tryz.underlying188 Tryz.underlying208 rfl rfl Tryz.underlying9 Tryz.cells66 Tryz.cells9 sents ps h1 h2 h3 Tryz.names
  have key : ∀ i, i < 7 → ∃ x, sents[i]? = some x ∧ x.2.2 = kindAt i := by
    intro i hi
    rcases (show i = 0 ∨ i = 1 ∨ i = 2 ∨ i = 3 ∨ i = 4 ∨ i = 5 ∨ i = 6 by omega) with rfl | rfl | rfl | rfl | rfl | rfl | rfl
    all_goals exact ⟨_, rfl, rfl⟩
  refine ⟨S, fun i hi => ?_, fun i hi => ?_, fun i j hi hj => hne i j hi hj, handle_of hh⟩
  · obtain ⟨x, hx, hxi⟩ := key i hi
    have := (hS i x hx).1
    rw [hxi] at this
    exact this
  · obtain ⟨x, hx, hxi⟩ := key i hi
    exact (hS i x hx).2.1

/-- The five errors that a row lists which never asks for a number. -/
def sents5 : List (String × List UInt8 × Nat) := sents.filter fun x => x.2.2 != 5 && x.2.2 != 6
def sents5Laid : List (String × DataW Unit) := sents5.map fun x => (x.1, .iface "*errors.errorString" (.ptr (.agg [.lit (.string x.2.1)])))
def at5 : Nat → Nat
  | 6 => 4
  | n => n
theorem env5_of {W : World} (h : laidMet Tryz.prog sents5Laid W) (hh : handlesMet Tryz.prog handleLaid W) : ∃ S, Env W S := by
  obtain ⟨ps, h1, h2, h3⟩ := h
  obtain ⟨S, hS, hne⟩ := sent_list Tryz.underlying29 Tryz.row64 Tryz.underlying188 Tryz.underlying208 rfl rfl Tryz.underlying9 Tryz.cells66 Tryz.cells9 sents5 ps h1 h2 h3 (fun x hx => Tryz.names x (List.mem_filter.1 hx).1)
  have key : ∀ i, i < 7 → i ≠ 4 → i ≠ 5 → ∃ x, sents5[at5 i]? = some x ∧ x.2.2 = kindAt i := by
    intro i hi h4 h5
    rcases (show i = 0 ∨ i = 1 ∨ i = 2 ∨ i = 3 ∨ i = 6 by omega) with rfl | rfl | rfl | rfl | rfl
    all_goals exact ⟨_, rfl, rfl⟩
  refine ⟨fun i => S (at5 i), fun i hi h4 h5 => ?_, fun i hi h4 h5 => ?_, handle_of hh⟩
  · obtain ⟨x, hx, hxi⟩ := key i hi h4 h5
    have := (hS (at5 i) x hx).1
    rw [hxi] at this
    exact this
  · obtain ⟨x, hx, hxi⟩ := key i hi h4 h5
    exact (hS (at5 i) x hx).2.1

end Go.Proofs.YtnolnhpmpjgnaaaGreatDoor
