/- What is proved here: the number of a chain of faults is that of the kind at its end. Condition: the seven kinds are seven different errors of errors.New. -/
import Derived.Test.YtfojoeafhdiaiaaGreatDoorEnds
import Derived.Recover
namespace Go.Proofs.YtfojoeafhdiaiaaGreatDoor
open Go.RowKit Go.Extern.Stop Go.Stop Go.Extern

/-- The deferred recover finds nothing. -/
theorem catch_number (p : Addr) (w : World) :
    CallsD Tryz.prog 47 #[.pointer (some p)] .returning w fun e u' w' => e = .returned (.tuple #[]) ∧ u' = .returning ∧ w' = w := by
  refine callsD_of_wpS Tryz.func47 rfl fun c₀ cs hu => ?_
  apply wpS_seq
  apply wpS_region
  simp [wpOpsS, go_sem, recoverD, hu, Tryz.ntmps47, Exit.thenS]
  refine wpS_cond (t := false) (by simp [Act.eval, Array.replicate]) ?_
  simp only [Bool.false_eq_true, if_false]
  refine wpS_of_wp (wp_skip ?_)
  cases c₀
  simp_all [bodyPostS, results, Tryz.results47]

theorem catch_first (p : Addr) (w : World) :
    CallsD Tryz.prog 78 #[.pointer (some p)] .returning w fun e u' w' => e = .returned (.tuple #[]) ∧ u' = .returning ∧ w' = w := by
  refine callsD_of_wpS Tryz.func78 rfl fun c₀ cs hu => ?_
  apply wpS_seq
  apply wpS_region
  simp [wpOpsS, go_sem, recoverD, hu, Tryz.ntmps78, Exit.thenS]
  refine wpS_cond (t := false) (by simp [Act.eval, Array.replicate]) ?_
  simp only [Bool.false_eq_true, if_false]
  refine wpS_of_wp (wp_skip ?_)
  cases c₀
  simp_all [bodyPostS, results, Tryz.results78]

theorem number_nil (w : World) :
    Calls Tryz.prog 25 #[.nilIface] w fun x w' => x = .returned (.int .i64 0) ∧ Below w.heap.size w w' := by
  have hmf : ∀ (fn : Fn) (first cap : Array Value) (w : World), (Instr.makeFunc fn first cap).run Tryz.prog w = .ok (.func fn first cap) w := fun _ _ _ _ => rfl
  go_enter_defers Tryz.func25, Tryz.ntmps25
  go_wp2
  refine ⟨.int .i64 0, ?_, rfl, (Below.refl _ _).alloc (Nat.le_refl _) _⟩
  simp [results, Tryz.results25, go_sem]

/-- What errors.Is answers of the error and a kind, in a world. -/
def IsSays (e : Value) (s : Addr) (b : Bool) (w : World) : Prop := Calls Tryz.prog 49 #[e, .iface 149 (.pointer (some s))] w fun x w' => x = .returned (.bool b) ∧ w = w'
def EndsSays (e : Value) (w : World) : Prop := Calls Tryz.prog 48 #[e, .int .i64 0, .bool false] w fun x w' => x = .returned (.bool true) ∧ w = w'
def Kind (w : World) (i : Nat) (s : Addr) : Prop := w.cell? ⟨i, 0, none⟩ = some (.iface 149 (.pointer (some s)))

theorem number_1 (t : TypeId) (v : Value) (s0 : Addr) (w : World) (hE : EndsSays (.iface t v) (w.alloc (.cells #[.int .i64 0] 39))) (g0 : Kind (w.alloc (.cells #[.int .i64 0] 39)) 0 s0) (h0 : IsSays (.iface t v) s0 true (w.alloc (.cells #[.int .i64 0] 39))) :
    Calls Tryz.prog 25 #[.iface t v] w fun x w' => x = .returned (.int .i64 1) ∧ Below w.heap.size w w' := by
  have hmf : ∀ (fn : Fn) (first cap : Array Value) (w : World), (Instr.makeFunc fn first cap).run Tryz.prog w = .ok (.func fn first cap) w := fun _ _ _ _ => rfl
  unfold Kind at g0
  go_enter_defers Tryz.func25, Tryz.ntmps25
  go_wp2_with fail
  refine Calls.mono hE ?_
  rintro x w' ⟨rfl, rfl⟩
  go_wp2_with fail
  refine Calls.mono h0 ?_
  rintro x w' ⟨rfl, rfl⟩
  go_wp2
  refine leaves_cons (f := 47) (args := #[.pointer (some ⟨w.heap.size, 0, none⟩)]) (by simp) (by simp [go_sem]) ?_
  refine (catch_number ⟨w.heap.size, 0, none⟩ _).mono ?_
  rintro e u' w'' ⟨rfl, rfl, rfl⟩
  simp [Leaves, settle, results, Tryz.results25, go_sem]
  exact (Below.refl _ _).alloc (Nat.le_refl _) _

theorem number_2 (t : TypeId) (v : Value) (s0 s1 : Addr) (w : World) (hE : EndsSays (.iface t v) (w.alloc (.cells #[.int .i64 0] 39))) (g0 : Kind (w.alloc (.cells #[.int .i64 0] 39)) 0 s0) (h0 : IsSays (.iface t v) s0 false (w.alloc (.cells #[.int .i64 0] 39))) (g1 : Kind (w.alloc (.cells #[.int .i64 0] 39)) 1 s1) (h1 : IsSays (.iface t v) s1 true (w.alloc (.cells #[.int .i64 0] 39))) :
    Calls Tryz.prog 25 #[.iface t v] w fun x w' => x = .returned (.int .i64 2) ∧ Below w.heap.size w w' := by
  have hmf : ∀ (fn : Fn) (first cap : Array Value) (w : World), (Instr.makeFunc fn first cap).run Tryz.prog w = .ok (.func fn first cap) w := fun _ _ _ _ => rfl
  unfold Kind at g0
  unfold Kind at g1
  go_enter_defers Tryz.func25, Tryz.ntmps25
  go_wp2_with fail
  refine Calls.mono hE ?_
  rintro x w' ⟨rfl, rfl⟩
  go_wp2_with fail
  refine Calls.mono h0 ?_
  rintro x w' ⟨rfl, rfl⟩
  go_wp2_with fail
  refine Calls.mono h1 ?_
  rintro x w' ⟨rfl, rfl⟩
  go_wp2
  refine leaves_cons (f := 47) (args := #[.pointer (some ⟨w.heap.size, 0, none⟩)]) (by simp) (by simp [go_sem]) ?_
  refine (catch_number ⟨w.heap.size, 0, none⟩ _).mono ?_
  rintro e u' w'' ⟨rfl, rfl, rfl⟩
  simp [Leaves, settle, results, Tryz.results25, go_sem]
  exact (Below.refl _ _).alloc (Nat.le_refl _) _

theorem number_3 (t : TypeId) (v : Value) (s0 s1 s2 : Addr) (w : World) (hE : EndsSays (.iface t v) (w.alloc (.cells #[.int .i64 0] 39))) (g0 : Kind (w.alloc (.cells #[.int .i64 0] 39)) 0 s0) (h0 : IsSays (.iface t v) s0 false (w.alloc (.cells #[.int .i64 0] 39))) (g1 : Kind (w.alloc (.cells #[.int .i64 0] 39)) 1 s1) (h1 : IsSays (.iface t v) s1 false (w.alloc (.cells #[.int .i64 0] 39))) (g2 : Kind (w.alloc (.cells #[.int .i64 0] 39)) 2 s2) (h2 : IsSays (.iface t v) s2 true (w.alloc (.cells #[.int .i64 0] 39))) :
    Calls Tryz.prog 25 #[.iface t v] w fun x w' => x = .returned (.int .i64 3) ∧ Below w.heap.size w w' := by
  have hmf : ∀ (fn : Fn) (first cap : Array Value) (w : World), (Instr.makeFunc fn first cap).run Tryz.prog w = .ok (.func fn first cap) w := fun _ _ _ _ => rfl
  unfold Kind at g0
  unfold Kind at g1
  unfold Kind at g2
  go_enter_defers Tryz.func25, Tryz.ntmps25
  go_wp2_with fail
  refine Calls.mono hE ?_
  rintro x w' ⟨rfl, rfl⟩
  go_wp2_with fail
  refine Calls.mono h0 ?_
  rintro x w' ⟨rfl, rfl⟩
  go_wp2_with fail
  refine Calls.mono h1 ?_
  rintro x w' ⟨rfl, rfl⟩
  go_wp2_with fail
  refine Calls.mono h2 ?_
  rintro x w' ⟨rfl, rfl⟩
  go_wp2
  refine leaves_cons (f := 47) (args := #[.pointer (some ⟨w.heap.size, 0, none⟩)]) (by simp) (by simp [go_sem]) ?_
  refine (catch_number ⟨w.heap.size, 0, none⟩ _).mono ?_
  rintro e u' w'' ⟨rfl, rfl, rfl⟩
  simp [Leaves, settle, results, Tryz.results25, go_sem]
  exact (Below.refl _ _).alloc (Nat.le_refl _) _

theorem number_4 (t : TypeId) (v : Value) (s0 s1 s2 s3 : Addr) (w : World) (hE : EndsSays (.iface t v) (w.alloc (.cells #[.int .i64 0] 39))) (g0 : Kind (w.alloc (.cells #[.int .i64 0] 39)) 0 s0) (h0 : IsSays (.iface t v) s0 false (w.alloc (.cells #[.int .i64 0] 39))) (g1 : Kind (w.alloc (.cells #[.int .i64 0] 39)) 1 s1) (h1 : IsSays (.iface t v) s1 false (w.alloc (.cells #[.int .i64 0] 39))) (g2 : Kind (w.alloc (.cells #[.int .i64 0] 39)) 2 s2) (h2 : IsSays (.iface t v) s2 false (w.alloc (.cells #[.int .i64 0] 39))) (g3 : Kind (w.alloc (.cells #[.int .i64 0] 39)) 3 s3) (h3 : IsSays (.iface t v) s3 true (w.alloc (.cells #[.int .i64 0] 39))) :
    Calls Tryz.prog 25 #[.iface t v] w fun x w' => x = .returned (.int .i64 4) ∧ Below w.heap.size w w' := by
  have hmf : ∀ (fn : Fn) (first cap : Array Value) (w : World), (Instr.makeFunc fn first cap).run Tryz.prog w = .ok (.func fn first cap) w := fun _ _ _ _ => rfl
  unfold Kind at g0
  unfold Kind at g1
  unfold Kind at g2
  unfold Kind at g3
  go_enter_defers Tryz.func25, Tryz.ntmps25
  go_wp2_with fail
  refine Calls.mono hE ?_
  rintro x w' ⟨rfl, rfl⟩
  go_wp2_with fail
  refine Calls.mono h0 ?_
  rintro x w' ⟨rfl, rfl⟩
  go_wp2_with fail
  refine Calls.mono h1 ?_
  rintro x w' ⟨rfl, rfl⟩
  go_wp2_with fail
  refine Calls.mono h2 ?_
  rintro x w' ⟨rfl, rfl⟩
  go_wp2_with fail
  refine Calls.mono h3 ?_
  rintro x w' ⟨rfl, rfl⟩
  go_wp2
  refine leaves_cons (f := 47) (args := #[.pointer (some ⟨w.heap.size, 0, none⟩)]) (by simp) (by simp [go_sem]) ?_
  refine (catch_number ⟨w.heap.size, 0, none⟩ _).mono ?_
  rintro e u' w'' ⟨rfl, rfl, rfl⟩
  simp [Leaves, settle, results, Tryz.results25, go_sem]
  exact (Below.refl _ _).alloc (Nat.le_refl _) _

theorem number_5 (t : TypeId) (v : Value) (s0 s1 s2 s3 s4 : Addr) (w : World) (hE : EndsSays (.iface t v) (w.alloc (.cells #[.int .i64 0] 39))) (g0 : Kind (w.alloc (.cells #[.int .i64 0] 39)) 0 s0) (h0 : IsSays (.iface t v) s0 false (w.alloc (.cells #[.int .i64 0] 39))) (g1 : Kind (w.alloc (.cells #[.int .i64 0] 39)) 1 s1) (h1 : IsSays (.iface t v) s1 false (w.alloc (.cells #[.int .i64 0] 39))) (g2 : Kind (w.alloc (.cells #[.int .i64 0] 39)) 2 s2) (h2 : IsSays (.iface t v) s2 false (w.alloc (.cells #[.int .i64 0] 39))) (g3 : Kind (w.alloc (.cells #[.int .i64 0] 39)) 3 s3) (h3 : IsSays (.iface t v) s3 false (w.alloc (.cells #[.int .i64 0] 39))) (g4 : Kind (w.alloc (.cells #[.int .i64 0] 39)) 4 s4) (h4 : IsSays (.iface t v) s4 true (w.alloc (.cells #[.int .i64 0] 39))) :
    Calls Tryz.prog 25 #[.iface t v] w fun x w' => x = .returned (.int .i64 5) ∧ Below w.heap.size w w' := by
  have hmf : ∀ (fn : Fn) (first cap : Array Value) (w : World), (Instr.makeFunc fn first cap).run Tryz.prog w = .ok (.func fn first cap) w := fun _ _ _ _ => rfl
  unfold Kind at g0
  unfold Kind at g1
  unfold Kind at g2
  unfold Kind at g3
  unfold Kind at g4
  go_enter_defers Tryz.func25, Tryz.ntmps25
  go_wp2_with fail
  refine Calls.mono hE ?_
  rintro x w' ⟨rfl, rfl⟩
  go_wp2_with fail
  refine Calls.mono h0 ?_
  rintro x w' ⟨rfl, rfl⟩
  go_wp2_with fail
  refine Calls.mono h1 ?_
  rintro x w' ⟨rfl, rfl⟩
  go_wp2_with fail
  refine Calls.mono h2 ?_
  rintro x w' ⟨rfl, rfl⟩
  go_wp2_with fail
  refine Calls.mono h3 ?_
  rintro x w' ⟨rfl, rfl⟩
  go_wp2_with fail
  refine Calls.mono h4 ?_
  rintro x w' ⟨rfl, rfl⟩
  go_wp2
  refine leaves_cons (f := 47) (args := #[.pointer (some ⟨w.heap.size, 0, none⟩)]) (by simp) (by simp [go_sem]) ?_
  refine (catch_number ⟨w.heap.size, 0, none⟩ _).mono ?_
  rintro e u' w'' ⟨rfl, rfl, rfl⟩
  simp [Leaves, settle, results, Tryz.results25, go_sem]
  exact (Below.refl _ _).alloc (Nat.le_refl _) _

theorem number_6 (t : TypeId) (v : Value) (s0 s1 s2 s3 s4 s5 : Addr) (w : World) (hE : EndsSays (.iface t v) (w.alloc (.cells #[.int .i64 0] 39))) (g0 : Kind (w.alloc (.cells #[.int .i64 0] 39)) 0 s0) (h0 : IsSays (.iface t v) s0 false (w.alloc (.cells #[.int .i64 0] 39))) (g1 : Kind (w.alloc (.cells #[.int .i64 0] 39)) 1 s1) (h1 : IsSays (.iface t v) s1 false (w.alloc (.cells #[.int .i64 0] 39))) (g2 : Kind (w.alloc (.cells #[.int .i64 0] 39)) 2 s2) (h2 : IsSays (.iface t v) s2 false (w.alloc (.cells #[.int .i64 0] 39))) (g3 : Kind (w.alloc (.cells #[.int .i64 0] 39)) 3 s3) (h3 : IsSays (.iface t v) s3 false (w.alloc (.cells #[.int .i64 0] 39))) (g4 : Kind (w.alloc (.cells #[.int .i64 0] 39)) 4 s4) (h4 : IsSays (.iface t v) s4 false (w.alloc (.cells #[.int .i64 0] 39))) (g5 : Kind (w.alloc (.cells #[.int .i64 0] 39)) 5 s5) (h5 : IsSays (.iface t v) s5 true (w.alloc (.cells #[.int .i64 0] 39))) :
    Calls Tryz.prog 25 #[.iface t v] w fun x w' => x = .returned (.int .i64 6) ∧ Below w.heap.size w w' := by
  have hmf : ∀ (fn : Fn) (first cap : Array Value) (w : World), (Instr.makeFunc fn first cap).run Tryz.prog w = .ok (.func fn first cap) w := fun _ _ _ _ => rfl
  unfold Kind at g0
  unfold Kind at g1
  unfold Kind at g2
  unfold Kind at g3
  unfold Kind at g4
  unfold Kind at g5
  go_enter_defers Tryz.func25, Tryz.ntmps25
  go_wp2_with fail
  refine Calls.mono hE ?_
  rintro x w' ⟨rfl, rfl⟩
  go_wp2_with fail
  refine Calls.mono h0 ?_
  rintro x w' ⟨rfl, rfl⟩
  go_wp2_with fail
  refine Calls.mono h1 ?_
  rintro x w' ⟨rfl, rfl⟩
  go_wp2_with fail
  refine Calls.mono h2 ?_
  rintro x w' ⟨rfl, rfl⟩
  go_wp2_with fail
  refine Calls.mono h3 ?_
  rintro x w' ⟨rfl, rfl⟩
  go_wp2_with fail
  refine Calls.mono h4 ?_
  rintro x w' ⟨rfl, rfl⟩
  go_wp2_with fail
  refine Calls.mono h5 ?_
  rintro x w' ⟨rfl, rfl⟩
  go_wp2
  refine leaves_cons (f := 47) (args := #[.pointer (some ⟨w.heap.size, 0, none⟩)]) (by simp) (by simp [go_sem]) ?_
  refine (catch_number ⟨w.heap.size, 0, none⟩ _).mono ?_
  rintro e u' w'' ⟨rfl, rfl, rfl⟩
  simp [Leaves, settle, results, Tryz.results25, go_sem]
  exact (Below.refl _ _).alloc (Nat.le_refl _) _

theorem number_7 (t : TypeId) (v : Value) (s0 s1 s2 s3 s4 s5 s6 : Addr) (w : World) (hE : EndsSays (.iface t v) (w.alloc (.cells #[.int .i64 0] 39))) (g0 : Kind (w.alloc (.cells #[.int .i64 0] 39)) 0 s0) (h0 : IsSays (.iface t v) s0 false (w.alloc (.cells #[.int .i64 0] 39))) (g1 : Kind (w.alloc (.cells #[.int .i64 0] 39)) 1 s1) (h1 : IsSays (.iface t v) s1 false (w.alloc (.cells #[.int .i64 0] 39))) (g2 : Kind (w.alloc (.cells #[.int .i64 0] 39)) 2 s2) (h2 : IsSays (.iface t v) s2 false (w.alloc (.cells #[.int .i64 0] 39))) (g3 : Kind (w.alloc (.cells #[.int .i64 0] 39)) 3 s3) (h3 : IsSays (.iface t v) s3 false (w.alloc (.cells #[.int .i64 0] 39))) (g4 : Kind (w.alloc (.cells #[.int .i64 0] 39)) 4 s4) (h4 : IsSays (.iface t v) s4 false (w.alloc (.cells #[.int .i64 0] 39))) (g5 : Kind (w.alloc (.cells #[.int .i64 0] 39)) 5 s5) (h5 : IsSays (.iface t v) s5 false (w.alloc (.cells #[.int .i64 0] 39))) (g6 : Kind (w.alloc (.cells #[.int .i64 0] 39)) 6 s6) (h6 : IsSays (.iface t v) s6 true (w.alloc (.cells #[.int .i64 0] 39))) :
    Calls Tryz.prog 25 #[.iface t v] w fun x w' => x = .returned (.int .i64 7) ∧ Below w.heap.size w w' := by
  have hmf : ∀ (fn : Fn) (first cap : Array Value) (w : World), (Instr.makeFunc fn first cap).run Tryz.prog w = .ok (.func fn first cap) w := fun _ _ _ _ => rfl
  unfold Kind at g0
  unfold Kind at g1
  unfold Kind at g2
  unfold Kind at g3
  unfold Kind at g4
  unfold Kind at g5
  unfold Kind at g6
  go_enter_defers Tryz.func25, Tryz.ntmps25
  go_wp2_with fail
  refine Calls.mono hE ?_
  rintro x w' ⟨rfl, rfl⟩
  go_wp2_with fail
  refine Calls.mono h0 ?_
  rintro x w' ⟨rfl, rfl⟩
  go_wp2_with fail
  refine Calls.mono h1 ?_
  rintro x w' ⟨rfl, rfl⟩
  go_wp2_with fail
  refine Calls.mono h2 ?_
  rintro x w' ⟨rfl, rfl⟩
  go_wp2_with fail
  refine Calls.mono h3 ?_
  rintro x w' ⟨rfl, rfl⟩
  go_wp2_with fail
  refine Calls.mono h4 ?_
  rintro x w' ⟨rfl, rfl⟩
  go_wp2_with fail
  refine Calls.mono h5 ?_
  rintro x w' ⟨rfl, rfl⟩
  go_wp2_with fail
  refine Calls.mono h6 ?_
  rintro x w' ⟨rfl, rfl⟩
  go_wp2
  refine leaves_cons (f := 47) (args := #[.pointer (some ⟨w.heap.size, 0, none⟩)]) (by simp) (by simp [go_sem]) ?_
  refine (catch_number ⟨w.heap.size, 0, none⟩ _).mono ?_
  rintro e u' w'' ⟨rfl, rfl, rfl⟩
  simp [Leaves, settle, results, Tryz.results25, go_sem]
  exact (Below.refl _ _).alloc (Nat.le_refl _) _

theorem number_8 (t : TypeId) (v : Value) (s0 s1 s2 s3 s4 s5 s6 : Addr) (w : World) (hE : EndsSays (.iface t v) (w.alloc (.cells #[.int .i64 0] 39))) (g0 : Kind (w.alloc (.cells #[.int .i64 0] 39)) 0 s0) (h0 : IsSays (.iface t v) s0 false (w.alloc (.cells #[.int .i64 0] 39))) (g1 : Kind (w.alloc (.cells #[.int .i64 0] 39)) 1 s1) (h1 : IsSays (.iface t v) s1 false (w.alloc (.cells #[.int .i64 0] 39))) (g2 : Kind (w.alloc (.cells #[.int .i64 0] 39)) 2 s2) (h2 : IsSays (.iface t v) s2 false (w.alloc (.cells #[.int .i64 0] 39))) (g3 : Kind (w.alloc (.cells #[.int .i64 0] 39)) 3 s3) (h3 : IsSays (.iface t v) s3 false (w.alloc (.cells #[.int .i64 0] 39))) (g4 : Kind (w.alloc (.cells #[.int .i64 0] 39)) 4 s4) (h4 : IsSays (.iface t v) s4 false (w.alloc (.cells #[.int .i64 0] 39))) (g5 : Kind (w.alloc (.cells #[.int .i64 0] 39)) 5 s5) (h5 : IsSays (.iface t v) s5 false (w.alloc (.cells #[.int .i64 0] 39))) (g6 : Kind (w.alloc (.cells #[.int .i64 0] 39)) 6 s6) (h6 : IsSays (.iface t v) s6 false (w.alloc (.cells #[.int .i64 0] 39))) :
    Calls Tryz.prog 25 #[.iface t v] w fun x w' => x = .returned (.int .i64 8) ∧ Below w.heap.size w w' := by
  have hmf : ∀ (fn : Fn) (first cap : Array Value) (w : World), (Instr.makeFunc fn first cap).run Tryz.prog w = .ok (.func fn first cap) w := fun _ _ _ _ => rfl
  unfold Kind at g0
  unfold Kind at g1
  unfold Kind at g2
  unfold Kind at g3
  unfold Kind at g4
  unfold Kind at g5
  unfold Kind at g6
  go_enter_defers Tryz.func25, Tryz.ntmps25
  go_wp2_with fail
  refine Calls.mono hE ?_
  rintro x w' ⟨rfl, rfl⟩
  go_wp2_with fail
  refine Calls.mono h0 ?_
  rintro x w' ⟨rfl, rfl⟩
  go_wp2_with fail
  refine Calls.mono h1 ?_
  rintro x w' ⟨rfl, rfl⟩
  go_wp2_with fail
  refine Calls.mono h2 ?_
  rintro x w' ⟨rfl, rfl⟩
  go_wp2_with fail
  refine Calls.mono h3 ?_
  rintro x w' ⟨rfl, rfl⟩
  go_wp2_with fail
  refine Calls.mono h4 ?_
  rintro x w' ⟨rfl, rfl⟩
  go_wp2_with fail
  refine Calls.mono h5 ?_
  rintro x w' ⟨rfl, rfl⟩
  go_wp2_with fail
  refine Calls.mono h6 ?_
  rintro x w' ⟨rfl, rfl⟩
  go_wp2
  refine leaves_cons (f := 47) (args := #[.pointer (some ⟨w.heap.size, 0, none⟩)]) (by simp) (by simp [go_sem]) ?_
  refine (catch_number ⟨w.heap.size, 0, none⟩ _).mono ?_
  rintro e u' w'' ⟨rfl, rfl, rfl⟩
  simp [Leaves, settle, results, Tryz.results25, go_sem]
  exact (Below.refl _ _).alloc (Nat.le_refl _) _
end Go.Proofs.YtfojoeafhdiaiaaGreatDoor
