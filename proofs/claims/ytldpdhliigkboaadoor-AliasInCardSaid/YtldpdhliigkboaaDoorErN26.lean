/- What is proved here: what the functions of the faults say of what is told by aliases. Conditions: the errors are laid. -/
import Derived.Test.YtldpdhliigkboaaDoorNob26
namespace Go.Proofs.YtldpdhliigkboaaDoor
open Go.RowKit Go.Extern.Stop Go.Stop Go.Extern Go.Maps
section
variable {w w' : World} {s : Addr}
theorem ends_nil (t : Bool) (w : World) : Calls Tryd.prog 23 #[.nilIface, .int .i64 0, .bool t] w fun x w' => x = .returned (.bool true) ∧ w = w' := by
  go_enter Tryd.func23, Tryd.ntmps23
  go_wp2_with fail
  refine wp_loop_rounds 1 ?_
  rw [rounds_succ]
  go_wp2
  go_ret
  exact ⟨rfl, rfl⟩
theorem as_none (a : Addr) (w : World) : Calls Tryd.prog 31 #[.nilIface, .iface 85 (.pointer (some a))] w fun x w' => x = .returned (.bool false) ∧ w = w' := by
  go_enter Tryd.func31, Tryd.ntmps31
  go_wp2_with fail
  go_ret
  exact ⟨rfl, rfl⟩
set_option maxHeartbeats 1000000 in
theorem first_nil (w : World) : Calls Tryd.prog 25 #[.nilIface] w fun x w' => x = .returned (.pointer none) ∧ Below w.heap.size w w' := by
  have hmf : ∀ (fn : Fn) (first cap : Array Value) (w : World), (Instr.makeFunc fn first cap).run Tryd.prog w = .ok (.func fn first cap) w := fun _ _ _ _ => rfl
  have hN : (w.alloc (.cells #[.pointer none] 68)).heap[w.heap.size]? = some (.cells #[.pointer none] 68 (0, 0)) := (MapKept.heap_alloc w _).1
  have HN := Lib.hid hN
  clear hN
  go_enter_defers Tryd.func25, Tryd.ntmps25
  go_wp2_with (go_at_call 23; refine (ends_nil true _).mono ?_; rintro x w' ⟨rfl, rfl⟩)
  refine (as_none ⟨w.heap.size, 0, none⟩ _).mono ?_
  rintro x w1 ⟨rfl, rfl⟩
  have hc1 := cell_of_one HN.out
  have hf1 := free_of_one HN.out
  go_wp2
  refine leaves_cons (f := 30) (args := #[.pointer (some ⟨w.heap.size, 0, none⟩)]) (by simp) (by simp [go_sem]) ?_
  refine (catch_first ⟨w.heap.size, 0, none⟩ _).mono ?_
  rintro e u' w'' ⟨rfl, rfl, rfl⟩
  simp only [Leaves, settle, results, Tryd.results25, go_sem]
  simp [go_sem]
  exact (Below.refl _ _).alloc (Nat.le_refl _) _
theorem at_nil (w : World) : Calls Tryd.prog 13 #[.nilIface] w fun x w' => x = .returned (.int .i64 0) ∧ Below w.heap.size w w' := by
  go_enter Tryd.func13, Tryd.ntmps13
  go_wp2_with (go_at_call 25; refine (first_nil _).mono ?_; rintro x w1 ⟨rfl, hb⟩)
  have HB := Lib.hid hb
  clear hb
  go_wp2
  go_ret
  exact ⟨rfl, HB.out⟩
/-- What is told, as an error of the protocol. -/
def TErr (w : World) (S : Nat → Addr) (r : Int) (e : Value) : Prop := (r = 0 ∧ e = .nilIface) ∨ (r ≠ 0 ∧ ErrIs w S 2 r 0 e)
theorem terr_of {S : Nat → Addr} {r : Int} {e : Value} (h : ErrSays26 w (S 2) r e) : TErr w S r e := by
  rcases h with h | ⟨h, k, rfl, hb⟩
  · exact .inl h
  · exact .inr ⟨h, [], k, _, hb.lt, rfl, hb, rfl⟩
theorem TErr.later {S : Nat → Addr} {r : Int} {e : Value} (h : TErr w S r e) (hb : Below w.heap.size w w') : TErr w' S r e := by
  rcases h with h | ⟨h, h2⟩
  · exact .inl h
  · exact .inr ⟨h, h2.later hb⟩
theorem terr_number {S : Nat → Addr} {r : Int} {e : Value} (hE : Env w S) (h : TErr w S r e) : Calls Tryd.prog 11 #[e] w fun x w' => x = .returned (.int .i64 (if r = 0 then 0 else 3)) ∧ Below w.heap.size w w' := by
  rcases h with ⟨rfl, rfl⟩ | ⟨h, h2⟩
  · exact number_nil w
  · rw [if_neg h]
    exact number_err hE (by decide) h2
theorem terr_reason {S : Nat → Addr} {r : Int} {e : Value} (hE : Env w S) (h : TErr w S r e) : Calls Tryd.prog 12 #[e] w fun x w' => x = .returned (.int .i64 r) ∧ Below w.heap.size w w' := by
  rcases h with ⟨rfl, rfl⟩ | ⟨h, h2⟩
  · exact (reason_nil w).mono fun x w' hx => ⟨hx.1, hx.2 ▸ Below.refl _ _⟩
  · exact reason_err hE h2
theorem terr_at {S : Nat → Addr} {r : Int} {e : Value} (hE : Env w S) (h : TErr w S r e) : Calls Tryd.prog 13 #[e] w fun x w' => x = .returned (.int .i64 0) ∧ Below w.heap.size w w' := by
  rcases h with ⟨rfl, rfl⟩ | ⟨h, h2⟩
  · exact at_nil w
  · exact at_err hE h2
end
end Go.Proofs.YtldpdhliigkboaaDoor
