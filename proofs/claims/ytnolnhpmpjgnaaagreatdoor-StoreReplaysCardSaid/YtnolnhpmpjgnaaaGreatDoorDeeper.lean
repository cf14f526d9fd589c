/- What is proved here: an error that is told of a whole keeps its reason and its kind, and its place goes further, each number brought into range first. Condition: the package's errors are seven different errors of errors.New, and errors.errorType holds the handle of the type error. -/
import Derived.Test.YtnolnhpmpjgnaaaGreatDoorEnv
namespace Go.Proofs.YtnolnhpmpjgnaaaGreatDoor
open Go.RowKit Go.Extern.Stop Go.Stop Go.Extern

theorem ret_int {k : IntKind} {a b : Int} (h : a = b) : Ending.returned (.int k a) = .returned (.int k b) := by rw [h]
def lim (n : Int) : Int := max (-18014398509481984) (min n 18014398509481984)
theorem lim_bd (n : Int) : -18014398509481984 ≤ lim n ∧ lim n ≤ 18014398509481984 := by unfold lim; omega
/-- A place that is so much further. -/
def further (a b : Int) : Int := max 0 (min (lim a + lim b) 9007199254740992)
theorem further_bd (a b : Int) : 0 ≤ further a b ∧ further a b ≤ 9007199254740992 := by unfold further; omega
theorem limit_any (n : Int) (w : World) :
    Calls Tryz.prog 114 #[.int .i64 n] w fun x w' => x = .returned (.int .i64 (lim n)) ∧ w = w' := by
  by_cases h1 : n < -18014398509481984
  · go_enter Tryz.func114, Tryz.ntmps114
    go_wp2
    go_ret
    exact ⟨ret_int (by unfold lim; omega), rfl⟩
  · by_cases h2 : 18014398509481984 < n
    · go_enter Tryz.func114, Tryz.ntmps114
      go_wp2
      go_ret
      exact ⟨ret_int (by unfold lim; omega), rfl⟩
    · have h3 : -18014398509481984 ≤ n := by omega
      have h4 : n ≤ 18014398509481984 := by omega
      clear h1 h2
      go_enter Tryz.func114, Tryz.ntmps114
      go_wp2
      all_goals go_ret
      all_goals exact ⟨ret_int (by unfold lim; omega), rfl⟩

theorem deeper_nil (b : Int) (w : World) :
    Calls Tryz.prog 96 #[.nilIface, .int .i64 b] w fun x w' => x = .returned .nilIface ∧ w = w' := by
  go_enter Tryz.func96, Tryz.ntmps96
  go_wp2
  go_ret
  exact ⟨rfl, rfl⟩

/-- What Reason and At answer of an error, in this world and in each later one. -/
def Heads (t : TypeId) (v : Value) (r a : Int) (w : World) : Prop := ∀ w1, Below w.heap.size w w1 →
  (Calls Tryz.prog 37 #[.iface t v] w1 fun x w' => x = .returned (.int .i64 r) ∧ Below w1.heap.size w1 w') ∧
  (Calls Tryz.prog 38 #[.iface t v] w1 fun x w' => x = .returned (.int .i64 a) ∧ Below w1.heap.size w1 w')

set_option maxHeartbeats 400000 in
theorem deeper_any (t : TypeId) (v : Value) (r a b : Int) (w : World) (h : Heads t v r a w) :
    Calls Tryz.prog 96 #[.iface t v, .int .i64 b] w fun x w' => ∃ w1, Below w.heap.size w w1 ∧ x = .returned (.iface 94 (.pointer (some ⟨w1.heap.size, 0, none⟩))) ∧ w' = w1.alloc (.cells #[.int .i64 r, .int .i64 (further a b), .iface t v] 96) := by
  have ha := lim_bd a
  have hb := lim_bd b
  have hf : further a b = max 0 (min (lim a + lim b) 9007199254740992) := rfl
  have HF := Lib.hid hf
  clear hf
  generalize further a b = c at *
  generalize hla : lim a = la at *
  generalize hlb : lim b = lb at *
  have HA := Lib.hid hla
  have HB := Lib.hid hlb
  clear hla hlb
  go_enter Tryz.func96, Tryz.ntmps96
  go_wp2_with fail
  refine (h _ (Below.refl _ _)).2.mono ?_
  rintro x w1 ⟨rfl, hb1⟩
  have HB1 := Lib.hid hb1
  clear hb1
  go_wp2_with fail
  refine (limit_any a _).mono ?_
  rintro x w' ⟨rfl, rfl⟩
  rw [HA.out]
  go_wp2_with fail
  refine (limit_any b _).mono ?_
  rintro x w' ⟨rfl, rfl⟩
  rw [HB.out]
  go_wp2_with fail
  refine (h _ HB1.out).1.mono ?_
  rintro x w2 ⟨rfl, hb2⟩
  have HB2 := Lib.hid (HB1.out.trans (hb2.mono HB1.out.size))
  clear hb2
  clear h HA HB
  rcases Int.lt_or_le (la + lb) 0 with h1 | h1 <;> rcases Int.lt_or_le 9007199254740992 (la + lb) with h2 | h2
  all_goals try (exfalso; omega)
  all_goals go_wp2
  all_goals go_ret
  all_goals exact ⟨w2, HB2.out, rfl, by rw [HF.out]; congr; omega⟩

/-- Deeper on a chain. -/
theorem deeper_fault {w : World} (hg : Handle w) {leaf : Value} {r a : Int} {l : List (Int × Int)} {e : Value} (hc : Chain w leaf w.heap.size ((r, a) :: l) e) (b : Int) :
    Calls Tryz.prog 96 #[e, .int .i64 b] w fun x w' => ∃ e', x = .returned e' ∧ Chain w' leaf w'.heap.size ((r, further a b) :: (r, a) :: l) e' ∧ Below w.heap.size w w' := by
  obtain ⟨k, e', hk, rfl, hb, hc'⟩ := hc
  refine (deeper_any 94 (.pointer (some ⟨k, 0, none⟩)) r a b w fun w1 h1 => ?_).mono ?_
  · have hg1 : Handle w1 := by unfold Handle; rw [h1.cell (p := ⟨7, 0, none⟩) (lt_of_cell hg)]; exact hg
    have hb1 := (h1.block _ (lt_of_block hb)).trans hb
    exact ⟨reason_fault k r a e' w1 hg1 hb1, at_fault k r a e' w1 hg1 hb1⟩
  · rintro x w' ⟨w1, h1, rfl, rfl⟩
    have h2 := h1.trans ((Below.one w1 (.cells #[.int .i64 r, .int .i64 (further a b), .iface 94 (.pointer (some ⟨k, 0, none⟩))] 96)).mono h1.size)
    have hl := lt_of_block hb
    have hs := h1.size
    refine ⟨_, rfl, ⟨w1.heap.size, _, by rw [World.size_alloc]; omega, rfl, (MapKept.heap_alloc w1 _).1, k, e', by omega, rfl, (h2.block _ hl).trans hb, ?_⟩, h2⟩
    exact hc'.later h2 (by omega)
theorem deeper_leaf {w : World} (hg : Handle w) (s : Addr) (b : Int) :
    Calls Tryz.prog 96 #[.iface 188 (.pointer (some s)), .int .i64 b] w fun x w' => ∃ e', x = .returned e' ∧ Chain w' (.iface 188 (.pointer (some s))) w'.heap.size [(128, further 0 b)] e' ∧ Below w.heap.size w w' := by
  refine (deeper_any 188 (.pointer (some s)) 128 0 b w fun w1 h1 => ?_).mono ?_
  · have hg1 : Handle w1 := by unfold Handle; rw [h1.cell (p := ⟨7, 0, none⟩) (lt_of_cell hg)]; exact hg
    exact ⟨reason_leaf s w1 hg1, at_leaf s w1 hg1⟩
  · rintro x w' ⟨w1, h1, rfl, rfl⟩
    have h2 := h1.trans ((Below.one w1 (.cells #[.int .i64 128, .int .i64 (further 0 b), .iface 188 (.pointer (some s))] 96)).mono h1.size)
    exact ⟨_, rfl, ⟨w1.heap.size, _, by rw [World.size_alloc]; omega, rfl, (MapKept.heap_alloc w1 _).1, rfl⟩, h2⟩
end Go.Proofs.YtnolnhpmpjgnaaaGreatDoor
