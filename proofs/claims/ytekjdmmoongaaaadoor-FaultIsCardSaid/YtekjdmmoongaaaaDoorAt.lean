/- What is proved here: the reason and the place of a chain of faults are those of its head; an error of errors.New has the reason 128 and the place 0. Condition: the variable errors.errorType holds the handle of the type error. -/
import Derived.Test.YtekjdmmoongaaaaDoorFirst
namespace Go.Proofs.YtekjdmmoongaaaaDoor
open Go.RowKit Go.Extern.Stop Go.Stop Go.Extern

/-- The variable errors.errorType. -/
def Handle (w : World) : Prop := w.cell? ⟨7, 0, none⟩ = some (.iface 68 (.agg #[.pointer (some ⟨11, 23, none⟩)]))

theorem reason_nil (w : World) :
    Calls Tryd.prog 16 #[.nilIface] w fun x w' => x = .returned (.int .i64 0) ∧ w = w' := by
  go_enter Tryd.func16, Tryd.ntmps16
  go_wp2
  go_ret
  exact ⟨rfl, rfl⟩
theorem reason_fault (k : Nat) (r a : Int) (e : Value) (w : World) (hg : Handle w) (h : w.heap[k]? = some (.cells #[.int .i64 r, .int .i64 a, e] 31 (0, 0))) :
    Calls Tryd.prog 16 #[.iface 29 (.pointer (some ⟨k, 0, none⟩))] w fun x w' => x = .returned (.int .i64 r) ∧ Below w.heap.size w w' := by
  have hk := lt_of_block h
  have H := Lib.hid h
  clear h
  go_enter Tryd.func16, Tryd.ntmps16
  go_wp2_with fail
  refine (first_fault k _ hg).mono ?_
  rintro x w1 ⟨rfl, hb⟩
  have hc : w1.cell? ⟨k, 0, none⟩ = some (.int .i64 r) := by rw [hb.cell (p := ⟨k, 0, none⟩) hk, cell_block H.out]; rfl
  have HB := Lib.hid hb
  clear hb
  go_wp2
  go_ret
  exact ⟨rfl, HB.out⟩
theorem reason_leaf (s : Addr) (w : World) (hg : Handle w) :
    Calls Tryd.prog 16 #[.iface 64 (.pointer (some s))] w fun x w' => x = .returned (.int .i64 128) ∧ Below w.heap.size w w' := by
  go_enter Tryd.func16, Tryd.ntmps16
  go_wp2_with (go_at_call 30; refine (first_leaf s _ hg).mono ?_; rintro x w1 ⟨rfl, hb⟩)
  have HB := Lib.hid hb
  clear hb
  go_wp2
  go_ret
  exact ⟨rfl, HB.out⟩
theorem at_fault (k : Nat) (r a : Int) (e : Value) (w : World) (hg : Handle w) (h : w.heap[k]? = some (.cells #[.int .i64 r, .int .i64 a, e] 31 (0, 0))) :
    Calls Tryd.prog 17 #[.iface 29 (.pointer (some ⟨k, 0, none⟩))] w fun x w' => x = .returned (.int .i64 a) ∧ Below w.heap.size w w' := by
  have hk := lt_of_block h
  have H := Lib.hid h
  clear h
  go_enter Tryd.func17, Tryd.ntmps17
  go_wp2_with fail
  refine (first_fault k _ hg).mono ?_
  rintro x w1 ⟨rfl, hb⟩
  have hc : w1.cell? ⟨k, 1, none⟩ = some (.int .i64 a) := by rw [hb.cell (p := ⟨k, 1, none⟩) hk, cell_block H.out]; rfl
  have HB := Lib.hid hb
  clear hb
  go_wp2
  go_ret
  exact ⟨rfl, HB.out⟩
theorem at_leaf (s : Addr) (w : World) (hg : Handle w) :
    Calls Tryd.prog 17 #[.iface 64 (.pointer (some s))] w fun x w' => x = .returned (.int .i64 0) ∧ Below w.heap.size w w' := by
  go_enter Tryd.func17, Tryd.ntmps17
  go_wp2_with (go_at_call 30; refine (first_leaf s _ hg).mono ?_; rintro x w1 ⟨rfl, hb⟩)
  have HB := Lib.hid hb
  clear hb
  go_wp2
  go_ret
  exact ⟨rfl, HB.out⟩

/-- A new fault. -/
theorem new_nil (r a : Int) (w : World) :
    Calls Tryd.prog 7 #[.int .i64 r, .int .i64 a, .nilIface] w fun x w' => x = .returned .nilIface ∧ w = w' := by
  go_enter Tryd.func7, Tryd.ntmps7
  go_wp2
  go_ret
  exact ⟨rfl, rfl⟩
theorem new_any (r a : Int) (t : TypeId) (v : Value) (w : World) :
    Calls Tryd.prog 7 #[.int .i64 r, .int .i64 a, .iface t v] w fun x w' => x = .returned (.iface 29 (.pointer (some ⟨w.heap.size, 0, none⟩))) ∧ w' = w.alloc (.cells #[.int .i64 r, .int .i64 a, .iface t v] 31) := by
  go_enter Tryd.func7, Tryd.ntmps7
  go_wp2
  go_ret
  exact ⟨rfl, rfl⟩
theorem ret_int {k : IntKind} {a b : Int} (h : a = b) : Ending.returned (.int k a) = .returned (.int k b) := by rw [h]
def lim (n : Int) : Int := max (-18014398509481984) (min n 18014398509481984)
theorem lim_bd (n : Int) : -18014398509481984 ≤ lim n ∧ lim n ≤ 18014398509481984 := by unfold lim; omega
/-- A place that is so much further. -/
def further (a b : Int) : Int := max 0 (min (lim a + lim b) 9007199254740992)
theorem further_bd (a b : Int) : 0 ≤ further a b ∧ further a b ≤ 9007199254740992 := by unfold further; omega
theorem limit_any (n : Int) (w : World) :
    Calls Tryd.prog 21 #[.int .i64 n] w fun x w' => x = .returned (.int .i64 (lim n)) ∧ w = w' := by
  by_cases h1 : n < -18014398509481984
  · go_enter Tryd.func21, Tryd.ntmps21
    go_wp2
    go_ret
    exact ⟨ret_int (by unfold lim; omega), rfl⟩
  · by_cases h2 : 18014398509481984 < n
    · go_enter Tryd.func21, Tryd.ntmps21
      go_wp2
      go_ret
      exact ⟨ret_int (by unfold lim; omega), rfl⟩
    · have h3 : -18014398509481984 ≤ n := by omega
      have h4 : n ≤ 18014398509481984 := by omega
      clear h1 h2
      go_enter Tryd.func21, Tryd.ntmps21
      go_wp2
      all_goals go_ret
      all_goals exact ⟨ret_int (by unfold lim; omega), rfl⟩
/-- The document's own sum, with each part brought into range already. -/
theorem further_in (a b c : Int) (w : World) (hc : c = further a b) :
    Calls Tryd.prog 19 #[.int .i64 a, .int .i64 b] w fun x w' => x = .returned (.int .i64 c) ∧ w = w' := by
  have HC := Lib.hid hc
  clear hc
  rcases Int.lt_or_le a (-18014398509481984) with a1 | a1 <;> rcases Int.lt_or_le 18014398509481984 a with a2 | a2 <;>
  rcases Int.lt_or_le b (-18014398509481984) with b1 | b1 <;> rcases Int.lt_or_le 18014398509481984 b with b2 | b2
  all_goals try (exfalso; omega)
  all_goals go_enter Tryd.func19, Tryd.ntmps19
  all_goals go_wp2
  all_goals go_ret
  all_goals exact ⟨ret_int (by rw [HC.out]; unfold further lim; omega), rfl⟩
end Go.Proofs.YtekjdmmoongaaaaDoor
