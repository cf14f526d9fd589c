/- What is proved here: what must come whatever the arguments are does come: the statements' helper function awake answers true. Condition: the package's errors are seven different errors of errors.New, and errors.errorType holds the handle of the type error. -/
import Derived.Test.YtekjdmmoongaaaaDoorDeep
namespace Go.Proofs.YtekjdmmoongaaaaDoor
open Go.RowKit Go.Extern.Stop Go.Stop Go.Extern

/-- Deeper on a chain. -/
theorem deeper_fault {w : World} (hg : Handle w) {leaf : Value} {r a : Int} {l : List (Int × Int)} {e : Value} (hc : Chain w leaf w.heap.size ((r, a) :: l) e) (b : Int) :
    Calls Tryd.prog 8 #[e, .int .i64 b] w fun x w' => ∃ e', x = .returned e' ∧ Chain w' leaf w'.heap.size ((r, further a b) :: (r, a) :: l) e' ∧ Below w.heap.size w w' := by
  obtain ⟨k, e', hk, rfl, hb, hc'⟩ := hc
  refine (deeper_any 29 (.pointer (some ⟨k, 0, none⟩)) r a b w fun w1 h1 => ?_).mono ?_
  · have hg1 : Handle w1 := by unfold Handle; rw [h1.cell (p := ⟨7, 0, none⟩) (lt_of_cell hg)]; exact hg
    have hb1 := (h1.block _ (lt_of_block hb)).trans hb
    exact ⟨reason_fault k r a e' w1 hg1 hb1, at_fault k r a e' w1 hg1 hb1⟩
  · rintro x w' ⟨w1, h1, rfl, rfl⟩
    have h2 := h1.trans ((Below.one w1 (.cells #[.int .i64 r, .int .i64 (further a b), .iface 29 (.pointer (some ⟨k, 0, none⟩))] 31)).mono h1.size)
    have hl := lt_of_block hb
    have hs := h1.size
    refine ⟨_, rfl, ⟨w1.heap.size, _, by rw [World.size_alloc]; omega, rfl, (MapKept.heap_alloc w1 _).1, k, e', by omega, rfl, (h2.block _ hl).trans hb, ?_⟩, h2⟩
    exact hc'.later h2 (by omega)
theorem deeper_leaf {w : World} (hg : Handle w) (s : Addr) (b : Int) :
    Calls Tryd.prog 8 #[.iface 64 (.pointer (some s)), .int .i64 b] w fun x w' => ∃ e', x = .returned e' ∧ Chain w' (.iface 64 (.pointer (some s))) w'.heap.size [(128, further 0 b)] e' ∧ Below w.heap.size w w' := by
  refine (deeper_any 64 (.pointer (some s)) 128 0 b w fun w1 h1 => ?_).mono ?_
  · have hg1 : Handle w1 := by unfold Handle; rw [h1.cell (p := ⟨7, 0, none⟩) (lt_of_cell hg)]; exact hg
    exact ⟨reason_leaf s w1 hg1, at_leaf s w1 hg1⟩
  · rintro x w' ⟨w1, h1, rfl, rfl⟩
    have h2 := h1.trans ((Below.one w1 (.cells #[.int .i64 128, .int .i64 (further 0 b), .iface 64 (.pointer (some s))] 31)).mono h1.size)
    exact ⟨_, rfl, ⟨w1.heap.size, _, by rw [World.size_alloc]; omega, rfl, (MapKept.heap_alloc w1 _).1, rfl⟩, h2⟩
/-- Reason and At on a chain. -/
theorem reason_chain {w : World} (hg : Handle w) {leaf : Value} {r a : Int} {B : Nat} {l : List (Int × Int)} {e : Value} (hc : Chain w leaf B ((r, a) :: l) e) :
    Calls Tryd.prog 16 #[e] w fun x w' => x = .returned (.int .i64 r) ∧ Below w.heap.size w w' := by
  obtain ⟨k, e', hk, rfl, hb, hc'⟩ := hc
  exact reason_fault k r a e' w hg hb
theorem at_chain {w : World} (hg : Handle w) {leaf : Value} {r a : Int} {B : Nat} {l : List (Int × Int)} {e : Value} (hc : Chain w leaf B ((r, a) :: l) e) :
    Calls Tryd.prog 17 #[e] w fun x w' => x = .returned (.int .i64 a) ∧ Below w.heap.size w w' := by
  obtain ⟨k, e', hk, rfl, hb, hc'⟩ := hc
  exact at_fault k r a e' w hg hb
/-- New, with a kind. -/
theorem new_chain {w : World} {S : Nat → Addr} (i : Nat) (r a : Int) :
    Calls Tryd.prog 7 #[.int .i64 r, .int .i64 a, .iface 64 (.pointer (some (S i)))] w fun x w' => ∃ e', x = .returned e' ∧ Chain w' (.iface 64 (.pointer (some (S i)))) w'.heap.size [(r, a)] e' ∧ Below w.heap.size w w' := by
  refine (new_any r a 64 (.pointer (some (S i))) w).mono ?_
  rintro x w' ⟨rfl, rfl⟩
  exact ⟨_, rfl, ⟨w.heap.size, _, by rw [World.size_alloc]; omega, rfl, (MapKept.heap_alloc w _).1, rfl⟩, Below.one w _⟩

set_option maxHeartbeats 1000000 in
theorem awake_any (S : Nat → Addr) (w : World) (h : Env w S) :
    Calls Tryd.prog 9 #[] w fun x w' => x = .returned (.bool true) ∧ Below w.heap.size w w' := by
  have h1 := h.kind 1 (by omega)
  go_enter Tryd.func9, Tryd.ntmps9
  go_wp2_with fail
  refine (new_chain (S := S) 1 129 3).mono ?_
  rintro x w1 ⟨e1, rfl, hc1, hb1⟩
  have HC1 := Lib.hid hc1
  have HB1 := Lib.hid hb1
  have HE1 := Lib.hid (h.later hb1)
  clear hc1 hb1
  go_wp2_with fail
  refine (deeper_fault HE1.out.handle HC1.out 10).mono ?_
  rintro x w2 ⟨e2, rfl, hc2, hb2⟩
  have e : further 3 10 = 13 := by decide
  rw [e] at hc2
  have HC2 := Lib.hid hc2
  have HB2 := Lib.hid (HB1.out.trans (hb2.mono HB1.out.size))
  have HE2 := Lib.hid (HE1.out.later hb2)
  clear hc2 hb2 e
  go_wp2_with fail
  refine (reason_chain HE2.out.handle HC2.out).mono ?_
  rintro x w3 ⟨rfl, hb⟩
  have HC3 := Lib.hid ((HC2.out.later hb (Nat.le_refl _)).mono hb.size)
  have HB3 := Lib.hid (HB2.out.trans (hb.mono HB2.out.size))
  have HE3 := Lib.hid (HE2.out.later hb)
  clear hb
  go_wp2_with fail
  refine (at_chain HE3.out.handle HC3.out).mono ?_
  rintro x w4 ⟨rfl, hb⟩
  have HC4 := Lib.hid ((HC3.out.later hb (Nat.le_refl _)).mono hb.size)
  have HB4 := Lib.hid (HB3.out.trans (hb.mono HB3.out.size))
  have HE4 := Lib.hid (HE3.out.later hb)
  clear hb
  go_wp2_with fail
  refine (number_kind HE4.out 1 (by omega) HC4.out).mono ?_
  rintro x w5 ⟨rfl, hb⟩
  have HC5 := Lib.hid ((HC4.out.later hb (Nat.le_refl _)).mono hb.size)
  have HB5 := Lib.hid (HB4.out.trans (hb.mono HB4.out.size))
  have HE5 := Lib.hid (HE4.out.later hb)
  clear hb
  go_wp2_with fail
  refine (number_nil w5).mono ?_
  rintro x w6 ⟨rfl, hb⟩
  have HC6 := Lib.hid ((HC5.out.later hb (Nat.le_refl _)).mono hb.size)
  have HB6 := Lib.hid (HB5.out.trans (hb.mono HB5.out.size))
  have HE6 := Lib.hid (HE5.out.later hb)
  clear hb
  go_wp2_with fail
  refine (reason_nil _).mono ?_
  rintro x w' ⟨rfl, rfl⟩
  go_wp2
  go_ret
  exact ⟨rfl, HB6.out⟩
end Go.Proofs.YtekjdmmoongaaaaDoor
