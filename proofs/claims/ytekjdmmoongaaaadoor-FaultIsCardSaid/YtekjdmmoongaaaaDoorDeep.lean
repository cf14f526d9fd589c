/- What is proved here: an error that is told of a whole keeps its reason and its kind, and its place goes further by the document's own sum. Condition: the package's errors are seven different errors of errors.New, and errors.errorType holds the handle of the type error. -/
import Derived.Test.YtekjdmmoongaaaaDoorAt
namespace Go.Proofs.YtekjdmmoongaaaaDoor
open Go.RowKit Go.Extern.Stop Go.Stop Go.Extern

/-- The package-level variables, as start-up code lays them: seven different errors, and the handle of the type error. -/
structure Env (w : World) (S : Nat → Addr) : Prop where
  kind : ∀ i, i < 7 → w.cell? ⟨i, 0, none⟩ = some (.iface 64 (.pointer (some (S i))))
  there : ∀ i, i < 7 → ∃ c t, w.heap[(S i).block]? = some (.cells c t (0, 0))
  apart : ∀ i j, i < 7 → j < 7 → i ≠ j → S i ≠ S j
  handle : Handle w

theorem Env.later {w w' : World} {S : Nat → Addr} (h : Env w S) (hb : Below w.heap.size w w') : Env w' S := by
  refine ⟨fun i hi => ?_, fun i hi => ?_, h.apart, ?_⟩
  · rw [hb.cell (p := ⟨i, 0, none⟩) (lt_of_cell (h.kind i hi))]; exact h.kind i hi
  · obtain ⟨c, t, hc⟩ := h.there i hi
    exact ⟨c, t, (hb.block _ (lt_of_block hc)).trans hc⟩
  · unfold Handle
    rw [hb.cell (p := ⟨7, 0, none⟩) (lt_of_cell h.handle)]; exact h.handle

theorem Below.one (w : World) (o : Obj) : Below w.heap.size w (w.alloc o) := (Below.refl _ _).alloc (Nat.le_refl _) _

theorem is_yes {w : World} {S : Nat → Addr} (h : Env w S) (i : Nat) {l : List (Int × Int)} {t : TypeId} {v : Value} (hc : Chain w (.iface 64 (.pointer (some (S i)))) w.heap.size l (.iface t v)) :
    IsSays (.iface t v) (S i) true (w.alloc (.cells #[.int .i64 0] 25)) :=
  have _ := h
  Is_same _ l _ _ _ (hc.later (Below.one w _) (Nat.le_refl _))
theorem is_no {w : World} {S : Nat → Addr} (h : Env w S) {s : Addr} (j : Nat) (hj : j < 7) (hs : ∃ c t, w.heap[s.block]? = some (.cells c t (0, 0))) (hne : s ≠ S j) {l : List (Int × Int)} {t : TypeId} {v : Value} (hc : Chain w (.iface 64 (.pointer (some s))) w.heap.size l (.iface t v)) :
    IsSays (.iface t v) (S j) false (w.alloc (.cells #[.int .i64 0] 25)) := by
  obtain ⟨cs, ts, hs⟩ := hs
  obtain ⟨cb, tb, hb⟩ := h.there j hj
  have one := Below.one w (.cells #[.int .i64 0] 25)
  have h1 := (one.block _ (lt_of_block hs)).trans hs
  have h2 := (one.block _ (lt_of_block hb)).trans hb
  exact Is_other w.heap.size l (.iface t v) s (S j) (w.alloc (.cells #[.int .i64 0] 25)) cs cb ts tb (hc.later one (Nat.le_refl _)) hne h1 h2
theorem ends_yes {w : World} {s : Addr} {l : List (Int × Int)} {t : TypeId} {v : Value} (hc : Chain w (.iface 64 (.pointer (some s))) w.heap.size l (.iface t v)) :
    EndsSays (.iface t v) (w.alloc (.cells #[.int .i64 0] 25)) :=
  ends_chain _ l _ _ _ (hc.later (Below.one w _) (Nat.le_refl _))

/-- The number of a chain at whose end stands the i-th kind. -/
theorem number_kind {w : World} {S : Nat → Addr} (h : Env w S) (i : Nat) (hi : i < 7) {l : List (Int × Int)} {e : Value} (hc : Chain w (.iface 64 (.pointer (some (S i)))) w.heap.size l e) :
    Calls Tryd.prog 18 #[e] w fun x w' => x = .returned (.int .i64 (i + 1 : Nat)) ∧ Below w.heap.size w w' := by
  obtain ⟨t, v, rfl⟩ := hc.iface
  have k := (h.later (Below.one w (.cells #[.int .i64 0] 25))).kind
  have yes := is_yes h i hc
  have no := fun j hj (hne : i ≠ j) => is_no h j hj (h.there i hi) (h.apart i j hi hj hne) hc
  have he := ends_yes hc
  clear hc h
  have K := fun j (hj : j < 7) => show Kind (w.alloc (.cells #[.int .i64 0] 25)) j (S j) from k j hj
  clear k
  rcases (show i = 0 ∨ i = 1 ∨ i = 2 ∨ i = 3 ∨ i = 4 ∨ i = 5 ∨ i = 6 by omega) with rfl | rfl | rfl | rfl | rfl | rfl | rfl
  · exact (number_1 t v _ w he (K 0 (by omega)) yes).mono fun _ _ h => ⟨h.1, h.2⟩
  · exact (number_2 t v _ _ w he (K 0 (by omega)) (no 0 (by omega) (by omega)) (K 1 (by omega)) yes).mono fun _ _ h => ⟨h.1, h.2⟩
  · exact (number_3 t v _ _ _ w he (K 0 (by omega)) (no 0 (by omega) (by omega)) (K 1 (by omega)) (no 1 (by omega) (by omega)) (K 2 (by omega)) yes).mono fun _ _ h => ⟨h.1, h.2⟩
  · exact (number_4 t v _ _ _ _ w he (K 0 (by omega)) (no 0 (by omega) (by omega)) (K 1 (by omega)) (no 1 (by omega) (by omega)) (K 2 (by omega)) (no 2 (by omega) (by omega)) (K 3 (by omega)) yes).mono fun _ _ h => ⟨h.1, h.2⟩
  · exact (number_5 t v _ _ _ _ _ w he (K 0 (by omega)) (no 0 (by omega) (by omega)) (K 1 (by omega)) (no 1 (by omega) (by omega)) (K 2 (by omega)) (no 2 (by omega) (by omega)) (K 3 (by omega)) (no 3 (by omega) (by omega)) (K 4 (by omega)) yes).mono fun _ _ h => ⟨h.1, h.2⟩
  · exact (number_6 t v _ _ _ _ _ _ w he (K 0 (by omega)) (no 0 (by omega) (by omega)) (K 1 (by omega)) (no 1 (by omega) (by omega)) (K 2 (by omega)) (no 2 (by omega) (by omega)) (K 3 (by omega)) (no 3 (by omega) (by omega)) (K 4 (by omega)) (no 4 (by omega) (by omega)) (K 5 (by omega)) yes).mono fun _ _ h => ⟨h.1, h.2⟩
  · exact (number_7 t v _ _ _ _ _ _ _ w he (K 0 (by omega)) (no 0 (by omega) (by omega)) (K 1 (by omega)) (no 1 (by omega) (by omega)) (K 2 (by omega)) (no 2 (by omega) (by omega)) (K 3 (by omega)) (no 3 (by omega) (by omega)) (K 4 (by omega)) (no 4 (by omega) (by omega)) (K 5 (by omega)) (no 5 (by omega) (by omega)) (K 6 (by omega)) yes).mono fun _ _ h => ⟨h.1, h.2⟩

/-- The number of a chain at whose end stands another error. -/
theorem number_other {w : World} {S : Nat → Addr} (h : Env w S) {s : Addr} (hs : ∃ c t, w.heap[s.block]? = some (.cells c t (0, 0))) (hne : ∀ j, j < 7 → s ≠ S j) {l : List (Int × Int)} {e : Value} (hc : Chain w (.iface 64 (.pointer (some s))) w.heap.size l e) :
    Calls Tryd.prog 18 #[e] w fun x w' => x = .returned (.int .i64 8) ∧ Below w.heap.size w w' := by
  obtain ⟨t, v, rfl⟩ := hc.iface
  have k := (h.later (Below.one w (.cells #[.int .i64 0] 25))).kind
  have K := fun j (hj : j < 7) => show Kind (w.alloc (.cells #[.int .i64 0] 25)) j (S j) from k j hj
  have no := fun j hj => is_no h j hj hs (hne j hj) hc
  have he := ends_yes hc
  exact number_8 t v _ _ _ _ _ _ _ w he (K 0 (by omega)) (no 0 (by omega)) (K 1 (by omega)) (no 1 (by omega)) (K 2 (by omega)) (no 2 (by omega)) (K 3 (by omega)) (no 3 (by omega)) (K 4 (by omega)) (no 4 (by omega)) (K 5 (by omega)) (no 5 (by omega)) (K 6 (by omega)) (no 6 (by omega))

theorem deeper_nil (b : Int) (w : World) :
    Calls Tryd.prog 8 #[.nilIface, .int .i64 b] w fun x w' => x = .returned .nilIface ∧ w = w' := by
  go_enter Tryd.func8, Tryd.ntmps8
  go_wp2
  go_ret
  exact ⟨rfl, rfl⟩

/-- What Reason and At answer of an error, in this world and in each later one. -/
def Heads (t : TypeId) (v : Value) (r a : Int) (w : World) : Prop := ∀ w1, Below w.heap.size w w1 →
  (Calls Tryd.prog 16 #[.iface t v] w1 fun x w' => x = .returned (.int .i64 r) ∧ Below w1.heap.size w1 w') ∧
  (Calls Tryd.prog 17 #[.iface t v] w1 fun x w' => x = .returned (.int .i64 a) ∧ Below w1.heap.size w1 w')

set_option maxHeartbeats 400000 in
theorem deeper_any (t : TypeId) (v : Value) (r a b : Int) (w : World) (h : Heads t v r a w) :
    Calls Tryd.prog 8 #[.iface t v, .int .i64 b] w fun x w' => ∃ w1, Below w.heap.size w w1 ∧ x = .returned (.iface 29 (.pointer (some ⟨w1.heap.size, 0, none⟩))) ∧ w' = w1.alloc (.cells #[.int .i64 r, .int .i64 (further a b), .iface t v] 31) := by
  have ha := lim_bd a
  have hb := lim_bd b
  have hf : further a b = max 0 (min (lim a + lim b) 9007199254740992) := rfl
  have HF := Lib.hid hf
  clear hf
  generalize further a b = c at *
  generalize hla : lim a = la at *
  generalize hlb : lim b = lb at *
  have HA := Lib.hid hla
  have HB := Lib.hid hlb
  clear hla hlb
  go_enter Tryd.func8, Tryd.ntmps8
  go_wp2_with fail
  refine (h _ (Below.refl _ _)).2.mono ?_
  rintro x w1 ⟨rfl, hb1⟩
  have HB1 := Lib.hid hb1
  clear hb1
  go_wp2_with fail
  refine (limit_any a _).mono ?_
  rintro x w' ⟨rfl, rfl⟩
  rw [HA.out]
  go_wp2_with fail
  refine (limit_any b _).mono ?_
  rintro x w' ⟨rfl, rfl⟩
  rw [HB.out]
  go_wp2_with fail
  refine (h _ HB1.out).1.mono ?_
  rintro x w2 ⟨rfl, hb2⟩
  have HB2 := Lib.hid (HB1.out.trans (hb2.mono HB1.out.size))
  clear hb2
  clear h HA HB
  rcases Int.lt_or_le (la + lb) 0 with h1 | h1 <;> rcases Int.lt_or_le 9007199254740992 (la + lb) with h2 | h2
  all_goals try (exfalso; omega)
  all_goals go_wp2
  all_goals go_ret
  all_goals exact ⟨w2, HB2.out, rfl, by rw [HF.out]; congr; omega⟩
end Go.Proofs.YtekjdmmoongaaaaDoor
