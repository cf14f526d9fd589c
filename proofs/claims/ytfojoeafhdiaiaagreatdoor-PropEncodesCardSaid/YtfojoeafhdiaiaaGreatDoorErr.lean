/- What is proved here: the number, the reason and the place of an error that is a chain of faults over one of the kinds. Condition: the package's errors are seven different errors of errors.New, and errors.errorType holds the handle of the type error. -/
import Derived.Test.YtfojoeafhdiaiaaGreatDoorAt
namespace Go.Proofs.YtfojoeafhdiaiaaGreatDoor
open Go.RowKit Go.Extern.Stop Go.Stop Go.Extern

/-- The variable of the i-th kind. -/
def kindAt : Nat → Nat
  | 0 => 0
  | 1 => 1
  | 2 => 2
  | 3 => 3
  | 4 => 4
  | 5 => 5
  | _ => 6
/-- The package-level variables, as start-up code lays them: seven different errors, and the handle of the type error. -/
structure Env (w : World) (S : Nat → Addr) : Prop where
  kind : ∀ i, i < 7 → w.cell? ⟨kindAt i, 0, none⟩ = some (.iface 149 (.pointer (some (S i))))
  there : ∀ i, i < 7 → ∃ c t, w.heap[(S i).block]? = some (.cells c t (0, 0))
  apart : ∀ i j, i < 7 → j < 7 → i ≠ j → S i ≠ S j
  handle : Handle w

theorem Env.later {w w' : World} {S : Nat → Addr} (h : Env w S) (hb : Below w.heap.size w w') : Env w' S := by
  refine ⟨fun i hi => ?_, fun i hi => ?_, h.apart, ?_⟩
  · rw [hb.cell (p := ⟨kindAt i, 0, none⟩) (lt_of_cell (h.kind i hi))]; exact h.kind i hi
  · obtain ⟨c, t, hc⟩ := h.there i hi
    exact ⟨c, t, (hb.block _ (lt_of_block hc)).trans hc⟩
  · unfold Handle
    rw [hb.cell (p := ⟨7, 0, none⟩) (lt_of_cell h.handle)]; exact h.handle

theorem Env.kShort {w : World} {S : Nat → Addr} (h : Env w S) : w.cell? ⟨0, 0, none⟩ = some (.iface 149 (.pointer (some (S 0)))) := h.kind 0 (by omega)
theorem Env.kMalformed {w : World} {S : Nat → Addr} (h : Env w S) : w.cell? ⟨1, 0, none⟩ = some (.iface 149 (.pointer (some (S 1)))) := h.kind 1 (by omega)
theorem Env.kProtocol {w : World} {S : Nat → Addr} (h : Env w S) : w.cell? ⟨2, 0, none⟩ = some (.iface 149 (.pointer (some (S 2)))) := h.kind 2 (by omega)
theorem Env.kTooLarge {w : World} {S : Nat → Addr} (h : Env w S) : w.cell? ⟨3, 0, none⟩ = some (.iface 149 (.pointer (some (S 3)))) := h.kind 3 (by omega)
theorem Env.kQuota {w : World} {S : Nat → Addr} (h : Env w S) : w.cell? ⟨4, 0, none⟩ = some (.iface 149 (.pointer (some (S 4)))) := h.kind 4 (by omega)
theorem Env.kState {w : World} {S : Nat → Addr} (h : Env w S) : w.cell? ⟨5, 0, none⟩ = some (.iface 149 (.pointer (some (S 5)))) := h.kind 5 (by omega)
theorem Env.kArgument {w : World} {S : Nat → Addr} (h : Env w S) : w.cell? ⟨6, 0, none⟩ = some (.iface 149 (.pointer (some (S 6)))) := h.kind 6 (by omega)

theorem Below.one (w : World) (o : Obj) : Below w.heap.size w (w.alloc o) := (Below.refl _ _).alloc (Nat.le_refl _) _

theorem is_yes {w : World} {S : Nat → Addr} (h : Env w S) (i : Nat) {l : List (Int × Int)} {t : TypeId} {v : Value} (hc : Chain w (.iface 149 (.pointer (some (S i)))) w.heap.size l (.iface t v)) :
    IsSays (.iface t v) (S i) true (w.alloc (.cells #[.int .i64 0] 39)) :=
  have _ := h
  Is_same _ l _ _ _ (hc.later (Below.one w _) (Nat.le_refl _))
theorem is_no {w : World} {S : Nat → Addr} (h : Env w S) {s : Addr} (j : Nat) (hj : j < 7) (hs : ∃ c t, w.heap[s.block]? = some (.cells c t (0, 0))) (hne : s ≠ S j) {l : List (Int × Int)} {t : TypeId} {v : Value} (hc : Chain w (.iface 149 (.pointer (some s))) w.heap.size l (.iface t v)) :
    IsSays (.iface t v) (S j) false (w.alloc (.cells #[.int .i64 0] 39)) := by
  obtain ⟨cs, ts, hs⟩ := hs
  obtain ⟨cb, tb, hb⟩ := h.there j hj
  have one := Below.one w (.cells #[.int .i64 0] 39)
  have h1 := (one.block _ (lt_of_block hs)).trans hs
  have h2 := (one.block _ (lt_of_block hb)).trans hb
  exact Is_other w.heap.size l (.iface t v) s (S j) (w.alloc (.cells #[.int .i64 0] 39)) cs cb ts tb (hc.later one (Nat.le_refl _)) hne h1 h2
theorem ends_yes {w : World} {s : Addr} {l : List (Int × Int)} {t : TypeId} {v : Value} (hc : Chain w (.iface 149 (.pointer (some s))) w.heap.size l (.iface t v)) :
    EndsSays (.iface t v) (w.alloc (.cells #[.int .i64 0] 39)) :=
  ends_chain _ l _ _ _ (hc.later (Below.one w _) (Nat.le_refl _))

/-- The number of a chain at whose end stands the i-th kind. -/
theorem number_kind {w : World} {S : Nat → Addr} (h : Env w S) (i : Nat) (hi : i < 7) {l : List (Int × Int)} {e : Value} (hc : Chain w (.iface 149 (.pointer (some (S i)))) w.heap.size l e) :
    Calls Tryz.prog 25 #[e] w fun x w' => x = .returned (.int .i64 (i + 1 : Nat)) ∧ Below w.heap.size w w' := by
  obtain ⟨t, v, rfl⟩ := hc.iface
  have k := (h.later (Below.one w (.cells #[.int .i64 0] 39))).kind
  have yes := is_yes h i hc
  have no := fun j hj (hne : i ≠ j) => is_no h j hj (h.there i hi) (h.apart i j hi hj hne) hc
  have he := ends_yes hc
  clear hc h
  have K := fun j (hj : j < 7) => show Kind (w.alloc (.cells #[.int .i64 0] 39)) (kindAt j) (S j) from k j hj
  clear k
  rcases (show i = 0 ∨ i = 1 ∨ i = 2 ∨ i = 3 ∨ i = 4 ∨ i = 5 ∨ i = 6 by omega) with rfl | rfl | rfl | rfl | rfl | rfl | rfl
  · exact (number_1 t v _ w he (K 0 (by omega)) yes).mono fun _ _ h => ⟨h.1, h.2⟩
  · exact (number_2 t v _ _ w he (K 0 (by omega)) (no 0 (by omega) (by omega)) (K 1 (by omega)) yes).mono fun _ _ h => ⟨h.1, h.2⟩
  · exact (number_3 t v _ _ _ w he (K 0 (by omega)) (no 0 (by omega) (by omega)) (K 1 (by omega)) (no 1 (by omega) (by omega)) (K 2 (by omega)) yes).mono fun _ _ h => ⟨h.1, h.2⟩
  · exact (number_4 t v _ _ _ _ w he (K 0 (by omega)) (no 0 (by omega) (by omega)) (K 1 (by omega)) (no 1 (by omega) (by omega)) (K 2 (by omega)) (no 2 (by omega) (by omega)) (K 3 (by omega)) yes).mono fun _ _ h => ⟨h.1, h.2⟩
  · exact (number_5 t v _ _ _ _ _ w he (K 0 (by omega)) (no 0 (by omega) (by omega)) (K 1 (by omega)) (no 1 (by omega) (by omega)) (K 2 (by omega)) (no 2 (by omega) (by omega)) (K 3 (by omega)) (no 3 (by omega) (by omega)) (K 4 (by omega)) yes).mono fun _ _ h => ⟨h.1, h.2⟩
  · exact (number_6 t v _ _ _ _ _ _ w he (K 0 (by omega)) (no 0 (by omega) (by omega)) (K 1 (by omega)) (no 1 (by omega) (by omega)) (K 2 (by omega)) (no 2 (by omega) (by omega)) (K 3 (by omega)) (no 3 (by omega) (by omega)) (K 4 (by omega)) (no 4 (by omega) (by omega)) (K 5 (by omega)) yes).mono fun _ _ h => ⟨h.1, h.2⟩
  · exact (number_7 t v _ _ _ _ _ _ _ w he (K 0 (by omega)) (no 0 (by omega) (by omega)) (K 1 (by omega)) (no 1 (by omega) (by omega)) (K 2 (by omega)) (no 2 (by omega) (by omega)) (K 3 (by omega)) (no 3 (by omega) (by omega)) (K 4 (by omega)) (no 4 (by omega) (by omega)) (K 5 (by omega)) (no 5 (by omega) (by omega)) (K 6 (by omega)) yes).mono fun _ _ h => ⟨h.1, h.2⟩

/-- The number of a chain at whose end stands another error. -/
theorem number_other {w : World} {S : Nat → Addr} (h : Env w S) {s : Addr} (hs : ∃ c t, w.heap[s.block]? = some (.cells c t (0, 0))) (hne : ∀ j, j < 7 → s ≠ S j) {l : List (Int × Int)} {e : Value} (hc : Chain w (.iface 149 (.pointer (some s))) w.heap.size l e) :
    Calls Tryz.prog 25 #[e] w fun x w' => x = .returned (.int .i64 8) ∧ Below w.heap.size w w' := by
  obtain ⟨t, v, rfl⟩ := hc.iface
  have k := (h.later (Below.one w (.cells #[.int .i64 0] 39))).kind
  have K := fun j (hj : j < 7) => show Kind (w.alloc (.cells #[.int .i64 0] 39)) (kindAt j) (S j) from k j hj
  have no := fun j hj => is_no h j hj hs (hne j hj) hc
  have he := ends_yes hc
  exact number_8 t v _ _ _ _ _ _ _ w he (K 0 (by omega)) (no 0 (by omega)) (K 1 (by omega)) (no 1 (by omega)) (K 2 (by omega)) (no 2 (by omega)) (K 3 (by omega)) (no 3 (by omega)) (K 4 (by omega)) (no 4 (by omega)) (K 5 (by omega)) (no 5 (by omega)) (K 6 (by omega)) (no 6 (by omega))

/-- Reason and At on a chain. -/
theorem reason_chain {w : World} (hg : Handle w) {leaf : Value} {r a : Int} {B : Nat} {l : List (Int × Int)} {e : Value} (hc : Chain w leaf B ((r, a) :: l) e) :
    Calls Tryz.prog 36 #[e] w fun x w' => x = .returned (.int .i64 r) ∧ Below w.heap.size w w' := by
  obtain ⟨k, e', hk, rfl, hb, hc'⟩ := hc
  exact reason_fault k r a e' w hg hb
theorem at_chain {w : World} (hg : Handle w) {leaf : Value} {r a : Int} {B : Nat} {l : List (Int × Int)} {e : Value} (hc : Chain w leaf B ((r, a) :: l) e) :
    Calls Tryz.prog 26 #[e] w fun x w' => x = .returned (.int .i64 a) ∧ Below w.heap.size w w' := by
  obtain ⟨k, e', hk, rfl, hb, hc'⟩ := hc
  exact at_fault k r a e' w hg hb
/-- New, with a kind. -/
theorem new_chain {w : World} {S : Nat → Addr} (i : Nat) (r a : Int) :
    Calls Tryz.prog 65 #[.int .i64 r, .int .i64 a, .iface 149 (.pointer (some (S i)))] w fun x w' => ∃ e', x = .returned e' ∧ Chain w' (.iface 149 (.pointer (some (S i)))) w'.heap.size [(r, a)] e' ∧ Below w.heap.size w w' := by
  refine (new_any r a 149 (.pointer (some (S i))) w).mono ?_
  rintro x w' ⟨rfl, rfl⟩
  exact ⟨_, rfl, ⟨w.heap.size, _, by rw [World.size_alloc]; omega, rfl, (MapKept.heap_alloc w _).1, rfl⟩, Below.one w _⟩

/-- An error of the i-th kind, with its reason and its place. -/
def ErrIs (w : World) (S : Nat → Addr) (i : Nat) (r a : Int) (e : Value) : Prop := ∃ l, Chain w (.iface 149 (.pointer (some (S i)))) w.heap.size ((r, a) :: l) e
theorem ErrIs.later {w w' : World} {S : Nat → Addr} {i : Nat} {r a : Int} {e : Value} (h : ErrIs w S i r a e) (hb : Below w.heap.size w w') : ErrIs w' S i r a e := by
  obtain ⟨l, hc⟩ := h
  exact ⟨l, (hc.later hb (Nat.le_refl _)).mono hb.size⟩
theorem ErrIs.iface {w : World} {S : Nat → Addr} {i : Nat} {r a : Int} {e : Value} (h : ErrIs w S i r a e) : ∃ t v, e = .iface t v := by
  obtain ⟨l, hc⟩ := h
  exact hc.iface
theorem number_err {w : World} {S : Nat → Addr} (h : Env w S) {i : Nat} {r a : Int} {e : Value} (hi : i < 7) (he : ErrIs w S i r a e) :
    Calls Tryz.prog 25 #[e] w fun x w' => x = .returned (.int .i64 (i + 1 : Nat)) ∧ Below w.heap.size w w' := by
  obtain ⟨l, hc⟩ := he
  exact number_kind h i hi hc
theorem reason_err {w : World} {S : Nat → Addr} (h : Env w S) {i : Nat} {r a : Int} {e : Value} (he : ErrIs w S i r a e) :
    Calls Tryz.prog 36 #[e] w fun x w' => x = .returned (.int .i64 r) ∧ Below w.heap.size w w' := by
  obtain ⟨l, hc⟩ := he
  exact reason_chain h.handle hc
theorem at_err {w : World} {S : Nat → Addr} (h : Env w S) {i : Nat} {r a : Int} {e : Value} (he : ErrIs w S i r a e) :
    Calls Tryz.prog 26 #[e] w fun x w' => x = .returned (.int .i64 a) ∧ Below w.heap.size w w' := by
  obtain ⟨l, hc⟩ := he
  exact at_chain h.handle hc
/-- New makes one. -/
theorem new_err {w : World} (S : Nat → Addr) (i : Nat) (r a : Int) :
    Calls Tryz.prog 65 #[.int .i64 r, .int .i64 a, .iface 149 (.pointer (some (S i)))] w fun x w' => ∃ e, x = .returned e ∧ ErrIs w' S i r a e ∧ Below w.heap.size w w' := by
  refine (new_chain i r a).mono ?_
  rintro x w' ⟨e, rfl, hc, hb⟩
  exact ⟨e, rfl, ⟨[], hc⟩, hb⟩
/-- What a call tells: its error's number (0: none), and where it is; its reason is r. -/
def ErrOf (w : World) (S : Nat → Addr) (r : Int) (no at_ : Nat) (e : Value) : Prop := if no = 0 then e = .nilIface else no ≤ 7 ∧ ErrIs w S (no - 1) r at_ e
theorem ErrOf.later {w w' : World} {S : Nat → Addr} {r : Int} {no a : Nat} {e : Value} (h : ErrOf w S r no a e) (hb : Below w.heap.size w w') : ErrOf w' S r no a e := by
  unfold ErrOf at *
  split
  · rename_i h0; rw [if_pos h0] at h; exact h
  · rename_i h0; rw [if_neg h0] at h; exact ⟨h.1, h.2.later hb⟩
theorem ErrOf.none {w : World} {S : Nat → Addr} {r : Int} {a : Nat} : ErrOf w S r 0 a .nilIface := by unfold ErrOf; rw [if_pos rfl]
theorem ErrOf.some {w : World} {S : Nat → Addr} {r : Int} {no a : Nat} {e : Value} (hn : 1 ≤ no) (h7 : no ≤ 7) (h : ErrIs w S (no - 1) r a e) : ErrOf w S r no a e := by
  unfold ErrOf; rw [if_neg (by omega)]; exact ⟨h7, h⟩
theorem ErrOf.is {w : World} {S : Nat → Addr} {r : Int} {no a : Nat} {e : Value} (h : ErrOf w S r no a e) (h0 : no ≠ 0) : ErrIs w S (no - 1) r a e := by
  unfold ErrOf at h; rw [if_neg h0] at h; exact h.2
theorem number_of {w : World} {S : Nat → Addr} (h : Env w S) {r : Int} {no a : Nat} {e : Value} (he : ErrOf w S r no a e) :
    Calls Tryz.prog 25 #[e] w fun x w' => x = .returned (.int .i64 no) ∧ Below w.heap.size w w' := by
  unfold ErrOf at he
  split at he
  · rename_i h0; subst h0; subst he; exact number_nil w
  · rename_i h0
    refine (number_err h (by omega) he.2).mono ?_
    rintro x w' ⟨rfl, hb⟩
    have e : no - 1 + 1 = no := by omega
    rw [e]
    exact ⟨rfl, hb⟩
end Go.Proofs.YtfojoeafhdiaiaaGreatDoor
