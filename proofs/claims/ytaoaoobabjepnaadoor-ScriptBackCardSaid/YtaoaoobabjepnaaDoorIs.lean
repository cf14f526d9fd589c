/- What is proved here: errors.Is, asked of a chain of faults that ends in an error of errors.New, finds a second such error just if it is the very one at the chain's end. No conditions beyond those that each theorem names. -/
import Derived.Test.YtaoaoobabjepnaaDoorProg
import Derived.WalkKit
import Derived.LaidEql
import Derived.LaidEqlPtr
import Derived.Stop.Asserts
import Derived.RowKitTokens
import Derived.Lib.Hide
import Derived.Below
import Derived.OneCell
import Derived.Deep.LoopGhost
import Derived.WalkSpells
import Derived.WalkLawsBesides
import Derived.Outline
namespace Go.Proofs.YtaoaoobabjepnaaDoor
open Go.RowKit Go.Extern.Stop Go.Stop Go.Extern

/-- A chain of faults, each in a block of its own, the outer ones in later blocks; 'leaf' is what the last one wraps. -/
def Chain (w : World) (leaf : Value) : Nat → List (Int × Int) → Value → Prop
  | _, [], e => e = leaf
  | b, (r, a) :: l, e => ∃ (k : Nat) (e' : Value), k < b ∧ e = .iface 84 (.pointer (some ⟨k, 0, none⟩)) ∧ w.heap[k]? = some (.cells #[.int .i64 r, .int .i64 a, e'] 87 (0, 0)) ∧ Chain w leaf k l e'

theorem Chain.mono {w : World} {leaf : Value} {b b' : Nat} {l : List (Int × Int)} {e : Value} (h : Chain w leaf b l e) (hb : b ≤ b') : Chain w leaf b' l e := by
  cases l with
  | nil => exact h
  | cons x l =>
    obtain ⟨k, e', h1, h2⟩ := h
    exact ⟨k, e', Nat.lt_of_lt_of_le h1 hb, h2⟩

theorem Chain.later {w w' : World} {leaf : Value} {B : Nat} (hb : Below B w w') : ∀ {l : List (Int × Int)} {b : Nat} {e : Value}, b ≤ B → Chain w leaf b l e → Chain w' leaf b l e
  | [], _, _, _, h => h
  | (_, _) :: _, _, _, hB, ⟨k, e', h1, h2, h3, h4⟩ => ⟨k, e', h1, h2, (hb.block k (by omega)).trans h3, Chain.later hb (by omega) h4⟩

theorem Chain.iface {w : World} {s : Addr} {b : Nat} {l : List (Int × Int)} {e : Value} (h : Chain w (.iface 135 (.pointer (some s))) b l e) : ∃ t v, e = .iface t v := by
  cases l with
  | nil => exact ⟨_, _, h⟩
  | cons x l =>
    obtain ⟨k, e', h1, h2, h3⟩ := h
    exact ⟨_, _, h2⟩

theorem Tryd.isTypeOf (v : Value) (w : World) : (Extern.ReflectliteType.typeOf #[.iface 135 v]).run Tryd.prog w = .ok (.iface 114 (.agg #[.pointer (some ⟨8, 135, none⟩)])) w := by kernel_rfl
def comparableRow : Array Value → Sem Value := Extern.ReflectliteType.method fun t => do
  Extern.Rtype.noPackHeld "Comparable" t
  pure (.bool (← typeInfo t).comparable)
theorem Tryd.isComparable (w : World) : (comparableRow #[.agg #[.pointer (some ⟨8, 135, none⟩)]]).run Tryd.prog w = .ok (.bool true) w := by kernel_rfl
theorem Tryd.isMethodComparable (v : Value) (w : World) : (Go.method 267 114 v "Comparable").run Tryd.prog w = .ok (99, v) w := by kernel_rfl
theorem Tryd.isComp : (Tryd.prog.info? 135).map (·.comparable) = some true := by kernel_rfl
theorem Tryd.isSize : (Tryd.prog.info? 155).map (·.size) = some 1 := by kernel_rfl
theorem Tryd.noIsE (v : Value) (xT : TypeId) (w : World) : (Instr.typeAssert (.iface 135 v) xT 116 true).run Tryd.prog w = .ok (.tuple #[.nilIface, .bool false]) w := run_typeAssert_lacksB Tryd.underlying116 (by kernel_rfl) (by kernel_rfl) v xT w
theorem Tryd.noUnwrapE (v : Value) (xT : TypeId) (w : World) : (Instr.typeAssert (.iface 135 v) xT 111 true).run Tryd.prog w = .ok (.tuple #[.nilIface, .bool false]) w := run_typeAssert_lacksB Tryd.underlying111 (by kernel_rfl) (by kernel_rfl) v xT w
theorem Tryd.noUnwrapsE (v : Value) (xT : TypeId) (w : World) : (Instr.typeAssert (.iface 135 v) xT 95 true).run Tryd.prog w = .ok (.tuple #[.nilIface, .bool false]) w := run_typeAssert_lacksB Tryd.underlying95 (by kernel_rfl) (by kernel_rfl) v xT w
theorem Tryd.noIsF (v : Value) (xT : TypeId) (w : World) : (Instr.typeAssert (.iface 84 v) xT 116 true).run Tryd.prog w = .ok (.tuple #[.nilIface, .bool false]) w := run_typeAssert_lacksB Tryd.underlying116 (by kernel_rfl) (by kernel_rfl) v xT w
theorem Tryd.hasUnwrapF (v : Value) (xT : TypeId) (w : World) : (Instr.typeAssert (.iface 84 v) xT 111 true).run Tryd.prog w = .ok (.tuple #[.iface 84 v, .bool true]) w := run_typeAssert_hasB Tryd.underlying111 (by kernel_rfl) v xT w
theorem Tryd.noUnwrapsF (v : Value) (xT : TypeId) (w : World) : (Instr.typeAssert (.iface 84 v) xT 95 true).run Tryd.prog w = .ok (.tuple #[.nilIface, .bool false]) w := run_typeAssert_lacksB Tryd.underlying95 (by kernel_rfl) (by kernel_rfl) v xT w
theorem Tryd.methodUnwrap (v : Value) (w : World) : (Go.method 267 84 v "Unwrap").run Tryd.prog w = .ok (96, v) w := by kernel_rfl

theorem cell_block {w : World} {k : Nat} {c : Array Value} {t : TypeId} {m : Nat × Nat} (h : w.heap[k]? = some (.cells c t m)) (i : Nat) : w.cell? ⟨k, i, none⟩ = c[i]? := by
  simp [World.cell?, h]

/-- (*Fault).Unwrap at a fault that is there. -/
theorem unwrap_any (k : Nat) (r a : Int) (e : Value) (w : World) (h : w.heap[k]? = some (.cells #[.int .i64 r, .int .i64 a, e] 87 (0, 0))) :
    Calls Tryd.prog 96 #[.pointer (some ⟨k, 0, none⟩)] w fun x w' => x = .returned e ∧ w = w' := by
  have h2 : w.cell? ⟨k, 2, none⟩ = some e := by rw [cell_block h]; rfl
  clear h
  go_enter Tryd.func96, Tryd.ntmps96
  go_wp2
  go_ret
  exact ⟨rfl, rfl⟩
theorem unwrap_nil (w : World) :
    Calls Tryd.prog 96 #[.pointer none] w fun x w' => x = .returned .nilIface ∧ w = w' := by
  go_enter Tryd.func96, Tryd.ntmps96
  go_wp2
  go_ret
  exact ⟨rfl, rfl⟩

/-- errors.is on a chain: 'hit' says whether the error at its end is the one that is asked for. -/
theorem is_chain (hit : Bool) (B : Nat) (l : List (Int × Int)) (e : Value) (s b : Addr) (w : World)
    (hc : Chain w (.iface 135 (.pointer (some s))) B l e)
    (heq : (Go.binOp .eql 27 (.iface 135 (.pointer (some s))) (.iface 135 (.pointer (some b)))).run Tryd.prog w = .ok (.bool hit) w) :
    Calls Tryd.prog 60 #[e, .iface 135 (.pointer (some b)), .bool true] w fun x w' => x = .returned (.bool hit) ∧ w = w' := by
  have nE := Tryd.noIsE
  have uE := Tryd.noUnwrapE
  have vE := Tryd.noUnwrapsE
  have nF := Tryd.noIsF
  have uF := Tryd.hasUnwrapF
  have mU := Tryd.methodUnwrap
  have hty := fun v => run_eql_iface_types (P := Tryd.prog) 84 135 v (.pointer (some b)) Tryd.underlying27 (by decide) w
  go_enter Tryd.func60, Tryd.ntmps60
  go_wp2
  go_loopg [0] l.length (fun k e wr => w = wr ∧ ∃ (B : Nat) (l : List (Int × Int)), k = l.length ∧ Chain w (.iface 135 (.pointer (some s))) B l e)
  case atStart => exact ⟨rfl, B, l, rfl, hc⟩
  case round =>
    obtain ⟨rfl, B, l, rfl, hc⟩ := hrel
    cases l with
    | nil =>
      obtain rfl := hc
      cases hit
      · go_wp2
        go_ret
        exact ⟨rfl, rfl⟩
      · go_wp2
        go_ret
        exact ⟨rfl, rfl⟩
    | cons x l =>
      obtain ⟨r, a⟩ := x
      obtain ⟨k, e', hk, rfl, hb, hc'⟩ := hc
      obtain ⟨t, v, rfl⟩ := hc'.iface
      have Hb := Lib.hid hb
      have Hc := Lib.hid hc'
      clear hb hc' hk
      go_wp2_with (go_at_call 96; refine (unwrap_any k r a _ _ Hb.out).mono ?_; rintro x w' ⟨rfl, rfl⟩)
      go_roundg l.length
      case rel => exact ⟨rfl, k, l, rfl, Hc.out⟩
      case measure => simp

/-- errors.Is on a chain. -/
theorem Is_chain (hit : Bool) (B : Nat) (l : List (Int × Int)) (e : Value) (s b : Addr) (w : World)
    (hc : Chain w (.iface 135 (.pointer (some s))) B l e)
    (heq : (Go.binOp .eql 27 (.iface 135 (.pointer (some s))) (.iface 135 (.pointer (some b)))).run Tryd.prog w = .ok (.bool hit) w) :
    Calls Tryd.prog 40 #[e, .iface 135 (.pointer (some b))] w fun x w' => x = .returned (.bool hit) ∧ w = w' := by
  have h26 := @run_callFunc_extern Tryd.prog 59 _ Extern.ReflectliteType.typeOf Tryd.func59 (by kernel_rfl) (by kernel_rfl) (by kernel_rfl) (by kernel_rfl)
  have h74 := @run_callFunc_extern Tryd.prog 99 _ comparableRow Tryd.func99 (by kernel_rfl) (by kernel_rfl) (by kernel_rfl) (by kernel_rfl)
  have tT := Tryd.isTypeOf
  have cT := Tryd.isComparable
  have mR := Tryd.isMethodComparable
  have HE := Lib.hid heq
  clear heq
  obtain ⟨t, v, rfl⟩ := hc.iface
  have HC := Lib.hid hc
  clear hc
  go_enter Tryd.func40, Tryd.ntmps40
  go_wp2_with (go_at_call 60; refine (is_chain hit B l _ s b _ HC.out HE.out).mono ?_; rintro x w' ⟨rfl, rfl⟩)
  go_ret
  exact ⟨rfl, rfl⟩

/-- The same pointer. -/
theorem Is_same (B : Nat) (l : List (Int × Int)) (e : Value) (s : Addr) (w : World)
    (hc : Chain w (.iface 135 (.pointer (some s))) B l e) :
    Calls Tryd.prog 40 #[e, .iface 135 (.pointer (some s))] w fun x w' => x = .returned (.bool true) ∧ w = w' := by
  obtain ⟨i, hi, hcmp⟩ := Option.map_eq_some_iff.1 Tryd.isComp
  obtain ⟨j, hj, hjs⟩ := Option.map_eq_some_iff.1 Tryd.isSize
  exact Is_chain true B l e s s w hc (run_eql_iface_ptr_same (P := Tryd.prog) w s Tryd.underlying27 Tryd.underlying135 hi hcmp hj)

/-- Two different pointers. -/
theorem Is_other (B : Nat) (l : List (Int × Int)) (e : Value) (s b : Addr) (w : World) (cs cb : Array Value) (ts tb : TypeId)
    (hc : Chain w (.iface 135 (.pointer (some s))) B l e) (hne : s ≠ b)
    (hs : w.heap[s.block]? = some (.cells cs ts (0, 0))) (hb : w.heap[b.block]? = some (.cells cb tb (0, 0))) :
    Calls Tryd.prog 40 #[e, .iface 135 (.pointer (some b))] w fun x w' => x = .returned (.bool false) ∧ w = w' := by
  obtain ⟨i, hi, hcmp⟩ := Option.map_eq_some_iff.1 Tryd.isComp
  obtain ⟨j, hj, hjs⟩ := Option.map_eq_some_iff.1 Tryd.isSize
  exact Is_chain false B l e s b w hc (run_eql_iface_ptr_other (P := Tryd.prog) w Tryd.underlying27 Tryd.underlying135 hi hcmp hj (by rw [hjs]; decide) hne hs hb)
end Go.Proofs.YtaoaoobabjepnaaDoor
