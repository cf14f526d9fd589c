/- What is proved here: errors.Is, asked of a chain of faults that ends in an error of errors.New, finds a second such error just if it is the very one at the chain's end. No conditions beyond those that each theorem names. -/
import Derived.Test.YtnolnhpmpjgnaaaGreatDoorProg
import Derived.WalkKit
import Derived.LaidEql
import Derived.LaidEqlPtr
import Derived.Stop.Asserts
import Derived.RowKitTokens
import Derived.Lib.Hide
import Derived.Below
import Derived.OneCell
import Derived.Deep.LoopGhost
import Derived.WalkSpells
import Derived.WalkLawsBesides
import Derived.Outline
namespace Go.Proofs.YtnolnhpmpjgnaaaGreatDoor
open Go.RowKit Go.Extern.Stop Go.Stop Go.Extern

/-- A chain of faults, each in a block of its own, the outer ones in later blocks; 'leaf' is what the last one wraps. -/
def Chain (w : World) (leaf : Value) : Nat → List (Int × Int) → Value → Prop
  | _, [], e => e = leaf
  | b, (r, a) :: l, e => ∃ (k : Nat) (e' : Value), k < b ∧ e = .iface 94 (.pointer (some ⟨k, 0, none⟩)) ∧ w.heap[k]? = some (.cells #[.int .i64 r, .int .i64 a, e'] 96 (0, 0)) ∧ Chain w leaf k l e'

theorem Chain.mono {w : World} {leaf : Value} {b b' : Nat} {l : List (Int × Int)} {e : Value} (h : Chain w leaf b l e) (hb : b ≤ b') : Chain w leaf b' l e := by
  cases l with
  | nil => exact h
  | cons x l =>
    obtain ⟨k, e', h1, h2⟩ := h
    exact ⟨k, e', Nat.lt_of_lt_of_le h1 hb, h2⟩

theorem Chain.later {w w' : World} {leaf : Value} {B : Nat} (hb : Below B w w') : ∀ {l : List (Int × Int)} {b : Nat} {e : Value}, b ≤ B → Chain w leaf b l e → Chain w' leaf b l e
  | [], _, _, _, h => h
  | (_, _) :: _, _, _, hB, ⟨k, e', h1, h2, h3, h4⟩ => ⟨k, e', h1, h2, (hb.block k (by omega)).trans h3, Chain.later hb (by omega) h4⟩

theorem Chain.iface {w : World} {s : Addr} {b : Nat} {l : List (Int × Int)} {e : Value} (h : Chain w (.iface 188 (.pointer (some s))) b l e) : ∃ t v, e = .iface t v := by
  cases l with
  | nil => exact ⟨_, _, h⟩
  | cons x l =>
    obtain ⟨k, e', h1, h2, h3⟩ := h
    exact ⟨_, _, h2⟩

theorem Tryz.isTypeOf (v : Value) (w : World) : (Extern.ReflectliteType.typeOf #[.iface 188 v]).run Tryz.prog w = .ok (.iface 157 (.agg #[.pointer (some ⟨8, 188, none⟩)])) w := by kernel_rfl
def comparableRow : Array Value → Sem Value := Extern.ReflectliteType.method fun t => do
  Extern.Rtype.noPackHeld "Comparable" t
  pure (.bool (← typeInfo t).comparable)
theorem Tryz.isComparable (w : World) : (comparableRow #[.agg #[.pointer (some ⟨8, 188, none⟩)]]).run Tryz.prog w = .ok (.bool true) w := by kernel_rfl
theorem Tryz.isMethodComparable (v : Value) (w : World) : (Go.method 319 157 v "Comparable").run Tryz.prog w = .ok (158, v) w := by kernel_rfl
theorem Tryz.isComp : (Tryz.prog.info? 188).map (·.comparable) = some true := by kernel_rfl
theorem Tryz.isSize : (Tryz.prog.info? 208).map (·.size) = some 1 := by kernel_rfl
theorem Tryz.noIsE (v : Value) (xT : TypeId) (w : World) : (Instr.typeAssert (.iface 188 v) xT 159 true).run Tryz.prog w = .ok (.tuple #[.nilIface, .bool false]) w := run_typeAssert_lacksB Tryz.underlying159 (by kernel_rfl) (by kernel_rfl) v xT w
theorem Tryz.noUnwrapE (v : Value) (xT : TypeId) (w : World) : (Instr.typeAssert (.iface 188 v) xT 154 true).run Tryz.prog w = .ok (.tuple #[.nilIface, .bool false]) w := run_typeAssert_lacksB Tryz.underlying154 (by kernel_rfl) (by kernel_rfl) v xT w
theorem Tryz.noUnwrapsE (v : Value) (xT : TypeId) (w : World) : (Instr.typeAssert (.iface 188 v) xT 126 true).run Tryz.prog w = .ok (.tuple #[.nilIface, .bool false]) w := run_typeAssert_lacksB Tryz.underlying126 (by kernel_rfl) (by kernel_rfl) v xT w
theorem Tryz.noIsF (v : Value) (xT : TypeId) (w : World) : (Instr.typeAssert (.iface 94 v) xT 159 true).run Tryz.prog w = .ok (.tuple #[.nilIface, .bool false]) w := run_typeAssert_lacksB Tryz.underlying159 (by kernel_rfl) (by kernel_rfl) v xT w
theorem Tryz.hasUnwrapF (v : Value) (xT : TypeId) (w : World) : (Instr.typeAssert (.iface 94 v) xT 154 true).run Tryz.prog w = .ok (.tuple #[.iface 94 v, .bool true]) w := run_typeAssert_hasB Tryz.underlying154 (by kernel_rfl) v xT w
theorem Tryz.noUnwrapsF (v : Value) (xT : TypeId) (w : World) : (Instr.typeAssert (.iface 94 v) xT 126 true).run Tryz.prog w = .ok (.tuple #[.nilIface, .bool false]) w := run_typeAssert_lacksB Tryz.underlying126 (by kernel_rfl) (by kernel_rfl) v xT w
theorem Tryz.methodUnwrap (v : Value) (w : World) : (Go.method 319 94 v "Unwrap").run Tryz.prog w = .ok (155, v) w := by kernel_rfl

theorem cell_block {w : World} {k : Nat} {c : Array Value} {t : TypeId} {m : Nat × Nat} (h : w.heap[k]? = some (.cells c t m)) (i : Nat) : w.cell? ⟨k, i, none⟩ = c[i]? := by
  simp [World.cell?, h]

/-- (*Fault).Unwrap at a fault that is there. -/
theorem unwrap_any (k : Nat) (r a : Int) (e : Value) (w : World) (h : w.heap[k]? = some (.cells #[.int .i64 r, .int .i64 a, e] 96 (0, 0))) :
    Calls Tryz.prog 155 #[.pointer (some ⟨k, 0, none⟩)] w fun x w' => x = .returned e ∧ w = w' := by
  have h2 : w.cell? ⟨k, 2, none⟩ = some e := by rw [cell_block h]; rfl
  clear h
  go_enter Tryz.func155, Tryz.ntmps155
  go_wp2
  go_ret
  exact ⟨rfl, rfl⟩
theorem unwrap_nil (w : World) :
    Calls Tryz.prog 155 #[.pointer none] w fun x w' => x = .returned .nilIface ∧ w = w' := by
  go_enter Tryz.func155, Tryz.ntmps155
  go_wp2
  go_ret
  exact ⟨rfl, rfl⟩

/-- errors.is on a chain: 'hit' says whether the error at its end is the one that is asked for. -/
theorem is_chain (hit : Bool) (B : Nat) (l : List (Int × Int)) (e : Value) (s b : Addr) (w : World)
    (hc : Chain w (.iface 188 (.pointer (some s))) B l e)
    (heq : (Go.binOp .eql 29 (.iface 188 (.pointer (some s))) (.iface 188 (.pointer (some b)))).run Tryz.prog w = .ok (.bool hit) w) :
    Calls Tryz.prog 85 #[e, .iface 188 (.pointer (some b)), .bool true] w fun x w' => x = .returned (.bool hit) ∧ w = w' := by
  have nE := Tryz.noIsE
  have uE := Tryz.noUnwrapE
  have vE := Tryz.noUnwrapsE
  have nF := Tryz.noIsF
  have uF := Tryz.hasUnwrapF
  have mU := Tryz.methodUnwrap
  have hty := fun v => run_eql_iface_types (P := Tryz.prog) 94 188 v (.pointer (some b)) Tryz.underlying29 (by decide) w
  go_enter Tryz.func85, Tryz.ntmps85
  go_wp2
  go_loopg [0] l.length (fun k e wr => w = wr ∧ ∃ (B : Nat) (l : List (Int × Int)), k = l.length ∧ Chain w (.iface 188 (.pointer (some s))) B l e)
  case atStart => exact ⟨rfl, B, l, rfl, hc⟩
  case round =>
    obtain ⟨rfl, B, l, rfl, hc⟩ := hrel
    cases l with
    | nil =>
      obtain rfl := hc
      cases hit
      · go_wp2
        go_ret
        exact ⟨rfl, rfl⟩
      · go_wp2
        go_ret
        exact ⟨rfl, rfl⟩
    | cons x l =>
      obtain ⟨r, a⟩ := x
      obtain ⟨k, e', hk, rfl, hb, hc'⟩ := hc
      obtain ⟨t, v, rfl⟩ := hc'.iface
      have Hb := Lib.hid hb
      have Hc := Lib.hid hc'
      clear hb hc' hk
      go_wp2_with (go_at_call 155; refine (unwrap_any k r a _ _ Hb.out).mono ?_; rintro x w' ⟨rfl, rfl⟩)
      go_roundg l.length
      case rel => exact ⟨rfl, k, l, rfl, Hc.out⟩
      case measure => simp

/-- errors.Is on a chain. -/
theorem Is_chain (hit : Bool) (B : Nat) (l : List (Int × Int)) (e : Value) (s b : Addr) (w : World)
    (hc : Chain w (.iface 188 (.pointer (some s))) B l e)
    (heq : (Go.binOp .eql 29 (.iface 188 (.pointer (some s))) (.iface 188 (.pointer (some b)))).run Tryz.prog w = .ok (.bool hit) w) :
    Calls Tryz.prog 62 #[e, .iface 188 (.pointer (some b))] w fun x w' => x = .returned (.bool hit) ∧ w = w' := by
  have h26 := @run_callFunc_extern Tryz.prog 84 _ Extern.ReflectliteType.typeOf Tryz.func84 (by kernel_rfl) (by kernel_rfl) (by kernel_rfl) (by kernel_rfl)
  have h74 := @run_callFunc_extern Tryz.prog 158 _ comparableRow Tryz.func158 (by kernel_rfl) (by kernel_rfl) (by kernel_rfl) (by kernel_rfl)
  have tT := Tryz.isTypeOf
  have cT := Tryz.isComparable
  have mR := Tryz.isMethodComparable
  have HE := Lib.hid heq
  clear heq
  obtain ⟨t, v, rfl⟩ := hc.iface
  have HC := Lib.hid hc
  clear hc
  go_enter Tryz.func62, Tryz.ntmps62
  go_wp2_with (go_at_call 85; refine (is_chain hit B l _ s b _ HC.out HE.out).mono ?_; rintro x w' ⟨rfl, rfl⟩)
  go_ret
  exact ⟨rfl, rfl⟩

/-- The same pointer. -/
theorem Is_same (B : Nat) (l : List (Int × Int)) (e : Value) (s : Addr) (w : World)
    (hc : Chain w (.iface 188 (.pointer (some s))) B l e) :
    Calls Tryz.prog 62 #[e, .iface 188 (.pointer (some s))] w fun x w' => x = .returned (.bool true) ∧ w = w' := by
  obtain ⟨i, hi, hcmp⟩ := Option.map_eq_some_iff.1 Tryz.isComp
  obtain ⟨j, hj, hjs⟩ := Option.map_eq_some_iff.1 Tryz.isSize
  exact Is_chain true B l e s s w hc (run_eql_iface_ptr_same (P := Tryz.prog) w s Tryz.underlying29 Tryz.underlying188 hi hcmp hj)

/-- Two different pointers. -/
theorem Is_other (B : Nat) (l : List (Int × Int)) (e : Value) (s b : Addr) (w : World) (cs cb : Array Value) (ts tb : TypeId)
    (hc : Chain w (.iface 188 (.pointer (some s))) B l e) (hne : s ≠ b)
    (hs : w.heap[s.block]? = some (.cells cs ts (0, 0))) (hb : w.heap[b.block]? = some (.cells cb tb (0, 0))) :
    Calls Tryz.prog 62 #[e, .iface 188 (.pointer (some b))] w fun x w' => x = .returned (.bool false) ∧ w = w' := by
  obtain ⟨i, hi, hcmp⟩ := Option.map_eq_some_iff.1 Tryz.isComp
  obtain ⟨j, hj, hjs⟩ := Option.map_eq_some_iff.1 Tryz.isSize
  exact Is_chain false B l e s b w hc (run_eql_iface_ptr_other (P := Tryz.prog) w Tryz.underlying29 Tryz.underlying188 hi hcmp hj (by rw [hjs]; decide) hne hs hb)
end Go.Proofs.YtnolnhpmpjgnaaaGreatDoor
