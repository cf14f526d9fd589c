/- What is proved here, of whatever program: the place of a text among others, texts that stand somewhere, rows of texts of a call's own and append to them, and an argument that is a slice of texts. No conditions but those that each theorem names. What is proved here: properties as plain values, where they stand, and rows of them. No conditions. What is proved here: properties and messages as plain values, where they stand, and rows of messages at any place of a block of the call's own. No conditions. What is proved here: copies of properties and of messages, and whether a message's time has come. Conditions: the properties stand where the slice says; few of them. What is proved here: whether properties, and a message's parts, are few; and that equal properties and messages are the same. Conditions: the properties stand where the slices say. What is proved here: an argument that is a message holds a message with its properties; one of type [2]int is two numbers. No conditions. What is proved here: whether a message has few bytes, and that its topic is then short. Conditions: those that each theorem names. What is proved here: a trie's acts as an argument, and whether they are few. Conditions: the acts are some that came in. -/
import Derived.Test.YtebaojbagogniaaDoorObj
import Derived.Lib.Hide
import Derived.OwnWalk
import Derived.Laws.AppendOwn
import Derived.Laws.AppendOwnNone
import Derived.SliceStrings
import Derived.Maps.AppendAt
import Derived.Lib.AppendZeros
import Derived.ArgAppend
import Derived.WalkKit
import Derived.WalkLawsBesides
import Derived.WalkSpells
import Derived.Lib.SliceRun
import Derived.Deep.Cut
import Derived.Deep.CutRange
import Derived.Deep.CutBlock
import Derived.Deep.DeepMust
import Derived.WideKeyArr2
import Derived.ChangeSame
namespace Go.Proofs.YtebaojbagogniaaDoor
open Go.RowKit Go.Extern.Stop Go.Stop Go.Extern
section
variable {α : Type}
/-- The place of the first one that is x; -1 if there is none. -/
def idxI [DecidableEq α] (L : List α) (x : α) : Int := match L.findIdx? (fun y => decide (y = x)) with | some i => (i : Int) | none => -1
theorem idx_at [DecidableEq α] {L : List α} {e x : α} {k : Nat} (hk : k < L.length) (hx : L.getD k e = x) (hno : ∀ j, j < k → L.getD j e ≠ x) : idxI L x = k := by
  have h1 : L.findIdx? (fun y => decide (y = x)) = some k := by
    rw [List.findIdx?_eq_some_iff_getElem]
    rw [List.getD_eq_getElem?_getD, List.getElem?_eq_getElem hk] at hx
    refine ⟨hk, decide_eq_true hx, fun j hj hc => ?_⟩
    have := hno j hj
    rw [List.getD_eq_getElem?_getD, List.getElem?_eq_getElem (by omega)] at this
    exact this (of_decide_eq_true hc)
  unfold idxI
  rw [h1]
theorem idx_no [DecidableEq α] {L : List α} {e x : α} (hno : ∀ j, j < L.length → L.getD j e ≠ x) : idxI L x = -1 := by
  have h1 : L.findIdx? (fun y => decide (y = x)) = none := by
    rw [List.findIdx?_eq_none_iff]
    intro y hy
    obtain ⟨j, hj, rfl⟩ := List.mem_iff_getElem.1 hy
    have := hno j hj
    rw [List.getD_eq_getElem?_getD, List.getElem?_eq_getElem hj] at this
    exact decide_eq_false this
  unfold idxI
  rw [h1]
theorem idx_bd [DecidableEq α] (L : List α) (x : α) : -1 ≤ idxI L x ∧ idxI L x < L.length ∧ (0 ≤ idxI L x ↔ x ∈ L) := by
  unfold idxI
  cases h : L.findIdx? (fun y => decide (y = x)) with
  | none =>
    rw [List.findIdx?_eq_none_iff] at h
    refine ⟨Int.le_refl _, by show (-1 : Int) < _; omega, fun h0 => absurd h0 (by decide), fun hm => ?_⟩
    have := h x hm
    simp at this
  | some i =>
    rw [List.findIdx?_eq_some_iff_getElem] at h
    obtain ⟨hi, hx, _⟩ := h
    refine ⟨by show (-1 : Int) ≤ i; omega, by show (i : Int) < _; omega, fun _ => ?_, fun _ => by show (0 : Int) ≤ i; omega⟩
    rw [← of_decide_eq_true hx]
    exact List.getElem_mem hi
end
theorem eq_text (a b : ByteArray) : (a.toList == b.toList) = decide (a = b) := by
  rw [ByteArray.toList_eq, ByteArray.toList_eq]
  by_cases h : a = b
  · subst h; simp
  · rw [decide_eq_false h]
    exact beq_eq_false_iff_ne.2 fun e => h (ByteArray.ext (Array.toList_inj.mp e))
theorem ret_bool {a b : Bool} (h : a = b) : Ending.returned (.bool a) = .returned (.bool b) := by rw [h]
theorem ret_str {a b : ByteArray} (h : a = b) : Ending.returned (.string a) = .returned (.string b) := by rw [h]
/-- Does a text stand among others? -/
def inB (L : List ByteArray) (v : ByteArray) : Bool := decide (0 ≤ idxI L v)
theorem inB_iff {L : List ByteArray} {v : ByteArray} : inB L v = true ↔ v ∈ L := by
  unfold inB
  rw [decide_eq_true_iff]
  exact (idx_bd L v).2.2
/-- No text. -/
def e0 : ByteArray := ⟨#[]⟩
/-- These texts stand at an address, if there are any. -/
def SRd (w : World) (A : Option Addr) (L : List ByteArray) : Prop := 0 < L.length → ∃ g off, A = some ⟨g, off, none⟩ ∧ ∀ k, k < L.length → w.cell? ⟨g, off + k, none⟩ = some (.string (L.getD k e0))
section
variable {w w' : World} {A B : Option Addr} {L F : List ByteArray}
theorem SRd.nil (w : World) (A : Option Addr) : SRd w A [] := fun h => absurd h (by simp)
theorem SRd.drewN (h : SRd w A L) (n : Nat) : SRd (w.drewN n) A L := h
theorem SRd.drew (h : SRd w A L) : SRd w.drew A L := h
theorem SRd.cells (h : SRd w A L) (hp : 0 < L.length) : ∃ g off, A = some ⟨g, off, none⟩ ∧ Hid (∀ k, k < L.length → w.cell? ⟨g, off + k, none⟩ = some (.string (L.getD k e0))) := by
  obtain ⟨g, off, h1, h2⟩ := h hp
  exact ⟨g, off, h1, Lib.hid h2⟩
theorem nil_of {n : Nat} (hn : n = L.length) (h : ¬ 0 < n) : L = [] ∧ n = 0 := ⟨List.eq_nil_of_length_eq_zero (by omega), by omega⟩
end
theorem Tryd.strInfo : (Tryd.prog.info? 9).map (fun i => (i.zero, i.size, i.bytes)) = some (some (.string ⟨#[]⟩), 1, 16) := by kernel_rfl
/-- v is a slice of the call's own that reads these texts. -/
def Row (w : World) (B : Nat) (v : Value) (L : List ByteArray) : Prop := w.ownsRow B 9 1 v L.length (L.map Value.string)
section
variable {w w' : World} {B : Nat} {v : Value} {L M : List ByteArray}
theorem Row.nil (w : World) (B : Nat) : Row w B (.slice none 0 0) [] := ⟨rfl, .inl ⟨rfl, rfl⟩⟩
theorem Row.form (h : Row w B v L) : ∃ a c, v = .slice a L.length c := by
  rcases h.2 with ⟨rfl, h0⟩ | ⟨gr, cap, cur, rfl, _⟩
  · exact ⟨none, 0, by rw [h0]⟩
  · exact ⟨_, _, rfl⟩
theorem Row.fr {X : List Nat} (h : Row w B v L) (hf : Fr X w w') (hn : ∀ k, v.ownBlock = some k → k ∉ X) : Row w' B v L := by
  obtain ⟨h1, h2⟩ := h
  refine ⟨h1, ?_⟩
  rcases h2 with h2 | ⟨gr, cap, cur, rfl, hB, hh, h3⟩
  · exact .inl h2
  · exact .inr ⟨gr, cap, cur, rfl, hB, (hf.block gr (lt_of_block hh) (hn gr rfl)).trans hh, h3⟩
theorem Row.below (h : Row w B v L) (hb : Below w.heap.size w w') : Row w' B v L := h.fr (Fr.of_below (X := []) hb) (by simp)
theorem Row.base {B' : Nat} (h : Row w B' v L) (hb : B ≤ B') : Row w B v L := by
  obtain ⟨h1, h2⟩ := h
  refine ⟨h1, ?_⟩
  rcases h2 with h2 | ⟨gr, cap, cur, rfl, hB, h3⟩
  · exact .inl h2
  · exact .inr ⟨gr, cap, cur, rfl, Nat.le_trans hb hB, h3⟩
theorem Row.rd {a : Option Addr} {n c : Nat} (h : Row w B (.slice a n c) L) : SRd w a L := by
  intro hl
  rcases h.2 with ⟨_, h0⟩ | ⟨gr, cap, cur, e, hB, hh, h3⟩
  · omega
  · have e' := e
    injection e' with ha hn hc
    subst ha hn hc
    refine ⟨gr, 0, rfl, fun k hk => ?_⟩
    rw [Nat.zero_add, World.ownsRow.cellAt h k (by omega), List.getElem?_map, List.getD_eq_getElem?_getD, List.getElem?_eq_getElem hk]
    rfl
theorem row_empty (hB : B ≤ w.heap.size) : Row (w.alloc (.cells #[] 9)) B (.slice (some ⟨w.heap.size, 0, none⟩) 0 0) [] :=
  ⟨rfl, .inr ⟨w.heap.size, 0, #[], rfl, hB, Blk.made w 9 #[], Nat.le_refl _, Nat.zero_le _, rfl, rfl⟩⟩
theorem row_grow {w0 w1 : World} (hb : Below w0.heap.size w0 w) (ht : Row w w0.heap.size v L) (hg : w.grownBy w1 v.ownBlock) : Below w0.heap.size w0 w1 := by
  refine Fr.later (X := v.ownBlock.toList) ((Fr.refl _ w).grown hg (fun k hk => .inl (by simp [hk]))) hb (fun b hm => ?_) hb.size
  have hk : v.ownBlock = some b := by cases hv : v.ownBlock with | none => rw [hv] at hm; cases hm | some k => rw [hv] at hm; simp at hm; rw [hm]
  exact (World.ownsRow.lt ht b hk).1
theorem add_to (g off j : Nat) : (⟨g, off, none⟩ : Addr).add j = ⟨g, off + j, none⟩ := by
  unfold Addr.add
  split
  · rename_i h; subst h; rfl
  · rfl
theorem srd_news {ad : Addr} (h : SRd w (some ad) M) : ∀ (j : Nat) (u : Value), (M.map Value.string)[j]? = some u → w.cell? (ad.add j) = some u := by
  intro j u hj
  have hl : j < M.length := by
    have := (List.getElem?_eq_some_iff.1 hj).1
    rwa [List.length_map] at this
  obtain ⟨g, off, e, hc⟩ := h (by omega)
  obtain rfl : ad = ⟨g, off, none⟩ := Option.some.inj e
  rw [add_to, hc j hl, ← hj, List.getElem?_map, List.getD_eq_getElem?_getD, List.getElem?_eq_getElem hl]
  rfl
theorem one_cells (M : List ByteArray) : ∀ u ∈ M.map Value.string, u.oneCell' = true := by
  intro u hu
  obtain ⟨x, _, rfl⟩ := List.mem_map.1 hu
  rfl
/-- append of texts that stand somewhere to a row of one's own. -/
theorem append_row {ops : Array Oper} {rest : List Oper} {o : Oper} {a : Act} {Q : Exit → Act → World → Prop} {w0 : World} (hgd : o.guard = none) (s x : Operand) (ho : o.op = .call { callee := .builtin .append, args := #[s, x], argTypes := #[54, 54] })
    (hb : Below w0.heap.size w0 w) (ht : Row w w0.heap.size v L) (hs : a.eval s = v) (ad : Addr) (m c : Nat) (hx : a.eval x = .slice (some ad) m c) (hm : m = M.length) (hrd : SRd w (some ad) M) (hsm : L.length + M.length ≤ 1000)
    (h : ∀ v' w', Row w' w0.heap.size v' (L ++ M) → Below w0.heap.size w0 w' → wpList Tryd.prog ops Q rest (a.put o.dst v') w') : wpList Tryd.prog ops Q (o :: rest) a w := by
  obtain ⟨i0, hi0, hz0, hz1, hz2⟩ := info_parts Tryd.strInfo
  subst hm
  refine wpList_append_own w hgd s x 54 ho w0.heap.size 9 i0 (.string ⟨#[]⟩) 1 16 Tryd.underlying54 hi0 hz0 hz1 hz2 rfl (by decide) v L.length (L.map Value.string) hs ht ad M.length c (M.map Value.string) hx (by rw [List.length_map, Nat.mul_one]) (srd_news hrd) (one_cells M) (by unfold maxLen; omega) (by omega) hb.size ?_
  intro v' w' ho' hg _
  refine h v' w' ?_ (row_grow hb ht hg)
  unfold Row
  rw [List.length_append, List.map_append]
  exact ho'
/-- append of nothing. -/
theorem append_row_none {ops : Array Oper} {rest : List Oper} {o : Oper} {a : Act} {Q : Exit → Act → World → Prop} (hgd : o.guard = none) (s x : Operand) (ho : o.op = .call { callee := .builtin .append, args := #[s, x], argTypes := #[54, 54] })
    (ht : Row w B v L) (hs : a.eval s = v) (hx : a.eval x = .slice none 0 0) (h : ∀ v', v' = v → wpList Tryd.prog ops Q rest (a.put o.dst v') w) : wpList Tryd.prog ops Q (o :: rest) a w := by
  obtain ⟨i0, hi0, hz0, hz1, hz2⟩ := info_parts Tryd.strInfo
  exact wpList_append_own_none hgd s x 54 ho B 9 i0 1 Tryd.underlying54 hi0 v L.length (L.map Value.string) hs ht hx (h v rfl)
end
theorem drew_on {w w1 : World} {j : Nat} (h : w1 = w.drewN j) (k : Nat) : w1.drewN k = w.drewN (j + k) := by rw [h, World.drewN_drewN]
theorem below_drewN {B : Nat} {a w : World} (h : Below B a w) (n : Nat) : Below B a (w.drewN n) := ⟨h.os, h.tape, h.output, h.size, h.block⟩
def StrsOf (w : World) (A : Option Addr) (n : Nat) (L : List ByteArray) : Prop := n = L.length ∧ SRd w A L
section
open Go.ChangeShapes Go.WideShapes Go.RowKit Go.Deep
variable {H : Type} {enc : TypeId × Value → H} {w : World}
set_option maxRecDepth 100000 in
theorem strs_open {r : Reach} {b0 b1 : Nat} {sp : Nat → Bool} {held : Bool} {v : Value} {d : DataW H} {ps : List MemPlace} (hval : Value.okWide Tryd.prog w r b0 54 v) (hd : DataW.Trod enc Tryd.prog w b1 sp held 54 v d ps) :
    ∃ a len cap xs, v = .slice a len cap ∧ len ≤ maxLen ∧ StrsOf w a len xs := by
  obtain ⟨a0, len, cap, rfl⟩ := okWide_slice Tryd.underlying54 hval
  obtain ⟨fuel, hf⟩ := hd
  rcases ChangeShapes.open_strings Tryd.underlying54 Tryd.underlying9 (by kernel_rfl) hf with ⟨hcs, hx⟩ | ⟨a, len', cap', ss, hcs, _, hl, hm, hz, hx, hcell, hsz⟩
  · simp [Value.cells] at hcs
    obtain ⟨rfl, rfl, rfl⟩ := hcs
    exact ⟨none, 0, 0, [], rfl, Nat.zero_le _, rfl, SRd.nil _ _⟩
  · simp [Value.cells] at hcs
    obtain ⟨rfl, rfl, rfl⟩ := hcs
    have hlen : len ≤ ss.length := by rw [hz]; split <;> omega
    refine ⟨some a, len, cap, ss.take len, rfl, Nat.le_trans hl hm, by rw [List.length_take]; omega, fun hp => ?_⟩
    rw [List.length_take] at hp
    obtain ⟨b, off, spot⟩ := a
    have hspot : spot = none := by simpa [Addr.add] using World.cell?_spot (hcell 0 (by omega))
    subst hspot
    refine ⟨b, off, rfl, fun j hj => ?_⟩
    rw [List.length_take] at hj
    have h1 := hcell j (by omega)
    rw [add_plain] at h1
    rw [h1, List.getD_eq_getElem?_getD, List.getD_eq_getElem?_getD, List.getElem?_take, if_pos (by omega)]
    rfl
end
end Go.Proofs.YtebaojbagogniaaDoor
namespace Go.Proofs.YtebaojbagogniaaDoor
open Go.RowKit Go.Extern.Stop Go.Stop Go.Extern
/-- A property. -/
structure PV where
  id : Int
  n : Int
  s : ByteArray
  v : ByteArray
def p0 : PV := ⟨0, 0, e0, e0⟩
def PV.cells (p : PV) : List Value := [.int .i64 p.id, .int .i64 p.n, .string p.s, .string p.v]
def PV.agg (p : PV) : Value := .agg #[.int .i64 p.id, .int .i64 p.n, .string p.s, .string p.v]
abbrev PL := List PV
def pcs (L : PL) : List Value := L.flatMap PV.cells
theorem pcs_cons (p : PV) (L : PL) : pcs (p :: L) = .int .i64 p.id :: .int .i64 p.n :: .string p.s :: .string p.v :: pcs L := rfl
theorem pcs_len (L : PL) : (pcs L).length = L.length * 4 := by
  induction L with
  | nil => rfl
  | cons p L ih =>
    rw [pcs_cons]
    simp only [List.length_cons]
    omega
theorem pcs_app (L M : PL) : pcs (L ++ M) = pcs L ++ pcs M := by simp [pcs]
theorem pcs_get (L : PL) : ∀ k, k < L.length → (pcs L)[k * 4]? = some (.int .i64 (L.getD k p0).id) ∧ (pcs L)[k * 4 + 1]? = some (.int .i64 (L.getD k p0).n) ∧ (pcs L)[k * 4 + 2]? = some (.string (L.getD k p0).s) ∧ (pcs L)[k * 4 + 3]? = some (.string (L.getD k p0).v) := by
  induction L with
  | nil => intro k hk; cases hk
  | cons p L ih =>
    intro k hk
    rw [pcs_cons]
    rcases k with _ | k
    · exact ⟨rfl, rfl, rfl, rfl⟩
    · rw [show (k + 1) * 4 = k * 4 + 1 + 1 + 1 + 1 by omega]
      simpa using ih k (by simpa using hk)
theorem pcs_ones (L : PL) : ∀ u ∈ pcs L, u.oneCell' = true := by
  intro u hu
  obtain ⟨p, _, hp⟩ := List.mem_flatMap.1 hu
  unfold PV.cells at hp
  simp only [List.mem_cons, List.not_mem_nil, or_false] at hp
  rcases hp with rfl | rfl | rfl | rfl <;> rfl
/-- The cells of a property. -/
structure PCells (w : World) (g o : Nat) (p : PV) : Prop where
  c0 : w.cell? ⟨g, o, none⟩ = some (.int .i64 p.id)
  c1 : w.cell? ⟨g, o + 1, none⟩ = some (.int .i64 p.n)
  c2 : w.cell? ⟨g, o + 2, none⟩ = some (.string p.s)
  c3 : w.cell? ⟨g, o + 3, none⟩ = some (.string p.v)
section
variable {X : List Nat} {w w' : World} {B B' : Nat} {A : Option Addr} {L : PL}
theorem PCells.at {g o : Nat} {p : PV} (h : PCells w g o p) (hb : w'.heap[g]? = w.heap[g]?) : PCells w' g o p :=
  ⟨(World.cell?_of_block (w := w) hb).trans h.c0, (World.cell?_of_block (w := w) hb).trans h.c1, (World.cell?_of_block (w := w) hb).trans h.c2, (World.cell?_of_block (w := w) hb).trans h.c3⟩
end
end Go.Proofs.YtebaojbagogniaaDoor
namespace Go.Proofs.YtebaojbagogniaaDoor
open Go.RowKit Go.Extern.Stop Go.Stop Go.Extern
/-- A message. -/
structure MV where
  topic : ByteArray
  payload : ByteArray
  qos : Int
  retain : Bool
  props : PL
  frm : ByteArray
  til : Int
  seq : Int
  grp : ByteArray
def m0 : MV := ⟨e0, e0, 0, false, [], e0, 0, 0, e0⟩
/-- A message with the address and the capacity of its properties. -/
structure QV where
  m : MV
  pa : Option Addr
  pc : Nat
def q0 : QV := ⟨m0, none, 0⟩
def QV.cells (q : QV) : List Value := [.string q.m.topic, .string q.m.payload, .int .i64 q.m.qos, .bool q.m.retain, .slice q.pa q.m.props.length q.pc, .string q.m.frm, .int .i64 q.m.til, .int .i64 q.m.seq, .string q.m.grp]
def QV.agg (q : QV) : Value := .agg #[.string q.m.topic, .string q.m.payload, .int .i64 q.m.qos, .bool q.m.retain, .slice q.pa q.m.props.length q.pc, .string q.m.frm, .int .i64 q.m.til, .int .i64 q.m.seq, .string q.m.grp]
abbrev QL := List QV
def qcs (L : QL) : List Value := L.flatMap QV.cells
theorem qcs_cons (q : QV) (L : QL) : qcs (q :: L) = q.cells ++ qcs L := rfl
theorem qcs_len (L : QL) : (qcs L).length = L.length * 9 := by
  induction L with
  | nil => rfl
  | cons p L ih =>
    rw [qcs_cons, List.length_append, ih, List.length_cons]
    show 9 + _ = _
    omega
theorem qcs_app (L M : QL) : qcs (L ++ M) = qcs L ++ qcs M := by simp [qcs]
theorem qcs_get (L : QL) : ∀ k i, k < L.length → i < 9 → (qcs L)[k * 9 + i]? = (L.getD k q0).cells[i]? := by
  induction L with
  | nil => intro k i hk; cases hk
  | cons p L ih =>
    intro k i hk hi
    rw [qcs_cons]
    rcases k with _ | k
    · rw [Nat.zero_mul, Nat.zero_add, List.getElem?_append_left (show i < p.cells.length from hi)]
      rfl
    · rw [List.getElem?_append_right (show p.cells.length ≤ _ by show 9 ≤ _; omega)]
      show (qcs L)[(k + 1) * 9 + i - 9]? = _
      rw [show (k + 1) * 9 + i - 9 = k * 9 + i by omega]
      exact ih k i (by simpa using hk) hi
theorem qcs_ones (L : QL) : ∀ u ∈ qcs L, u.oneCell' = true := by
  intro u hu
  obtain ⟨p, _, hp⟩ := List.mem_flatMap.1 hu
  unfold QV.cells at hp
  simp only [List.mem_cons, List.not_mem_nil, or_false] at hp
  rcases hp with rfl | rfl | rfl | rfl | rfl | rfl | rfl | rfl | rfl <;> rfl
/-- The cells of a message. -/
structure QCells (w : World) (g o : Nat) (q : QV) : Prop where
  c0 : w.cell? ⟨g, o, none⟩ = some (.string q.m.topic)
  c1 : w.cell? ⟨g, o + 1, none⟩ = some (.string q.m.payload)
  c2 : w.cell? ⟨g, o + 2, none⟩ = some (.int .i64 q.m.qos)
  c3 : w.cell? ⟨g, o + 3, none⟩ = some (.bool q.m.retain)
  c4 : w.cell? ⟨g, o + 4, none⟩ = some (.slice q.pa q.m.props.length q.pc)
  c5 : w.cell? ⟨g, o + 5, none⟩ = some (.string q.m.frm)
  c6 : w.cell? ⟨g, o + 6, none⟩ = some (.int .i64 q.m.til)
  c7 : w.cell? ⟨g, o + 7, none⟩ = some (.int .i64 q.m.seq)
  c8 : w.cell? ⟨g, o + 8, none⟩ = some (.string q.m.grp)
theorem QCells.at {w w' : World} {g o : Nat} {q : QV} (h : QCells w g o q) (hb : w'.heap[g]? = w.heap[g]?) : QCells w' g o q :=
  ⟨(World.cell?_of_block (w := w) hb).trans h.c0, (World.cell?_of_block (w := w) hb).trans h.c1, (World.cell?_of_block (w := w) hb).trans h.c2, (World.cell?_of_block (w := w) hb).trans h.c3, (World.cell?_of_block (w := w) hb).trans h.c4, (World.cell?_of_block (w := w) hb).trans h.c5, (World.cell?_of_block (w := w) hb).trans h.c6, (World.cell?_of_block (w := w) hb).trans h.c7, (World.cell?_of_block (w := w) hb).trans h.c8⟩
theorem QCells.of {w : World} {g o : Nat} {q : QV} (h : ∀ i, i < 9 → w.cell? ⟨g, o + i, none⟩ = q.cells[i]?) : QCells w g o q :=
  ⟨h 0 (by omega), h 1 (by omega), h 2 (by omega), h 3 (by omega), h 4 (by omega), h 5 (by omega), h 6 (by omega), h 7 (by omega), h 8 (by omega)⟩
/-- These messages stand at an address, if there are any. -/
def MRd (w : World) (A : Option Addr) (L : QL) : Prop := 0 < L.length → ∃ g off, A = some ⟨g, off, none⟩ ∧ ∀ k, k < L.length → QCells w g (off + k * 9) (L.getD k q0)
section
variable {X : List Nat} {w w' : World} {B : Nat} {v : Value} {L : QL} {q : QV}
theorem run_append_off {P : Program} (w : World) (t ty e : TypeId) (i : TypeInfo) (ht : P.underlying t = some (.slice e)) (hi : P.info? e = some i)
    (g off sLen sCap : Nat) (cur : Array Value) (hg : w.heap[g]? = some (.cells cur e (0, 0)))
    (a : Addr) (m c : Nat) (news : List Value) (hl : news.length = m * i.size) (hnews : ∀ j u, news[j]? = some u → w.cell? (a.add j) = some u) (h1 : ∀ u ∈ news, u.oneCell' = true)
    (hroom : sLen + m ≤ sCap) (hfit : off + sLen * i.size + news.length ≤ cur.size) :
    (Builtin.append_ #[t, t] ty #[.slice (some ⟨g, off, none⟩) sLen sCap, .slice (some a) m c]).run P w =
      .ok (.slice (some ⟨g, off, none⟩) (sLen + m) sCap) (w.setRow g (cur.toList.take (off + sLen * i.size) ++ news ++ cur.toList.drop (off + sLen * i.size + news.length)).toArray) := by
  have hf := run_firstCells_some (P := P) w i.size m a m c news hl hnews
  have hst := run_storeCells_at P g (off + sLen * i.size) e news 0 cur w hg (by simpa using hfit) h1
  simp only [Nat.add_zero] at hst
  simp [Builtin.append_, run_underlying ht, sizeOf, typeInfo, hi, Builtin.lenOf, hroom, hf, Addr.add_lit, hst]
end
end Go.Proofs.YtebaojbagogniaaDoor
namespace Go.Proofs.YtebaojbagogniaaDoor
open Go.RowKit Go.Extern.Stop Go.Stop Go.Extern
set_option maxRecDepth 100000
def exB (til now : Int) : Bool := decide (0 < til) && decide (til ≤ now)
section
variable {w w' : World} {B : Nat} {L : PL}
/-- A message's cells stored one by one. -/
def put9 (W : World) (g : Nat) (u0 u1 u2 u3 u4 u5 u6 u7 u8 : Value) : World :=
  ((((((((W.setCell ⟨g, 0, none⟩ u0).setCell ⟨g, 1, none⟩ u1).setCell ⟨g, 2, none⟩ u2).setCell ⟨g, 3, none⟩ u3).setCell ⟨g, 4, none⟩ u4).setCell ⟨g, 5, none⟩ u5).setCell ⟨g, 6, none⟩ u6).setCell ⟨g, 7, none⟩ u7).setCell ⟨g, 8, none⟩ u8
section
variable {W : World} {g : Nat} {t : TypeId} {z0 z1 z2 z3 z4 z5 z6 z7 z8 : Value}
theorem put9_blk (h : Blk W g t #[z0, z1, z2, z3, z4, z5, z6, z7, z8]) (u0 u1 u2 u3 u4 u5 u6 u7 u8 : Value) : Blk (put9 W g u0 u1 u2 u3 u4 u5 u6 u7 u8) g t #[u0, u1, u2, u3, u4, u5, u6, u7, u8] := by
  have hh := ((((((((h.store 0 u0).store 1 u1).store 2 u2).store 3 u3).store 4 u4).store 5 u5).store 6 u6).store 7 u7).store 8 u8
  simp only [List.setIfInBounds_toArray, List.set_cons_zero, List.set_cons_succ] at hh
  exact hh
theorem put9_fr (W : World) (g : Nat) (u0 u1 u2 u3 u4 u5 u6 u7 u8 : Value) : Fr [g] W (put9 W g u0 u1 u2 u3 u4 u5 u6 u7 u8) := by
  have h : ∀ {V : World}, Fr [g] W V → ∀ i u, Fr [g] W (V.setCell ⟨g, i, none⟩ u) := fun hf i u => hf.setCell (p := ⟨g, i, none⟩) (.inl (List.mem_singleton_self g)) u
  exact h (h (h (h (h (h (h (h (h (Fr.refl _ _) 0 u0) 1 u1) 2 u2) 3 u3) 4 u4) 5 u5) 6 u6) 7 u7) 8 u8
theorem put9_below {w : World} (h : Below w.heap.size w W) (hg : w.heap.size ≤ g) (u0 u1 u2 u3 u4 u5 u6 u7 u8 : Value) : Below w.heap.size w (put9 W g u0 u1 u2 u3 u4 u5 u6 u7 u8) :=
  (put9_fr W g u0 u1 u2 u3 u4 u5 u6 u7 u8).later h (fun b hb => by rw [List.mem_singleton] at hb; rw [hb]; exact hg) h.size
end
def zq : Array Value := #[.string ⟨#[]⟩, .string ⟨#[]⟩, .int .i64 0, .bool false, .slice none 0 0, .string ⟨#[]⟩, .int .i64 0, .int .i64 0, .string ⟨#[]⟩]
end
end Go.Proofs.YtebaojbagogniaaDoor
namespace Go.Proofs.YtebaojbagogniaaDoor
open Go.RowKit Go.Extern.Stop Go.Stop Go.Extern
set_option maxRecDepth 100000
def PFewB (n : Nat) (w : World) (x : Ending) (w' : World) : Prop := (∃ b : Bool, x = .returned (.bool b) ∧ (b = true → n ≤ 70)) ∧ w = w'
def SmallB (q : QV) (w : World) (x : Ending) (w' : World) : Prop := ∃ b : Bool, x = .returned (.bool b) ∧ (b = true → q.m.props.length ≤ 70) ∧ Below w.heap.size w w'
section
variable {w w' : World} {B : Nat} {A : Option Addr} {L : PL}
end
end Go.Proofs.YtebaojbagogniaaDoor
namespace Go.Proofs.YtebaojbagogniaaDoor
open Go.ChangeShapes Go.WideShapes Go.RowKit Go.Deep
set_option maxRecDepth 100000
theorem list9 (cs : List Value) (h : cs.length = 9) : ∃ u0 u1 u2 u3 u4 u5 u6 u7 u8, cs = [u0, u1, u2, u3, u4, u5, u6, u7, u8] := by
  rcases cs with _ | ⟨u0, _ | ⟨u1, _ | ⟨u2, _ | ⟨u3, _ | ⟨u4, _ | ⟨u5, _ | ⟨u6, _ | ⟨u7, _ | ⟨u8, _ | ⟨u9, cs⟩⟩⟩⟩⟩⟩⟩⟩⟩⟩ <;> simp at h
  exact ⟨u0, u1, u2, u3, u4, u5, u6, u7, u8, rfl⟩
theorem list4 (cs : List Value) (h : cs.length = 4) : ∃ u0 u1 u2 u3, cs = [u0, u1, u2, u3] := by
  rcases cs with _ | ⟨u0, _ | ⟨u1, _ | ⟨u2, _ | ⟨u3, _ | ⟨u4, cs⟩⟩⟩⟩⟩ <;> simp at h
  exact ⟨u0, u1, u2, u3, rfl⟩
section
variable {H : Type} {enc : TypeId × Value → H} {w : World}
theorem cz9 : Tryd.prog.cellsOf 9 = 1 := by kernel_rfl
theorem cz3 : Tryd.prog.cellsOf 3 = 1 := by kernel_rfl
theorem cz4 : Tryd.prog.cellsOf 4 = 1 := by kernel_rfl
end
end Go.Proofs.YtebaojbagogniaaDoor
namespace Go.Proofs.YtebaojbagogniaaDoor
open Go.RowKit Go.Extern.Stop Go.Stop Go.Extern
set_option maxRecDepth 100000
def Small19B (q : QV) (w : World) (x : Ending) (w' : World) : Prop := ∃ b : Bool, x = .returned (.bool b) ∧ (b = true → q.m.props.length ≤ 70 ∧ q.m.topic.size ≤ 200) ∧ Below w.heap.size w w'
section
variable {w w' : World} {B : Nat}
end
end Go.Proofs.YtebaojbagogniaaDoor
namespace Go.Proofs.YtebaojbagogniaaDoor
open Go.RowKit Go.Extern.Stop Go.Stop Go.Extern
set_option maxRecDepth 100000
/-- An act. -/
structure AV where
  kind : Int
  filter : ByteArray
  who : ByteArray
def a0 : AV := ⟨0, ⟨#[]⟩, ⟨#[]⟩⟩
def AV.cells (a : AV) : List Value := [.int .i64 a.kind, .string a.filter, .string a.who]
abbrev AL := List AV
/-- The cells of an act. -/
structure ACells (w : World) (g o : Nat) (a : AV) : Prop where
  c0 : w.cell? ⟨g, o, none⟩ = some (.int .i64 a.kind)
  c1 : w.cell? ⟨g, o + 1, none⟩ = some (.string a.filter)
  c2 : w.cell? ⟨g, o + 2, none⟩ = some (.string a.who)
theorem ACells.at {w w' : World} {g o : Nat} {a : AV} (h : ACells w g o a) (hb : w'.heap[g]? = w.heap[g]?) : ACells w' g o a :=
  ⟨(World.cell?_of_block (w := w) hb).trans h.c0, (World.cell?_of_block (w := w) hb).trans h.c1, (World.cell?_of_block (w := w) hb).trans h.c2⟩
theorem ACells.of {w : World} {g o : Nat} {a : AV} (h : ∀ i, i < 3 → w.cell? ⟨g, o + i, none⟩ = a.cells[i]?) : ACells w g o a := ⟨h 0 (by omega), h 1 (by omega), h 2 (by omega)⟩
/-- These acts stand at an address, if there are any. -/
def ARd (w : World) (A : Option Addr) (L : AL) : Prop := 0 < L.length → ∃ g off, A = some ⟨g, off, none⟩ ∧ ∀ k, k < L.length → ACells w g (off + k * 3) (L.getD k a0)
/-- A slice of acts that came in. -/
def ActsN (w : World) (A : Option Addr) (n : Nat) (L : AL) : Prop := n = L.length ∧ ARd w A L
section
open Go.ChangeShapes Go.WideShapes Go.RowKit Go.Deep
variable {H : Type} {enc : TypeId × Value → H} {w : World}
theorem czAct18 : Tryd.prog.cellsOf 38 = 3 := by kernel_rfl
theorem list3x (cs : List Value) (h : cs.length = 3) : ∃ n0 n1 n2, cs = [n0, n1, n2] := by
  rcases cs with _ | ⟨a, _ | ⟨b, _ | ⟨c, _ | ⟨d, cs⟩⟩⟩⟩
  · simp at h
  · simp at h
  · simp at h
  · exact ⟨a, b, c, rfl⟩
  · simp at h
theorem trod_act {b1 n : Nat} {sp : Nat → Bool} {held : Bool} {cs : List Value} {y : DataW H × List MemPlace} (hl : cs.length = 3) (h : DataW.trod enc Tryd.prog w b1 sp held n 38 cs = some y) : ∃ a : AV, cs = a.cells := by
  obtain ⟨k, n0, n1, rfl⟩ := list3x cs hl
  obtain ⟨xs, m3, _, _, _, hxl, hgl⟩ := DataW.trod_struct Tryd.underlying38 h
  have hx : ∀ j, j < 3 → ∃ z, xs[j]? = some z := fun j hj => ⟨_, List.getElem?_eq_getElem (by rw [hxl]; exact hj)⟩
  obtain ⟨t0, x0⟩ := hx 0 (by omega)
  have g0 := (hgl 0 _ rfl).trans x0
  obtain ⟨t1, x1⟩ := hx 1 (by omega)
  have g1 := (hgl 1 _ rfl).trans x1
  obtain ⟨t2, x2⟩ := hx 2 (by omega)
  have g2 := (hgl 2 _ rfl).trans x2
  obtain ⟨v0, e0, _⟩ := DataW.trod_int Tryd.underlying3 (cs := [k]) g0
  obtain ⟨v1, e1, _⟩ := DataW.trod_string Tryd.underlying9 (cs := [n0]) g1
  obtain ⟨v2, e2, _⟩ := DataW.trod_string Tryd.underlying9 (cs := [n1]) g2
  obtain rfl := (List.cons.inj e0).1
  obtain rfl := (List.cons.inj e1).1
  obtain rfl := (List.cons.inj e2).1
  exact ⟨⟨v0, v1, v2⟩, rfl⟩
theorem acts_open18 {r : Reach} {b0 b1 : Nat} {sp : Nat → Bool} {held : Bool} {v : Value} {d : DataW H} {ps : List MemPlace} (hval : Value.okWide Tryd.prog w r b0 22 v) (hd : DataW.Trod enc Tryd.prog w b1 sp held 22 v d ps) :
    ∃ a len cap xs, v = .slice a len cap ∧ len ≤ maxLen ∧ ActsN w a len xs := by
  obtain ⟨a9, len, cap, rfl⟩ := okWide_slice Tryd.underlying22 hval
  obtain ⟨fuel, hf⟩ := hd
  rcases open_slice Tryd.underlying22 hf with ⟨hcs, hx⟩ | ⟨a, len', cap', m, n, D, Pl, hcs, hb, hl, hm, hmm, hx, hi⟩
  · simp [Value.cells] at hcs
    obtain ⟨rfl, rfl, rfl⟩ := hcs
    exact ⟨none, 0, 0, [], rfl, Nat.zero_le _, rfl, fun h => absurd h (by simp)⟩
  · simp [Value.cells] at hcs
    obtain ⟨rfl, rfl, rfl⟩ := hcs
    have hlm : len ≤ m := by rw [hmm]; split <;> omega
    have hex : ∀ i, ∃ x : AV, i < len → (∀ j, j < 3 → w.cell? (a.add (i * 3 + j)) = x.cells[j]?) ∧ True := by
      intro i
      by_cases hil : i < len
      · obtain ⟨cs', hc, ht'⟩ := hi i (by omega)
        rw [czAct18] at hc
        obtain ⟨_, hcl, hat⟩ := World.cells?_some hc
        obtain ⟨x, rfl⟩ := trod_act hcl ht'
        exact ⟨x, fun _ => ⟨fun j hj => by rw [← Go.Deep.add_add]; exact hat j hj, trivial⟩⟩
      · exact ⟨a0, fun h => absurd h hil⟩
    obtain ⟨xs, hxs⟩ := Classical.axiomOfChoice hex
    have hlen : ((List.range len).map xs).length = len := by rw [List.length_map, List.length_range]
    have hget : ∀ k, k < len → ((List.range len).map xs).getD k a0 = xs k := fun k hk => by
      rw [List.getD_eq_getElem?_getD, List.getElem?_map, List.getElem?_range hk]
      rfl
    refine ⟨some a, len, cap, (List.range len).map xs, rfl, Nat.le_trans hl hm, hlen.symm, fun hp => ?_⟩
    · rw [hlen] at hp
      have hc0 := (hxs 0 hp).1 0 (by omega)
      obtain ⟨b, off, spot⟩ := a
      have hspot : spot = none := by simpa [Addr.add] using World.cell?_spot (show w.cell? _ = some _ from hc0)
      subst hspot
      refine ⟨b, off, rfl, fun k hk => ?_⟩
      rw [hlen] at hk
      rw [hget k hk]
      exact ACells.of fun j hj => by
        have := (hxs k hk).1 j hj
        rw [add_plain, ← Nat.add_assoc] at this
        exact this
end
/-- Few acts of few bytes. -/
def Few18 (L : AL) : Prop := L.length ≤ 40 ∧ ∀ k, k < L.length → (L.getD k a0).filter.size ≤ 200 ∧ (L.getD k a0).who.size ≤ 100
def FewSays18 (w : World) (L : AL) (x : Ending) (w' : World) : Prop := ∃ b : Bool, x = .returned (.bool b) ∧ (b = true → Few18 L) ∧ Below w.heap.size w w'
set_option maxHeartbeats 4000000 in
theorem few18_any {w : World} {A : Option Addr} {n c : Nat} {L : AL} (ha : ActsN w A n L) (hnz : n ≤ maxLen) : Calls Tryd.prog 6 #[.slice A n c] w (FewSays18 w L) := by
  unfold maxLen at hnz
  obtain ⟨hn, hrd⟩ := ha
  have HN := Lib.hid hn
  have HRD := Lib.hid (fun (hp : 0 < n) => hrd (by omega))
  have HF := Lib.hid (fun (W : World) (hb : Below w.heap.size w W) => show FewSays18 w L (.returned (.bool false)) W from ⟨false, rfl, (fun h => by cases h), hb⟩)
  have HT := Lib.hid (fun (b : Bool) (W : World) (h : b = true → Few18 L) (hb : Below w.heap.size w W) => show FewSays18 w L (.returned (.bool b)) W from ⟨b, rfl, h, hb⟩)
  clear hn hrd
  go_enter Tryd.func6, Tryd.ntmps6
  go_wp2_with fail
  go_loopw [3] (fun i wr => ∃ k : Nat, k ≤ n ∧ k ≤ 40 ∧ i = .int .i64 k ∧ Hid (∀ j, j < k → (L.getD j a0).filter.size ≤ 200 ∧ (L.getD j a0).who.size ≤ 100) ∧ Below w.heap.size w wr) (fun i _ => n - (intOf i).toNat)
  case atStart => exact ⟨0, by omega, by omega, rfl, Lib.hid (fun j hj => by omega), Below.refl _ _⟩
  case round =>
    obtain ⟨k, hk, hk40, rfl, HP, hbe⟩ := hrel
    have HBE := Lib.hid hbe
    by_cases hlt : k < n
    · by_cases hlt2 : k < 40
      · have hkL : k < L.length := by have := HN.out; omega
        obtain ⟨g1, off, rfl, hcc⟩ := HRD.out (by omega)
        have hc := (hcc k hkL).at (hbe.block g1 (lt_of_cell' (hcc k hkL).c0))
        obtain ⟨a, ha⟩ : ∃ a, a = L.getD k a0 := ⟨_, rfl⟩
        rw [← ha] at hc
        have HA := Lib.hid ha
        obtain ⟨d0, d1, d2⟩ := hc
        clear hcc hkL ha hbe
        by_cases h1 : a.filter.size ≤ 200
        · have e1 : decide ((a.filter.size : Int) > 200) = false := decide_eq_false (by omega)
          by_cases h2 : a.who.size ≤ 100
          · have e2 : decide ((a.who.size : Int) > 100) = false := decide_eq_false (by omega)
            have HM := Lib.hid (And.intro h1 h2)
            go_wp2_with fail
            go_roundw
            case rel => exact ⟨k + 1, by omega, by omega, by go_num, Lib.hid (fun j hj => by
              rcases Nat.lt_succ_iff_lt_or_eq.1 hj with h | rfl
              · exact HP.out j h
              · rw [← HA.out]; exact HM.out), HBE.out⟩
            case measure => simp [intOf]; omega
          · have e2 : decide ((a.who.size : Int) > 100) = true := decide_eq_true (by omega)
            go_wp2_with fail
            go_ret
            exact HF.out _ HBE.out
        · have e1 : decide ((a.filter.size : Int) > 200) = true := decide_eq_true (by omega)
          go_wp2_with fail
          go_ret
          exact HF.out _ HBE.out
      · obtain rfl : k = 40 := by omega
        clear hbe
        go_wp2_with fail
        go_ret
        exact HT.out _ _ (fun h => by have := of_decide_eq_true h; omega) HBE.out
    · clear hbe
      have HK := Lib.hid (show Few18 L from ⟨by have := HN.out; omega, fun j hj => HP.out j (by have := HN.out; omega)⟩)
      have hn40 : n ≤ 40 := by omega
      go_wp2_with fail
      go_ret
      exact HT.out _ _ (fun _ => HK.out) HBE.out
end Go.Proofs.YtebaojbagogniaaDoor
