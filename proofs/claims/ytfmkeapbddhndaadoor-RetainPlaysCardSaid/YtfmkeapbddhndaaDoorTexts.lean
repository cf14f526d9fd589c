/- What is proved here, of whatever program: the place of a text among others, texts that stand somewhere, rows of texts of a call's own and append to them, and an argument that is a slice of texts. No conditions but those that each theorem names. -/
import Derived.Test.YtfmkeapbddhndaaDoorObj
import Derived.Lib.Hide
import Derived.OwnWalk
import Derived.Laws.AppendOwn
import Derived.Laws.AppendOwnNone
import Derived.SliceStrings
namespace Go.Proofs.YtfmkeapbddhndaaDoor
open Go.RowKit Go.Extern.Stop Go.Stop Go.Extern
section
variable {α : Type}
/-- The place of the first one that is x; -1 if there is none. -/
def idxI [DecidableEq α] (L : List α) (x : α) : Int := match L.findIdx? (fun y => decide (y = x)) with | some i => (i : Int) | none => -1
theorem idx_at [DecidableEq α] {L : List α} {e x : α} {k : Nat} (hk : k < L.length) (hx : L.getD k e = x) (hno : ∀ j, j < k → L.getD j e ≠ x) : idxI L x = k := by
  have h1 : L.findIdx? (fun y => decide (y = x)) = some k := by
    rw [List.findIdx?_eq_some_iff_getElem]
    rw [List.getD_eq_getElem?_getD, List.getElem?_eq_getElem hk] at hx
    refine ⟨hk, decide_eq_true hx, fun j hj hc => ?_⟩
    have := hno j hj
    rw [List.getD_eq_getElem?_getD, List.getElem?_eq_getElem (by omega)] at this
    exact this (of_decide_eq_true hc)
  unfold idxI
  rw [h1]
theorem idx_no [DecidableEq α] {L : List α} {e x : α} (hno : ∀ j, j < L.length → L.getD j e ≠ x) : idxI L x = -1 := by
  have h1 : L.findIdx? (fun y => decide (y = x)) = none := by
    rw [List.findIdx?_eq_none_iff]
    intro y hy
    obtain ⟨j, hj, rfl⟩ := List.mem_iff_getElem.1 hy
    have := hno j hj
    rw [List.getD_eq_getElem?_getD, List.getElem?_eq_getElem hj] at this
    exact decide_eq_false this
  unfold idxI
  rw [h1]
theorem idx_bd [DecidableEq α] (L : List α) (x : α) : -1 ≤ idxI L x ∧ idxI L x < L.length ∧ (0 ≤ idxI L x ↔ x ∈ L) := by
  unfold idxI
  cases h : L.findIdx? (fun y => decide (y = x)) with
  | none =>
    rw [List.findIdx?_eq_none_iff] at h
    refine ⟨Int.le_refl _, by show (-1 : Int) < _; omega, fun h0 => absurd h0 (by decide), fun hm => ?_⟩
    have := h x hm
    simp at this
  | some i =>
    rw [List.findIdx?_eq_some_iff_getElem] at h
    obtain ⟨hi, hx, _⟩ := h
    refine ⟨by show (-1 : Int) ≤ i; omega, by show (i : Int) < _; omega, fun _ => ?_, fun _ => by show (0 : Int) ≤ i; omega⟩
    rw [← of_decide_eq_true hx]
    exact List.getElem_mem hi
end
theorem eq_text (a b : ByteArray) : (a.toList == b.toList) = decide (a = b) := by
  rw [ByteArray.toList_eq, ByteArray.toList_eq]
  by_cases h : a = b
  · subst h; simp
  · rw [decide_eq_false h]
    exact beq_eq_false_iff_ne.2 fun e => h (ByteArray.ext (Array.toList_inj.mp e))
theorem ret_bool {a b : Bool} (h : a = b) : Ending.returned (.bool a) = .returned (.bool b) := by rw [h]
theorem ret_str {a b : ByteArray} (h : a = b) : Ending.returned (.string a) = .returned (.string b) := by rw [h]
/-- Does a text stand among others? -/
def inB (L : List ByteArray) (v : ByteArray) : Bool := decide (0 ≤ idxI L v)
theorem inB_iff {L : List ByteArray} {v : ByteArray} : inB L v = true ↔ v ∈ L := by
  unfold inB
  rw [decide_eq_true_iff]
  exact (idx_bd L v).2.2
/-- No text. -/
def e0 : ByteArray := ⟨#[]⟩
/-- These texts stand at an address, if there are any. -/
def SRd (w : World) (A : Option Addr) (L : List ByteArray) : Prop := 0 < L.length → ∃ g off, A = some ⟨g, off, none⟩ ∧ ∀ k, k < L.length → w.cell? ⟨g, off + k, none⟩ = some (.string (L.getD k e0))
section
variable {w w' : World} {A B : Option Addr} {L F : List ByteArray}
theorem SRd.nil (w : World) (A : Option Addr) : SRd w A [] := fun h => absurd h (by simp)
theorem SRd.drewN (h : SRd w A L) (n : Nat) : SRd (w.drewN n) A L := h
theorem SRd.drew (h : SRd w A L) : SRd w.drew A L := h
theorem SRd.cells (h : SRd w A L) (hp : 0 < L.length) : ∃ g off, A = some ⟨g, off, none⟩ ∧ Hid (∀ k, k < L.length → w.cell? ⟨g, off + k, none⟩ = some (.string (L.getD k e0))) := by
  obtain ⟨g, off, h1, h2⟩ := h hp
  exact ⟨g, off, h1, Lib.hid h2⟩
theorem nil_of {n : Nat} (hn : n = L.length) (h : ¬ 0 < n) : L = [] ∧ n = 0 := ⟨List.eq_nil_of_length_eq_zero (by omega), by omega⟩
end
theorem Tryd.strInfo : (Tryd.prog.info? 9).map (fun i => (i.zero, i.size, i.bytes)) = some (some (.string ⟨#[]⟩), 1, 16) := by kernel_rfl
/-- v is a slice of the call's own that reads these texts. -/
def Row (w : World) (B : Nat) (v : Value) (L : List ByteArray) : Prop := w.ownsRow B 9 1 v L.length (L.map Value.string)
section
variable {w w' : World} {B : Nat} {v : Value} {L M : List ByteArray}
theorem Row.nil (w : World) (B : Nat) : Row w B (.slice none 0 0) [] := ⟨rfl, .inl ⟨rfl, rfl⟩⟩
theorem Row.form (h : Row w B v L) : ∃ a c, v = .slice a L.length c := by
  rcases h.2 with ⟨rfl, h0⟩ | ⟨gr, cap, cur, rfl, _⟩
  · exact ⟨none, 0, by rw [h0]⟩
  · exact ⟨_, _, rfl⟩
theorem Row.fr {X : List Nat} (h : Row w B v L) (hf : Fr X w w') (hn : ∀ k, v.ownBlock = some k → k ∉ X) : Row w' B v L := by
  obtain ⟨h1, h2⟩ := h
  refine ⟨h1, ?_⟩
  rcases h2 with h2 | ⟨gr, cap, cur, rfl, hB, hh, h3⟩
  · exact .inl h2
  · exact .inr ⟨gr, cap, cur, rfl, hB, (hf.block gr (lt_of_block hh) (hn gr rfl)).trans hh, h3⟩
theorem Row.below (h : Row w B v L) (hb : Below w.heap.size w w') : Row w' B v L := h.fr (Fr.of_below (X := []) hb) (by simp)
theorem Row.base {B' : Nat} (h : Row w B' v L) (hb : B ≤ B') : Row w B v L := by
  obtain ⟨h1, h2⟩ := h
  refine ⟨h1, ?_⟩
  rcases h2 with h2 | ⟨gr, cap, cur, rfl, hB, h3⟩
  · exact .inl h2
  · exact .inr ⟨gr, cap, cur, rfl, Nat.le_trans hb hB, h3⟩
theorem Row.rd {a : Option Addr} {n c : Nat} (h : Row w B (.slice a n c) L) : SRd w a L := by
  intro hl
  rcases h.2 with ⟨_, h0⟩ | ⟨gr, cap, cur, e, hB, hh, h3⟩
  · omega
  · have e' := e
    injection e' with ha hn hc
    subst ha hn hc
    refine ⟨gr, 0, rfl, fun k hk => ?_⟩
    rw [Nat.zero_add, World.ownsRow.cellAt h k (by omega), List.getElem?_map, List.getD_eq_getElem?_getD, List.getElem?_eq_getElem hk]
    rfl
theorem row_empty (hB : B ≤ w.heap.size) : Row (w.alloc (.cells #[] 9)) B (.slice (some ⟨w.heap.size, 0, none⟩) 0 0) [] :=
  ⟨rfl, .inr ⟨w.heap.size, 0, #[], rfl, hB, Blk.made w 9 #[], Nat.le_refl _, Nat.zero_le _, rfl, rfl⟩⟩
theorem row_grow {w0 w1 : World} (hb : Below w0.heap.size w0 w) (ht : Row w w0.heap.size v L) (hg : w.grownBy w1 v.ownBlock) : Below w0.heap.size w0 w1 := by
  refine Fr.later (X := v.ownBlock.toList) ((Fr.refl _ w).grown hg (fun k hk => .inl (by simp [hk]))) hb (fun b hm => ?_) hb.size
  have hk : v.ownBlock = some b := by cases hv : v.ownBlock with | none => rw [hv] at hm; cases hm | some k => rw [hv] at hm; simp at hm; rw [hm]
  exact (World.ownsRow.lt ht b hk).1
theorem add_to (g off j : Nat) : (⟨g, off, none⟩ : Addr).add j = ⟨g, off + j, none⟩ := by
  unfold Addr.add
  split
  · rename_i h; subst h; rfl
  · rfl
theorem srd_news {ad : Addr} (h : SRd w (some ad) M) : ∀ (j : Nat) (u : Value), (M.map Value.string)[j]? = some u → w.cell? (ad.add j) = some u := by
  intro j u hj
  have hl : j < M.length := by
    have := (List.getElem?_eq_some_iff.1 hj).1
    rwa [List.length_map] at this
  obtain ⟨g, off, e, hc⟩ := h (by omega)
  obtain rfl : ad = ⟨g, off, none⟩ := Option.some.inj e
  rw [add_to, hc j hl, ← hj, List.getElem?_map, List.getD_eq_getElem?_getD, List.getElem?_eq_getElem hl]
  rfl
theorem one_cells (M : List ByteArray) : ∀ u ∈ M.map Value.string, u.oneCell' = true := by
  intro u hu
  obtain ⟨x, _, rfl⟩ := List.mem_map.1 hu
  rfl
/-- append of texts that stand somewhere to a row of one's own. -/
theorem append_row {ops : Array Oper} {rest : List Oper} {o : Oper} {a : Act} {Q : Exit → Act → World → Prop} {w0 : World} (hgd : o.guard = none) (s x : Operand) (ho : o.op = .call { callee := .builtin .append, args := #[s, x], argTypes := #[81, 81] })
    (hb : Below w0.heap.size w0 w) (ht : Row w w0.heap.size v L) (hs : a.eval s = v) (ad : Addr) (m c : Nat) (hx : a.eval x = .slice (some ad) m c) (hm : m = M.length) (hrd : SRd w (some ad) M) (hsm : L.length + M.length ≤ 1000)
    (h : ∀ v' w', Row w' w0.heap.size v' (L ++ M) → Below w0.heap.size w0 w' → wpList Tryd.prog ops Q rest (a.put o.dst v') w') : wpList Tryd.prog ops Q (o :: rest) a w := by
  obtain ⟨i0, hi0, hz0, hz1, hz2⟩ := info_parts Tryd.strInfo
  subst hm
  refine wpList_append_own w hgd s x 81 ho w0.heap.size 9 i0 (.string ⟨#[]⟩) 1 16 Tryd.underlying81 hi0 hz0 hz1 hz2 rfl (by decide) v L.length (L.map Value.string) hs ht ad M.length c (M.map Value.string) hx (by rw [List.length_map, Nat.mul_one]) (srd_news hrd) (one_cells M) (by unfold maxLen; omega) (by omega) hb.size ?_
  intro v' w' ho' hg _
  refine h v' w' ?_ (row_grow hb ht hg)
  unfold Row
  rw [List.length_append, List.map_append]
  exact ho'
/-- append of nothing. -/
theorem append_row_none {ops : Array Oper} {rest : List Oper} {o : Oper} {a : Act} {Q : Exit → Act → World → Prop} (hgd : o.guard = none) (s x : Operand) (ho : o.op = .call { callee := .builtin .append, args := #[s, x], argTypes := #[81, 81] })
    (ht : Row w B v L) (hs : a.eval s = v) (hx : a.eval x = .slice none 0 0) (h : ∀ v', v' = v → wpList Tryd.prog ops Q rest (a.put o.dst v') w) : wpList Tryd.prog ops Q (o :: rest) a w := by
  obtain ⟨i0, hi0, hz0, hz1, hz2⟩ := info_parts Tryd.strInfo
  exact wpList_append_own_none hgd s x 81 ho B 9 i0 1 Tryd.underlying81 hi0 v L.length (L.map Value.string) hs ht hx (h v rfl)
end
theorem drew_on {w w1 : World} {j : Nat} (h : w1 = w.drewN j) (k : Nat) : w1.drewN k = w.drewN (j + k) := by rw [h, World.drewN_drewN]
theorem below_drewN {B : Nat} {a w : World} (h : Below B a w) (n : Nat) : Below B a (w.drewN n) := ⟨h.os, h.tape, h.output, h.size, h.block⟩
def StrsOf (w : World) (A : Option Addr) (n : Nat) (L : List ByteArray) : Prop := n = L.length ∧ SRd w A L
section
open Go.ChangeShapes Go.WideShapes Go.RowKit Go.Deep
variable {H : Type} {enc : TypeId × Value → H} {w : World}
set_option maxRecDepth 100000 in
theorem strs_open {r : Reach} {b0 b1 : Nat} {sp : Nat → Bool} {held : Bool} {v : Value} {d : DataW H} {ps : List MemPlace} (hval : Value.okWide Tryd.prog w r b0 81 v) (hd : DataW.Trod enc Tryd.prog w b1 sp held 81 v d ps) :
    ∃ a len cap xs, v = .slice a len cap ∧ len ≤ maxLen ∧ StrsOf w a len xs := by
  obtain ⟨a0, len, cap, rfl⟩ := okWide_slice Tryd.underlying81 hval
  obtain ⟨fuel, hf⟩ := hd
  rcases ChangeShapes.open_strings Tryd.underlying81 Tryd.underlying9 (by kernel_rfl) hf with ⟨hcs, hx⟩ | ⟨a, len', cap', ss, hcs, _, hl, hm, hz, hx, hcell, hsz⟩
  · simp [Value.cells] at hcs
    obtain ⟨rfl, rfl, rfl⟩ := hcs
    exact ⟨none, 0, 0, [], rfl, Nat.zero_le _, rfl, SRd.nil _ _⟩
  · simp [Value.cells] at hcs
    obtain ⟨rfl, rfl, rfl⟩ := hcs
    have hlen : len ≤ ss.length := by rw [hz]; split <;> omega
    refine ⟨some a, len, cap, ss.take len, rfl, Nat.le_trans hl hm, by rw [List.length_take]; omega, fun hp => ?_⟩
    rw [List.length_take] at hp
    obtain ⟨b, off, spot⟩ := a
    have hspot : spot = none := by simpa [Addr.add] using World.cell?_spot (hcell 0 (by omega))
    subst hspot
    refine ⟨b, off, rfl, fun j hj => ?_⟩
    rw [List.length_take] at hj
    have h1 := hcell j (by omega)
    rw [add_plain] at h1
    rw [h1, List.getD_eq_getElem?_getD, List.getD_eq_getElem?_getD, List.getElem?_take, if_pos (by omega)]
    rfl
end
end Go.Proofs.YtfmkeapbddhndaaDoor
