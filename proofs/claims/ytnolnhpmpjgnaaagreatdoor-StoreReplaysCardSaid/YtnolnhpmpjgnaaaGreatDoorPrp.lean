/- What is proved here, of whatever program: which blocks a step may change (Fr), and how that goes on; a block of cells that is known whole (Blk). No conditions. What is proved here, of whatever program: the place of a text among others, texts that stand somewhere, rows of texts of a call's own and append to them, and an argument that is a slice of texts. No conditions but those that each theorem names. What is proved here: properties as plain values, where they stand, and rows of them. No conditions. -/
import Derived.Test.YtnolnhpmpjgnaaaGreatDoorLib
import Derived.Deep.Draws
import Derived.Laws.OwnMore
import Derived.OwnWalk
import Derived.Deep.Slices
import Derived.Deep.Fields
import Derived.Lib.Hide
import Derived.Laws.AppendOwn
import Derived.Laws.AppendOwnNone
import Derived.SliceStrings
import Derived.Maps.AppendAt
import Derived.Lib.AppendZeros
namespace Go.Proofs.YtnolnhpmpjgnaaaGreatDoor
open Go.ChangeShapes Go.WideShapes Go.RowKit Go.Deep

/-- Of what was there nothing has changed but the blocks of X. -/
structure Fr (X : List Nat) (w w' : World) : Prop where
  os : w'.os = w.os
  tape : w'.tape = w.tape
  output : w'.output = w.output
  size : w.heap.size ≤ w'.heap.size
  block : ∀ b, b < w.heap.size → b ∉ X → w'.heap[b]? = w.heap[b]?
section
variable {X Y : List Nat} {a w w' : World}
theorem Fr.refl (X : List Nat) (w : World) : Fr X w w := ⟨rfl, rfl, rfl, Nat.le_refl _, fun _ _ _ => rfl⟩
theorem Fr.of_below (h : Below w.heap.size w w') : Fr X w w' := ⟨h.os, h.tape, h.output, h.size, fun b hb _ => h.block b hb⟩
theorem Fr.mono (h : Fr X w w') (hs : ∀ b ∈ X, b < w.heap.size → b ∈ Y) : Fr Y w w' :=
  ⟨h.os, h.tape, h.output, h.size, fun b hb hn => h.block b hb fun hx => hn (hs b hx hb)⟩
theorem Fr.trans (h : Fr X a w) (g : Fr Y w w') (hs : ∀ b ∈ Y, b < a.heap.size → b ∈ X) : Fr X a w' :=
  ⟨g.os.trans h.os, g.tape.trans h.tape, g.output.trans h.output, Nat.le_trans h.size g.size,
   fun b hb hn => (g.block b (Nat.lt_of_lt_of_le hb h.size) fun hy => hn (hs b hy hb)).trans (h.block b hb hn)⟩
theorem Fr.then (h : Fr X a w) (g : Fr [] w w') : Fr X a w' := h.trans g fun b hb => by cases hb
theorem Fr.below {B : Nat} (h : Fr X w w') (hX : ∀ b ∈ X, B ≤ b) (hB : B ≤ w.heap.size) : Below B w w' :=
  ⟨h.os, h.tape, h.output, h.size, fun b hb => h.block b (by omega) fun hx => by have := hX b hx; omega⟩
theorem Fr.drew (h : Fr X a w) : Fr X a w.drew := ⟨h.os, h.tape, h.output, h.size, h.block⟩
theorem Fr.drewN (h : Fr X a w) (n : Nat) : Fr X a (w.drewN n) := ⟨h.os, h.tape, h.output, h.size, h.block⟩
theorem Fr.alloc (h : Fr X a w) (o : Obj) : Fr X a (w.alloc o) :=
  ⟨h.os, h.tape, h.output, Nat.le_trans h.size (by simp), fun b hb hn => (Below.heap_alloc w o b (Nat.lt_of_lt_of_le hb h.size)).trans (h.block b hb hn)⟩
theorem Fr.setCell (h : Fr X a w) {p : Addr} (hp : p.block ∈ X ∨ a.heap.size ≤ p.block) (u : Value) : Fr X a (w.setCell p u) :=
  ⟨h.os, h.tape, h.output, by simpa [World.setCell] using h.size, fun b hb hn => (Below.heap_setCell w p u b (by
    rintro rfl
    rcases hp with hp | hp
    · exact hn hp
    · omega)).trans (h.block b hb hn)⟩
theorem Fr.grown {row : Option Nat} (h : Fr X a w) (hg : w.grownBy w' row) (hr : ∀ k, row = some k → k ∈ X ∨ a.heap.size ≤ k) : Fr X a w' :=
  ⟨hg.os.trans h.os, hg.tape.trans h.tape, hg.output.trans h.output, Nat.le_trans h.size hg.size,
   fun b hb hn => (hg.block b (Nat.lt_of_lt_of_le hb h.size) (fun e => by
    rcases hr b e.symm with hp | hp
    · exact hn hp
    · omega)).trans (h.block b hb hn)⟩
theorem Fr.cell (h : Fr X w w') {b o : Nat} (hb : b < w.heap.size) (hn : b ∉ X) : w'.cell? ⟨b, o, none⟩ = w.cell? ⟨b, o, none⟩ := World.cell?_of_block (w := w) (h.block b hb hn)
theorem Fr.frozen (h : Fr X w w') {b o : Nat} (hb : b < w.heap.size) (hn : b ∉ X) : w'.frozen? ⟨b, o, none⟩ = w.frozen? ⟨b, o, none⟩ := World.frozen?_of_block (w := w) (h.block b hb hn)
/-- What came in is still there, while only the call's own blocks change. -/
theorem Fr.later {B : Nat} (h : Fr X w w') (hb : Below B a w) (hX : ∀ b ∈ X, B ≤ b) (hB : B ≤ w.heap.size) : Below B a w' := hb.trans (h.below hX hB)
end

/-- Block g is just these cells, all of which may be written. -/
def Blk (w : World) (g : Nat) (t : TypeId) (cs : Array Value) : Prop := w.heap[g]? = some (.cells cs t (0, 0))
section
variable {X : List Nat} {w w' : World} {g : Nat} {t : TypeId} {cs : Array Value}
theorem lt_of_block {w : World} {g : Nat} {o : Obj} (h : w.heap[g]? = some o) : g < w.heap.size := by
  rcases Nat.lt_or_ge g w.heap.size with hlt | hge
  · exact hlt
  · rw [Array.getElem?_eq_none hge] at h; cases h
theorem Blk.lt (h : Blk w g t cs) : g < w.heap.size := lt_of_block h
theorem Blk.cell (h : Blk w g t cs) (i : Nat) : w.cell? ⟨g, i, none⟩ = cs[i]? := by
  unfold Blk at h
  simp [World.cell?, h]
theorem Blk.frozen (h : Blk w g t cs) (i : Nat) : w.frozen? ⟨g, i, none⟩ = false := by
  unfold Blk at h
  simp [World.frozen?, h]
theorem Blk.made (w : World) (t : TypeId) (cs : Array Value) : Blk (w.alloc (.cells cs t)) w.heap.size t cs := by
  unfold Blk
  show (w.heap.push _)[w.heap.size]? = _
  simp
theorem Blk.fr (h : Blk w g t cs) (hf : Fr X w w') (hn : g ∉ X) : Blk w' g t cs := (hf.block g h.lt hn).trans h
theorem Blk.below {B : Nat} (h : Blk w g t cs) (hb : Below B w w') (hg : g < B) : Blk w' g t cs := (hb.block g hg).trans h
theorem Blk.drew (h : Blk w g t cs) : Blk w.drew g t cs := h
theorem Blk.drewN (h : Blk w g t cs) (n : Nat) : Blk (w.drewN n) g t cs := h
theorem Blk.alloc (h : Blk w g t cs) (o : Obj) : Blk (w.alloc o) g t cs := (Below.heap_alloc w o g h.lt).trans h
theorem Blk.store (h : Blk w g t cs) (i : Nat) (u : Value) : Blk (w.setCell ⟨g, i, none⟩ u) g t (cs.setIfInBounds i u) := by
  unfold Blk at h ⊢
  simp [World.setCell, Array.getElem?_modify, h]
theorem Blk.far (h : Blk w g t cs) {p : Addr} (hp : g ≠ p.block) (u : Value) : Blk (w.setCell p u) g t cs := (Below.heap_setCell w p u g hp).trans h
theorem Blk.grown {row : Option Nat} (h : Blk w g t cs) (hb : w.grownBy w' row) (hg : some g ≠ row) : Blk w' g t cs := (hb.block g h.lt hg).trans h
/-- Blocks of two kinds are two. -/
theorem Blk.other {g' : Nat} {t' : TypeId} {cs' : Array Value} {f : Nat × Nat} (h : Blk w g t cs) (h' : w.heap[g']? = some (.cells cs' t' f)) (hne : t ≠ t') : g ≠ g' := by
  rintro rfl
  unfold Blk at h
  rw [h] at h'
  injection h' with h'
  injection h' with _ ht
  exact hne ht
end
section
variable {H : Type} {enc : TypeId × Value → H} {P : Program} {w : World} {base : Nat} {spare : Nat → Bool} {held : Bool}
/-- A slice of structs, each of whose fields has one cell: the cells of the fields, and what each of them reads as. -/
theorem struct_slice {r : Reach} {b0 b1 : Nat} {sp : Nat → Bool} {t e : TypeId} {fs : Array Field} {v : Value} {d : DataW H} {ps : List MemPlace} (ht : P.underlying t = some (.slice e)) (he : P.underlying e = some (.struct fs))
    (hone : oneCellFields P fs = true) (hC : P.cellsOf e = fs.size) (hpos : 0 < fs.size) (hval : Value.okWide P w r b0 t v) (hd : DataW.Trod enc P w b1 sp held t v d ps) :
    ∃ a len cap, v = .slice a len cap ∧ len ≤ maxLen ∧ (len = 0 ∨ ∃ b off, a = some ⟨b, off, none⟩ ∧
      ∀ i, i < len → ∀ (j : Nat) (f : Field), fs[j]? = some f → ∃ (u : Value) (n : Nat) (y : DataW H × List MemPlace), w.cell? ⟨b, off + (i * fs.size + j), none⟩ = some u ∧ DataW.trod enc P w b1 sp held n f.type [u] = some y) := by
  obtain ⟨a0, len, cap, rfl⟩ := okWide_slice ht hval
  obtain ⟨fuel, hf⟩ := hd
  rcases open_slice ht hf with ⟨hcs, hx⟩ | ⟨a, len', cap', m, n, D, Pl, hcs, hb, hl, hm, hmm, hx, hi⟩
  · simp [Value.cells] at hcs
    obtain ⟨rfl, rfl, rfl⟩ := hcs
    exact ⟨none, 0, 0, rfl, Nat.zero_le _, .inl rfl⟩
  · simp [Value.cells] at hcs
    obtain ⟨rfl, rfl, rfl⟩ := hcs
    refine ⟨some a, len, cap, rfl, Nat.le_trans hl hm, ?_⟩
    have hlm : len ≤ m := by rw [hmm]; split <;> omega
    rcases Nat.eq_zero_or_pos len with h0 | h0
    · exact .inl h0
    · right
      have key : ∀ i, i < len → ∀ (j : Nat) (f : Field), fs[j]? = some f → ∃ (u : Value) (n : Nat) (y : DataW H × List MemPlace), w.cell? (a.add (i * fs.size + j)) = some u ∧ DataW.trod enc P w b1 sp held n f.type [u] = some y := by
        intro i hil j f hj
        obtain ⟨cs', hc, ht'⟩ := hi i (by omega)
        rw [hC] at hc
        obtain ⟨_, hcl, hat⟩ := World.cells?_some hc
        obtain ⟨ys, n', _, _, _, hyl, hfl⟩ := DataW.trod_struct he ht'
        obtain ⟨ho, hk⟩ := hone_of hone j f hj
        have hjl : j < fs.size := (Array.getElem?_eq_some_iff.1 hj).1
        have h1 := hfl j f hj
        have hys : ys[j]? = some (ys[j]'(by omega)) := List.getElem?_eq_getElem (by omega)
        rw [ho, hk, List.drop_eq_getElem_cons (by omega), List.take_succ_cons, List.take_zero] at h1
        refine ⟨cs'[j]'(by omega), _, _, ?_, h1.trans hys⟩
        rw [← Go.Deep.add_add, hat j hjl]
        exact List.getElem?_eq_getElem (by omega)
      obtain ⟨f0, hf0⟩ : ∃ f, fs[0]? = some f := ⟨fs[0]'(by omega), Array.getElem?_eq_getElem (by omega)⟩
      obtain ⟨u, _, _, hc, _⟩ := key 0 h0 0 f0 hf0
      obtain ⟨b, off, spot⟩ := a
      have hspot : spot = none := by simpa [Addr.add] using World.cell?_spot hc
      subst hspot
      exact ⟨b, off, rfl, fun i hil j f hj => by rw [← add_plain]; exact key i hil j f hj⟩
end
end Go.Proofs.YtnolnhpmpjgnaaaGreatDoor
namespace Go.Proofs.YtnolnhpmpjgnaaaGreatDoor
open Go.RowKit Go.Extern.Stop Go.Stop Go.Extern
section
variable {α : Type}
/-- The place of the first one that is x; -1 if there is none. -/
def idxI [DecidableEq α] (L : List α) (x : α) : Int := match L.findIdx? (fun y => decide (y = x)) with | some i => (i : Int) | none => -1
theorem idx_at [DecidableEq α] {L : List α} {e x : α} {k : Nat} (hk : k < L.length) (hx : L.getD k e = x) (hno : ∀ j, j < k → L.getD j e ≠ x) : idxI L x = k := by
  have h1 : L.findIdx? (fun y => decide (y = x)) = some k := by
    rw [List.findIdx?_eq_some_iff_getElem]
    rw [List.getD_eq_getElem?_getD, List.getElem?_eq_getElem hk] at hx
    refine ⟨hk, decide_eq_true hx, fun j hj hc => ?_⟩
    have := hno j hj
    rw [List.getD_eq_getElem?_getD, List.getElem?_eq_getElem (by omega)] at this
    exact this (of_decide_eq_true hc)
  unfold idxI
  rw [h1]
theorem idx_no [DecidableEq α] {L : List α} {e x : α} (hno : ∀ j, j < L.length → L.getD j e ≠ x) : idxI L x = -1 := by
  have h1 : L.findIdx? (fun y => decide (y = x)) = none := by
    rw [List.findIdx?_eq_none_iff]
    intro y hy
    obtain ⟨j, hj, rfl⟩ := List.mem_iff_getElem.1 hy
    have := hno j hj
    rw [List.getD_eq_getElem?_getD, List.getElem?_eq_getElem hj] at this
    exact decide_eq_false this
  unfold idxI
  rw [h1]
theorem idx_bd [DecidableEq α] (L : List α) (x : α) : -1 ≤ idxI L x ∧ idxI L x < L.length ∧ (0 ≤ idxI L x ↔ x ∈ L) := by
  unfold idxI
  cases h : L.findIdx? (fun y => decide (y = x)) with
  | none =>
    rw [List.findIdx?_eq_none_iff] at h
    refine ⟨Int.le_refl _, by show (-1 : Int) < _; omega, fun h0 => absurd h0 (by decide), fun hm => ?_⟩
    have := h x hm
    simp at this
  | some i =>
    rw [List.findIdx?_eq_some_iff_getElem] at h
    obtain ⟨hi, hx, _⟩ := h
    refine ⟨by show (-1 : Int) ≤ i; omega, by show (i : Int) < _; omega, fun _ => ?_, fun _ => by show (0 : Int) ≤ i; omega⟩
    rw [← of_decide_eq_true hx]
    exact List.getElem_mem hi
end
theorem eq_text (a b : ByteArray) : (a.toList == b.toList) = decide (a = b) := by
  rw [ByteArray.toList_eq, ByteArray.toList_eq]
  by_cases h : a = b
  · subst h; simp
  · rw [decide_eq_false h]
    exact beq_eq_false_iff_ne.2 fun e => h (ByteArray.ext (Array.toList_inj.mp e))
theorem ret_bool {a b : Bool} (h : a = b) : Ending.returned (.bool a) = .returned (.bool b) := by rw [h]
theorem ret_str {a b : ByteArray} (h : a = b) : Ending.returned (.string a) = .returned (.string b) := by rw [h]
/-- Does a text stand among others? -/
def inB (L : List ByteArray) (v : ByteArray) : Bool := decide (0 ≤ idxI L v)
theorem inB_iff {L : List ByteArray} {v : ByteArray} : inB L v = true ↔ v ∈ L := by
  unfold inB
  rw [decide_eq_true_iff]
  exact (idx_bd L v).2.2
/-- No text. -/
def e0 : ByteArray := ⟨#[]⟩
/-- These texts stand at an address, if there are any. -/
def SRd (w : World) (A : Option Addr) (L : List ByteArray) : Prop := 0 < L.length → ∃ g off, A = some ⟨g, off, none⟩ ∧ ∀ k, k < L.length → w.cell? ⟨g, off + k, none⟩ = some (.string (L.getD k e0))
section
variable {w w' : World} {A B : Option Addr} {L F : List ByteArray}
theorem SRd.nil (w : World) (A : Option Addr) : SRd w A [] := fun h => absurd h (by simp)
theorem SRd.drewN (h : SRd w A L) (n : Nat) : SRd (w.drewN n) A L := h
theorem SRd.drew (h : SRd w A L) : SRd w.drew A L := h
theorem SRd.cells (h : SRd w A L) (hp : 0 < L.length) : ∃ g off, A = some ⟨g, off, none⟩ ∧ Hid (∀ k, k < L.length → w.cell? ⟨g, off + k, none⟩ = some (.string (L.getD k e0))) := by
  obtain ⟨g, off, h1, h2⟩ := h hp
  exact ⟨g, off, h1, Lib.hid h2⟩
theorem nil_of {n : Nat} (hn : n = L.length) (h : ¬ 0 < n) : L = [] ∧ n = 0 := ⟨List.eq_nil_of_length_eq_zero (by omega), by omega⟩
end
theorem Tryz.strInfo : (Tryz.prog.info? 9).map (fun i => (i.zero, i.size, i.bytes)) = some (some (.string ⟨#[]⟩), 1, 16) := by kernel_rfl
/-- v is a slice of the call's own that reads these texts. -/
def Row (w : World) (B : Nat) (v : Value) (L : List ByteArray) : Prop := w.ownsRow B 9 1 v L.length (L.map Value.string)
section
variable {w w' : World} {B : Nat} {v : Value} {L M : List ByteArray}
theorem Row.nil (w : World) (B : Nat) : Row w B (.slice none 0 0) [] := ⟨rfl, .inl ⟨rfl, rfl⟩⟩
theorem Row.form (h : Row w B v L) : ∃ a c, v = .slice a L.length c := by
  rcases h.2 with ⟨rfl, h0⟩ | ⟨gr, cap, cur, rfl, _⟩
  · exact ⟨none, 0, by rw [h0]⟩
  · exact ⟨_, _, rfl⟩
theorem Row.fr {X : List Nat} (h : Row w B v L) (hf : Fr X w w') (hn : ∀ k, v.ownBlock = some k → k ∉ X) : Row w' B v L := by
  obtain ⟨h1, h2⟩ := h
  refine ⟨h1, ?_⟩
  rcases h2 with h2 | ⟨gr, cap, cur, rfl, hB, hh, h3⟩
  · exact .inl h2
  · exact .inr ⟨gr, cap, cur, rfl, hB, (hf.block gr (lt_of_block hh) (hn gr rfl)).trans hh, h3⟩
theorem Row.below (h : Row w B v L) (hb : Below w.heap.size w w') : Row w' B v L := h.fr (Fr.of_below (X := []) hb) (by simp)
theorem Row.base {B' : Nat} (h : Row w B' v L) (hb : B ≤ B') : Row w B v L := by
  obtain ⟨h1, h2⟩ := h
  refine ⟨h1, ?_⟩
  rcases h2 with h2 | ⟨gr, cap, cur, rfl, hB, h3⟩
  · exact .inl h2
  · exact .inr ⟨gr, cap, cur, rfl, Nat.le_trans hb hB, h3⟩
theorem Row.rd {a : Option Addr} {n c : Nat} (h : Row w B (.slice a n c) L) : SRd w a L := by
  intro hl
  rcases h.2 with ⟨_, h0⟩ | ⟨gr, cap, cur, e, hB, hh, h3⟩
  · omega
  · have e' := e
    injection e' with ha hn hc
    subst ha hn hc
    refine ⟨gr, 0, rfl, fun k hk => ?_⟩
    rw [Nat.zero_add, World.ownsRow.cellAt h k (by omega), List.getElem?_map, List.getD_eq_getElem?_getD, List.getElem?_eq_getElem hk]
    rfl
theorem row_empty (hB : B ≤ w.heap.size) : Row (w.alloc (.cells #[] 9)) B (.slice (some ⟨w.heap.size, 0, none⟩) 0 0) [] :=
  ⟨rfl, .inr ⟨w.heap.size, 0, #[], rfl, hB, Blk.made w 9 #[], Nat.le_refl _, Nat.zero_le _, rfl, rfl⟩⟩
theorem row_grow {w0 w1 : World} (hb : Below w0.heap.size w0 w) (ht : Row w w0.heap.size v L) (hg : w.grownBy w1 v.ownBlock) : Below w0.heap.size w0 w1 := by
  refine Fr.later (X := v.ownBlock.toList) ((Fr.refl _ w).grown hg (fun k hk => .inl (by simp [hk]))) hb (fun b hm => ?_) hb.size
  have hk : v.ownBlock = some b := by cases hv : v.ownBlock with | none => rw [hv] at hm; cases hm | some k => rw [hv] at hm; simp at hm; rw [hm]
  exact (World.ownsRow.lt ht b hk).1
theorem add_to (g off j : Nat) : (⟨g, off, none⟩ : Addr).add j = ⟨g, off + j, none⟩ := by
  unfold Addr.add
  split
  · rename_i h; subst h; rfl
  · rfl
theorem srd_news {ad : Addr} (h : SRd w (some ad) M) : ∀ (j : Nat) (u : Value), (M.map Value.string)[j]? = some u → w.cell? (ad.add j) = some u := by
  intro j u hj
  have hl : j < M.length := by
    have := (List.getElem?_eq_some_iff.1 hj).1
    rwa [List.length_map] at this
  obtain ⟨g, off, e, hc⟩ := h (by omega)
  obtain rfl : ad = ⟨g, off, none⟩ := Option.some.inj e
  rw [add_to, hc j hl, ← hj, List.getElem?_map, List.getD_eq_getElem?_getD, List.getElem?_eq_getElem hl]
  rfl
theorem one_cells (M : List ByteArray) : ∀ u ∈ M.map Value.string, u.oneCell' = true := by
  intro u hu
  obtain ⟨x, _, rfl⟩ := List.mem_map.1 hu
  rfl
/-- append of texts that stand somewhere to a row of one's own. -/
theorem append_row {ops : Array Oper} {rest : List Oper} {o : Oper} {a : Act} {Q : Exit → Act → World → Prop} {w0 : World} (hgd : o.guard = none) (s x : Operand) (ho : o.op = .call { callee := .builtin .append, args := #[s, x], argTypes := #[40, 40] })
    (hb : Below w0.heap.size w0 w) (ht : Row w w0.heap.size v L) (hs : a.eval s = v) (ad : Addr) (m c : Nat) (hx : a.eval x = .slice (some ad) m c) (hm : m = M.length) (hrd : SRd w (some ad) M) (hsm : L.length + M.length ≤ 1000)
    (h : ∀ v' w', Row w' w0.heap.size v' (L ++ M) → Below w0.heap.size w0 w' → wpList Tryz.prog ops Q rest (a.put o.dst v') w') : wpList Tryz.prog ops Q (o :: rest) a w := by
  obtain ⟨i0, hi0, hz0, hz1, hz2⟩ := info_parts Tryz.strInfo
  subst hm
  refine wpList_append_own w hgd s x 40 ho w0.heap.size 9 i0 (.string ⟨#[]⟩) 1 16 Tryz.underlying40 hi0 hz0 hz1 hz2 rfl (by decide) v L.length (L.map Value.string) hs ht ad M.length c (M.map Value.string) hx (by rw [List.length_map, Nat.mul_one]) (srd_news hrd) (one_cells M) (by unfold maxLen; omega) (by omega) hb.size ?_
  intro v' w' ho' hg _
  refine h v' w' ?_ (row_grow hb ht hg)
  unfold Row
  rw [List.length_append, List.map_append]
  exact ho'
/-- append of nothing. -/
theorem append_row_none {ops : Array Oper} {rest : List Oper} {o : Oper} {a : Act} {Q : Exit → Act → World → Prop} (hgd : o.guard = none) (s x : Operand) (ho : o.op = .call { callee := .builtin .append, args := #[s, x], argTypes := #[40, 40] })
    (ht : Row w B v L) (hs : a.eval s = v) (hx : a.eval x = .slice none 0 0) (h : ∀ v', v' = v → wpList Tryz.prog ops Q rest (a.put o.dst v') w) : wpList Tryz.prog ops Q (o :: rest) a w := by
  obtain ⟨i0, hi0, hz0, hz1, hz2⟩ := info_parts Tryz.strInfo
  exact wpList_append_own_none hgd s x 40 ho B 9 i0 1 Tryz.underlying40 hi0 v L.length (L.map Value.string) hs ht hx (h v rfl)
end
theorem drew_on {w w1 : World} {j : Nat} (h : w1 = w.drewN j) (k : Nat) : w1.drewN k = w.drewN (j + k) := by rw [h, World.drewN_drewN]
theorem below_drewN {B : Nat} {a w : World} (h : Below B a w) (n : Nat) : Below B a (w.drewN n) := ⟨h.os, h.tape, h.output, h.size, h.block⟩
def StrsOf (w : World) (A : Option Addr) (n : Nat) (L : List ByteArray) : Prop := n = L.length ∧ SRd w A L
section
open Go.ChangeShapes Go.WideShapes Go.RowKit Go.Deep
variable {H : Type} {enc : TypeId × Value → H} {w : World}
set_option maxRecDepth 100000 in
theorem strs_open {r : Reach} {b0 b1 : Nat} {sp : Nat → Bool} {held : Bool} {v : Value} {d : DataW H} {ps : List MemPlace} (hval : Value.okWide Tryz.prog w r b0 40 v) (hd : DataW.Trod enc Tryz.prog w b1 sp held 40 v d ps) :
    ∃ a len cap xs, v = .slice a len cap ∧ len ≤ maxLen ∧ StrsOf w a len xs := by
  obtain ⟨a0, len, cap, rfl⟩ := okWide_slice Tryz.underlying40 hval
  obtain ⟨fuel, hf⟩ := hd
  rcases ChangeShapes.open_strings Tryz.underlying40 Tryz.underlying9 (by kernel_rfl) hf with ⟨hcs, hx⟩ | ⟨a, len', cap', ss, hcs, _, hl, hm, hz, hx, hcell, hsz⟩
  · simp [Value.cells] at hcs
    obtain ⟨rfl, rfl, rfl⟩ := hcs
    exact ⟨none, 0, 0, [], rfl, Nat.zero_le _, rfl, SRd.nil _ _⟩
  · simp [Value.cells] at hcs
    obtain ⟨rfl, rfl, rfl⟩ := hcs
    have hlen : len ≤ ss.length := by rw [hz]; split <;> omega
    refine ⟨some a, len, cap, ss.take len, rfl, Nat.le_trans hl hm, by rw [List.length_take]; omega, fun hp => ?_⟩
    rw [List.length_take] at hp
    obtain ⟨b, off, spot⟩ := a
    have hspot : spot = none := by simpa [Addr.add] using World.cell?_spot (hcell 0 (by omega))
    subst hspot
    refine ⟨b, off, rfl, fun j hj => ?_⟩
    rw [List.length_take] at hj
    have h1 := hcell j (by omega)
    rw [add_plain] at h1
    rw [h1, List.getD_eq_getElem?_getD, List.getD_eq_getElem?_getD, List.getElem?_take, if_pos (by omega)]
    rfl
end
end Go.Proofs.YtnolnhpmpjgnaaaGreatDoor
namespace Go.Proofs.YtnolnhpmpjgnaaaGreatDoor
open Go.RowKit Go.Extern.Stop Go.Stop Go.Extern
/-- A property. -/
structure PV where
  id : Int
  n : Int
  s : ByteArray
  v : ByteArray
def p0 : PV := ⟨0, 0, e0, e0⟩
def PV.cells (p : PV) : List Value := [.int .i64 p.id, .int .i64 p.n, .string p.s, .string p.v]
def PV.agg (p : PV) : Value := .agg #[.int .i64 p.id, .int .i64 p.n, .string p.s, .string p.v]
abbrev PL := List PV
def pcs (L : PL) : List Value := L.flatMap PV.cells
theorem pcs_cons (p : PV) (L : PL) : pcs (p :: L) = .int .i64 p.id :: .int .i64 p.n :: .string p.s :: .string p.v :: pcs L := rfl
theorem pcs_len (L : PL) : (pcs L).length = L.length * 4 := by
  induction L with
  | nil => rfl
  | cons p L ih =>
    rw [pcs_cons]
    simp only [List.length_cons]
    omega
theorem pcs_app (L M : PL) : pcs (L ++ M) = pcs L ++ pcs M := by simp [pcs]
theorem pcs_get (L : PL) : ∀ k, k < L.length → (pcs L)[k * 4]? = some (.int .i64 (L.getD k p0).id) ∧ (pcs L)[k * 4 + 1]? = some (.int .i64 (L.getD k p0).n) ∧ (pcs L)[k * 4 + 2]? = some (.string (L.getD k p0).s) ∧ (pcs L)[k * 4 + 3]? = some (.string (L.getD k p0).v) := by
  induction L with
  | nil => intro k hk; cases hk
  | cons p L ih =>
    intro k hk
    rw [pcs_cons]
    rcases k with _ | k
    · exact ⟨rfl, rfl, rfl, rfl⟩
    · rw [show (k + 1) * 4 = k * 4 + 1 + 1 + 1 + 1 by omega]
      simpa using ih k (by simpa using hk)
theorem pcs_ones (L : PL) : ∀ u ∈ pcs L, u.oneCell' = true := by
  intro u hu
  obtain ⟨p, _, hp⟩ := List.mem_flatMap.1 hu
  unfold PV.cells at hp
  simp only [List.mem_cons, List.not_mem_nil, or_false] at hp
  rcases hp with rfl | rfl | rfl | rfl <;> rfl
/-- The cells of a property. -/
structure PCells (w : World) (g o : Nat) (p : PV) : Prop where
  c0 : w.cell? ⟨g, o, none⟩ = some (.int .i64 p.id)
  c1 : w.cell? ⟨g, o + 1, none⟩ = some (.int .i64 p.n)
  c2 : w.cell? ⟨g, o + 2, none⟩ = some (.string p.s)
  c3 : w.cell? ⟨g, o + 3, none⟩ = some (.string p.v)
/-- These properties stand at an address, if there are any, in a block below B or in one of properties. -/
def PIn (w : World) (B : Nat) (A : Option Addr) (L : PL) : Prop := 0 < L.length → ∃ g off, A = some ⟨g, off, none⟩ ∧ (∀ k, k < L.length → PCells w g (off + k * 4) (L.getD k p0)) ∧ (g < B ∨ ∃ cs, w.heap[g]? = some (.cells cs 98 (0, 0)))
section
variable {X : List Nat} {w w' : World} {B B' : Nat} {A : Option Addr} {L : PL}
theorem PCells.at {g o : Nat} {p : PV} (h : PCells w g o p) (hb : w'.heap[g]? = w.heap[g]?) : PCells w' g o p :=
  ⟨(World.cell?_of_block (w := w) hb).trans h.c0, (World.cell?_of_block (w := w) hb).trans h.c1, (World.cell?_of_block (w := w) hb).trans h.c2, (World.cell?_of_block (w := w) hb).trans h.c3⟩
theorem PIn.nil (w : World) (B : Nat) (A : Option Addr) : PIn w B A [] := fun h => absurd h (by simp)
/-- While only blocks from B on change that are none of properties, they stand. -/
theorem PIn.fr (h : PIn w B A L) (hf : Fr X w w') (hX : ∀ g ∈ X, B ≤ g ∧ ∀ cs, w.heap[g]? ≠ some (.cells cs 98 (0, 0))) : PIn w' B A L := by
  intro hp
  obtain ⟨g, off, e, hc, hg⟩ := h hp
  have hn : g ∉ X := fun hm => by
    rcases hg with hg | ⟨cs, hg⟩
    · have := (hX g hm).1; omega
    · exact (hX g hm).2 cs hg
  have hb := hf.block g (lt_of_cell' (hc 0 hp).c0) hn
  exact ⟨g, off, e, fun k hk => (hc k hk).at hb, hg.imp id fun ⟨cs, hh⟩ => ⟨cs, hb.trans hh⟩⟩
theorem PIn.below (h : PIn w B A L) (hb : Below w.heap.size w w') : PIn w' B A L := h.fr (X := []) (Fr.of_below hb) (fun g hg => by cases hg)
theorem PIn.drewN (h : PIn w B A L) (d : Nat) : PIn (w.drewN d) B A L := fun hp => by
  obtain ⟨g, off, e, hc, hg⟩ := h hp
  exact ⟨g, off, e, fun k hk => (hc k hk).at rfl, hg⟩
theorem PIn.alloc (h : PIn w B A L) (o : Obj) : PIn (w.alloc o) B A L := h.below ((Below.refl _ w).alloc (Nat.le_refl _) o)
theorem PIn.mono (h : PIn w B A L) (hB : B ≤ B') : PIn w B' A L := fun hp => by
  obtain ⟨g, off, e, hc, hg⟩ := h hp
  exact ⟨g, off, e, hc, hg.imp (fun x => by omega) id⟩
theorem PIn.news {ad : Addr} (h : PIn w B (some ad) L) : ∀ (j : Nat) (u : Value), (pcs L)[j]? = some u → w.cell? (ad.add j) = some u := by
  intro j u hj
  have hl : j < L.length * 4 := by
    have := (List.getElem?_eq_some_iff.1 hj).1
    rwa [pcs_len] at this
  obtain ⟨g, off, e, hc, _⟩ := h (by omega)
  obtain rfl : ad = ⟨g, off, none⟩ := Option.some.inj e
  rw [Addr.add_lit]
  have hh := hc (j / 4) (by omega)
  obtain ⟨q1, q2, q3, q4⟩ := pcs_get L (j / 4) (by omega)
  rcases (show j = j / 4 * 4 ∨ j = j / 4 * 4 + 1 ∨ j = j / 4 * 4 + 2 ∨ j = j / 4 * 4 + 3 by omega) with hj' | hj' | hj' | hj'
  · rw [hj'] at hj ⊢; rw [← hj, q1]; exact hh.c0
  · rw [hj'] at hj ⊢; rw [← hj, q2]; exact hh.c1
  · rw [hj'] at hj ⊢; rw [← hj, q3]; exact hh.c2
  · rw [hj'] at hj ⊢; rw [← hj, q4]; exact hh.c3
/-- A row of one's own of properties. -/
def PRow (w : World) (B : Nat) (v : Value) (L : PL) : Prop := w.ownsRow B 98 4 v L.length (pcs L)
theorem PRow.pin {a : Option Addr} {n c : Nat} (h : PRow w B (.slice a n c) L) : PIn w B' a L := by
  intro hl
  rcases h.2 with ⟨_, h0⟩ | ⟨gr, cap, cur, e, hB, hh, h3⟩
  · omega
  · have e' := e
    injection e' with ha hn hc
    subst ha hn hc
    refine ⟨gr, 0, rfl, fun k hk => ?_, .inr ⟨cur, hh⟩⟩
    obtain ⟨q1, q2, q3, q4⟩ := pcs_get L k hk
    simp only [Nat.zero_add]
    exact ⟨(World.ownsRow.cellAt h (k * 4) (by omega)).trans q1, (World.ownsRow.cellAt h (k * 4 + 1) (by omega)).trans q2, (World.ownsRow.cellAt h (k * 4 + 2) (by omega)).trans q3, (World.ownsRow.cellAt h (k * 4 + 3) (by omega)).trans q4⟩
theorem PRow.form {v : Value} (h : PRow w B v L) : ∃ a c, v = .slice a L.length c := by
  rcases h.2 with ⟨rfl, h0⟩ | ⟨gr, cap, cur, rfl, _⟩
  · exact ⟨none, 0, by rw [h0]⟩
  · exact ⟨_, _, rfl⟩
theorem PRow.nil (w : World) (B : Nat) : PRow w B (.slice none 0 0) [] := World.ownsRow_nil _ _ _ _
theorem PRow.below {v : Value} (h : PRow w B v L) (hb : Below w.heap.size w w') : PRow w' B v L := own_below h hb
end
theorem Tryz.propInfo : (Tryz.prog.info? 98).map (fun i => (i.zero, i.size, i.bytes)) = some (some (.agg #[.int .i64 0, .int .i64 0, .string ⟨#[]⟩, .string ⟨#[]⟩]), 4, 48) := by kernel_rfl
end Go.Proofs.YtnolnhpmpjgnaaaGreatDoor
