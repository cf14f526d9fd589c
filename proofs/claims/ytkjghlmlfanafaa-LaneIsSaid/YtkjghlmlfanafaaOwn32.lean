/- What is proved here: rows of texts of a call's own: what they hold, and append to them as a step of a walk. No conditions. -/
import Derived.Test.YtkjghlmlfanafaaOpen32
import Derived.OwnWalk
import Derived.Laws.AppendOwnNone
namespace Go.Proofs.Ytkjghlmlfanafaa
open Go.RowKit Go.Extern.Stop Go.Stop Go.Extern
theorem Try.strInfo : (Try.prog.info? 9).map (fun i => (i.zero, i.size, i.bytes)) = some (some (.string ⟨#[]⟩), 1, 16) := by kernel_rfl
/-- v is a slice of the call's own that reads these texts. -/
def Row (w : World) (B : Nat) (v : Value) (L : List ByteArray) : Prop := w.ownsRow B 9 1 v L.length (L.map Value.string)
/-- A slice of texts that came in, and that it has no room where it has no address. -/
def StrsOfC (w : World) (A : Option Addr) (n c : Nat) (L : List ByteArray) : Prop := StrsOf w A n L ∧ (A = none → c = 0)
section
variable {w w' : World} {B : Nat} {v : Value} {L M : List ByteArray}
theorem Row.nil (w : World) (B : Nat) : Row w B (.slice none 0 0) [] := ⟨rfl, .inl ⟨rfl, rfl⟩⟩
theorem Row.form (h : Row w B v L) : ∃ a c, v = .slice a L.length c := by
  rcases h.2 with ⟨rfl, h0⟩ | ⟨gr, cap, cur, rfl, _⟩
  · exact ⟨none, 0, by rw [h0]⟩
  · exact ⟨_, _, rfl⟩
theorem Row.fr {X : List Nat} (h : Row w B v L) (hf : Fr X w w') (hn : ∀ k, v.ownBlock = some k → k ∉ X) : Row w' B v L := by
  obtain ⟨h1, h2⟩ := h
  refine ⟨h1, ?_⟩
  rcases h2 with h2 | ⟨gr, cap, cur, rfl, hB, hh, h3⟩
  · exact .inl h2
  · exact .inr ⟨gr, cap, cur, rfl, hB, (hf.block gr (lt_of_block hh) (hn gr rfl)).trans hh, h3⟩
theorem Row.below (h : Row w B v L) (hb : Below w.heap.size w w') : Row w' B v L := h.fr (Fr.of_below (X := []) hb) (by simp)
theorem Row.base {B' : Nat} (h : Row w B' v L) (hb : B ≤ B') : Row w B v L := by
  obtain ⟨h1, h2⟩ := h
  refine ⟨h1, ?_⟩
  rcases h2 with h2 | ⟨gr, cap, cur, rfl, hB, h3⟩
  · exact .inl h2
  · exact .inr ⟨gr, cap, cur, rfl, Nat.le_trans hb hB, h3⟩
theorem Row.rd {a : Option Addr} {n c : Nat} (h : Row w B (.slice a n c) L) : SRd w a L := by
  intro hl
  rcases h.2 with ⟨_, h0⟩ | ⟨gr, cap, cur, e, hB, hh, h3⟩
  · omega
  · have e' := e
    injection e' with ha hn hc
    subst ha hn hc
    refine ⟨gr, 0, rfl, fun k hk => ?_⟩
    rw [Nat.zero_add, World.ownsRow.cellAt h k (by omega), List.getElem?_map, List.getD_eq_getElem?_getD, List.getElem?_eq_getElem hk]
    rfl
theorem row_empty (hB : B ≤ w.heap.size) : Row (w.alloc (.cells #[] 9)) B (.slice (some ⟨w.heap.size, 0, none⟩) 0 0) [] :=
  ⟨rfl, .inr ⟨w.heap.size, 0, #[], rfl, hB, Blk.made w 9 #[], Nat.le_refl _, Nat.zero_le _, rfl, rfl⟩⟩
theorem row_grow {w0 w1 : World} (hb : Below w0.heap.size w0 w) (ht : Row w w0.heap.size v L) (hg : w.grownBy w1 v.ownBlock) : Below w0.heap.size w0 w1 := by
  refine Fr.later (X := v.ownBlock.toList) ((Fr.refl _ w).grown hg (fun k hk => .inl (by simp [hk]))) hb (fun b hm => ?_) hb.size
  have hk : v.ownBlock = some b := by cases hv : v.ownBlock with | none => rw [hv] at hm; cases hm | some k => rw [hv] at hm; simp at hm; rw [hm]
  exact (World.ownsRow.lt ht b hk).1
theorem add_to (g off j : Nat) : (⟨g, off, none⟩ : Addr).add j = ⟨g, off + j, none⟩ := by
  unfold Addr.add
  split
  · rename_i h; subst h; rfl
  · rfl
theorem srd_news {ad : Addr} (h : SRd w (some ad) M) : ∀ (j : Nat) (u : Value), (M.map Value.string)[j]? = some u → w.cell? (ad.add j) = some u := by
  intro j u hj
  have hl : j < M.length := by
    have := (List.getElem?_eq_some_iff.1 hj).1
    rwa [List.length_map] at this
  obtain ⟨g, off, e, hc⟩ := h (by omega)
  obtain rfl : ad = ⟨g, off, none⟩ := Option.some.inj e
  rw [add_to, hc j hl, ← hj, List.getElem?_map, List.getD_eq_getElem?_getD, List.getElem?_eq_getElem hl]
  rfl
theorem one_cells (M : List ByteArray) : ∀ u ∈ M.map Value.string, u.oneCell' = true := by
  intro u hu
  obtain ⟨x, _, rfl⟩ := List.mem_map.1 hu
  rfl
/-- append of texts that stand somewhere to a row of one's own. -/
theorem append_row {ops : Array Oper} {rest : List Oper} {o : Oper} {a : Act} {Q : Exit → Act → World → Prop} {w0 : World} (hgd : o.guard = none) (s x : Operand) (ho : o.op = .call { callee := .builtin .append, args := #[s, x], argTypes := #[43, 43] })
    (hb : Below w0.heap.size w0 w) (ht : Row w w0.heap.size v L) (hs : a.eval s = v) (ad : Addr) (m c : Nat) (hx : a.eval x = .slice (some ad) m c) (hm : m = M.length) (hrd : SRd w (some ad) M) (hsm : L.length + M.length ≤ 1000)
    (h : ∀ v' w', Row w' w0.heap.size v' (L ++ M) → Below w0.heap.size w0 w' → wpList Try.prog ops Q rest (a.put o.dst v') w') : wpList Try.prog ops Q (o :: rest) a w := by
  obtain ⟨i0, hi0, hz0, hz1, hz2⟩ := info_parts Try.strInfo
  subst hm
  refine wpList_append_own w hgd s x 43 ho w0.heap.size 9 i0 (.string ⟨#[]⟩) 1 16 Try.underlying43 hi0 hz0 hz1 hz2 rfl (by decide) v L.length (L.map Value.string) hs ht ad M.length c (M.map Value.string) hx (by rw [List.length_map, Nat.mul_one]) (srd_news hrd) (one_cells M) (by unfold maxLen; omega) (by omega) hb.size ?_
  intro v' w' ho' hg _
  refine h v' w' ?_ (row_grow hb ht hg)
  unfold Row
  rw [List.length_append, List.map_append]
  exact ho'
/-- append of nothing. -/
theorem append_row_none {ops : Array Oper} {rest : List Oper} {o : Oper} {a : Act} {Q : Exit → Act → World → Prop} (hgd : o.guard = none) (s x : Operand) (ho : o.op = .call { callee := .builtin .append, args := #[s, x], argTypes := #[43, 43] })
    (ht : Row w B v L) (hs : a.eval s = v) (hx : a.eval x = .slice none 0 0) (h : ∀ v', v' = v → wpList Try.prog ops Q rest (a.put o.dst v') w) : wpList Try.prog ops Q (o :: rest) a w := by
  obtain ⟨i0, hi0, hz0, hz1, hz2⟩ := info_parts Try.strInfo
  exact wpList_append_own_none hgd s x 43 ho B 9 i0 1 Try.underlying43 hi0 v L.length (L.map Value.string) hs ht hx (h v rfl)
end
section
open Go.ChangeShapes Go.WideShapes Go.Deep
variable {H : Type} {enc : TypeId × Value → H} {w : World}
theorem strs_open32c {r : Reach} {b0 b1 : Nat} {sp : Nat → Bool} {held : Bool} {v : Value} {d : DataW H} {ps : List MemPlace} (hval : Value.okWide Try.prog w r b0 43 v) (hd : DataW.Trod enc Try.prog w b1 sp held 43 v d ps) :
    ∃ a len cap xs, v = .slice a len cap ∧ len ≤ maxLen ∧ StrsOfC w a len cap xs := by
  obtain ⟨a, len, cap, xs, rfl, hl, hs⟩ := strs_open32 hval hd
  refine ⟨a, len, cap, xs, rfl, hl, hs, fun h => ?_⟩
  subst h
  obtain ⟨fuel, hf⟩ := hd
  rcases ChangeShapes.open_strings Try.underlying43 Try.underlying9 (by kernel_rfl) hf with ⟨hcs, hx⟩ | ⟨a, len', cap', ss, hcs, _⟩
  · simp [Value.cells] at hcs
    exact hcs.2
  · simp [Value.cells] at hcs
end
end Go.Proofs.Ytkjghlmlfanafaa
