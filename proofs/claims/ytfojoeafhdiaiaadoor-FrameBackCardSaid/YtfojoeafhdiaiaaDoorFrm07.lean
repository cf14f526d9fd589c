/- What is proved here: rows of packets of a call's own: append of one and of several, what they read. Conditions: few packets. -/
import Derived.Test.YtfojoeafhdiaiaaDoorMth07
import Derived.Lib.AppendZeros
import Derived.Maps.AppendAt
namespace Go.Proofs.YtfojoeafhdiaiaaDoor
set_option maxRecDepth 100000
open Go.RowKit Go.Extern.Stop Go.Stop Go.Extern
theorem Tryd.frameInfo : (Tryd.prog.info? 61).map (fun i => (i.zero, i.size, i.bytes)) = some (some (.agg #[.int .i64 0, .string ⟨#[]⟩]), 2, 24) := by kernel_rfl
def fCells (f : FP) : List Value := [.int .i64 f.1, .string ⟨f.2.toArray⟩]
def fcs (L : List FP) : List Value := L.flatMap fCells
def f00 : FP := (0, [])
theorem fcs_cons (f : FP) (L : List FP) : fcs (f :: L) = .int .i64 f.1 :: .string ⟨f.2.toArray⟩ :: fcs L := rfl
theorem fcs_len (L : List FP) : (fcs L).length = L.length * 2 := by
  induction L with
  | nil => rfl
  | cons p L ih =>
    rw [fcs_cons]
    simp only [List.length_cons]
    omega
theorem fcs_app (L M : List FP) : fcs (L ++ M) = fcs L ++ fcs M := by simp [fcs]
theorem fcs_get (L : List FP) : ∀ k, k < L.length → ∀ j, j < 2 → (fcs L)[k * 2 + j]? = (fCells (L.getD k f00))[j]? := by
  induction L with
  | nil => intro k hk; cases hk
  | cons p L ih =>
    intro k hk j hj
    rw [show fcs (p :: L) = fCells p ++ fcs L from rfl]
    rcases k with _ | k
    · rw [Nat.zero_mul, Nat.zero_add, List.getElem?_append_left (by show j < 2; exact hj)]
      rfl
    · rw [List.getElem?_append_right (by show 2 ≤ _; omega), show (k + 1) * 2 + j - (fCells p).length = k * 2 + j by show (k + 1) * 2 + j - 2 = _; omega]
      simpa using ih k (by simpa using hk) j hj
theorem fcs_ones (L : List FP) : ∀ u ∈ fcs L, u.oneCell' = true := by
  intro u hu
  obtain ⟨p, _, hp⟩ := List.mem_flatMap.1 hu
  unfold fCells at hp
  simp only [List.mem_cons, List.not_mem_nil, or_false] at hp
  rcases hp with rfl | rfl <;> rfl
/-- A row of packets that a call made. -/
def FRow (w : World) (B : Nat) (v : Value) (L : List FP) : Prop := w.ownsRow B 61 2 v L.length (fcs L)
structure FNext (w w' : World) (B : Nat) (v v' : Value) (L' : List FP) : Prop where
  row : FRow w' B v' L'
  grown : w.grownBy w' v.ownBlock
  own : v'.ownBlock = v.ownBlock ∨ ∃ k, v'.ownBlock = some k ∧ w.heap.size ≤ k
section
variable {w w' : World} {B : Nat} {v : Value} {L M : List FP} {X : List Nat}
theorem FRow.nil (w : World) (B : Nat) : FRow w B (.slice none 0 0) [] := World.ownsRow_nil _ _ _ _
theorem FRow.some_form (h : FRow w B v L) : ∃ a n c, v = .slice a n c ∧ n = L.length := by
  rcases h.2 with ⟨rfl, h0⟩ | ⟨gr, cap, cur, rfl, _⟩
  · exact ⟨none, 0, 0, rfl, h0.symm⟩
  · exact ⟨_, _, _, rfl, rfl⟩
theorem FRow.fr (h : FRow w B v L) (hf : Fr X w w') (hn : ∀ k, v.ownBlock = some k → k ∉ X) : FRow w' B v L := by
  obtain ⟨h1, h2⟩ := h
  refine ⟨h1, ?_⟩
  rcases h2 with h2 | ⟨gr, cap, cur, rfl, hB, hh, h3⟩
  · exact .inl h2
  · exact .inr ⟨gr, cap, cur, rfl, hB, (hf.block gr (lt_of_block hh) (hn gr rfl)).trans hh, h3⟩
theorem FRow.below (h : FRow w B v L) (hb : Below w.heap.size w w') : FRow w' B v L := h.fr (Fr.of_below (X := []) hb) (by simp)
theorem FRow.lt (h : FRow w B v L) (k : Nat) (hk : v.ownBlock = some k) : B ≤ k ∧ k < w.heap.size ∧ ∃ cs, w.heap[k]? = some (.cells cs 61 (0, 0)) := by
  rcases h.2 with ⟨rfl, _⟩ | ⟨g, cap, cur, rfl, hb, hg, _⟩
  · cases hk
  · obtain rfl : g = k := Option.some.inj hk
    exact ⟨hb, lt_of_block hg, cur, hg⟩
theorem FRow.rd {a : Option Addr} {n c : Nat} (h : FRow w B (.slice a n c) L) {k : Nat} (hk : k < L.length) : ∃ g, a = some ⟨g, 0, none⟩ ∧ w.cell? ⟨g, k * 2, none⟩ = some (.int .i64 (L.getD k f00).1) ∧ w.cell? ⟨g, k * 2 + 1, none⟩ = some (.string ⟨(L.getD k f00).2.toArray⟩) := by
  rcases h.2 with ⟨_, h0⟩ | ⟨gr, cap, cur, e, hB, hh, h3⟩
  · omega
  · have e' := e
    injection e' with ha hn hc
    subst ha hn hc
    exact ⟨gr, rfl, (World.ownsRow.cellAt h (k * 2 + 0) (by omega)).trans (fcs_get L k hk 0 (by omega)), (World.ownsRow.cellAt h (k * 2 + 1) (by omega)).trans (fcs_get L k hk 1 (by omega))⟩
theorem FRow.app {n : Nat} {xs : List Value} (h : w.ownsRow B 61 2 v n xs) (hn : n = L.length + M.length) (hx : xs = fcs L ++ fcs M) : FRow w B v (L ++ M) := by
  subst hn hx
  unfold FRow
  rw [List.length_append, fcs_app]
  exact h
/-- append of packets that stand somewhere. -/
theorem run_frames (h : FRow w B v L) (hB : B ≤ w.heap.size) (hl : L.length + M.length ≤ 1000000) (ty : TypeId) (ad : Addr) (c : Nat) (hc : ∀ (j : Nat) (u : Value), (fcs M)[j]? = some u → w.cell? (ad.add j) = some u) :
    ∃ v' w', (Builtin.append_ #[74, 74] ty #[v, .slice (some ad) M.length c]).run Tryd.prog w = .ok v' w' ∧ FNext w w' B v v' (L ++ M) := by
  obtain ⟨i0, hi0, hz0, hz1, hz2⟩ := info_parts Tryd.frameInfo
  obtain ⟨v', w', hr, ho, hg, _, hat⟩ := run_append_own_at (P := Tryd.prog) w B 74 ty 61 i0 (.agg #[.int .i64 0, .string ⟨#[]⟩]) 2 24 Tryd.underlying74 hi0 hz0 hz1 hz2 rfl (by decide) v L.length (fcs L) h ad M.length c (fcs M) (fcs_len M) hc (fcs_ones M) (by unfold maxLen; omega) (by omega) hB
  refine ⟨v', w', hr, ⟨FRow.app ho rfl rfl, hg, ?_⟩⟩
  rcases hat with e | e
  · exact .inl e
  · exact .inr ⟨_, e, Nat.le_refl _⟩
/-- append of one packet that was just laid down, at a step of its own. -/
theorem append_frame {ops : Array Oper} {rest : List Oper} {o : Oper} {a : Act} {Q : Exit → Act → World → Prop} {w : World} {B : Nat} {v : Value} {L : List FP} (f : FP) (hgd : o.guard = none) (s x : Operand) (ho : o.op = .call { callee := .builtin .append, args := #[s, x], argTypes := #[74, 74] })
    (ht : FRow w B v L) (hB : B ≤ w.heap.size) (hs : a.eval s = v) (k c : Nat) (hx : a.eval x = .slice (some ⟨k, 0, none⟩) 1 c) (hk : k = w.heap.size) (hl : L.length ≤ 100000)
    (h : ∀ v' w', FNext w w' B v v' (L ++ [f]) → wpList Tryd.prog ops Q rest (a.put o.dst v') w') : wpList Tryd.prog ops Q (o :: rest) a (w.alloc (.cells #[.int .i64 f.1, .string ⟨f.2.toArray⟩] 61)) := by
  subst hk
  have hb : Below w.heap.size w (w.alloc (.cells #[.int .i64 f.1, .string ⟨f.2.toArray⟩] 61)) := (Below.refl _ _).alloc (Nat.le_refl _) _
  obtain ⟨v', w', hr, hn⟩ := run_frames (M := [f]) (ht.below hb) (Nat.le_trans hB hb.size) (by simp; omega) o.type ⟨w.heap.size, 0, none⟩ c (fun j u hj => by
    rw [Addr.add_lit, Nat.zero_add, (Blk.made w 61 _).cell j, ← Array.getElem?_toList]
    exact hj)
  refine Lib.wpList_append_run _ hgd s x 74 74 ho v _ hs hx v' w' hr (h v' w' ⟨hn.row, (World.grownBy_alloc w _ _).trans hn.grown, ?_⟩)
  rcases hn.own with e | ⟨k, e, hk⟩
  · exact .inl e
  · rw [World.size_alloc] at hk
    exact .inr ⟨k, e, by omega⟩
end
end Go.Proofs.YtfojoeafhdiaiaaDoor
