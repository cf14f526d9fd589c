/- What is proved here: the package's members and the document's side by side: what an act on each keeps of the other. No conditions but those that each theorem names. -/
import Derived.Test.YtkjghlmlfanafaaRHer31
import Derived.Test.YtkjghlmlfanafaaRSam31
namespace Go.Proofs.Ytkjghlmlfanafaa
open Go.RowKit Go.Extern.Stop Go.Stop Go.Extern
section
variable {w w' w0 w2 : World} {B g gx : Nat} {v v' xv xv' : Value} {L L' : ML} {gen gen' : Nat} {X : List Nat}
theorem MObj.fr (h : MObj w B g v L gen) (hf : Fr X w w') (hg : g ∉ X) (hv : ∀ k, v.ownBlock = some k → k ∉ X) : MObj w' B g v L gen := by
  refine ⟨h.low, h.blk.fr hf hg, h.row.1, ?_⟩
  rcases h.row.2 with h2 | ⟨gr, cap, cur, e, hB, hh, h3⟩
  · exact .inl h2
  · exact .inr ⟨gr, cap, cur, e, hB, (hf.block gr (lt_of_block hh) (hv gr (by rw [e]; rfl))).trans hh, h3⟩
theorem RObj.fr (h : RObj w gx xv L gen) (hf : Fr X w w') (hg : gx ∉ X) (hv : ∀ k, xv.ownBlock = some k → k ∉ X) : RObj w' gx xv L gen := by
  obtain ⟨h1, a, c, rfl, h3⟩ := h
  refine ⟨h1.fr hf hg, a, c, rfl, fun hp => ?_⟩
  obtain ⟨g, off, rfl, hc⟩ := h3 hp
  refine ⟨g, off, rfl, fun k hk => ?_⟩
  obtain ⟨c1, c2, c3, c4⟩ := hc k hk
  have hb := hf.block g (lt_of_cell c1) (hv g rfl)
  exact ⟨(World.cell?_of_block (w := w) hb).trans c1, (World.cell?_of_block (w := w) hb).trans c2, (World.cell?_of_block (w := w) hb).trans c3, (World.cell?_of_block (w := w) hb).trans c4⟩
/-- Both, each in blocks of its own. -/
structure Both (W : World) (B g gx : Nat) (v xv : Value) (L : ML) (gen : Nat) (L' : ML) (gen' : Nat) : Prop where
  m : MObj W B g v L gen
  x : RObj W gx xv L' gen'
  low : B ≤ gx
  ne : g ≠ gx
  vx : ∀ k, v.ownBlock = some k → k ≠ gx
  xo : ∀ k, xv.ownBlock = some k → B ≤ k ∧ k < W.heap.size ∧ k ≠ g ∧ v.ownBlock ≠ some k
theorem Both.below (h : Both w B g gx v xv L gen L' gen') (hb : Below w.heap.size w w') : Both w' B g gx v xv L gen L' gen' :=
  ⟨h.m.below hb, h.x.below hb, h.low, h.ne, h.vx, fun k hk => ⟨(h.xo k hk).1, Nat.lt_of_lt_of_le (h.xo k hk).2.1 hb.size, (h.xo k hk).2.2⟩⟩
theorem Both.left (h : Both w B g gx v xv L gen L gen) (hs : MStep w w' B g v v' L' gen') : Both w' B g gx v' xv L' gen' L gen := by
  have hX : ∀ k, k ≠ g → v.ownBlock ≠ some k → k ∉ g :: v.ownBlock.toList := fun k h1 h2 hm => by
    rcases List.mem_cons.1 hm with e | e
    · exact h1 e
    · have : v.ownBlock = some k := by cases hv : v.ownBlock with | none => rw [hv] at e; cases e | some j => rw [hv] at e; simp at e; rw [e]
      exact h2 this
  have hx := h.x.fr hs.fr (hX gx h.ne.symm fun e => h.vx gx e rfl) (fun k hk => hX k (h.xo k hk).2.2.1 (h.xo k hk).2.2.2)
  refine ⟨hs.obj, hx, h.low, h.ne, fun k hk e => ?_, fun k hk => ⟨(h.xo k hk).1, Nat.lt_of_lt_of_le (h.xo k hk).2.1 hs.fr.size, (h.xo k hk).2.2.1, fun e => ?_⟩⟩
  · subst e
    rcases hs.own k hk with h1 | h1
    · exact h.vx k h1 rfl
    · have := h.x.blk.lt; omega
  · rcases hs.own k e with h1 | h1
    · exact (h.xo k hk).2.2.2 h1
    · have := (h.xo k hk).2.1; omega
theorem MObj.own_lt (h : MObj w B g v L gen) : ∀ k, v.ownBlock = some k → k < w.heap.size := fun k hk => (World.ownsRow.lt h.row k hk).2
theorem Both.right (h : Both w B g gx v xv L' gen' L gen) (hs : RLeft w w' gx xv' L' gen') (hB : B ≤ w.heap.size) : Both w' B g gx v xv' L' gen' L' gen' := by
  refine ⟨h.m.fr hs.fr (by simpa using h.ne) (fun k hk => by simpa using h.vx k hk), hs.obj, h.low, h.ne, h.vx, fun k hk => ?_⟩
  have h1 := hs.own k hk
  have h2 := h.m.blk.lt
  refine ⟨Nat.le_trans hB h1.1, h1.2, by omega, fun e => ?_⟩
  have := h.m.own_lt k e
  omega
theorem RLeft.below (hs : RLeft w w' gx xv' L' gen') (hb : Below B w0 w) (hg : B ≤ gx) (hB : B ≤ w.heap.size) : Below B w0 w' :=
  hs.fr.later hb (fun b hx => by simp at hx; omega) hB
end
end Go.Proofs.Ytkjghlmlfanafaa
