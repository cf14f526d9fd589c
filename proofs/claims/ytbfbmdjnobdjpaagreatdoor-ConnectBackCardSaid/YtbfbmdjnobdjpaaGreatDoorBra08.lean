/- What is proved here: what the document's functions hold while they fill a packet in a block of its own. Conditions: the blocks stand. -/
import Derived.Test.YtbfbmdjnobdjpaaGreatDoorBrr08
namespace Go.Proofs.YtbfbmdjnobdjpaaGreatDoor
set_option maxRecDepth 100000
open Go.ChangeShapes Go.WideShapes Go.RowKit Go.Deep Go.Extern.Stop Go.Stop Go.Extern
section
variable {w W : World} {c y : Array Value} {k : Nat}
theorem BrIn.made (z : Array Value) (h : BrIn w c W) : ∃ k, k = W.heap.size ∧ w.heap.size + 2 ≤ k ∧ BrIn w c (W.alloc (.cells z 29)) ∧ Blk (W.alloc (.cells z 29)) k 29 z := by
  obtain ⟨o, ho, _⟩ := h.res
  have := ho.lt
  exact ⟨_, rfl, by omega, h.below ((Below.refl _ _).alloc (Nat.le_refl _) _), Blk.made _ _ _⟩
theorem BrIn.far (h : BrIn w c W) (hk : w.heap.size + 2 ≤ k) (y : Array Value) : BrIn w c (W.setRow k y) := by
  obtain ⟨o, ho, hs⟩ := h.res
  exact ⟨below_row h.bel (by omega) y, h.box.fr (setRow_fr W k y) (fun hm => by rw [List.mem_singleton] at hm; omega), o, ho.fr (setRow_fr W k y) (fun hm => by rw [List.mem_singleton] at hm; omega), hs⟩
theorem BrIn.farc (h : BrIn w c W) (hk : w.heap.size + 2 ≤ k) (i : Nat) (u : Value) : BrIn w c (W.setCell ⟨k, i, none⟩ u) := by
  obtain ⟨o, ho, hs⟩ := h.res
  exact ⟨h.bel.setCell (p := ⟨k, i, none⟩) (by show w.heap.size ≤ k; omega) u, h.box.far (p := ⟨k, i, none⟩) (by show w.heap.size ≠ k; omega) u, o, ho.far (p := ⟨k, i, none⟩) (by show w.heap.size + 1 ≠ k; omega) u, hs⟩
/-- Its end: the packet is stored where the result lies. -/
theorem BrIn.good (h : BrIn w c W) {r : Pk} {A' : PkA} (hp : PkIn W w.heap.size A' r) (hy : y = r.cells A') :
    Blk (W.setRow (w.heap.size + 1) y) (w.heap.size + 1) 29 y ∧ BrSays w r (.returned (.agg y)) (W.setRow (w.heap.size + 1) y) := by
  obtain ⟨o, ho, hs⟩ := h.res
  exact ⟨setRow_blk ho y, A', by rw [hy]; rfl, hp.row ho (by omega) y, below_row h.bel (by omega) y⟩
end
end Go.Proofs.YtbfbmdjnobdjpaaGreatDoor
