/- What is proved here, of whatever program: the laws of a range over a map at its operations, inside a fence. No conditions but those that each theorem names. -/
import Derived.Test.YtfmkeapbddhndaaDoorAMap
import Derived.Sort.MapsRangeIn
import Derived.RangeFuncNested
import Derived.RangeFuncBound
import Derived.RangeFuncCalls
import Derived.RangeFuncLeaves
import Derived.RangeFuncBox
import Derived.RangeFuncWrites
import Derived.Shelf.Abstract
import Derived.Shelf.RegionOpen
import Derived.WalkKit
import Derived.OwnWalkIn
import Derived.TacticsInMore
import Derived.LoopNIn
import Derived.LoopIn
import Derived.Maps.AppendAt
namespace Go.Proofs.YtfmkeapbddhndaaDoor
open Go.RowKit Go.Maps Go.WideShapes
section
variable {κ α : Type} [DecidableEq κ] {F : Fence} {n : Nat} {P : Program} {E : KE κ} {en : α → Value} {L M : List (κ × α)} {w : World} {ops : Array Oper} {rest : List Oper} {o : Oper} {a : Act} {Q : Exit → Act → World → Prop}
omit [DecidableEq κ] in
theorem wpai_range (hg : o.guard = none) (m : Operand) (t : TypeId) (hop : o.op = Op.range t m) (k e : TypeId) (K : Keyed P k) (ht : P.underlying t = some (.map k e)) (b : Nat)
    (hm : a.eval m = .map (some b)) (hown : AMap P k E en w b L)
    (hK : ∀ w', ARange P k E en w' b w.heap.size L L → w.grownBy w' none → w'.heap.size = w.heap.size + 1 → wpListIn F n P ops Q rest (a.put o.dst (.pointer (some ⟨w.heap.size, 0, none⟩))) w') :
    wpListIn F n P ops Q (o :: rest) a w := by
  refine wpListIn_plain hg fun K' hK' => ?_
  obtain ⟨w', hrun, r1, r2, r3⟩ := hown.range K ht
  unfold Oper.wpIn
  refine ⟨by simp [Oper.about, hop], ?_⟩
  rw [Oper.semAt_plain F _ _ (by rw [hop]; intro c hc'; cases hc')]
  simp [execOp, hop, hm, hrun, Result.andThen]
  exact hK' _ _ (hK w' r1 r2 r3)
theorem wpai_next (hg : o.guard = none) (it : Operand) (hop : o.op = Op.next it false) (k : TypeId) (K : Keyed P k) (hinj : ∀ x y, E.kl x = E.kl y → x = y) (b r : Nat)
    (hit : a.eval it = .pointer (some ⟨r, 0, none⟩)) (h : ARange P k E en w b r L M)
    (hDone : M = [] → wpListIn F n P ops Q rest (a.put o.dst (.tuple #[.bool false])) w)
    (hMore : ∀ (x : κ) (v : α) (w' : World), (x, v) ∈ M → ARange P k E en w' b r L (wo x M) → w'.rangeLeft b r < w.rangeLeft b r → w.grownBy w' (some r) → w'.heap.size = w.heap.size →
      (Instr.entry (.pointer (some ⟨r, 0, none⟩))).run P w' = .ok (.tuple #[E.kv x, en v]) w' → wpListIn F n P ops Q rest (a.put o.dst (.tuple #[.bool true, E.kv x, en v])) w') :
    wpListIn F n P ops Q (o :: rest) a w := by
  refine wpListIn_plain hg fun K' hK' => ?_
  unfold Oper.wpIn
  refine ⟨by simp [Oper.about, hop], ?_⟩
  rw [Oper.semAt_plain F _ _ (by rw [hop]; intro c hc'; cases hc')]
  rcases h.next K hinj o.type with ⟨h0, hrun⟩ | ⟨x, v, w', hxm, hrun, hrg, hlt, hgr, hsz, hen⟩
  · simp [execOp, hop, hit, hrun, Result.andThen]
    exact hK' _ _ (hDone h0)
  · simp [execOp, hop, hit, hrun, Result.andThen]
    exact hK' _ _ (hMore x v w' hxm hrg hlt hgr hsz hen)
end
section
variable {κ α : Type} {P : Program} {k : TypeId} {E : KE κ} {en : α → Value} {L M : List (κ × α)} {w w' : World} {b r : Nat}
/-- A range over a map abides a round that leaves maps and walks alone. -/
theorem ARange.of_walks (h : ARange P k E en w b r L M) (hk : KeepsWalks w w') : ARange P k E en w' b r L M := by
  obtain ⟨es, left, cnt, h1, h2⟩ := h
  exact ⟨es, left, cnt, h1.of_walks hk, h2⟩
theorem ARange.left_walks (h : ARange P k E en w b r L M) (hk : KeepsWalks w w') : w'.rangeLeft b r = w.rangeLeft b r := by
  obtain ⟨es, left, cnt, h1, h2⟩ := h
  rw [(h1.of_walks hk).left_eq, h1.left_eq]
theorem ARange.left_fr {X : List Nat} (h : ARange P k E en w b r L M) (hf : Fr X w w') (hb : b ∉ X) (hr : r ∉ X) : w'.rangeLeft b r = w.rangeLeft b r := by
  obtain ⟨es, left, cnt, ⟨a1, a2, a3, a4, a5, a6, a7, a8, a9, a10, a11⟩, h2⟩ := h
  have h1 : w.ranges P k heldE b r L.length (.map es) left cnt := ⟨a1, a2, a3, a4, a5, a6, a7, a8, a9, a10, a11⟩
  have h3 : w'.ranges P k heldE b r L.length (.map es) left cnt := ⟨a1, a2, a3, a4, a5, (hf.block b (lt_of_block a6) hb).trans a6, a7, a8, a9, (hf.block r (lt_of_block a10) hr).trans a10, a11⟩
  rw [h3.left_eq, h1.left_eq]
theorem ARange.iter_walk (h : ARange P k E en w b r L M) : ∃ o : Obj, w.heap[r]? = some o ∧ o.isWalk = true := by
  obtain ⟨es, left, cnt, h1, h2⟩ := h
  exact h1.iter_walk
end
end Go.Proofs.YtfmkeapbddhndaaDoor
