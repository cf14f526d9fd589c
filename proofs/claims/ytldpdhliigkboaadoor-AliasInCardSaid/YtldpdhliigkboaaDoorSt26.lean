/- What is proved here: aliases of both kinds and nobody's side by side, and that each step of one leaves the others as they are. No conditions. -/
import Derived.Test.YtldpdhliigkboaaDoorAgr26
namespace Go.Proofs.YtldpdhliigkboaaDoor
open Go.RowKit Go.Extern.Stop Go.Stop Go.Extern Go.Maps
/-- Aliases of both kinds, and nobody's. -/
structure InA (w W : World) (ga gx gz gn g0 : Nat) (most : Int) (v vx : Value) (T : List ByteArray) (L : GL) : Prop where
  a : InObj W w.heap.size ga (limI most) v T
  x : RIn W w.heap.size gx most vx L
  z : Blk W gz 33 #[.int .i64 0, .slice none 0 0]
  n : Blk W gn 26 #[.pointer none, .pointer (some ⟨gz, 0, none⟩)]
  o : RIn W w.heap.size g0 0 (.slice none 0 0) []
  az : ga ≠ gz
  xo : gx ≠ g0
  bel : Below w.heap.size w W
section
variable {w W W' : World} {ga gx gz gn g0 : Nat} {most : Int} {v vx v' : Value} {T T' : List ByteArray} {L L' : GL}
theorem own_row {B : Nat} (h : Row W B v T) {k : Nat} (hk : v.ownBlock = some k) : ∃ cs, W.heap[k]? = some (.cells cs 9 (0, 0)) := by
  rcases h.2 with ⟨rfl, _⟩ | ⟨gr, cap, cur, rfl, hB, hh, _⟩
  · cases hk
  · obtain rfl : gr = k := Option.some.inj hk
    exact ⟨_, hh⟩
theorem own_rin {B g : Nat} (h : RIn W B g most vx L) {k : Nat} (hk : vx.ownBlock = some k) : ∃ cs, W.heap[k]? = some (.cells cs 65 (0, 0)) := by
  rcases h.row.2 with ⟨rfl, _⟩ | ⟨gr, cap, cur, rfl, hB, hh, _⟩
  · cases hk
  · obtain rfl : gr = k := Option.some.inj hk
    exact ⟨_, hh⟩
theorem InA.below (h : InA w W ga gx gz gn g0 most v vx T L) (hb : Below W.heap.size W W') : InA w W' ga gx gz gn g0 most v vx T L := by
  have hf : Fr [] W W' := Fr.of_below hb
  exact ⟨h.a.below hb, h.x.fr hf (by simp) (by simp), h.z.fr hf (by simp), h.n.fr hf (by simp), h.o.fr hf (by simp) (by simp), h.az, h.xo, h.bel.trans (hb.mono h.bel.size)⟩
theorem InA.drewN (h : InA w W ga gx gz gn g0 most v vx T L) (d : Nat) : InA w (W.drewN d) ga gx gz gn g0 most v vx T L := h.below (below_drewN (Below.refl _ _) d)
/-- A block may be filled that none of them has. -/
theorem InA.topic (h : InA w W ga gx gz gn g0 most v vx T L) (hs : Next26 W W' w.heap.size ga (limI most) v v' T') : InA w W' ga gx gz gn g0 most v' vx T' L := by
  have hX : ∀ (k : Nat) (t : TypeId) (cs : Array Value), W.heap[k]? = some (.cells cs t (0, 0)) → k ≠ ga → t ≠ 9 → k ∉ ga :: v.ownBlock.toList := fun k t cs hk h1 h2 hm => by
    rcases List.mem_cons.1 hm with e | e
    · exact h1 e
    · have e2 : v.ownBlock = some k := by cases hv : v.ownBlock with | none => rw [hv] at e; cases e | some j => rw [hv] at e; simp at e; rw [e]
      obtain ⟨cs', hc⟩ := own_row h.a.row e2
      rw [hc] at hk
      injection hk with hk
      injection hk with _ ht
      exact h2 ht.symm
  have hga : ∀ (k : Nat) (t : TypeId) (cs : Array Value), W.heap[k]? = some (.cells cs t (0, 0)) → t ≠ 33 → k ≠ ga := fun k t cs hk ht e => h.a.blk.other hk (fun e => ht e.symm) e.symm
  refine ⟨hs.obj, h.x.fr hs.fr (hX _ _ _ h.x.blk (hga _ _ _ h.x.blk (by decide)) (by decide)) (fun k hk => ?_), h.z.fr hs.fr (hX _ _ _ h.z h.az.symm (by decide)), h.n.fr hs.fr (hX _ _ _ h.n (hga _ _ _ h.n (by decide)) (by decide)), h.o.fr hs.fr (hX _ _ _ h.o.blk (hga _ _ _ h.o.blk (by decide)) (by decide)) (fun k hk => by cases hk), h.az, h.xo, hs.fr.later h.bel (fun y hy => ?_) h.bel.size⟩
  · obtain ⟨cs, hc⟩ := own_rin h.x hk
    exact hX _ _ _ hc (hga _ _ _ hc (by decide)) (by decide)
  · rcases List.mem_cons.1 hy with e | e
    · rw [e]; exact h.a.low
    · have hk : v.ownBlock = some y := by cases hv : v.ownBlock with | none => rw [hv] at e; cases e | some j => rw [hv] at e; simp at e; rw [e]
      exact (World.ownsRow.lt h.a.row y hk).1
theorem InA.rtopic (h : InA w W ga gx gz gn g0 most v vx T L) (hs : RNext W W' w.heap.size gx most vx v' L') : InA w W' ga gx gz gn g0 most v v' T L' := by
  have hX : ∀ (k : Nat) (t : TypeId) (cs : Array Value), W.heap[k]? = some (.cells cs t (0, 0)) → t ≠ 31 → k ∉ [gx] := fun k t cs hk ht hm => by
    rw [List.mem_singleton] at hm
    exact h.x.blk.other hk (fun e => ht e.symm) hm.symm
  refine ⟨⟨h.a.low, h.a.blk.fr hs.fr (hX _ _ _ h.a.blk (by decide)), h.a.row.fr hs.fr (fun k hk => ?_)⟩, hs.obj, h.z.fr hs.fr (hX _ _ _ h.z (by decide)), h.n.fr hs.fr (hX _ _ _ h.n (by decide)), h.o.fr hs.fr (by simpa using h.xo.symm) (fun k hk => by cases hk), h.az, h.xo, hs.fr.later h.bel (fun y hy => ?_) h.bel.size⟩
  · obtain ⟨cs, hc⟩ := own_row h.a.row hk
    exact hX _ _ _ hc (by decide)
  · rw [List.mem_singleton] at hy
    rw [hy]; exact h.x.low
theorem InA.rnone (h : InA w W ga gx gz gn g0 most v vx T L) (hs : RNext W W' w.heap.size g0 0 (.slice none 0 0) v' []) : InA w W' ga gx gz gn g0 most v vx T L := by
  have hX : ∀ (k : Nat) (t : TypeId) (cs : Array Value), W.heap[k]? = some (.cells cs t (0, 0)) → t ≠ 31 → k ∉ [g0] := fun k t cs hk ht hm => by
    rw [List.mem_singleton] at hm
    exact h.o.blk.other hk (fun e => ht e.symm) hm.symm
  have hv := hs.obj.nil rfl
  have ho := hs.obj
  rw [hv] at ho
  refine ⟨⟨h.a.low, h.a.blk.fr hs.fr (hX _ _ _ h.a.blk (by decide)), h.a.row.fr hs.fr (fun k hk => ?_)⟩, h.x.fr hs.fr (by simpa using h.xo) (fun k hk => ?_), h.z.fr hs.fr (hX _ _ _ h.z (by decide)), h.n.fr hs.fr (hX _ _ _ h.n (by decide)), ho, h.az, h.xo, hs.fr.later h.bel (fun y hy => ?_) h.bel.size⟩
  · obtain ⟨cs, hc⟩ := own_row h.a.row hk
    exact hX _ _ _ hc (by decide)
  · obtain ⟨cs, hc⟩ := own_rin h.x hk
    exact hX _ _ _ hc (by decide)
  · rw [List.mem_singleton] at hy
    rw [hy]; exact h.o.low
end
end Go.Proofs.YtldpdhliigkboaaDoor
