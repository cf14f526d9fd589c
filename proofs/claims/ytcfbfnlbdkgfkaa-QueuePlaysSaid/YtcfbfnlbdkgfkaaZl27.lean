/- What is proved here: what nobody's queues do while a new message of the call's own stands beside them. Conditions: all are there. -/
import Derived.Test.YtcfbfnlbdkgfkaaPl27
namespace Go.Proofs.Ytcfbfnlbdkgfkaa
open Go.RowKit Go.Extern.Stop Go.Stop Go.Extern
set_option maxRecDepth 100000
/-- All three, and a block with a zero message, which is nobody's. -/
structure PlR (w W : World) (gq gx gz nb ba : Nat) (most : Int) (a : AV) (M M' : List MV) (r : Nat) : Prop where
  all : ∃ vq Lq vx Lx vz, PlN w W gq gx gz nb most vq vx Lq Lx ∧ Lq.map QV.m = M ∧ Lx.map QV.m = M' ∧ QObj W w.heap.size gz 0 vz [] ∧ (∀ k, vz.ownBlock = some k → vq.ownBlock ≠ some k ∧ vx.ownBlock ≠ some k) ∧ vq.ownBlock ≠ some r ∧ vx.ownBlock ≠ some r ∧ vz.ownBlock ≠ some r
  box : Blk W ba 83 a.cells.toArray
  low : w.heap.size ≤ r
  blk : Blk W r 36 zq
section
variable {w W W' : World} {gq gx gz nb ba r : Nat} {most : Int} {a : AV} {M M' : List MV}
theorem PlR.pb (h : PlR w W gq gx gz nb ba most a M M' r) : PlB w W gq gx gz nb ba most a M M' := by
  obtain ⟨vq, Lq, vx, Lx, vz, hn, e1, e2, _⟩ := h.all
  exact ⟨⟨vq, Lq, vx, Lx, hn, e1, e2⟩, h.box⟩
theorem PlR.below (h : PlR w W gq gx gz nb ba most a M M' r) (hb : Below W.heap.size W W') : PlR w W' gq gx gz nb ba most a M M' r := by
  obtain ⟨vq, Lq, vx, Lx, vz, hn, e1, e2, hz, hr⟩ := h.all
  exact ⟨⟨vq, Lq, vx, Lx, vz, hn.below hb, e1, e2, hz.below hb, hr⟩, h.box.below hb h.box.lt, h.low, h.blk.below hb h.blk.lt⟩
theorem PlR.drewN (h : PlR w W gq gx gz nb ba most a M M' r) (d : Nat) : PlR w (W.drewN d) gq gx gz nb ba most a M M' r := h.below (below_drewN (Below.refl _ _) d)
theorem PlR.make (h : PlB w W gq gx gz nb ba most a M M') : PlR w (W.alloc (.cells zq 36)) gq gx gz nb ba most a M M' W.heap.size := by
  have hb : Below W.heap.size W (W.alloc (.cells zq 36)) := (Below.refl _ _).alloc (Nat.le_refl _) _
  obtain ⟨⟨vq, Lq, vx, Lx, hn, e1, e2⟩, hx⟩ := h
  obtain ⟨vz, hz, hd⟩ := hn.z
  exact ⟨⟨vq, Lq, vx, Lx, vz, hn.below hb, e1, e2, hz.below hb, hd, fun e => by have := (hn.q.row.lt _ e).2.1; omega, fun e => by have := (hn.x.row.lt _ e).2.1; omega, fun e => by have := (hz.row.lt _ e).2.1; omega⟩, hx.below hb hx.lt, hn.bel.size, Blk.made _ _ _⟩
theorem PlB.alloc (h : PlB w W gq gx gz nb ba most a M M') (o : Obj) : PlB w (W.alloc o) gq gx gz nb ba most a M M' := h.below ((Below.refl _ _).alloc (Nat.le_refl _) o)
theorem PlR.put (h : PlR w W gq gx gz nb ba most a M M' r) (u0 u1 u2 u3 u4 u5 u6 u7 u8 : Value) : PlB w (put9 W r u0 u1 u2 u3 u4 u5 u6 u7 u8) gq gx gz nb ba most a M M' := by
  obtain ⟨vq, Lq, vx, Lx, vz, hn, e1, e2, hz, hd, hr1, hr2, hr3⟩ := h.all
  have hf := put9_fr W r u0 u1 u2 u3 u4 u5 u6 u7 u8
  have hX : ∀ k ∈ [r], w.heap.size ≤ k ∧ ∀ cs, W.heap[k]? ≠ some (.cells cs 114 (0, 0)) := fun k hk => by
    rw [List.mem_singleton] at hk
    rw [hk]
    exact ⟨h.low, fun cs hh => h.blk.other hh (by decide) rfl⟩
  have hno : ∀ {v : Value}, v.ownBlock ≠ some r → ∀ k, v.ownBlock = some k → k ∉ [r] := fun hv k hk hm => by
    rw [List.mem_singleton] at hm
    rw [hm] at hk
    exact hv hk
  have hbn : ∀ {b : Nat} {t : TypeId} {cs : Array Value}, Blk W b t cs → t ≠ 36 → b ∉ [r] := fun hb ht hm => by
    rw [List.mem_singleton] at hm
    exact hb.other h.blk ht hm
  exact ⟨⟨vq, Lq, vx, Lx, ⟨hn.q.fr hf (hbn hn.q.blk (by decide)) (hno hr1) hX, hn.x.fr hf (hbn hn.x.blk (by decide)) (hno hr2) hX, ⟨vz, hz.fr hf (hbn hz.blk (by decide)) (hno hr3) hX, hd⟩, hn.nbk.fr hf (hbn hn.nbk (by decide)), hn.ne, hn.dis, hf.later hn.bel (fun k hk => (hX k hk).1) hn.bel.size⟩, e1, e2⟩, h.box.fr hf (hbn h.box (by decide))⟩
theorem PlR.stepz {vq vx vz vz' : Value} {Lq Lx : QL} (h : PlR w W gq gx gz nb ba most a M M' r) (hn : PlN w W gq gx gz nb most vq vx Lq Lx) (e1 : Lq.map QV.m = M) (e2 : Lx.map QV.m = M') (hz : QObj W w.heap.size gz 0 vz []) (hd : ∀ k, vz.ownBlock = some k → vq.ownBlock ≠ some k ∧ vx.ownBlock ≠ some k) (hr1 : vq.ownBlock ≠ some r) (hr2 : vx.ownBlock ≠ some r) (hr3 : vz.ownBlock ≠ some r) (n : QNext W W' w.heap.size gz 0 vz vz' []) : PlR w W' gq gx gz nb ba most a M M' r := by
  have hbn : r ∉ gz :: vz.ownBlock.toList := by
    intro hm
    rcases List.mem_cons.1 hm with rfl | hm
    · exact h.blk.other hz.blk (by decide) rfl
    · exact hr3 (own_list.1 hm)
  refine ⟨⟨vq, Lq, vx, Lx, vz', hn.stepz hz hd n, e1, e2, n.obj, fun k hk => ?_, hr1, hr2, fun e => ?_⟩, h.box.fr n.fr (qfoot hz h.box (by decide) (by decide)), h.low, h.blk.fr n.fr hbn⟩
  · rcases n.own k hk with e | e
    · exact hd k e
    · exact ⟨fun e2 => by have := (hn.q.row.lt _ e2).2.1; omega, fun e2 => by have := (hn.x.row.lt _ e2).2.1; omega⟩
  · rcases n.own _ e with e | e
    · exact hr3 e
    · have := h.blk.lt; omega
theorem r38 (h : PlR w W gq gx gz nb ba most a M M' r) (k : Nat) (now : Int) :
    Calls Try.prog 38 #[.pointer (nobP gz k), .int .i64 now] W (fun x W' => x = .returned (.tuple #[q0.agg, .bool false]) ∧ PlR w W' gq gx gz nb ba most a M M' r ∧ W.heap.size ≤ W'.heap.size) := by
  unfold nobP
  split
  · exact (nil_pop now W).mono fun x W' ⟨he, hb⟩ => ⟨he, h.below hb, hb.size⟩
  · obtain ⟨vq, Lq, vx, Lx, vz, hn, e1, e2, hz, hd, hr1, hr2, hr3⟩ := h.all
    refine (pop_any hz (by simp) (by simp) now).mono ?_
    rintro x W' ⟨v', n, hx⟩
    rcases hx with ⟨_, rfl⟩ | ⟨y, L3, pa, pc, e, _⟩
    · exact ⟨rfl, h.stepz hn e1 e2 hz hd hr1 hr2 hr3 n, n.fr.size⟩
    · cases e
theorem r40 (h : PlR w W gq gx gz nb ba most a M M' r) (k : Nat) (now : Int) :
    Calls Try.prog 40 #[.pointer (nobP gz k), .int .i64 now] W (fun x W' => x = .returned (.tuple #[q0.agg, .bool false]) ∧ PlR w W' gq gx gz nb ba most a M M' r ∧ W.heap.size ≤ W'.heap.size) := by
  unfold nobP
  split
  · exact (nil_first now W).mono fun x W' ⟨he, hb⟩ => ⟨he, h.below hb, hb.size⟩
  · obtain ⟨vq, Lq, vx, Lx, vz, hn, e1, e2, hz, hd, hr1, hr2, hr3⟩ := h.all
    refine (first_any hz (by simp) (by simp) now).mono ?_
    rintro x W' ⟨v', n, hx⟩
    rcases hx with ⟨_, rfl⟩ | ⟨y, L3, pa, pc, e, _⟩
    · exact ⟨rfl, h.stepz hn e1 e2 hz hd hr1 hr2 hr3 n, n.fr.size⟩
    · cases e
theorem nob_cell (h : PlB w W gq gx gz nb ba most a M M') {j : Nat} (hj : j < 2) : W.cell? ⟨nb, j, none⟩ = some (.pointer (nobP gz j)) := by
  obtain ⟨⟨vq, Lq, vx, Lx, hn, _⟩, _⟩ := h
  rcases (show j = 0 ∨ j = 1 by omega) with rfl | rfl
  · exact hn.nbk.cell 0
  · exact hn.nbk.cell 1
end
end Go.Proofs.Ytcfbfnlbdkgfkaa
