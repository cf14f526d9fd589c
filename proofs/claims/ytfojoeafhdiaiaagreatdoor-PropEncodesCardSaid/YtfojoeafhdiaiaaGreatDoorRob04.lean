/- What is proved here: a Reader of package field: a block with all bytes, where it is, and its first error; what an act on it leaves. Conditions: the reader is there. -/
import Derived.Test.YtfojoeafhdiaiaaGreatDoorWob04
namespace Go.Proofs.YtfojoeafhdiaiaaGreatDoor
open Go.RowKit Go.Extern.Stop Go.Stop Go.Extern

structure RObj (w : World) (S : Nat → Addr) (g : Nat) (s : ByteArray) (R : RV) : Prop where
  blk : ∃ e, Blk w g 77 #[.string s, .int .i64 R.p, e] ∧ ErrOf w S 129 R.no R.ea e
  le : R.p ≤ s.size
structure RNext (w w' : World) (S : Nat → Addr) (g : Nat) (s : ByteArray) (R' : RV) : Prop where
  obj : RObj w' S g s R'
  fr : Fr [g] w w'
section
variable {w w' w2 : World} {S : Nat → Addr} {B g : Nat} {s : ByteArray} {R R' R2 : RV} {X : List Nat}
theorem RObj.lt (h : RObj w S g s R) : g < w.heap.size := by obtain ⟨e, h1, _⟩ := h.blk; exact h1.lt
theorem RObj.fr (h : RObj w S g s R) (hf : Fr X w w') (hg : g ∉ X) (hX : NoF w X) : RObj w' S g s R := by
  obtain ⟨e, h1, h2⟩ := h.blk
  exact ⟨⟨e, h1.fr hf hg, err_fr h2 hf hX⟩, h.le⟩
theorem RObj.below (h : RObj w S g s R) (hb : Below w.heap.size w w') : RObj w' S g s R := h.fr (X := []) (Fr.of_below hb) (by simp) (by intro k hk; cases hk)
theorem RObj.step (h : RObj w S g s R) (hb : Below w.heap.size w w') : RNext w w' S g s R := ⟨h.below hb, Fr.of_below hb⟩
theorem RNext.trans (h : RNext w w' S g s R') (h2 : RNext w' w2 S g s R2) : RNext w w2 S g s R2 := ⟨h2.obj, h.fr.trans h2.fr fun _ hk _ => hk⟩
theorem RNext.below (h : RNext w w' S g s R') (hb : Below w'.heap.size w' w2) : RNext w w2 S g s R' := h.trans (h.obj.step hb)
theorem RNext.pre (h : RNext w' w2 S g s R') (hb : Below w.heap.size w w') : RNext w w2 S g s R' := ⟨h.obj, (Fr.of_below (X := [g]) hb).trans h.fr fun _ hk _ => hk⟩
theorem RNext.later (h : RNext w' w2 S g s R') (hg : B ≤ g) (hB : B ≤ w'.heap.size) (hb : Below B w w') : Below B w w2 := h.fr.later hb (fun b hx => by rw [List.mem_singleton] at hx; omega) hB
theorem RObj.nof (h : RObj w S g s R) : NoF w [g] := NoF.of fun k hk => by
  rw [List.mem_singleton] at hk
  subst hk
  obtain ⟨e, hb, _⟩ := h.blk
  exact ⟨_, _, hb, by decide⟩
theorem RObj.made (w : World) (S : Nat → Addr) (s : ByteArray) : RObj (w.alloc (.cells #[.string s, .int .i64 0, .nilIface] 77)) S w.heap.size s ⟨0, 0, 0⟩ :=
  ⟨⟨_, Blk.made w _ _, ErrOf.none⟩, Nat.zero_le _⟩
theorem RObj.nil_err (h : RObj w S g s R) (h0 : R.no = 0) : Blk w g 77 #[.string s, .int .i64 R.p, .nilIface] := by
  obtain ⟨e, hb, he⟩ := h.blk
  unfold ErrOf at he
  rw [if_pos h0] at he
  rw [← he]
  exact hb
theorem RObj.has_err (h : RObj w S g s R) (h0 : R.no ≠ 0) : ∃ t u, Blk w g 77 #[.string s, .int .i64 R.p, .iface t u] ∧ ErrOf w S 129 R.no R.ea (.iface t u) := by
  obtain ⟨e, hb, he⟩ := h.blk
  obtain ⟨t, u, rfl⟩ := err_iface he h0
  exact ⟨t, u, hb, he⟩
/-- Its place is another. -/
theorem RObj.moved (h : RObj w S g s R) {p : Nat} (hp : p ≤ s.size) : RNext w (w.setCell ⟨g, 1, none⟩ (.int .i64 p)) S g s ⟨p, R.no, R.ea⟩ := by
  obtain ⟨e, hb, he⟩ := h.blk
  have hf : Fr [g] w (w.setCell ⟨g, 1, none⟩ (.int .i64 p)) := (Fr.refl [g] w).setCell (p := ⟨g, 1, none⟩) (.inl (List.mem_singleton_self g)) _
  exact ⟨⟨⟨e, hb.store 1 _, err_fr he hf h.nof⟩, hp⟩, hf⟩
/-- Its error. -/
theorem RObj.failed (h : RObj w S g s R) {no a : Nat} {e : Value} (he : ErrOf w S 129 no a e) : RNext w (w.setCell ⟨g, 2, none⟩ e) S g s ⟨R.p, no, a⟩ := by
  obtain ⟨e0, hb, _⟩ := h.blk
  have hf : Fr [g] w (w.setCell ⟨g, 2, none⟩ e) := (Fr.refl [g] w).setCell (p := ⟨g, 2, none⟩) (.inl (List.mem_singleton_self g)) _
  exact ⟨⟨⟨e, hb.store 2 _, err_fr he hf h.nof⟩, h.le⟩, hf⟩
end
theorem rTake_le {s : ByteArray} {n : Nat} {R : RV} (h : R.p ≤ s.size) : (rTake s n R).2.p ≤ s.size ∧ R.p ≤ (rTake s n R).2.p := by
  unfold rTake
  split
  · split
    · exact ⟨h, Nat.le_refl _⟩
    · exact ⟨by simp only; omega, by simp only; omega⟩
  · exact ⟨h, Nat.le_refl _⟩
end Go.Proofs.YtfojoeafhdiaiaaGreatDoor
