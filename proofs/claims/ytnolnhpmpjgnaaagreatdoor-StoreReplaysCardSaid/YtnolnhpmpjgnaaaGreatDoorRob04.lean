/- What is proved here: a Writer of package field: a block with its bytes and its first error; what an act on it leaves. Conditions: the writer is there. What is proved here: a Reader of package field: a block with all bytes, where it is, and its first error; what an act on it leaves. Conditions: the reader is there. -/
import Derived.Test.YtnolnhpmpjgnaaaGreatDoorByt
import Derived.Test.YtnolnhpmpjgnaaaGreatDoorFld04
namespace Go.Proofs.YtnolnhpmpjgnaaaGreatDoor
open Go.RowKit Go.Extern.Stop Go.Stop Go.Extern

/-- A writer: its bytes, or its first error. -/
structure WObj (w : World) (S : Nat → Addr) (B g : Nat) (v : Value) (W : EV) : Prop where
  low : B ≤ g
  blk : ∃ e, Blk w g 82 #[v, e] ∧ ErrOf w S 129 W.no W.at_ e
  row : BRow w B v W.L
  bad : W.no ≠ 0 → v = .slice none 0 0 ∧ W.L = []
/-- What an act leaves. -/
structure WNext (w w' : World) (S : Nat → Addr) (B g : Nat) (v v' : Value) (W' : EV) : Prop where
  obj : WObj w' S B g v' W'
  fr : Fr (g :: v.ownBlock.toList) w w'
  own : ∀ k, v'.ownBlock = some k → v.ownBlock = some k ∨ w.heap.size ≤ k
section
variable {w w' w2 : World} {S : Nat → Addr} {B g : Nat} {v v' v2 : Value} {W W' W2 : EV} {X : List Nat}
theorem WObj.lt (h : WObj w S B g v W) : g < w.heap.size := by obtain ⟨e, h1, _⟩ := h.blk; exact h1.lt
theorem WObj.size (h : WObj w S B g v W) : B ≤ w.heap.size := Nat.le_trans h.low (Nat.le_of_lt h.lt)
theorem WObj.ne (h : WObj w S B g v W) {k : Nat} (hk : v.ownBlock = some k) : g ≠ k := by
  obtain ⟨_, _, cs, hh⟩ := h.row.lt k hk
  obtain ⟨e, h1, _⟩ := h.blk
  exact h1.other hh (by decide)
theorem WObj.fr (h : WObj w S B g v W) (hf : Fr X w w') (hg : g ∉ X) (hv : ∀ k, v.ownBlock = some k → k ∉ X) (hX : NoF w X) : WObj w' S B g v W := by
  obtain ⟨e, h1, h2⟩ := h.blk
  exact ⟨h.low, ⟨e, h1.fr hf hg, err_fr h2 hf hX⟩, h.row.fr hf hv, h.bad⟩
theorem WObj.below (h : WObj w S B g v W) (hb : Below w.heap.size w w') : WObj w' S B g v W := h.fr (X := []) (Fr.of_below hb) (by simp) (by simp) (by intro k hk; cases hk)
theorem WObj.step (h : WObj w S B g v W) (hb : Below w.heap.size w w') : WNext w w' S B g v v W := ⟨h.below hb, Fr.of_below hb, fun _ hk => .inl hk⟩
theorem WObj.own_ok (h : WObj w S B g v W) : ∀ k ∈ g :: v.ownBlock.toList, B ≤ k := by
  intro k hk
  rcases List.mem_cons.1 hk with rfl | hk
  · exact h.low
  · exact (h.row.lt k (own_list.1 hk)).1
theorem WNext.trans (h : WNext w w' S B g v v' W') (h2 : WNext w' w2 S B g v' v2 W2) : WNext w w2 S B g v v2 W2 := by
  refine ⟨h2.obj, h.fr.trans h2.fr (fun k hk hlt => ?_), fun k hk => ?_⟩
  · rcases List.mem_cons.1 hk with rfl | hk
    · exact List.mem_cons_self ..
    · rcases h.own k (own_list.1 hk) with e | e
      · exact List.mem_cons_of_mem _ (own_list.2 e)
      · omega
  · rcases h2.own k hk with e | e
    · exact h.own k e
    · exact .inr (Nat.le_trans h.fr.size e)
theorem WNext.below (h : WNext w w' S B g v v' W') (hb : Below w'.heap.size w' w2) : WNext w w2 S B g v v' W' := h.trans (h.obj.step hb)
theorem WNext.pre (h : WNext w' w2 S B g v v' W') (hb : Below w.heap.size w w') : WNext w w2 S B g v v' W' := by
  refine ⟨h.obj, (Fr.of_below (X := g :: v.ownBlock.toList) hb).trans h.fr fun _ hk _ => hk, fun k hk => ?_⟩
  rcases h.own k hk with e | e
  · exact .inl e
  · exact .inr (Nat.le_trans hb.size e)
theorem WNext.later (h : WNext w' w2 S B g v v' W') (ho : WObj w' S B g v W) (hb : Below B w w') : Below B w w2 := h.fr.later hb ho.own_ok ho.size
/-- A new writer. -/
theorem WObj.made (w : World) (S : Nat → Addr) (hB : B ≤ w.heap.size) : WObj (w.alloc (.cells #[.slice none 0 0, .nilIface] 82)) S B w.heap.size (.slice none 0 0) w0 :=
  ⟨hB, ⟨_, Blk.made w _ _, ErrOf.none⟩, BRow.nil _ _, fun h => absurd rfl h⟩
/-- Bytes more: the row is appended to, and stored. -/
theorem WObj.appended (h : WObj w S B g v W) (h0 : W.no = 0) {L' : List UInt8} (hn : BNext w w' B v v' L') :
    w'.cell? ⟨g, 0, none⟩ = some v ∧ w'.frozen? ⟨g, 0, none⟩ = false ∧ WNext w (w'.setCell ⟨g, 0, none⟩ v') S B g v v' ⟨0, W.at_, L'⟩ := by
  obtain ⟨e, hb, he⟩ := h.blk
  have hfar : some g ≠ v.ownBlock := fun e => h.ne e.symm rfl
  have hb1 := hb.grown hn.grown hfar
  have hgn : ∀ k, v'.ownBlock = some k → k ∉ [g] := fun k hk hm => by
    rw [List.mem_singleton] at hm
    subst hm
    rcases hn.own with e | ⟨k2, e, hk2⟩
    · exact h.ne (e.symm.trans hk) rfl
    · rw [e] at hk
      have := h.lt
      have := Option.some.inj hk
      omega
  have hfs : Fr [g] w' (w'.setCell ⟨g, 0, none⟩ v') := (Fr.refl [g] w').setCell (p := ⟨g, 0, none⟩) (.inl (List.mem_singleton_self g)) _
  have he0 : e = .nilIface := by unfold ErrOf at he; rw [if_pos h0] at he; exact he
  refine ⟨hb1.cell 0, hb1.frozen 0, ⟨h.low, ⟨e, hb1.store 0 v', by rw [he0]; exact ErrOf.none⟩, hn.row.fr hfs hgn, fun h => absurd rfl h⟩, ?_, fun k hk => ?_⟩
  · exact ((grown_fr hn.grown).mono (fun b hb _ => List.mem_cons_of_mem g hb)).setCell (.inl (List.mem_cons_self ..)) _
  · rcases hn.own with e | ⟨k2, e, hk2⟩
    · exact .inl (e.symm.trans hk)
    · rw [e] at hk
      obtain rfl := Option.some.inj hk
      exact .inr hk2
/-- The first error: it is stored, and the bytes are gone. -/
theorem WObj.failed (h : WObj w S B g v W) {no a : Nat} {e : Value} (he : ErrOf w S 129 no a e) :
    WNext w ((w.setCell ⟨g, 1, none⟩ e).setCell ⟨g, 0, none⟩ (.slice none 0 0)) S B g v (.slice none 0 0) ⟨no, a, []⟩ := by
  obtain ⟨e0, hb, _⟩ := h.blk
  have hX : NoF w [g] := NoF.of fun k hk => by
    rw [List.mem_singleton] at hk
    subst hk
    exact ⟨_, _, hb, by decide⟩
  have hf : Fr [g] w ((w.setCell ⟨g, 1, none⟩ e).setCell ⟨g, 0, none⟩ (.slice none 0 0)) := ((Fr.refl [g] w).setCell (p := ⟨g, 1, none⟩) (.inl (List.mem_singleton_self g)) _).setCell (p := ⟨g, 0, none⟩) (.inl (List.mem_singleton_self g)) _
  exact ⟨⟨h.low, ⟨e, (hb.store 1 e).store 0 _, err_fr he hf hX⟩, BRow.nil _ _, fun _ => ⟨rfl, rfl⟩⟩, hf.mono (fun b hb _ => by rw [List.mem_singleton] at hb; subst hb; exact List.mem_cons_self ..), fun k hk => by cases hk⟩
theorem WObj.nil_err (h : WObj w S B g v W) (h0 : W.no = 0) : Blk w g 82 #[v, .nilIface] := by
  obtain ⟨e, hb, he⟩ := h.blk
  unfold ErrOf at he
  rw [if_pos h0] at he
  rw [← he]
  exact hb
theorem WObj.has_err (h : WObj w S B g v W) (h0 : W.no ≠ 0) : ∃ t u, Blk w g 82 #[.slice none 0 0, .iface t u] ∧ ErrOf w S 129 W.no W.at_ (.iface t u) := by
  obtain ⟨e, hb, he⟩ := h.blk
  obtain ⟨t, u, rfl⟩ := err_iface he h0
  obtain ⟨rfl, _⟩ := h.bad h0
  exact ⟨t, u, hb, he⟩
end
end Go.Proofs.YtnolnhpmpjgnaaaGreatDoor
namespace Go.Proofs.YtnolnhpmpjgnaaaGreatDoor
open Go.RowKit Go.Extern.Stop Go.Stop Go.Extern

structure RObj (w : World) (S : Nat → Addr) (g : Nat) (s : ByteArray) (R : RV) : Prop where
  blk : ∃ e, Blk w g 87 #[.string s, .int .i64 R.p, e] ∧ ErrOf w S 129 R.no R.ea e
  le : R.p ≤ s.size
structure RNext (w w' : World) (S : Nat → Addr) (g : Nat) (s : ByteArray) (R' : RV) : Prop where
  obj : RObj w' S g s R'
  fr : Fr [g] w w'
section
variable {w w' w2 : World} {S : Nat → Addr} {B g : Nat} {s : ByteArray} {R R' R2 : RV} {X : List Nat}
theorem RObj.lt (h : RObj w S g s R) : g < w.heap.size := by obtain ⟨e, h1, _⟩ := h.blk; exact h1.lt
theorem RObj.fr (h : RObj w S g s R) (hf : Fr X w w') (hg : g ∉ X) (hX : NoF w X) : RObj w' S g s R := by
  obtain ⟨e, h1, h2⟩ := h.blk
  exact ⟨⟨e, h1.fr hf hg, err_fr h2 hf hX⟩, h.le⟩
theorem RObj.below (h : RObj w S g s R) (hb : Below w.heap.size w w') : RObj w' S g s R := h.fr (X := []) (Fr.of_below hb) (by simp) (by intro k hk; cases hk)
theorem RObj.step (h : RObj w S g s R) (hb : Below w.heap.size w w') : RNext w w' S g s R := ⟨h.below hb, Fr.of_below hb⟩
theorem RNext.trans (h : RNext w w' S g s R') (h2 : RNext w' w2 S g s R2) : RNext w w2 S g s R2 := ⟨h2.obj, h.fr.trans h2.fr fun _ hk _ => hk⟩
theorem RNext.below (h : RNext w w' S g s R') (hb : Below w'.heap.size w' w2) : RNext w w2 S g s R' := h.trans (h.obj.step hb)
theorem RNext.pre (h : RNext w' w2 S g s R') (hb : Below w.heap.size w w') : RNext w w2 S g s R' := ⟨h.obj, (Fr.of_below (X := [g]) hb).trans h.fr fun _ hk _ => hk⟩
theorem RNext.later (h : RNext w' w2 S g s R') (hg : B ≤ g) (hB : B ≤ w'.heap.size) (hb : Below B w w') : Below B w w2 := h.fr.later hb (fun b hx => by rw [List.mem_singleton] at hx; omega) hB
theorem RObj.nof (h : RObj w S g s R) : NoF w [g] := NoF.of fun k hk => by
  rw [List.mem_singleton] at hk
  subst hk
  obtain ⟨e, hb, _⟩ := h.blk
  exact ⟨_, _, hb, by decide⟩
theorem RObj.made (w : World) (S : Nat → Addr) (s : ByteArray) : RObj (w.alloc (.cells #[.string s, .int .i64 0, .nilIface] 87)) S w.heap.size s ⟨0, 0, 0⟩ :=
  ⟨⟨_, Blk.made w _ _, ErrOf.none⟩, Nat.zero_le _⟩
theorem RObj.nil_err (h : RObj w S g s R) (h0 : R.no = 0) : Blk w g 87 #[.string s, .int .i64 R.p, .nilIface] := by
  obtain ⟨e, hb, he⟩ := h.blk
  unfold ErrOf at he
  rw [if_pos h0] at he
  rw [← he]
  exact hb
theorem RObj.has_err (h : RObj w S g s R) (h0 : R.no ≠ 0) : ∃ t u, Blk w g 87 #[.string s, .int .i64 R.p, .iface t u] ∧ ErrOf w S 129 R.no R.ea (.iface t u) := by
  obtain ⟨e, hb, he⟩ := h.blk
  obtain ⟨t, u, rfl⟩ := err_iface he h0
  exact ⟨t, u, hb, he⟩
/-- Its place is another. -/
theorem RObj.moved (h : RObj w S g s R) {p : Nat} (hp : p ≤ s.size) : RNext w (w.setCell ⟨g, 1, none⟩ (.int .i64 p)) S g s ⟨p, R.no, R.ea⟩ := by
  obtain ⟨e, hb, he⟩ := h.blk
  have hf : Fr [g] w (w.setCell ⟨g, 1, none⟩ (.int .i64 p)) := (Fr.refl [g] w).setCell (p := ⟨g, 1, none⟩) (.inl (List.mem_singleton_self g)) _
  exact ⟨⟨⟨e, hb.store 1 _, err_fr he hf h.nof⟩, hp⟩, hf⟩
/-- Its error. -/
theorem RObj.failed (h : RObj w S g s R) {no a : Nat} {e : Value} (he : ErrOf w S 129 no a e) : RNext w (w.setCell ⟨g, 2, none⟩ e) S g s ⟨R.p, no, a⟩ := by
  obtain ⟨e0, hb, _⟩ := h.blk
  have hf : Fr [g] w (w.setCell ⟨g, 2, none⟩ e) := (Fr.refl [g] w).setCell (p := ⟨g, 2, none⟩) (.inl (List.mem_singleton_self g)) _
  exact ⟨⟨⟨e, hb.store 2 _, err_fr he hf h.nof⟩, h.le⟩, hf⟩
end
theorem rTake_le {s : ByteArray} {n : Nat} {R : RV} (h : R.p ≤ s.size) : (rTake s n R).2.p ≤ s.size ∧ R.p ≤ (rTake s n R).2.p := by
  unfold rTake
  split
  · split
    · exact ⟨h, Nat.le_refl _⟩
    · exact ⟨by simp only; omega, by simp only; omega⟩
  · exact ⟨h, Nat.le_refl _⟩
end Go.Proofs.YtnolnhpmpjgnaaaGreatDoor
