/- What is proved here: what a topic and an alias come to by the aliases that a client gave, and what becomes of them. Conditions: the aliases stand there; few of them, of short topics; ErrProtocol is laid. -/
import Derived.Test.YtldpdhliigkboaaDoorZer26
namespace Go.Proofs.YtldpdhliigkboaaDoor
open Go.RowKit Go.Extern.Stop Go.Stop Go.Extern Go.Maps
/-- Aliases that a client gave: a block with the greatest one and a row of topics, and the row. -/
structure InObj (w : World) (B g : Nat) (most : Int) (v : Value) (T : List ByteArray) : Prop where
  low : B ≤ g
  blk : Blk w g 33 #[.int .i64 most, v]
  row : Row w B v T
/-- The topics, once the alias k + 1 has this one. -/
def setI (T : List ByteArray) (k : Nat) (t : ByteArray) : List ByteArray := (T ++ List.replicate (k + 1 - T.length) e0).set k t
theorem setI_len (T : List ByteArray) (k : Nat) (t : ByteArray) : (setI T k t).length = max T.length (k + 1) := by
  unfold setI
  rw [List.length_set, List.length_append, List.length_replicate]
  omega
/-- What one step leaves: the aliases, and which blocks may have changed. -/
structure Next26 (w w' : World) (B g : Nat) (most : Int) (v v' : Value) (T' : List ByteArray) : Prop where
  obj : InObj w' B g most v' T'
  fr : Fr (g :: v.ownBlock.toList) w w'
  own : ∀ k, v'.ownBlock = some k → v.ownBlock = some k ∨ w.heap.size ≤ k
section
variable {w w' : World} {B g : Nat} {most : Int} {v : Value} {T : List ByteArray} {s : Addr}
theorem InObj.drewN (h : InObj w B g most v T) (d : Nat) : InObj (w.drewN d) B g most v T := ⟨h.low, h.blk.drewN d, h.row⟩
theorem InObj.below (h : InObj w B g most v T) (hb : Below w.heap.size w w') : InObj w' B g most v T := ⟨h.low, h.blk.below hb h.blk.lt, h.row.below hb⟩
theorem InObj.ne (h : InObj w B g most v T) {k : Nat} (hk : v.ownBlock = some k) : g ≠ k := by
  rcases h.row.2 with ⟨rfl, _⟩ | ⟨gr, cap, cur, rfl, hB, hh, _⟩
  · cases hk
  · obtain rfl : gr = k := Option.some.inj hk
    exact h.blk.other hh (by decide)
theorem Next26.same (h : InObj w B g most v T) : Next26 w w B g most v v T := ⟨h, Fr.refl _ _, fun _ hk => .inl hk⟩
theorem get_any (h : InObj w B g most v T) (hm : T.length ≤ 65535) (k : Nat) (hk7 : k ≤ 65535) : Calls Tryd.prog 20 #[.pointer (some ⟨g, 0, none⟩), .int .i64 ((k : Int) + 1)] w fun x w' => x = .returned (.string (T.getD k e0)) ∧ w = w' := by
  obtain ⟨a, c, rfl⟩ := h.row.form
  have g0 := h.blk.cell 0
  have g1 := h.blk.cell 1
  have HR := Lib.hid h.row.rd
  by_cases hk : k < T.length
  · obtain ⟨gr, off, rfl, hc⟩ := HR.out (by omega)
    have c0 := hc k hk
    obtain ⟨n, hn⟩ : ∃ n, n = T.length := ⟨_, rfl⟩
    rw [← hn] at g1 hk hm
    clear h hc hn
    generalize T.getD k e0 = y at *
    go_enter Tryd.func20, Tryd.ntmps20
    go_wp2_with fail
    go_ret
    exact ⟨rfl, rfl⟩
  · have hd : T.getD k e0 = e0 := by rw [List.getD_eq_getElem?_getD, List.getElem?_eq_none (by omega)]; rfl
    rw [hd]
    obtain ⟨n, hn⟩ : ∃ n, n = T.length := ⟨_, rfl⟩
    rw [← hn] at g1 hk hm
    clear h hn hd
    go_enter Tryd.func20, Tryd.ntmps20
    go_wp2_with fail
    go_ret
    exact ⟨rfl, rfl⟩
theorem setI_small {k : Nat} (h : k < T.length) (t : ByteArray) : setI T k t = T.set k t := by
  unfold setI
  rw [show k + 1 - T.length = 0 by omega, List.replicate_zero, List.append_nil]
/-- A text is put into a row of one's own. -/
theorem row_stored {gr n c : Nat} (h : Row w B (.slice (some ⟨gr, 0, none⟩) n c) T) (hn : n = T.length) (k : Nat) (t : ByteArray) : Row (w.setCell ⟨gr, k, none⟩ (.string t)) B (.slice (some ⟨gr, 0, none⟩) n c) (T.set k t) ∧ w.grownBy (w.setCell ⟨gr, k, none⟩ (.string t)) (some gr) := by
  subst hn
  have hs := World.ownsRow.stored h k (.string t)
  refine ⟨?_, hs.2⟩
  unfold Row
  rw [List.length_set, List.map_set]
  exact hs.1
set_option maxRecDepth 100000 in
theorem set_any (h : InObj w B g most v T) (hB : B ≤ w.heap.size) (hm : T.length ≤ 65535) (k : Nat) (hk7 : k < 65535) (t : ByteArray) : Calls Tryd.prog 21 #[.pointer (some ⟨g, 0, none⟩), .int .i64 ((k : Int) + 1), .string t] w fun x w' => x = .returned (.tuple #[]) ∧ ∃ v', Next26 w w' B g most v v' (setI T k t) := by
  have g0 := h.blk.cell 0
  have g1 := h.blk.cell 1
  have f1 := h.blk.frozen 1
  by_cases hk : k < T.length
  · rcases h.row.2 with ⟨rfl, h0⟩ | ⟨gr, cap, cur, rfl, hB', hh, hrest⟩
    · omega
    · have hne : g ≠ gr := h.ne rfl
      have c0 : w.cell? ⟨gr, k, none⟩ = some (.string (T.getD k e0)) := by
        have := (h.row.rd (by omega)); obtain ⟨gr', off, e, hc⟩ := this
        injection e with e; injection e with e1 e2
        subst e1 e2
        have := hc k hk
        rwa [Nat.zero_add] at this
      have fz : w.frozen? ⟨gr, k, none⟩ = false := World.ownsRow.frozenAt h.row k
      have hs := row_stored h.row rfl k t
      have HE := Lib.hid (show ∃ v', Next26 w (w.setCell ⟨gr, k, none⟩ (.string t)) B g most (.slice (some ⟨gr, 0, none⟩) T.length cap) v' (setI T k t) from by
        rw [setI_small hk]
        exact ⟨_, ⟨h.low, h.blk.far hne _, hs.1⟩, (Fr.refl _ w).setCell (.inl (by simp [Value.ownBlock])) _, fun k hk => .inl hk⟩)
      obtain ⟨n, hn⟩ : ∃ n, n = T.length := ⟨_, rfl⟩
      rw [← hn] at g1 hk hm
      clear h hrest hh hn hs hB' hB
      generalize T.getD k e0 = y at *
      go_enter Tryd.func21, Tryd.ntmps21
      go_wp2_with fail
      exact bodyPost_end (v := .tuple #[]) (by simp [results, Tryd.results21, go_sem]) rfl ⟨rfl, HE.out⟩
  · obtain ⟨a, c, hv⟩ := h.row.form
    obtain ⟨m, hme⟩ : ∃ m, m = k + 1 - T.length := ⟨_, rfl⟩
    have hmn : T.length + m = k + 1 := by omega
    obtain ⟨gr, cap, w1, hrun, hrow1, hgrow, hat⟩ := run_zeros hB h.row m (by omega) (by omega)
    have hne : g ≠ gr := by
      rcases hat with h1 | h1
      · exact h.ne h1
      · have := h.blk.lt; omega
    have hb1 : Blk w1 g 33 #[.int .i64 most, v] := h.blk.grown hgrow (fun e => h.ne e.symm rfl)
    have a1 := hb1.cell 1
    have b1 := hb1.frozen 1
    have hb2 := hb1.store 1 (.slice (some ⟨gr, 0, none⟩) (k + 1) cap)
    have a2 := hb2.cell 1
    rw [hmn] at hrow1 hrun
    have hrow2 : Row (w1.setCell ⟨g, 1, none⟩ (.slice (some ⟨gr, 0, none⟩) (k + 1) cap)) B (.slice (some ⟨gr, 0, none⟩) (k + 1) cap) (T ++ List.replicate m e0) := World.ownsRow.kept hrow1 (grown_cell w1 g 1 _) (.inr fun e => hne (Option.some.inj e).symm)
    have hl : (T ++ List.replicate m e0).length = k + 1 := by rw [List.length_append, List.length_replicate]; omega
    have c2 : (w1.setCell ⟨g, 1, none⟩ (.slice (some ⟨gr, 0, none⟩) (k + 1) cap)).cell? ⟨gr, k, none⟩ = some (.string ((T ++ List.replicate m e0).getD k e0)) := by
      have h3 := hrow2
      rw [← hl] at h3
      have := (h3.rd (by omega)); obtain ⟨gr', off, e, hc⟩ := this
      injection e with e; injection e with e1 e2
      subst e1 e2
      have := hc k (by omega)
      rw [Nat.zero_add, hl] at this
      exact this
    have d2 : (w1.setCell ⟨g, 1, none⟩ (.slice (some ⟨gr, 0, none⟩) (k + 1) cap)).frozen? ⟨gr, k, none⟩ = false := by
      have h3 := hrow2
      unfold Row at h3
      rw [hl] at h3
      exact World.ownsRow.frozenAt h3 k
    have hs := row_stored hrow2 hl.symm k t
    have HE := Lib.hid (show ∃ v', Next26 w ((w1.setCell ⟨g, 1, none⟩ (.slice (some ⟨gr, 0, none⟩) (k + 1) cap)).setCell ⟨gr, k, none⟩ (.string t)) B g most v v' (setI T k t) from by
      unfold setI
      rw [← hme]
      refine ⟨_, ⟨h.low, hb2.far hne _, hs.1⟩, ?_, ?_⟩
      · refine (((Fr.refl _ w).grown hgrow (fun k hk => .inl (by simp [hk]))).setCell (.inl (by simp)) _).setCell ?_ _
        rcases hat with h1 | h1
        · exact .inl (by simp [h1])
        · exact .inr (by simp [h1])
      · intro k hk
        obtain rfl : gr = k := Option.some.inj hk
        rcases hat with h1 | h1
        · exact .inl h1
        · exact .inr (by omega))
    subst hv
    obtain ⟨n, hn⟩ : ∃ n, n = T.length := ⟨_, rfl⟩
    rw [← hn] at g1 hk hm hrun
    rw [show (m : Int) = (k : Int) + 1 - (n : Int) by omega] at hrun
    have HRUN := Lib.hid hrun
    clear h hB hme hmn hrun hrow1 hgrow hat hb1 hb2 hrow2 hl hs hn
    generalize (T ++ List.replicate m e0).getD k e0 = y at *
    go_enter Tryd.func21, Tryd.ntmps21
    go_wp2_with (at_builtin; go_must (refine Lib.wpList_append_run _ rfl _ _ _ _ rfl _ _ rfl rfl _ _ HRUN.out ?_))
    exact bodyPost_end (v := .tuple #[]) (by simp [results, Tryd.results21, go_sem]) rfl ⟨rfl, HE.out⟩
end
end Go.Proofs.YtldpdhliigkboaaDoor
