/- What is proved here: deleting messages whose time has come from a row of one's own, and from a queue. Conditions: the row is there; few messages. -/
import Derived.Test.YtcfbfnlbdkgfkaaDel27
namespace Go.Proofs.Ytcfbfnlbdkgfkaa
open Go.RowKit Go.Extern.Stop Go.Stop Go.Extern
set_option maxRecDepth 100000
theorem putz_get {W : World} {g o : Nat} {cur : Array Value} {t : TypeId} (h : Blk W g t cur) (ho : o + 9 ≤ cur.size) (u0 u1 u2 u3 u4 u5 u6 u7 u8 : Value) :
    ∃ cur', Blk (putz W g o u0 u1 u2 u3 u4 u5 u6 u7 u8) g t cur' ∧ cur'.size = cur.size ∧ (∀ j, j < o ∨ o + 9 ≤ j → cur'[j]? = cur[j]?) ∧ ∀ f, f < 9 → cur'[o + f]? = [u0, u1, u2, u3, u4, u5, u6, u7, u8][f]? := by
  refine ⟨_, ((((((((h.store o u0).store (o + 1) u1).store (o + 2) u2).store (o + 3) u3).store (o + 4) u4).store (o + 5) u5).store (o + 6) u6).store (o + 7) u7).store (o + 8) u8, ?_, fun j hj => ?_, fun f hf => ?_⟩
  · simp only [Array.size_setIfInBounds]
  · rw [Array.getElem?_setIfInBounds_ne (by omega), Array.getElem?_setIfInBounds_ne (by omega), Array.getElem?_setIfInBounds_ne (by omega), Array.getElem?_setIfInBounds_ne (by omega), Array.getElem?_setIfInBounds_ne (by omega), Array.getElem?_setIfInBounds_ne (by omega), Array.getElem?_setIfInBounds_ne (by omega), Array.getElem?_setIfInBounds_ne (by omega), Array.getElem?_setIfInBounds_ne (by omega)]
  · have hs : ∀ (c : Array Value) i u, (c.setIfInBounds i u).size = c.size := fun c i u => by simp
    rcases (show f = 0 ∨ f = 1 ∨ f = 2 ∨ f = 3 ∨ f = 4 ∨ f = 5 ∨ f = 6 ∨ f = 7 ∨ f = 8 by omega) with rfl | rfl | rfl | rfl | rfl | rfl | rfl | rfl | rfl
    all_goals
      repeat rw [Array.getElem?_setIfInBounds_ne (by omega)]
      (try rw [Nat.add_zero])
      rw [Array.getElem?_setIfInBounds_self_of_lt (by (try simp only [hs]); omega)]
      rfl
section
variable {X : List Nat} {w w' : World} {B : Nat} {v : Value} {L R : QL} {q : QV}
/-- An element of the row is another one. -/
theorem QRow.set {gr off n cap i : Nat} (h : QRow w B (.slice (some ⟨gr, off, none⟩) n cap) R) (hi : i < R.length) (q : QV) :
    QRow (putz w gr (off + i * 9) (.string q.m.topic) (.string q.m.payload) (.int .i64 q.m.qos) (.bool q.m.retain) (.slice q.pa q.m.props.length q.pc) (.string q.m.frm) (.int .i64 q.m.til) (.int .i64 q.m.seq) (.string q.m.grp)) B (.slice (some ⟨gr, off, none⟩) n cap) (R.set i q) := by
  rcases h with ⟨e, _⟩ | ⟨g2, off2, cap2, cur, e, hB, hh, h1, h2, h3, h4⟩
  · cases e
  · injection e with ha hn hc
    injection ha with ha
    injection ha with hg ho
    subst hg ho hn hc
    obtain ⟨cur', hb', hs', hj', hf'⟩ := putz_get (W := w) (g := gr) (o := off + i * 9) (t := 36) hh (by omega) (.string q.m.topic) (.string q.m.payload) (.int .i64 q.m.qos) (.bool q.m.retain) (.slice q.pa q.m.props.length q.pc) (.string q.m.frm) (.int .i64 q.m.til) (.int .i64 q.m.seq) (.string q.m.grp)
    refine .inr ⟨gr, off, cap, cur', by rw [List.length_set], hB, hb', by rw [List.length_set]; exact h1, h2, by rw [hs']; exact h3, fun j hj => ?_⟩
    rw [List.length_set] at hj
    have hk : j = j / 9 * 9 + j % 9 := by omega
    have hk9 : j % 9 < 9 := by omega
    have hkl : j / 9 < R.length := by omega
    rw [hk, qcs_get (R.set i q) (j / 9) (j % 9) (by rw [List.length_set]; exact hkl) hk9]
    by_cases hik : j / 9 = i
    · rw [hik, show off + (i * 9 + j % 9) = off + i * 9 + j % 9 by omega, hf' _ hk9]
      have hg : (R.set i q).getD i q0 = q := by rw [List.getD_eq_getElem?_getD, List.getElem?_set_self hi]; rfl
      rw [hg]
      unfold QV.cells
      exact rfl
    · rw [hj' _ (by omega), h4 _ (by omega), qcs_get R (j / 9) (j % 9) hkl hk9]
      have hg : (R.set i q).getD (j / 9) q0 = R.getD (j / 9) q0 := by rw [List.getD_eq_getElem?_getD, List.getD_eq_getElem?_getD, List.getElem?_set_ne (fun e => hik e.symm)]
      rw [hg]
/-- A row cut behind its first elements. -/
theorem QRow.front {gr off n cap i : Nat} (h : QRow w B (.slice (some ⟨gr, off, none⟩) n cap) R) (hi : i ≤ R.length) : QRow w B (.slice (some ⟨gr, off, none⟩) i cap) (R.take i) := by
  rcases h with ⟨e, _⟩ | ⟨g2, off2, cap2, cur, e, hB, hh, h1, h2, h3, h4⟩
  · cases e
  · injection e with ha hn hc
    injection ha with ha
    injection ha with hg ho
    subst hg ho hn hc
    have hl : (R.take i).length = i := by rw [List.length_take]; omega
    refine .inr ⟨gr, off, cap, cur, by rw [hl], hB, hh, by omega, h2, h3, fun j hj => ?_⟩
    rw [hl] at hj
    have hk9 : j % 9 < 9 := by omega
    rw [h4 j (by omega), show j = j / 9 * 9 + j % 9 by omega, qcs_get R (j / 9) (j % 9) (by omega) hk9, qcs_get (R.take i) (j / 9) (j % 9) (by omega) hk9]
    congr 2
    rw [List.getD_eq_getElem?_getD, List.getD_eq_getElem?_getD, List.getElem?_take, if_pos (by omega)]
/-- Cells stored from a place on leave what stands ahead. -/
theorem setCells_front {t : TypeId} {g : Nat} : ∀ (vs : List Value) (o : Nat) (w : World) (cs : Array Value), Blk w g t cs → ∃ cs', Blk (w.setCells g o vs) g t cs' ∧ cs'.size = cs.size ∧ ∀ j, j < o → cs'[j]? = cs[j]?
  | [], _, _, cs, h => ⟨cs, h, rfl, fun _ _ => rfl⟩
  | u :: r, o, w, cs, h => by
    obtain ⟨cs', h1, h2, h3⟩ := setCells_front r (o + 1) _ _ (h.store o u)
    exact ⟨cs', h1, by rw [h2]; simp, fun j hj => by rw [h3 j (by omega), Array.getElem?_setIfInBounds_ne (by omega)]⟩
theorem setCells_fr (g : Nat) : ∀ (vs : List Value) (o : Nat) (w : World), Fr [g] w (w.setCells g o vs)
  | [], _, w => Fr.refl _ w
  | u :: r, o, w => ((Fr.refl [g] w).setCell (p := ⟨g, o, none⟩) (.inl (List.mem_singleton_self g)) u).trans (setCells_fr g r (o + 1) _) (fun _ hb _ => hb)
theorem zq_one (a : Nat) : ((Value.agg zq).cells[a % (Value.agg zq).cells.size]!).oneCell' = true := by
  have h : ∀ r, r < 9 → ((Value.agg zq).cells[r]!).oneCell' = true := by
    intro r hr
    rcases (show r = 0 ∨ r = 1 ∨ r = 2 ∨ r = 3 ∨ r = 4 ∨ r = 5 ∨ r = 6 ∨ r = 7 ∨ r = 8 by omega) with rfl | rfl | rfl | rfl | rfl | rfl | rfl | rfl | rfl <;> rfl
  exact h _ (Nat.mod_lt _ (by decide))
/-- clear of what stands behind the first elements of a row. -/
theorem QRow.clear {gr off n cap i : Nat} (h : QRow w B (.slice (some ⟨gr, off, none⟩) n cap) R) (hi : i < R.length) :
    ∃ W', (∀ ty : TypeId, (Builtin.clear_ #[53] ty #[.slice (some ⟨gr, off + i * 9, none⟩) (n - i) (cap - i)]).run Try.prog w = .ok (.tuple #[]) W') ∧ Fr [gr] w W' ∧ QRow W' B (.slice (some ⟨gr, off, none⟩) i cap) (R.take i) := by
  have hf := h.front (i := i) (by omega)
  rcases h with ⟨e, _⟩ | ⟨g2, off2, cap2, cur, e, hB, hh, h1, h2, h3, h4⟩
  · cases e
  · injection e with ha hn hc
    injection ha with ha
    injection ha with hg ho
    subst hg ho hn hc
    have hz1 : (Builtin.zeroCells (Value.agg zq).cells (R.length - i)).toList.length = (R.length - i) * 9 := by
      rw [Array.length_toList, size_zeroCells]
      rfl
    obtain ⟨p, hp⟩ : ∃ p, R.length - i = p + 1 := ⟨R.length - i - 1, by omega⟩
    have hcell : ∀ j, w.cell? ⟨gr, j, none⟩ = cur[j]? := fun j => cell_of_row w gr j cur _ (0, 0) hh
    have hone : ∀ u ∈ (Builtin.zeroCells (Value.agg zq).cells (R.length - i)).toList, u.oneCell' = true := by
      intro u hu
      have hu' := Array.mem_toList_iff.1 hu
      unfold Builtin.zeroCells at hu'
      obtain ⟨a, _, rfl⟩ := Array.mem_map.1 hu'
      exact zq_one _
    have hst := run_storeCells_cells (P := Try.prog) gr (off + i * 9) (Builtin.zeroCells (Value.agg zq).cells (R.length - i)).toList 0 w
      (fun j hj => by
        rw [hz1] at hj
        rw [Nat.add_zero, hcell, Array.getElem?_eq_getElem (by omega)]; rfl) (fun j hj => by simp [World.frozen?, hh]) hone
    obtain ⟨cs', e1, e2, e3⟩ := setCells_front (t := 36) (Builtin.zeroCells (Value.agg zq).cells (R.length - i)).toList (off + i * 9) w cur hh
    refine ⟨w.setCells gr (off + i * 9) (Builtin.zeroCells (Value.agg zq).cells (R.length - i)).toList, ?_, setCells_fr _ _ _ _, ?_⟩
    · intro ty
      rw [Nat.add_zero] at hst
      rw [hp] at hst ⊢
      unfold zq at hst ⊢
      simp [Builtin.clear_, run_underlying Try.underlying53]
      rw [hst]
      rfl
    · rcases hf with ⟨e, _⟩ | ⟨g2, off2, cap2, cur2, e, _, hh2, f1, f2, f3, f4⟩
      · cases e
      · injection e with ha hn hc
        injection ha with ha
        injection ha with hg ho
        subst hg ho hc
        rw [hh] at hh2
        injection hh2 with hh2
        injection hh2 with hcur
        subst hcur
        exact .inr ⟨gr, off, cap, cs', by rw [← hn], hB, e1, f1, h2, by rw [e2]; exact h3, fun j hj => by rw [e3 _ (by rw [← hn] at hj; omega)]; exact f4 j hj⟩
end
end Go.Proofs.Ytcfbfnlbdkgfkaa
