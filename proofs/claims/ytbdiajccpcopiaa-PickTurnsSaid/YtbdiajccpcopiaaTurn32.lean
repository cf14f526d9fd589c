/- What is proved here, on plain lists: who is free by a number's bits; going round each that is free comes in turn; whether all are different. No conditions. -/
import Derived.Test.YtbdiajccpcopiaaOwn32
namespace Go.Proofs.Ytbdiajccpcopiaa
open Go.RowKit Go.Extern.Stop Go.Stop Go.Extern
/-- Those of the first k that are free. -/
def freeTo (L : List ByteArray) (fr : Nat) : Nat → List ByteArray
  | 0 => []
  | k + 1 => if fr / 2 ^ k % 2 = 1 then freeTo L fr k ++ [L.getD k e0] else freeTo L fr k
theorem free_len (L : List ByteArray) (fr : Nat) : ∀ k, (freeTo L fr k).length ≤ k
  | 0 => Nat.le_refl _
  | k + 1 => by
    have := free_len L fr k
    unfold freeTo
    split
    · rw [List.length_append, List.length_singleton]; omega
    · omega
theorem free_in {L : List ByteArray} {fr : Nat} {x : ByteArray} : ∀ {k : Nat}, k ≤ L.length → x ∈ freeTo L fr k → x ∈ L
  | 0, _, h => by cases h
  | k + 1, hk, h => by
    unfold freeTo at h
    split at h
    · rcases List.mem_append.1 h with h | h
      · exact free_in (by omega) h
      · rw [List.mem_singleton.1 h, List.getD_eq_getElem?_getD, List.getElem?_eq_getElem (by omega)]
        exact List.getElem_mem _
    · exact free_in (by omega) h
/-- Those that are free are all that are there, but for some. -/
theorem free_sub (L : List ByteArray) (fr : Nat) : ∀ k, k ≤ L.length → (freeTo L fr k).Sublist (L.take k)
  | 0, _ => List.Sublist.slnil
  | k + 1, hk => by
    have h := free_sub L fr k (by omega)
    rw [List.take_succ_eq_append_getElem (by omega : k < L.length)]
    unfold freeTo
    rw [List.getD_eq_getElem?_getD, List.getElem?_eq_getElem (by omega)]
    split
    · exact h.append (List.Sublist.refl _)
    · exact h.trans (List.sublist_append_left _ _)
/-- Of a list without two that are the same, those of a part are the part. -/
theorem filter_sub {L M : List ByteArray} (hs : M.Sublist L) : ∀ (p : ByteArray → Bool), L.Nodup → (∀ x ∈ L, p x = true ↔ x ∈ M) → L.filter p = M := by
  induction hs with
  | slnil => exact fun _ _ _ => rfl
  | @cons M L a h ih =>
    intro p hnd hp
    obtain ⟨ha, hnd⟩ := List.nodup_cons.1 hnd
    have hna : ¬ p a = true := fun h' => ha (h.subset ((hp a (List.mem_cons_self ..)).1 h'))
    rw [List.filter_cons_of_neg hna]
    exact ih p hnd fun x hx => hp x (List.mem_cons_of_mem _ hx)
  | @cons_cons M L a h ih =>
    intro p hnd hp
    obtain ⟨ha, hnd⟩ := List.nodup_cons.1 hnd
    rw [List.filter_cons_of_pos ((hp a (List.mem_cons_self ..)).2 (List.mem_cons_self ..)), ih p hnd fun x hx => by
      rw [hp x (List.mem_cons_of_mem _ hx), List.mem_cons]
      exact ⟨fun h' => h'.resolve_left (fun e => ha (e ▸ hx)), .inr⟩]
theorem rot_zero (L : List ByteArray) : rotF e0 L 0 = L := by
  refine List.ext_getElem? fun i => ?_
  by_cases hi : i < L.length
  · rw [rot_get e0 L 0 i hi, Nat.zero_add, Nat.mod_eq_of_lt hi, List.getElem?_eq_getElem hi, List.getD_eq_getElem?_getD, List.getElem?_eq_getElem hi]
    rfl
  · rw [List.getElem?_eq_none (by rw [rot_len]; omega), List.getElem?_eq_none (by omega)]
theorem rot_split {L : List ByteArray} {f : Nat} (h : f ≤ L.length) : rotF e0 L f = L.drop f ++ L.take f := by
  have := rot_turn e0 L 0 (X := L.take f) (Y := L.drop f) (by rw [rot_zero, List.take_append_drop])
  rw [Nat.zero_add, List.length_take, Nat.min_eq_left h] at this
  exact this
/-- How far the round is: what came so far, and where it goes on. -/
def TurnSt (L l G : List ByteArray) (last : ByteArray) : Prop := ∃ A B, rotF e0 L (behind L last) = B ++ A ∧ A.filter (inB l) = G
theorem turn_start (L l : List ByteArray) (last : ByteArray) : TurnSt L l [] last := ⟨[], _, (List.append_nil _).symm, rfl⟩
theorem turn_step {L l G : List ByteArray} {last : ByteArray} (hnd : L.Nodup) (hs : l.Sublist L) (h : TurnSt L l G last) (hG : G.length < l.length) :
    TurnSt L l (G ++ [robF L l last]) (robF L l last) ∧ inB l (robF L l last) = true ∧ inB G (robF L l last) = false := by
  obtain ⟨A, B, h1, h2⟩ := h
  have hsp := rot_split (behind_le L last)
  have hfl := filter_sub hs (inB l) hnd fun x _ => inB_iff
  have hcount : ((B ++ A).filter (inB l)).length = l.length := by
    rw [← h1, hsp, List.filter_append, List.length_append, Nat.add_comm, ← List.length_append, ← List.filter_append, List.take_append_drop, hfl]
  have hnd2 : (B ++ A).Nodup := by
    rw [← h1, hsp]
    have h0 : (L.take (behind L last) ++ L.drop (behind L last)).Nodup := by rw [List.take_append_drop]; exact hnd
    obtain ⟨a, b, c⟩ := List.nodup_append.1 h0
    exact List.nodup_append.2 ⟨b, a, fun x hx y hy e => c y hy x hx e.symm⟩
  have hB : B.filter (inB l) ≠ [] := fun e => by
    rw [List.filter_append, e, h2, List.nil_append] at hcount
    omega
  obtain ⟨B1, x, B2, rfl, hB1, hfx, hx, hrot⟩ := robin_turn hnd (inB l) h1 hB
  have hx' : robF L l last = x := hx
  rw [hx']
  refine ⟨⟨A ++ B1 ++ [x], B2, hrot, ?_⟩, hfx, ?_⟩
  · rw [List.filter_append, List.filter_append, h2, hB1, List.append_nil, List.filter_cons_of_pos hfx]; rfl
  · refine Bool.eq_false_iff.2 fun hm => ?_
    have hxA : x ∈ A := by
      have := inB_iff.1 hm
      rw [← h2] at this
      exact (List.mem_filter.1 this).1
    exact (List.nodup_append.1 hnd2).2.2 x (by simp) x hxA rfl
theorem rob_none (L : List ByteArray) (last : ByteArray) : robF L [] last = e0 := rob_no fun _ _ => rfl
/-- No two of the first k are the same. -/
def Diff (L : List ByteArray) (k : Nat) : Prop := ∀ i j, i < j → j < k → L.getD i e0 ≠ L.getD j e0
theorem diff_more {L : List ByteArray} {k : Nat} (h : Diff L k) (hk : ∀ j, j < k → L.getD j e0 ≠ L.getD k e0) : Diff L (k + 1) := by
  intro i j hij hj
  by_cases e : j = k
  · subst e; exact hk i hij
  · exact h i j hij (by omega)
theorem diff_all {L : List ByteArray} {k : Nat} (h : Diff L k) (hk : L.length ≤ k) : L.Nodup := by
  refine List.pairwise_iff_getElem.2 fun i j hi hj hij e => h i j hij (by omega) ?_
  rw [List.getD_eq_getElem?_getD, List.getD_eq_getElem?_getD, List.getElem?_eq_getElem hi, List.getElem?_eq_getElem hj]
  exact e
end Go.Proofs.Ytbdiajccpcopiaa
