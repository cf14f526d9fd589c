/- What is proved here, of whatever program: a row of one's own of elements of several cells, sorted by the library's contract: it owns the sorted list. No conditions but those that each theorem names. -/
import Derived.Test.YtfmkeapbddhndaaDoorObj
import Derived.Shelf.SlSortCmp.WholeK
import Derived.Shelf.SlSortCmp.NoneTotal
namespace Go.Proofs.YtfmkeapbddhndaaDoor
open Go.RowKit Go.Shelf Go.Lib Go.Sort Go.Proofs
section
variable {α : Type} [Inhabited α] {enc : α → List Value} {k : Nat}
omit [Inhabited α] in
theorem srt_len (hk : ∀ x, (enc x).length = k) (L : List α) : (L.flatMap enc).length = L.length * k := by
  induction L with
  | nil => simp
  | cons x L ih => rw [List.flatMap_cons, List.length_append, hk, ih, List.length_cons, Nat.add_mul, Nat.one_mul, Nat.add_comm]
theorem srt_get (hk : ∀ x, (enc x).length = k) : ∀ (L : List α) (t : Nat), t < L.length * k → (L.flatMap enc)[t]? = (enc (L.getD (t / k) default))[t % k]?
  | [], t, h => by simp at h
  | x :: L, t, h => by
    rw [List.flatMap_cons]
    have k0 : 0 < k := by
      rcases Nat.eq_zero_or_pos k with e | e
      · subst e; simp at h
      · exact e
    by_cases ht : t < k
    · rw [List.getElem?_append_left (by rw [hk]; exact ht), Nat.div_eq_of_lt ht, Nat.mod_eq_of_lt ht]
      rfl
    · have h2 : t - k < L.length * k := by
        rw [List.length_cons, Nat.add_mul, Nat.one_mul] at h
        omega
      rw [List.getElem?_append_right (by rw [hk]; omega), hk, srt_get hk L (t - k) h2]
      have e1 : t / k = (t - k) / k + 1 := by
        rw [← Nat.add_div_right (t - k) k0]
        congr 1
        omega
      have e2 : t % k = (t - k) % k := Nat.mod_eq_sub_mod (by omega)
      rw [e1, e2, List.getD_cons_succ]
theorem flatK_eq (hk : ∀ x, (enc x).length = k) (L : List α) : flatK enc k L.toArray = (L.flatMap enc).toArray := by
  refine ext_get! (by simp [srt_len hk]) fun t ht => ?_
  have ht' : t < L.length * k := by simpa using ht
  rw [get_flatK _ _ _ t (by simpa using ht')]
  have h1 := srt_get hk L t ht'
  have k0 : 0 < k := by
    rcases Nat.eq_zero_or_pos k with e | e
    · subst e; simp at ht'
    · exact e
  have hd : t / k < L.length := by
    rw [Nat.div_lt_iff_lt_mul k0]
    exact ht'
  have e1 : L.toArray[t / k]! = L.getD (t / k) default := by
    rw [getElem!_pos L.toArray (t / k) (by simpa using hd)]
    simp [List.getElem?_eq_getElem hd]
  have htl : t < (L.flatMap enc).length := by rw [srt_len hk]; exact ht'
  have e2 : ((L.flatMap enc).toArray)[t]! = ((L.flatMap enc)[t]?).getD default := by
    rw [getElem!_pos _ t (by simpa using htl), List.getElem?_eq_getElem htl]
    rfl
  rw [e1, e2, h1]
  simp [List.getElem!_eq_getElem?_getD]
variable {w : World} {B g cap n : Nat} {e : TypeId} {os : Array Obj} {L M : List α}
theorem row_holds (hk : ∀ x, (enc x).length = k) (h : w.ownsRow B e k (.slice (some ⟨g, 0, none⟩) L.length cap) L.length (L.flatMap enc)) : HoldsK enc k w g 0 L.toArray := by
  intro j hj
  rw [flatK_eq hk] at hj ⊢
  have hj' : j < (L.flatMap enc).length := by simpa using hj
  rcases h.2 with ⟨h0, _⟩ | ⟨g', cap', cur, hv, hg, hh, hn, hcap, hcs, htk⟩
  · cases h0
  · injection hv with hv1 hv2 hv3
    injection hv1 with hv1
    injection hv1 with hv1
    subst hv1
    have hc := World.ownsRow.cellAt h j (by rw [← srt_len hk]; exact hj')
    refine ⟨?_, ?_⟩
    · rw [Nat.zero_add, hc, List.getElem?_eq_getElem hj', getElem!_pos _ j hj]
      rfl
    · simp [World.frozen?, hh]
omit [Inhabited α] in
theorem row_lt (h : w.ownsRow B e k (.slice (some ⟨g, 0, none⟩) L.length cap) L.length (L.flatMap enc)) : g < w.heap.size := (h.lt g rfl).2
theorem row_sorted (hk : ∀ x, (enc x).length = k) (hl : M.length = L.length) (h : w.ownsRow B e k (.slice (some ⟨g, 0, none⟩) L.length cap) L.length (L.flatMap enc)) :
    (sortWorldK enc k w g 0 n M.toArray os).ownsRow B e k (.slice (some ⟨g, 0, none⟩) M.length cap) M.length (M.flatMap enc) ∧ w.grownBy (sortWorldK enc k w g 0 n M.toArray os) (some g) := by
  have hF := flatK_eq hk M
  rcases h.2 with ⟨h0, _⟩ | ⟨g', cap', cur, hv, hg, hh, hn, hcap, hcs, htk⟩
  · cases h0
  · injection hv with hv1 hv2 hv3
    injection hv1 with hv1
    injection hv1 with hv1
    subst hv1 hv3
    have hgl : g < w.heap.size := (Array.getElem?_eq_some_iff.1 hh).1
    have hfl := srt_len hk M
    refine ⟨⟨hfl, .inr ⟨g, cap, putCells id 0 (M.flatMap enc).toArray cur, rfl, hg, ?_, by omega, hcap, by simp [putCells, hcs], ?_⟩⟩, rfl, rfl, rfl, ?_, fun j hj hne => ?_⟩
    · unfold sortWorldK putRowK
      rw [heap_grow_old _ _ (by simpa [putRow, mapBlock, Sort.ahead] using hgl), hF]
      simp [putRow, mapBlock, Sort.ahead, Array.getElem?_modify, hh, onCells]
    · apply List.ext_getElem?
      intro j
      by_cases hj : j < M.length * k
      · have hjc : j < cur.size := by
          rw [hcs]
          exact Nat.lt_of_lt_of_le hj (Nat.mul_le_mul_right k (by omega))
        rw [List.getElem?_take_of_lt hj, Array.getElem?_toList]
        simp [putCells, hfl, hj, hjc]
      · rw [List.getElem?_take_eq_none (by omega), List.getElem?_eq_none (by omega)]
    · unfold sortWorldK
      simp [grow, putRowK, putRow, mapBlock, Sort.ahead]
    · unfold sortWorldK putRowK
      rw [heap_grow_old _ _ (by simpa [putRow, mapBlock, Sort.ahead] using hj)]
      have : g ≠ j := fun e => hne (by rw [e])
      simp [putRow, mapBlock, Sort.ahead, Array.getElem?_modify, this]
theorem perm_of_in {d d' : Array α} (h : PermIn 0 d.size d d') : d'.toList.Perm d.toList := by
  obtain ⟨h1, h2, h3⟩ := h
  have e1 : d.extract 0 d.size = d := by simp
  have e2 : d'.extract 0 d.size = d' := by rw [← h1]; simp
  rw [e1, e2] at h3
  exact h3
theorem pair_of_in {lt : α → α → Bool} {d d' : Array α} (hp : PermIn 0 d.size d d') (h : SortedIn lt 0 d.size d') : d'.toList.Pairwise (fun a b => lt b a = false) := by
  rw [List.pairwise_iff_getElem]
  intro i j hi hj hij
  have h1 := h i j (Nat.zero_le _) hij (by rw [← hp.1]; simpa using hj)
  have e1 : d'[i]! = d'.toList[i] := by
    rw [getElem!_pos d' i (by simpa using hi)]
    simp
  have e2 : d'[j]! = d'.toList[j] := by
    rw [getElem!_pos d' j (by simpa using hj)]
    simp
  rw [e1, e2] at h1
  exact h1
end
/-- What is sorted by a whole number of one's own, in one way alone. -/
theorem one_sorted {α : Type} (f : α → Int) : ∀ (L M : List α), L.Pairwise (fun a b => f a < f b) → M.Perm L → M.Pairwise (fun a b => f a ≤ f b) → M = L
  | [], M, _, hp, _ => List.Perm.eq_nil hp
  | a :: L, [], _, hp, _ => by have := hp.length_eq; simp at this
  | a :: L, b :: M, hL, hp, hM => by
    obtain ⟨h1, h2⟩ := List.pairwise_cons.1 hL
    obtain ⟨h3, h4⟩ := List.pairwise_cons.1 hM
    have hab : a = b := by
      have ha : a ∈ b :: M := hp.mem_iff.2 (List.mem_cons_self ..)
      have hb : b ∈ a :: L := hp.mem_iff.1 (List.mem_cons_self ..)
      rcases List.mem_cons.1 hb with e | hb
      · exact e.symm
      · rcases List.mem_cons.1 ha with e | ha
        · exact e
        · have := h1 b hb
          have := h3 a ha
          omega
    subst hab
    rw [one_sorted f L M h2 (hp.cons_inv) h4]
end Go.Proofs.YtfmkeapbddhndaaDoor
