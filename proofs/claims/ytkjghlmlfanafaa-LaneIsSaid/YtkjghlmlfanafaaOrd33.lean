/- What is proved here: of sound lanes, what goes leaves them sound, and each head may go to somebody. No conditions but those that each theorem names. -/
import Derived.Test.YtkjghlmlfanafaaOpen33
import Derived.Test.YtkjghlmlfanafaaRSnd33
namespace Go.Proofs.Ytkjghlmlfanafaa
open Go.RowKit Go.Extern.Stop Go.Stop Go.Extern Go.Maps
section
variable {L : IL}
theorem rs_iff {i k : Nat} : rsI L i k = true ↔ ((L.getD i i0).topic = (L.getD k i0).topic → (L.getD i i0).w = false → (L.getD k i0).w = false → (L.getD i i0).who = (L.getD k i0).who) := by
  unfold rsI
  cases hw : (L.getD i i0).w <;> cases hw2 : (L.getD k i0).w <;> simp <;> exact Decidable.imp_iff_not_or.symm
theorem bad_iff {key : ByteArray} {at_ : Int} {client : ByteArray} {i : Nat} : badI L key at_ client i = false ↔ ((L.getD i i0).topic = key → ((L.getD i i0).w = true → at_ ≤ (i : Int)) ∧ ((L.getD i i0).w = false → (L.getD i i0).who = client)) := by
  unfold badI
  by_cases ht : (L.getD i i0).topic = key
  · rw [decide_eq_true ht]
    cases hw : (L.getD i i0).w with
    | true =>
      constructor
      · intro h _
        have h2 : decide ((i : Int) < at_) = false := by simpa using h
        exact ⟨fun _ => by have := of_decide_eq_false h2; omega, fun h2 => by cases h2⟩
      · intro h
        have h2 : decide ((i : Int) < at_) = false := decide_eq_false (by have := (h ht).1 rfl; omega)
        rw [h2]; rfl
    | false =>
      constructor
      · intro h _
        have h2 : (L.getD i i0).who = client := by simpa using h
        exact ⟨fun h3 => (by cases h3), fun _ => h2⟩
      · intro h
        rw [decide_eq_true ((h ht).2 rfl)]; rfl
  · rw [decide_eq_false ht]
    exact ⟨fun _ h => absurd h ht, fun _ => rfl⟩
/-- Two items of a key that are under way are with the same client. -/
theorem snd_two (h : sndB L = true) {i k : Nat} (hi : i < L.length) (hk : k < L.length) (ht : (L.getD i i0).topic = (L.getD k i0).topic) (hwi : (L.getD i i0).w = false) (hwk : (L.getD k i0).w = false) : (L.getD i i0).who = (L.getD k i0).who := by
  rcases Nat.lt_trichotomy i k with h1 | rfl | h1
  · exact (rs_iff.1 (rs_sound.1 h k hk i h1) ht.symm hwk hwi).symm
  · rfl
  · exact rs_iff.1 (rs_sound.1 h i hi k h1) ht hwi hwk
theorem may_iff {a : Nat} {client : ByteArray} (ha : a < L.length) : mayB L (a : Int) client = true ↔ (L.getD a i0).w = true ∧ ∀ i, i < L.length → badI L (L.getD a i0).topic a client i = false := by
  rw [mayB_in ha, Bool.and_eq_true, List.all_eq_true]
  constructor
  · rintro ⟨h1, h2⟩
    exact ⟨h1, fun i hi => by simpa using h2 i (List.mem_range.2 hi)⟩
  · rintro ⟨h1, h2⟩
    exact ⟨h1, fun i hi => by rw [h2 i (List.mem_range.1 hi)]; rfl⟩
theorem to_w (m : IV) {client : ByteArray} (hc : client ≠ e0) : (m.to client).w = false := by
  rw [w_eq]
  show client.data.toList.isEmpty = false
  cases hd : client.data.toList with
  | nil =>
    exact absurd (ByteArray.ext (Array.toList_inj.mp (by rw [hd]; rfl)) : client = e0) hc
  | cons x l => rfl
theorem with_snd (h : sndB L = true) {k : Nat} {client : ByteArray} (hk : k < L.length) (hm : mayB L (k : Int) client = true) : sndB (withL L (k : Int) client L.length) = true := by
  rw [rs_sound]
  have hl := withL_len L (k : Int) client L.length
  intro i hi j hj
  rw [hl] at hi
  rw [rs_iff, withL_get L _ _ hi, withL_get L _ _ (show j < L.length by omega)]
  obtain ⟨hw, hall⟩ := (may_iff hk).1 hm
  by_cases ei : (i : Int) = (k : Int)
  · obtain rfl : i = k := by omega
    rw [if_pos rfl, if_neg (show ¬ (j : Int) = (i : Int) by omega)]
    intro ht _ hwj
    exact ((bad_iff.1 (hall j (by omega)) ht.symm).2 hwj).symm
  · rw [if_neg ei]
    by_cases ej : (j : Int) = (k : Int)
    · obtain rfl : j = k := by omega
      rw [if_pos rfl]
      intro ht hwi _
      exact (bad_iff.1 (hall i hi) ht).2 hwi
    · rw [if_neg ej]
      exact fun ht hwi hwj => snd_two h hi (by omega) ht hwi hwj
theorem with_may {k : Nat} {client c2 : ByteArray} (hk : k < L.length) (hc : client ≠ e0) : mayB (withL L (k : Int) client L.length) (k : Int) c2 = false := by
  rw [mayB_in (by rw [withL_len]; exact hk), withL_get L _ _ hk, if_pos rfl, to_w _ hc]
  rfl
theorem head_mem {n q : Nat} (h : q ∈ headN L n) (hn : n = L.length) : q < L.length ∧ (L.getD q i0).w = true ∧ ∀ i, i < q → (L.getD i i0).topic = (L.getD q i0).topic → (L.getD i i0).w = false := by
  unfold headN at h
  rw [List.mem_filter, List.mem_range] at h
  obtain ⟨h1, h2⟩ := h
  unfold headI at h2
  rw [Bool.and_eq_true, decide_eq_true_eq] at h2
  obtain ⟨hw, hf⟩ := h2
  refine ⟨by omega, hw, ?_⟩
  cases hq : fstI IV.w L (L.getD q i0).topic with
  | none => exact absurd ((fstI_none hq q (by omega) rfl).symm.trans hw) (by decide)
  | some j =>
    rw [hq] at hf
    obtain ⟨i, rfl, _, _, _, hno⟩ := fstI_some hq
    obtain rfl : i = q := by have : ((i : Int)) = (q : Int) := hf; omega
    exact hno
theorem head_free {n q : Nat} {client : ByteArray} (h : q ∈ headN L n) (hn : n = L.length) (ho : (ownS L (L.getD q i0).topic).2 = false) : mayB L (q : Int) client = true := by
  obtain ⟨hq, hw, hno⟩ := head_mem h hn
  rw [may_iff hq]
  refine ⟨hw, fun i hi => bad_iff.2 fun ht => ?_⟩
  have hwi : (L.getD i i0).w = true := by
    unfold ownS at ho
    cases hf : fstI IV.s L (L.getD q i0).topic with
    | none =>
      have := fstI_none hf i hi ht
      unfold IV.s at this
      simpa using this
    | some j => rw [hf] at ho; cases ho
  refine ⟨fun _ => ?_, fun h2 => absurd (hwi.symm.trans h2) (by decide)⟩
  by_cases hiq : i < q
  · exact absurd ((hno i hiq ht).symm.trans hwi) (by decide)
  · omega
theorem head_with {n q : Nat} (h : q ∈ headN L n) (hn : n = L.length) (hs : sndB L = true) (ho : (ownS L (L.getD q i0).topic).2 = true) : mayB L (q : Int) (ownS L (L.getD q i0).topic).1 = true := by
  obtain ⟨hq, hw, hno⟩ := head_mem h hn
  rw [may_iff hq]
  refine ⟨hw, fun i hi => bad_iff.2 fun ht => ⟨fun hwi => ?_, fun hwi => ?_⟩⟩
  · by_cases hiq : i < q
    · exact absurd ((hno i hiq ht).symm.trans hwi) (by decide)
    · omega
  · unfold ownS at ho ⊢
    cases hf : fstI IV.s L (L.getD q i0).topic with
    | none => rw [hf] at ho; cases ho
    | some j =>
      obtain ⟨f, rfl, hfl, hft, hfs, _⟩ := fstI_some hf
      have hwf : (L.getD f i0).w = false := by unfold IV.s at hfs; simpa using hfs
      exact snd_two hs hi hfl (ht.trans hft.symm) hwi hwf
end
end Go.Proofs.Ytkjghlmlfanafaa
