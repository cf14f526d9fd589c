/- What is proved here, on plain lists: that the topics by their aliases and the document's aliases agree, and go on agreeing. No conditions. -/
import Derived.Test.YtldpdhliigkboaaDoorRIn26
import Derived.Test.YtldpdhliigkboaaDoorNob26
namespace Go.Proofs.YtldpdhliigkboaaDoor
open Go.RowKit
def topicOf (L : GL) (al : Int) : ByteArray := match givenOf L al with | some p => p.2 | none => e0
structure Agree (M : Int) (T : List ByteArray) (L : GL) : Prop where
  len : (T.length : Int) ≤ M
  at_ : ∀ k : Nat, T.getD k e0 = topicOf L ((k : Int) + 1)
  ne : ∀ p ∈ L, p.2 ≠ e0
theorem Agree.nil (M : Int) (h : 0 ≤ M) : Agree M [] [] := ⟨h, fun k => by simp [topicOf, givenOf], fun p hp => by cases hp⟩
theorem setI_get (T : List ByteArray) (k j : Nat) (t : ByteArray) : (setI T k t).getD j e0 = if j = k then t else T.getD j e0 := by
  unfold setI
  rw [List.getD_eq_getElem?_getD, List.getElem?_set, List.getD_eq_getElem?_getD]
  by_cases h : k = j
  · subst h
    rw [if_pos rfl, if_pos (by simp; omega), if_pos rfl]
    rfl
  · rw [if_neg h, if_neg (fun e => h e.symm), List.getElem?_append]
    by_cases h2 : j < T.length
    · rw [if_pos h2]
    · rw [if_neg h2, List.getElem?_replicate, List.getElem?_eq_none (by omega)]
      split <;> rfl
theorem in_step (most : Int) (T : List ByteArray) (L : GL) (h : Agree (limI most) T L) (t : ByteArray) (al : Int) :
    (topicI (limI most) T t al).1 = (refI most L t al).1 ∧ (topicI (limI most) T t al).2.1 = (refI most L t al).2.2.1 ∧ (refI most L t al).2.1 = (if (topicI (limI most) T t al).2.1 = 0 then 0 else 3) ∧
    Agree (limI most) (topicI (limI most) T t al).2.2 (refI most L t al).2.2.2 ∧ (refI most L t al).2.2.2.length ≤ L.length + 1 := by
  have hb := limI_bd most
  have hlm : limI most = min (max most 0) 65535 := rfl
  by_cases h0 : al = 0
  · subst h0
    by_cases h1 : t = e0
    · have e1 : topicI (limI most) T t 0 = (t, 130, T) := by simp [topicI, h1]
      have e2 : refI most L t 0 = (e0, 3, 130, L) := by simp [refI, h1]
      rw [e1, e2]
      exact ⟨h1, rfl, rfl, h, Nat.le_succ _⟩
    · have e1 : topicI (limI most) T t 0 = (t, 0, T) := by simp [topicI, h1]
      have e2 : refI most L t 0 = (t, 0, 0, L) := by simp [refI, h1]
      rw [e1, e2]
      exact ⟨rfl, rfl, rfl, h, Nat.le_succ _⟩
  · by_cases h1 : al < 0 ∨ limI most < al
    · have e1 : topicI (limI most) T t al = (e0, 148, T) := by unfold topicI; rw [if_neg h0, if_pos h1]
      have e2 : refI most L t al = (e0, 3, 148, L) := by unfold refI; rw [if_pos ⟨h0, by omega⟩]
      rw [e1, e2]
      exact ⟨rfl, rfl, rfl, h, Nat.le_succ _⟩
    · obtain ⟨k, rfl⟩ : ∃ k : Nat, al = (k : Int) + 1 := ⟨al.toNat - 1, by omega⟩
      have ek : ((k : Int) + 1).toNat - 1 = k := by omega
      have h3 : ¬ ((k : Int) + 1 ≠ 0 ∧ ((k : Int) + 1 < 1 ∨ min most 65535 < (k : Int) + 1)) := by omega
      by_cases h2 : t = e0
      · have ha := h.at_ k
        have e1 : topicI (limI most) T t ((k : Int) + 1) = (T.getD k e0, (if T.getD k e0 = e0 then 130 else 0), T) := by unfold topicI; rw [if_neg h0, if_neg h1, if_pos h2, ek]
        have e2 : refI most L t ((k : Int) + 1) = lookI L ((k : Int) + 1) := by unfold refI; rw [if_neg h3, if_neg (fun h => h h2), if_neg h0]
        rw [e1, e2, ha]
        unfold topicOf lookI
        cases hg : givenOf L ((k : Int) + 1) with
        | none => exact ⟨rfl, rfl, rfl, h, Nat.le_succ _⟩
        | some p =>
          have hp : p.2 ≠ e0 := h.ne p (List.mem_of_find?_eq_some hg)
          dsimp only
          rw [if_neg hp]
          exact ⟨rfl, rfl, rfl, h, Nat.le_succ _⟩
      · have e1 : topicI (limI most) T t ((k : Int) + 1) = (t, 0, setI T k t) := by unfold topicI; rw [if_neg h0, if_neg h1, if_neg h2, ek]
        have e2 : refI most L t ((k : Int) + 1) = (t, 0, 0, ((k : Int) + 1, t) :: L) := by unfold refI; rw [if_neg h3, if_pos h2, if_neg h0]
        rw [e1, e2]
        refine ⟨rfl, rfl, rfl, ⟨?_, fun j => ?_, fun p hp => ?_⟩, Nat.le_refl _⟩
        · have := h.len
          have := setI_len T k t
          dsimp only
          omega
        · dsimp only
          rw [setI_get]
          unfold topicOf givenOf
          rw [List.find?_cons]
          by_cases hj : j = k
          · subst hj
            rw [if_pos rfl]
            simp
          · rw [if_neg hj]
            have hne : decide ((k : Int) + 1 = (j : Int) + 1) = false := decide_eq_false (by omega)
            rw [hne]
            exact h.at_ j
        · rcases List.mem_cons.1 hp with rfl | hp
          · exact h2
          · exact h.ne p hp
theorem in_none (t : ByteArray) (al : Int) : (refI 0 [] t al).1 = (noI t al).1 ∧ (refI 0 [] t al).2.2.1 = (noI t al).2 ∧ (refI 0 [] t al).2.1 = (if (noI t al).2 = 0 then 0 else 3) ∧ (refI 0 [] t al).2.2.2 = [] := by
  by_cases h0 : al = 0
  · subst h0
    by_cases h1 : t = e0 <;> simp [refI, noI, h1]
  · have e1 : refI 0 [] t al = (e0, 3, 148, []) := by unfold refI; rw [if_pos ⟨h0, by omega⟩]
    have e2 : noI t al = (e0, 148) := by unfold noI; rw [if_neg h0]
    rw [e1, e2]
    exact ⟨rfl, rfl, rfl, rfl⟩
end Go.Proofs.YtldpdhliigkboaaDoor
