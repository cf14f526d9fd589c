/- What is proved here, plainly: which messages are there behind puts, and how many. No conditions. -/
import Derived.Test.YtfmkeapbddhndaaDoorPuu19
namespace Go.Proofs.YtfmkeapbddhndaaDoor
def isPay (m : MV) : Bool := !decide (m.payload = ⟨#[]⟩)
/-- What a put does to what is there. -/
def putF (M : List MV) (m : MV) : List MV := if nameB m.topic then (if isPay m then m :: M.filter (fun x => decide (x.topic ≠ m.topic)) else M.filter (fun x => decide (x.topic ≠ m.topic))) else M
/-- What is there behind the first n puts. -/
def foldF (f : Nat → MV) : Nat → List MV
  | 0 => []
  | n + 1 => putF (foldF f n) (f n)
/-- The last one of its topic among the first n. -/
def lastB (f : Nat → MV) (n i : Nat) : Bool := nameB (f i).topic && (List.range n).all (fun k => !decide (i < k) || !decide ((f k).topic = (f i).topic))
theorem lastB_iff {f : Nat → MV} {n i : Nat} : lastB f n i = true ↔ nameB (f i).topic = true ∧ ∀ k, i < k → k < n → (f k).topic ≠ (f i).topic := by
  unfold lastB
  rw [Bool.and_eq_true, List.all_eq_true]
  constructor
  · rintro ⟨h1, h2⟩
    refine ⟨h1, fun k hk hn e => ?_⟩
    have := h2 k (List.mem_range.2 hn)
    simp [hk, e] at this
  · rintro ⟨h1, h2⟩
    refine ⟨h1, fun k hk => ?_⟩
    have hn := List.mem_range.1 hk
    by_cases h : i < k
    · simp [h2 k h hn]
    · simp [h]
theorem lastB_start {f : Nat → MV} {i : Nat} : lastB f (i + 1) i = nameB (f i).topic := by
  cases h : nameB (f i).topic with
  | true => exact lastB_iff.2 ⟨h, fun k h1 h2 => by omega⟩
  | false =>
    unfold lastB
    rw [h]
    rfl
theorem lastB_step {f : Nat → MV} {k i : Nat} (hi : i < k) : lastB f (k + 1) i = (lastB f k i && !decide ((f k).topic = (f i).topic)) := by
  unfold lastB
  rw [List.range_succ, List.all_append]
  simp [hi, Bool.and_assoc]
/-- Which stay. -/
def goodB (f : Nat → MV) (n i : Nat) : Bool := lastB f n i && isPay (f i)
def goods (f : Nat → MV) (n : Nat) : List Nat := (List.range n).filter (goodB f n)
theorem goods_succ (f : Nat → MV) (n : Nat) : goods f (n + 1) = (goods f n).filter (fun i => decide ((f i).topic ≠ (f n).topic)) ++ if nameB (f n).topic && isPay (f n) then [n] else [] := by
  unfold goods
  rw [List.range_succ, List.filter_append, List.filter_filter]
  congr 1
  · refine List.filter_congr fun i hi => ?_
    unfold goodB
    rw [lastB_step (List.mem_range.1 hi)]
    cases lastB f n i <;> cases isPay (f i) <;> simp [eq_comm]
  · rw [List.filter_cons]
    unfold goodB
    rw [lastB_start]
    cases nameB (f n).topic && isPay (f n) <;> simp
theorem fold_perm (f : Nat → MV) : ∀ n, (foldF f n).Perm ((goods f n).map f)
  | 0 => List.Perm.refl _
  | n + 1 => by
    have ih := fold_perm f n
    have hfm : ((goods f n).filter (fun i => decide ((f i).topic ≠ (f n).topic))).map f = ((goods f n).map f).filter (fun x => decide (x.topic ≠ (f n).topic)) := by
      rw [List.filter_map]
      rfl
    have h1 := ih.filter (fun x => decide (x.topic ≠ (f n).topic))
    rw [goods_succ, List.map_append, hfm]
    unfold foldF putF
    cases hn : nameB (f n).topic with
    | true =>
      cases hp : isPay (f n) with
      | true =>
        simp only [if_true, Bool.and_true, List.map_cons, List.map_nil]
        exact (h1.cons _).trans (List.perm_append_singleton ..).symm
      | false =>
        simp only [if_true, Bool.false_eq_true, if_false, Bool.and_false, List.map_nil, List.append_nil]
        exact h1
    | false =>
      simp only [Bool.false_eq_true, if_false, Bool.false_and, List.map_nil, List.append_nil]
      have e : ((goods f n).map f).filter (fun x => decide (x.topic ≠ (f n).topic)) = (goods f n).map f := by
        rw [List.filter_eq_self]
        intro x hx
        obtain ⟨i, hi, rfl⟩ := List.mem_map.1 hx
        have h2 := (List.mem_filter.1 hi).2
        unfold goodB at h2
        rw [Bool.and_eq_true] at h2
        have h3 := (lastB_iff.1 h2.1).1
        exact decide_eq_true fun e => by rw [e, hn] at h3; cases h3
      rw [e]
      exact ih
theorem fold_len (f : Nat → MV) : ∀ n, (foldF f n).length ≤ n := fun n => by
  rw [(fold_perm f n).length_eq, List.length_map]
  exact Nat.le_trans (List.length_filter_le _ _) (by simp)
/-- One that stays is there; one that went is not. -/
theorem fold_in {f : Nat → MV} {n i : Nat} (hi : i < n) (hl : lastB f n i = true) (hp : isPay (f i) = true) : f i ∈ foldF f n :=
  (fold_perm f n).mem_iff.2 (List.mem_map.2 ⟨i, List.mem_filter.2 ⟨List.mem_range.2 hi, by unfold goodB; rw [hl, hp]; rfl⟩, rfl⟩)
theorem fold_out {f : Nat → MV} {n i : Nat} (hi : i < n) (hl : lastB f n i = true) (hp : isPay (f i) = false) : (f i).topic ∉ (foldF f n).map MV.topic := fun h => by
  obtain ⟨x, hx, e⟩ := List.mem_map.1 h
  obtain ⟨j, hj, rfl⟩ := List.mem_map.1 ((fold_perm f n).mem_iff.1 hx)
  obtain ⟨h1, h2⟩ := List.mem_filter.1 hj
  have hjn := List.mem_range.1 h1
  unfold goodB at h2
  rw [Bool.and_eq_true] at h2
  rcases Nat.lt_trichotomy j i with hlt | rfl | hlt
  · exact (lastB_iff.1 h2.1).2 i hlt hi e.symm
  · rw [hp] at h2
    cases h2.2
  · exact (lastB_iff.1 hl).2 j hlt hjn e
/-- How many of the first i stay. -/
def cntF (f : Nat → MV) (n i : Nat) : Nat := ((List.range i).filter (goodB f n)).length
theorem cnt_all (f : Nat → MV) (n : Nat) : cntF f n n = (foldF f n).length := by
  rw [(fold_perm f n).length_eq, List.length_map]
  rfl
theorem cnt_step (f : Nat → MV) (n i : Nat) : cntF f n (i + 1) = cntF f n i + (goodB f n i).toNat := by
  unfold cntF
  rw [List.range_succ, List.filter_append, List.length_append, List.filter_cons]
  cases goodB f n i <;> simp
theorem cnt_le (f : Nat → MV) (n i : Nat) : cntF f n i ≤ i := Nat.le_trans (List.length_filter_le _ _) (by simp)
end Go.Proofs.YtfmkeapbddhndaaDoor
