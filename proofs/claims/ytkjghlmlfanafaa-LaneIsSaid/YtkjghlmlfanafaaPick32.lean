/- What is proved here, on plain lists: the best of some; the one behind the last one, round and round; where one stands. No conditions. -/
import Derived.Test.YtkjghlmlfanafaaMix32
namespace Go.Proofs.Ytkjghlmlfanafaa
section
variable {α : Type}
/-- The best so far, and its rank. -/
def bestStep (r : α → Nat) (s : α × Int) (x : α) : α × Int := if (r x : Int) > s.2 then (x, (r x : Int)) else s
def bestOf (r : α → Nat) (e : α) (L : List α) : α × Int := L.foldl (bestStep r) (e, -1)
theorem best_low (r : α → Nat) {b : Nat} : ∀ (A : List α) (s : α × Int), s.2 < (b : Int) → (∀ x ∈ A, r x < b) → (A.foldl (bestStep r) s).2 < (b : Int)
  | [], _, h, _ => h
  | x :: A, s, h, ha => by
    refine best_low r A _ ?_ fun y hy => ha y (List.mem_cons_of_mem _ hy)
    unfold bestStep
    split
    · have := ha x (List.mem_cons_self ..)
      show (r x : Int) < b
      omega
    · exact h
theorem best_stay (r : α → Nat) : ∀ (B : List α) (s : α × Int), (∀ x ∈ B, (r x : Int) ≤ s.2) → B.foldl (bestStep r) s = s
  | [], _, _ => rfl
  | x :: B, s, h => by
    have h1 := h x (List.mem_cons_self ..)
    have e : bestStep r s x = s := by unfold bestStep; rw [if_neg (by omega)]
    rw [List.foldl_cons, e]
    exact best_stay r B s fun y hy => h y (List.mem_cons_of_mem _ hy)
theorem best_first (r : α → Nat) (e : α) {A B : List α} {b : α} (ha : ∀ x ∈ A, r x < r b) (hb : ∀ x ∈ B, r x ≤ r b) : bestOf r e (A ++ b :: B) = (b, (r b : Int)) := by
  unfold bestOf
  rw [List.foldl_append, List.foldl_cons]
  have h1 := best_low r A (e, -1) (by show (-1 : Int) < _; omega) ha
  have e2 : bestStep r (A.foldl (bestStep r) (e, -1)) b = (b, (r b : Int)) := if_pos h1
  rw [e2]
  exact best_stay r B _ fun x hx => by have := hb x hx; show (r x : Int) ≤ r b; omega
theorem best_form (r : α → Nat) : ∀ (L : List α), L ≠ [] → ∃ A b B, L = A ++ b :: B ∧ (∀ x ∈ A, r x < r b) ∧ (∀ x ∈ B, r x ≤ r b)
  | [], h => absurd rfl h
  | [x], _ => ⟨[], x, [], rfl, fun _ h => (nomatch h), fun _ h => (nomatch h)⟩
  | x :: y :: t, _ => by
    obtain ⟨A, b, B, e, ha, hb⟩ := best_form r (y :: t) (by simp)
    by_cases hx : r x < r b
    · refine ⟨x :: A, b, B, by rw [e]; rfl, ?_, hb⟩
      intro z hz
      rcases List.mem_cons.1 hz with rfl | h
      · exact hx
      · exact ha z h
    · refine ⟨[], x, y :: t, rfl, fun _ h => (nomatch h), ?_⟩
      intro z hz
      rw [e] at hz
      rcases List.mem_append.1 hz with h | h
      · have := ha z h; omega
      · rcases List.mem_cons.1 h with rfl | h
        · omega
        · have := hb z h; omega
theorem best_in (r : α → Nat) (e : α) {L : List α} (h : L ≠ []) : (bestOf r e L).1 ∈ L ∧ (bestOf r e L).2 = (r (bestOf r e L).1 : Int) ∧ ∀ x ∈ L, r x ≤ r (bestOf r e L).1 := by
  obtain ⟨A, b, B, rfl, ha, hb⟩ := best_form r L h
  rw [best_first r e ha hb]
  refine ⟨by simp, rfl, fun x hx => ?_⟩
  rcases List.mem_append.1 hx with h | h
  · exact Nat.le_of_lt (ha x h)
  · rcases List.mem_cons.1 h with rfl | h
    · exact Nat.le_refl _
    · exact hb x h
/-- One more: the old one, or the new one if it ranks above. -/
theorem best_more (r : α → Nat) (e : α) (L : List α) (x : α) : (bestOf r e (L ++ [x])).1 = if L = [] ∨ r (bestOf r e L).1 < r x then x else (bestOf r e L).1 := by
  have h1 : bestOf r e (L ++ [x]) = bestStep r (bestOf r e L) x := by unfold bestOf; rw [List.foldl_append]; rfl
  rw [h1]
  by_cases hL : L = []
  · subst hL
    rw [if_pos (.inl rfl)]
    unfold bestOf bestStep
    rw [List.foldl_nil, if_pos (by show ((r x : Nat) : Int) > -1; omega)]
  · obtain ⟨_, h2, _⟩ := best_in r e hL
    unfold bestStep
    by_cases h : r (bestOf r e L).1 < r x
    · rw [if_pos (by rw [h2]; omega), if_pos (.inr h)]
    · rw [if_neg (by rw [h2]; omega), if_neg (by rintro (h' | h'); exact hL h'; exact h h')]
/-- Without others it stays. -/
theorem best_less (r : α → Nat) (e : α) {L : List α} (h : L ≠ []) (p : α → Bool) (hp : p (bestOf r e L).1 = true) : (bestOf r e (L.filter p)).1 = (bestOf r e L).1 := by
  obtain ⟨A, b, B, rfl, ha, hb⟩ := best_form r L h
  rw [best_first r e ha hb] at hp ⊢
  have e1 : (A ++ b :: B).filter p = A.filter p ++ b :: B.filter p := by rw [List.filter_append, List.filter_cons_of_pos hp]
  rw [e1, best_first r e (fun x hx => ha x (List.mem_filter.1 hx).1) (fun x hx => hb x (List.mem_filter.1 hx).1)]
end
section
variable {α : Type}
/-- All, from one place on, round and round. -/
def rotF (e : α) (L : List α) (f : Nat) : List α := (List.range L.length).map fun i => L.getD ((f + i) % L.length) e
theorem rot_len (e : α) (L : List α) (f : Nat) : (rotF e L f).length = L.length := by unfold rotF; simp
theorem rot_get (e : α) (L : List α) (f i : Nat) (h : i < L.length) : (rotF e L f)[i]? = some (L.getD ((f + i) % L.length) e) := by
  unfold rotF
  rw [List.getElem?_map, List.getElem?_range h]; rfl
theorem rot_turn (e : α) (L : List α) (f : Nat) {X Y : List α} (h : rotF e L f = X ++ Y) : rotF e L (f + X.length) = Y ++ X := by
  have hn : X.length + Y.length = L.length := by rw [← List.length_append, ← h, rot_len]
  refine List.ext_getElem? fun i => ?_
  by_cases hi : i < L.length
  · rw [rot_get e L _ i hi]
    by_cases hy : i < Y.length
    · rw [List.getElem?_append_left hy]
      have h2 := rot_get e L f (X.length + i) (by omega)
      rw [h, List.getElem?_append_right (by omega), Nat.add_sub_cancel_left] at h2
      rw [h2, Nat.add_assoc]
    · rw [List.getElem?_append_right (by omega)]
      have h2 := rot_get e L f (i - Y.length) (by omega)
      rw [h, List.getElem?_append_left (by omega)] at h2
      rw [h2]
      have : f + X.length + i = (f + (i - Y.length)) + L.length := by omega
      rw [this, Nat.add_mod_right]
  · rw [List.getElem?_eq_none (by rw [rot_len]; omega), List.getElem?_eq_none (by rw [List.length_append]; omega)]
theorem rot_mod (e : α) (L : List α) (f : Nat) : rotF e L (f % L.length) = rotF e L f := by
  unfold rotF
  refine List.map_congr_left fun i _ => ?_
  rw [Nat.mod_add_mod]
/-- The place of the first one that is x; -1 if there is none. -/
def idxI [DecidableEq α] (L : List α) (x : α) : Int := match L.findIdx? (fun y => decide (y = x)) with | some i => (i : Int) | none => -1
theorem idx_at [DecidableEq α] {L : List α} {e x : α} {k : Nat} (hk : k < L.length) (hx : L.getD k e = x) (hno : ∀ j, j < k → L.getD j e ≠ x) : idxI L x = k := by
  have h1 : L.findIdx? (fun y => decide (y = x)) = some k := by
    rw [List.findIdx?_eq_some_iff_getElem]
    rw [List.getD_eq_getElem?_getD, List.getElem?_eq_getElem hk] at hx
    refine ⟨hk, decide_eq_true hx, fun j hj hc => ?_⟩
    have := hno j hj
    rw [List.getD_eq_getElem?_getD, List.getElem?_eq_getElem (by omega)] at this
    exact this (of_decide_eq_true hc)
  unfold idxI
  rw [h1]
theorem idx_no [DecidableEq α] {L : List α} {e x : α} (hno : ∀ j, j < L.length → L.getD j e ≠ x) : idxI L x = -1 := by
  have h1 : L.findIdx? (fun y => decide (y = x)) = none := by
    rw [List.findIdx?_eq_none_iff]
    intro y hy
    obtain ⟨j, hj, rfl⟩ := List.mem_iff_getElem.1 hy
    have := hno j hj
    rw [List.getD_eq_getElem?_getD, List.getElem?_eq_getElem hj] at this
    exact decide_eq_false this
  unfold idxI
  rw [h1]
theorem idx_bd [DecidableEq α] (L : List α) (x : α) : -1 ≤ idxI L x ∧ idxI L x < L.length ∧ (0 ≤ idxI L x ↔ x ∈ L) := by
  unfold idxI
  cases h : L.findIdx? (fun y => decide (y = x)) with
  | none =>
    rw [List.findIdx?_eq_none_iff] at h
    refine ⟨Int.le_refl _, by show (-1 : Int) < _; omega, fun h0 => absurd h0 (by decide), fun hm => ?_⟩
    have := h x hm
    simp at this
  | some i =>
    rw [List.findIdx?_eq_some_iff_getElem] at h
    obtain ⟨hi, hx, _⟩ := h
    refine ⟨by show (-1 : Int) ≤ i; omega, by show (i : Int) < _; omega, fun _ => ?_, fun _ => by show (0 : Int) ≤ i; omega⟩
    rw [← of_decide_eq_true hx]
    exact List.getElem_mem hi
/-- The place behind it. -/
def behind [DecidableEq α] (L : List α) (x : α) : Nat := (idxI L x + 1).toNat
theorem behind_int [DecidableEq α] (L : List α) (x : α) : idxI L x + 1 = (behind L x : Int) := by
  have := (idx_bd L x).1
  unfold behind
  omega
theorem behind_le [DecidableEq α] (L : List α) (x : α) : behind L x ≤ L.length := by
  have := (idx_bd L x).2.1
  have := behind_int L x
  omega
/-- The one behind the last one of those that are free. -/
def robinF [DecidableEq α] (e : α) (L : List α) (free : α → Bool) (last : α) : α := ((rotF e L (behind L last)).find? free).getD e
theorem find_at {L : List α} {e : α} {p : α → Bool} {k : Nat} (hk : k < L.length) (hx : p (L.getD k e) = true) (hno : ∀ j, j < k → p (L.getD j e) = false) : L.find? p = some (L.getD k e) := by
  induction L generalizing k with
  | nil => cases hk
  | cons y t ih =>
    cases k with
    | zero => exact List.find?_cons_of_pos hx
    | succ k =>
      have h0 := hno 0 (by omega)
      rw [List.find?_cons_of_neg (by simpa using h0)]
      exact ih (by simpa using hk) (by simpa using hx) fun j hj => by simpa using hno (j + 1) (by omega)
theorem find_no {L : List α} {e : α} {p : α → Bool} (hno : ∀ j, j < L.length → p (L.getD j e) = false) : L.find? p = none := by
  rw [List.find?_eq_none]
  intro y hy
  obtain ⟨j, hj, rfl⟩ := List.mem_iff_getElem.1 hy
  have := hno j hj
  rw [List.getD_eq_getElem?_getD, List.getElem?_eq_getElem hj] at this
  exact fun h => by rw [show p L[j] = false from this] at h; cases h
theorem rot_getD (e : α) (L : List α) (f i : Nat) (h : i < L.length) : (rotF e L f).getD i e = L.getD ((f + i) % L.length) e := by
  rw [List.getD_eq_getElem?_getD, rot_get e L f i h]; rfl
theorem behind_at [DecidableEq α] {L : List α} (hnd : L.Nodup) {e x : α} {j : Nat} (hj : j < L.length) (hx : L.getD j e = x) : behind L x = j + 1 := by
  have h := idx_at hj hx fun k hk hc => by
    have hk2 : k < L.length := by omega
    rw [List.getD_eq_getElem?_getD, List.getElem?_eq_getElem hj] at hx
    rw [List.getD_eq_getElem?_getD, List.getElem?_eq_getElem hk2] at hc
    exact List.pairwise_iff_getElem.1 hnd k j hk2 hj hk (hc.trans hx.symm)
  have := behind_int L x
  omega
/-- One turn: the next one that is free, of those that were not passed. -/
theorem robin_turn [DecidableEq α] {e : α} {L : List α} (hnd : L.Nodup) (free : α → Bool) {A B : List α} {last : α} (h : rotF e L (behind L last) = B ++ A) (hB : B.filter free ≠ []) :
    ∃ B1 x B2, B = B1 ++ x :: B2 ∧ B1.filter free = [] ∧ free x = true ∧ robinF e L free last = x ∧ rotF e L (behind L x) = B2 ++ (A ++ B1 ++ [x]) := by
  have hf : ∃ x, B.find? free = some x := by
    cases hx : B.find? free with
    | some x => exact ⟨x, rfl⟩
    | none =>
      refine absurd ?_ hB
      rw [List.filter_eq_nil_iff]
      rw [List.find?_eq_none] at hx
      exact hx
  obtain ⟨x, hx⟩ := hf
  obtain ⟨hfx, B1, B2, rfl, hB1⟩ := List.find?_eq_some_iff_append.1 hx
  have hrob : robinF e L free last = x := by
    unfold robinF
    rw [h, List.find?_append, hx]; rfl
  refine ⟨B1, x, B2, rfl, ?_, hfx, hrob, ?_⟩
  · rw [List.filter_eq_nil_iff]
    intro y hy
    simpa using hB1 y hy
  · have hl : L.length = (B1 ++ x :: B2 ++ A).length := by rw [← h, rot_len]
    simp only [List.length_append, List.length_cons] at hl
    have hget := rot_get e L (behind L last) B1.length (by omega)
    rw [h, List.append_assoc, List.getElem?_append_right (Nat.le_refl _), Nat.sub_self] at hget
    have hget' : L.getD ((behind L last + B1.length) % L.length) e = x := (Option.some.inj hget).symm
    have hb := behind_at hnd (Nat.mod_lt _ (by omega)) hget'
    rw [hb]
    have h2 := rot_turn e L (behind L last) (X := B1 ++ [x]) (Y := B2 ++ A) (by rw [h]; simp)
    have h3 : rotF e L ((behind L last + B1.length) % L.length + 1) = rotF e L (behind L last + (B1 ++ [x]).length) := by
      rw [← rot_mod e L ((behind L last + B1.length) % L.length + 1), Nat.mod_add_mod, rot_mod, List.length_append, List.length_singleton, Nat.add_assoc]
    rw [h3, h2]
    simp
end
end Go.Proofs.Ytkjghlmlfanafaa
