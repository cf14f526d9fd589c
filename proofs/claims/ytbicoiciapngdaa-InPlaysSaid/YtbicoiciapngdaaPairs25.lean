/- What is proved here, on plain lists: pairs of numbers, the first that has a key, and what is left behind it; and what they say of a function. No conditions. -/
import Derived.Test.YtbicoiciapngdaaIn25
namespace Go.Proofs.Ytbicoiciapngdaa
open Go.RowKit

abbrev PL := List (Int × Int)
def pcells (L : PL) : List Value := L.flatMap fun p => [.int .i64 p.1, .int .i64 p.2]
theorem pcells_len (L : PL) : (pcells L).length = L.length * 2 := by
  induction L with
  | nil => rfl
  | cons p L ih =>
    show (pcells L).length + 2 = (L.length + 1) * 2
    omega
theorem pcells_app (L M : PL) : pcells (L ++ M) = pcells L ++ pcells M := by simp [pcells]
theorem pcells_get (L : PL) : ∀ k, k < L.length → (pcells L)[k * 2]? = some (.int .i64 (L.getD k (0, 0)).1) ∧ (pcells L)[k * 2 + 1]? = some (.int .i64 (L.getD k (0, 0)).2) := by
  induction L with
  | nil => intro k hk; cases hk
  | cons p L ih =>
    intro k hk
    have e : pcells (p :: L) = .int .i64 p.1 :: .int .i64 p.2 :: pcells L := rfl
    rcases k with _ | k
    · rw [e]; exact ⟨rfl, rfl⟩
    · rw [e, show (k + 1) * 2 = k * 2 + 1 + 1 by omega]
      simpa using ih k (by simpa using hk)
theorem pcells_take (L : PL) (k : Nat) : (pcells L).take (k * 2) = pcells (L.take k) := by
  induction L generalizing k with
  | nil => simp [pcells]
  | cons p L ih =>
    rcases k with _ | k
    · rfl
    · have e : pcells (p :: L) = .int .i64 p.1 :: .int .i64 p.2 :: pcells L := rfl
      rw [e, show (k + 1) * 2 = k * 2 + 1 + 1 by omega, List.take_succ_cons, List.take_succ_cons, ih]
      rfl
theorem pcells_drop (L : PL) (k : Nat) : (pcells L).drop (k * 2) = pcells (L.drop k) := by
  induction L generalizing k with
  | nil => simp [pcells]
  | cons p L ih =>
    rcases k with _ | k
    · rfl
    · have e : pcells (p :: L) = .int .i64 p.1 :: .int .i64 p.2 :: pcells L := rfl
      rw [e, show (k + 1) * 2 = k * 2 + 1 + 1 by omega, List.drop_succ_cons, List.drop_succ_cons, ih]
      rfl
theorem pcells_ints (L : PL) : ∀ u ∈ pcells L, u.oneCell' = true := by
  intro u hu
  obtain ⟨p, _, hp⟩ := List.mem_flatMap.1 hu
  rcases List.mem_cons.1 hp with rfl | hp
  · rfl
  · rcases List.mem_cons.1 hp with rfl | hp
    · rfl
    · cases hp
/-- What stands at a key; 0: nothing. -/
def val25 (x : Int) : PL → Int
  | [] => 0
  | p :: L => if p.1 = x then p.2 else val25 x L
/-- The first place of a key, or none. -/
def At25 (L : PL) (x : Int) (k : Nat) : Prop := k < L.length ∧ (L.getD k (0, 0)).1 = x ∧ ∀ j, j < k → (L.getD j (0, 0)).1 ≠ x
def No25 (L : PL) (x : Int) : Prop := ∀ j, j < L.length → (L.getD j (0, 0)).1 ≠ x
theorem at_or_no (L : PL) (x : Int) : (∃ k, At25 L x k) ∨ No25 L x := by
  induction L with
  | nil => exact .inr fun j hj => by cases hj
  | cons p L ih =>
    by_cases hp : p.1 = x
    · exact .inl ⟨0, by simp, by simpa using hp, fun j hj => by omega⟩
    · rcases ih with ⟨k, h1, h2, h3⟩ | h
      · refine .inl ⟨k + 1, by simpa using h1, by simpa using h2, fun j hj => ?_⟩
        rcases j with _ | j
        · simpa using hp
        · simpa using h3 j (by omega)
      · refine .inr fun j hj => ?_
        rcases j with _ | j
        · simpa using hp
        · simpa using h j (by simpa using hj)
theorem val_no {L : PL} {x : Int} (h : No25 L x) : val25 x L = 0 := by
  induction L with
  | nil => rfl
  | cons p L ih =>
    have h0 := h 0 (by simp)
    simp at h0
    rw [val25, if_neg h0]
    exact ih fun j hj => by simpa using h (j + 1) (by simpa using hj)
theorem val_at {L : PL} {x : Int} {k : Nat} (h : At25 L x k) : val25 x L = (L.getD k (0, 0)).2 := by
  induction L generalizing k with
  | nil => exact absurd h.1 (by simp)
  | cons p L ih =>
    obtain ⟨h1, h2, h3⟩ := h
    rcases k with _ | k
    · simp at h2
      rw [val25, if_pos h2]
      simp
    · have h0 := h3 0 (by omega)
      simp at h0
      rw [val25, if_neg h0, ih ⟨by simpa using h1, by simpa using h2, fun j hj => by simpa using h3 (j + 1) (by omega)⟩]
      simp
/-- Keys are there once, and what stands at each is 1 or 2. -/
def Tidy25 (L : PL) : Prop := (L.map (·.1)).Nodup ∧ ∀ p ∈ L, p.2 = 1 ∨ p.2 = 2
theorem val_app_no {L : PL} (M : PL) {x : Int} (h : No25 L x) : val25 x (L ++ M) = val25 x M := by
  induction L with
  | nil => rfl
  | cons p L ih =>
    have h0 := h 0 (by simp)
    simp at h0
    show (if p.1 = x then p.2 else val25 x (L ++ M)) = _
    rw [if_neg h0]
    exact ih fun j hj => by simpa using h (j + 1) (by simpa using hj)
theorem val_app_is {L : PL} (M : PL) {x : Int} (h : ¬ No25 L x) : val25 x (L ++ M) = val25 x L := by
  induction L with
  | nil => exact absurd (fun j hj => absurd hj (by simp)) h
  | cons p L ih =>
    show (if p.1 = x then p.2 else val25 x (L ++ M)) = if p.1 = x then p.2 else val25 x L
    by_cases hp : p.1 = x
    · rw [if_pos hp, if_pos hp]
    · rw [if_neg hp, if_neg hp]
      refine ih fun hn => h fun j hj => ?_
      rcases j with _ | j
      · simpa using hp
      · simpa using hn j (by simpa using hj)
theorem no_iff (L : PL) (x : Int) : No25 L x ↔ ¬ x ∈ L.map (·.1) := by
  constructor
  · intro h hm
    obtain ⟨p, hp, rfl⟩ := List.mem_map.1 hm
    obtain ⟨j, hj, he⟩ := List.getElem_of_mem hp
    exact h j hj (by rw [List.getD_eq_getElem?_getD, List.getElem?_eq_getElem hj]; exact congrArg Prod.fst he)
  · intro h j hj he
    apply h
    rw [← he, List.getD_eq_getElem?_getD, List.getElem?_eq_getElem hj]
    exact List.mem_map_of_mem (List.getElem_mem hj)
theorem val_ne_zero {L : PL} {x : Int} (hL : Tidy25 L) : val25 x L = 0 ↔ No25 L x := by
  constructor
  · intro h
    rcases at_or_no L x with ⟨k, hk⟩ | h'
    · rw [val_at hk] at h
      have hlt := hk.1
      have := hL.2 (L.getD k (0, 0)) (by rw [List.getD_eq_getElem?_getD, List.getElem?_eq_getElem hlt]; exact List.getElem_mem hlt)
      omega
    · exact h'
  · exact val_no
theorem val_or {L : PL} (hL : Tidy25 L) (x : Int) : val25 x L = 0 ∨ val25 x L = 1 ∨ val25 x L = 2 := by
  rcases at_or_no L x with ⟨k, hk⟩ | h
  · rw [val_at hk]
    have hlt := hk.1
    have := hL.2 (L.getD k (0, 0)) (by rw [List.getD_eq_getElem?_getD, List.getElem?_eq_getElem hlt]; exact List.getElem_mem hlt)
    omega
  · exact .inl (val_no h)
theorem map_eraseIdx' {α β : Type} (f : α → β) (L : List α) (k : Nat) : (L.eraseIdx k).map f = (L.map f).eraseIdx k := by
  induction L generalizing k with
  | nil => rfl
  | cons a L ih =>
    rcases k with _ | k
    · rfl
    · simp [ih]
theorem val_erase {L : PL} {x : Int} {k : Nat} (hL : Tidy25 L) (h : At25 L x k) (y : Int) : val25 y (L.eraseIdx k) = if y = x then 0 else val25 y L := by
  induction L generalizing k with
  | nil => exact absurd h.1 (by simp)
  | cons p L ih =>
    obtain ⟨h1, h2, h3⟩ := h
    have hnd : ¬ p.1 ∈ L.map (·.1) := by have := hL.1; rw [List.map_cons, List.nodup_cons] at this; exact this.1
    have hL' : Tidy25 L := ⟨by have := hL.1; rw [List.map_cons, List.nodup_cons] at this; exact this.2, fun q hq => hL.2 q (List.mem_cons_of_mem _ hq)⟩
    rcases k with _ | k
    · simp at h2
      subst h2
      show val25 y L = _
      by_cases hy : y = p.1
      · rw [if_pos hy, hy]
        exact val_no ((no_iff _ _).2 hnd)
      · rw [if_neg hy, val25, if_neg (fun e => hy e.symm)]
    · have h0 := h3 0 (by omega)
      simp at h0
      have hA : At25 L x k := ⟨by simpa using h1, by simpa using h2, fun j hj => by simpa using h3 (j + 1) (by omega)⟩
      show (if p.1 = y then p.2 else val25 y (L.eraseIdx k)) = _
      rw [ih hL' hA]
      by_cases hp : p.1 = y
      · rw [if_pos hp, val25, if_pos hp, if_neg (fun e => h0 (hp.trans e))]
      · rw [if_neg hp, val25, if_neg hp]
theorem tidy_erase {L : PL} (hL : Tidy25 L) (k : Nat) : Tidy25 (L.eraseIdx k) :=
  ⟨by rw [map_eraseIdx']; exact hL.1.sublist (List.eraseIdx_sublist _ _), fun p hp => hL.2 p (List.mem_of_mem_eraseIdx hp)⟩
theorem tidy_on {L : PL} {x q : Int} (hL : Tidy25 L) (hn : No25 L x) (hq : q = 1 ∨ q = 2) : Tidy25 (L ++ [(x, q)]) := by
  refine ⟨?_, fun p hp => ?_⟩
  · rw [List.map_append, List.nodup_append]
    refine ⟨hL.1, by simp, fun a ha b hb e => ?_⟩
    simp at hb
    subst hb
    exact (no_iff _ _).1 hn (e ▸ ha)
  · rcases List.mem_append.1 hp with hp | hp
    · exact hL.2 p hp
    · simp at hp; subst hp; exact hq
/-- They say the same. -/
structure Same25 (s : Q25) (L : PL) : Prop where
  val : ∀ x, s.1 x = val25 x L
  len : s.2 = L.length
  tidy : Tidy25 L
theorem Same25.start : Same25 ((fun _ => 0), 0) [] := ⟨fun _ => rfl, rfl, by simp, fun p hp => by cases hp⟩
theorem Same25.erase {s : Q25} {L : PL} {x : Int} {k : Nat} (h : Same25 s L) (hk : At25 L x k) : Same25 ((fun y => if y = x then 0 else s.1 y), s.2 - 1) (L.eraseIdx k) :=
  ⟨fun y => by rw [val_erase h.tidy hk]; show (if y = x then 0 else s.1 y) = _; rw [h.val], by show s.2 - 1 = _; rw [List.length_eraseIdx, if_pos hk.1, h.len], tidy_erase h.tidy k⟩
theorem Same25.on {s : Q25} {L : PL} {x q : Int} (h : Same25 s L) (hn : No25 L x) (hq : q = 1 ∨ q = 2) : Same25 ((fun y => if y = x then q else s.1 y), s.2 + 1) (L ++ [(x, q)]) := by
  refine ⟨fun y => ?_, by show s.2 + 1 = _; rw [List.length_append, h.len]; rfl, tidy_on h.tidy hn hq⟩
  show (if y = x then q else s.1 y) = _
  rw [h.val]
  by_cases hy : y = x
  · subst hy
    rw [if_pos rfl, val_app_no _ hn]
    simp [val25]
  · rw [if_neg hy]
    by_cases hn' : No25 L y
    · rw [val_app_no _ hn', val_no hn']
      have : ¬ x = y := fun e => hy e.symm
      simp [val25, this]
    · rw [val_app_is _ hn']
end Go.Proofs.Ytbicoiciapngdaa
