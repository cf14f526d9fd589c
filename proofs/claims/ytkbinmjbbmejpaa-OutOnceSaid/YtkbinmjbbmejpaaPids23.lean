/- What is proved here, on plain numbers: which number comes next, and how many are in use. No conditions. -/
import Derived.Test.YtkbinmjbbmejpaaLib
namespace Go.Proofs.Ytkbinmjbbmejpaa
/-- How many of the numbers from 1 to so many are in use. -/
def cnt (m : Int → Bool) : Nat → Nat
  | 0 => 0
  | k + 1 => cnt m k + (if m ((k : Int) + 1) then 1 else 0)
theorem cnt_le (m : Int → Bool) (k : Nat) : cnt m k ≤ k := by
  induction k with
  | zero => exact Nat.le_refl _
  | succ k ih => unfold cnt; split <;> omega
theorem cnt_all {m : Int → Bool} {k : Nat} (h : ∀ x : Int, 1 ≤ x → x ≤ k → m x = true) : cnt m k = k := by
  induction k with
  | zero => rfl
  | succ k ih =>
    unfold cnt
    rw [ih (fun x h1 h2 => h x h1 (by omega)), if_pos (h _ (by omega) (by omega))]
theorem cnt_free {m : Int → Bool} {k : Nat} (h : cnt m k < k) : ∃ x : Int, 1 ≤ x ∧ x ≤ k ∧ m x = false := by
  induction k with
  | zero => omega
  | succ k ih =>
    unfold cnt at h
    by_cases hm : m ((k : Int) + 1) = true
    · rw [if_pos hm] at h
      obtain ⟨x, h1, h2, h3⟩ := ih (by omega)
      exact ⟨x, h1, by omega, h3⟩
    · exact ⟨(k : Int) + 1, by omega, by omega, by simpa using hm⟩
theorem cnt_lt {m : Int → Bool} {k : Nat} {x : Int} (h1 : 1 ≤ x) (h2 : x ≤ k) (h3 : m x = false) : cnt m k < k := by
  induction k with
  | zero => omega
  | succ k ih =>
    unfold cnt
    have := cnt_le m k
    by_cases e : x = (k : Int) + 1
    · subst e; rw [h3]; simp; omega
    · have := ih (by omega)
      split <;> omega
theorem cnt_same {m m' : Int → Bool} {k : Nat} (h : ∀ x : Int, 1 ≤ x → x ≤ k → m x = m' x) : cnt m k = cnt m' k := by
  induction k with
  | zero => rfl
  | succ k ih =>
    unfold cnt
    rw [ih (fun x h1 h2 => h x h1 (by omega)), h _ (by omega) (by omega)]
theorem cnt_on {m : Int → Bool} {k : Nat} {x : Int} (h1 : 1 ≤ x) (h2 : x ≤ k) (h3 : m x = false) : cnt (fun y => if y = x then true else m y) k = cnt m k + 1 := by
  induction k with
  | zero => omega
  | succ k ih =>
    unfold cnt
    by_cases e : x = (k : Int) + 1
    · subst e
      rw [h3, cnt_same (m := fun y => if y = (k : Int) + 1 then true else m y) (m' := m) (fun y _ h => if_neg (by omega))]
      simp
    · have e2 : (if (k : Int) + 1 = x then true else m ((k : Int) + 1)) = m ((k : Int) + 1) := if_neg (fun h => e h.symm)
      simp only [e2]
      rw [ih (by omega)]
      omega
theorem cnt_off {m : Int → Bool} {k : Nat} {x : Int} (h1 : 1 ≤ x) (h2 : x ≤ k) (h3 : m x = true) : cnt (fun y => if y = x then false else m y) k = cnt m k - 1 ∧ 1 ≤ cnt m k := by
  induction k with
  | zero => omega
  | succ k ih =>
    unfold cnt
    by_cases e : x = (k : Int) + 1
    · subst e
      rw [h3, cnt_same (m := fun y => if y = (k : Int) + 1 then false else m y) (m' := m) (fun y _ h => if_neg (by omega))]
      simp
    · obtain ⟨g1, g2⟩ := ih (by omega)
      have e2 : (if (k : Int) + 1 = x then false else m ((k : Int) + 1)) = m ((k : Int) + 1) := if_neg (fun h => e h.symm)
      simp only [e2]
      rw [g1]
      constructor
      · split <;> omega
      · omega

/-- The number that is looked at, so many behind the last one. -/
def cand (most last i : Nat) : Nat := (last + i) % most + 1
theorem cand_in {most last i : Nat} (h : 0 < most) : 1 ≤ cand most last i ∧ cand most last i ≤ most := by
  unfold cand
  have := Nat.mod_lt (last + i) h
  omega
/-- Each number is looked at. -/
theorem cand_all {most last x : Nat} (h1 : 1 ≤ x) (h2 : x ≤ most) : ∃ i, i < most ∧ cand most last i = x := by
  refine ⟨(x - 1 + (most - last % most)) % most, Nat.mod_lt _ (by omega), ?_⟩
  unfold cand
  have hl := Nat.mod_lt last (show 0 < most by omega)
  rw [Nat.add_mod, Nat.mod_mod, ← Nat.add_mod]
  have e : last + (x - 1 + (most - last % most)) = most * (last / most) + (most + (x - 1)) := by
    have := Nat.div_add_mod last most
    omega
  rw [e, Nat.mul_add_mod, Nat.add_mod_left, Nat.mod_eq_of_lt (by omega)]
  omega
/-- Just behind a number comes that number last. -/
theorem cand_last {most id i : Nat} (h1 : 1 ≤ id) (h2 : id ≤ most) (hi : i < most) : cand most id i = id ↔ i = most - 1 := by
  unfold cand
  constructor
  · intro h
    by_cases hs : id + i < most
    · rw [Nat.mod_eq_of_lt hs] at h; omega
    · have e : id + i = most + (id + i - most) := by omega
      rw [e, Nat.add_mod_left, Nat.mod_eq_of_lt (by omega)] at h
      omega
  · rintro rfl
    have e : id + (most - 1) = most + (id - 1) := by omega
    rw [e, Nat.add_mod_left, Nat.mod_eq_of_lt (by omega)]
    omega

/-- The first one that is free, looked for from the i-th on. -/
def scan (m : Int → Bool) (most last : Nat) : Nat → Nat → Option Nat
  | 0, _ => none
  | f + 1, i => if m (cand most last i) then scan m most last f (i + 1) else some (cand most last i)
theorem scan_none {m : Int → Bool} {most last : Nat} : ∀ {f i : Nat}, scan m most last f i = none → ∀ j, i ≤ j → j < i + f → m (cand most last j) = true := by
  intro f
  induction f with
  | zero => intro i _ j h1 h2; omega
  | succ f ih =>
    intro i h j h1 h2
    unfold scan at h
    split at h
    · rename_i hm
      by_cases e : j = i
      · subst e; exact hm
      · exact ih h j (by omega) (by omega)
    · cases h
theorem scan_some {m : Int → Bool} {most last x : Nat} : ∀ {f i : Nat}, scan m most last f i = some x → ∃ j, i ≤ j ∧ j < i + f ∧ x = cand most last j ∧ m x = false ∧ ∀ k, i ≤ k → k < j → m (cand most last k) = true := by
  intro f
  induction f with
  | zero => intro i h; cases h
  | succ f ih =>
    intro i h
    unfold scan at h
    split at h
    · rename_i hm
      obtain ⟨j, h1, h2, h3, h4, h5⟩ := ih h
      refine ⟨j, by omega, by omega, h3, h4, fun k hk1 hk2 => ?_⟩
      by_cases e : k = i
      · subst e; exact hm
      · exact h5 k (by omega) hk2
    · rename_i hm
      injection h with h
      subst h
      exact ⟨i, Nat.le_refl _, by omega, rfl, by simpa using hm, fun k hk1 hk2 => by omega⟩
/-- What numbers in use keep to. -/
structure PidsOk (most last : Nat) (m : Int → Bool) (n : Nat) : Prop where
  most_le : most ≤ 65535
  last_le : last ≤ most
  range : ∀ x, m x = true → 1 ≤ x ∧ x ≤ most
  num : n = cnt m most
theorem next_none {most last n : Nat} {m : Int → Bool} (h : PidsOk most last m n) : scan m most last most 0 = none ↔ n = most := by
  constructor
  · intro hs
    rw [h.num]
    apply cnt_all
    intro x h1 h2
    obtain ⟨i, hi, hc⟩ := cand_all (last := last) (x := x.toNat) (most := most) (by omega) (by omega)
    have := scan_none hs i (Nat.zero_le _) (by omega)
    rw [hc] at this
    rwa [show ((x.toNat : Nat) : Int) = x by omega] at this
  · intro hn
    cases hs : scan m most last most 0 with
    | none => rfl
    | some x =>
      obtain ⟨j, _, h2, rfl, h4, _⟩ := scan_some hs
      have hc := cand_in (last := last) (i := j) (show 0 < most by omega)
      have := cnt_lt (k := most) (x := (cand most last j : Nat)) (by omega) (by omega) h4
      have := h.num
      omega
theorem use_ok {most last n : Nat} {m : Int → Bool} (h : PidsOk most last m n) {x : Int} (h1 : 1 ≤ x) (h2 : x ≤ most) (h3 : m x = false) : PidsOk most last (fun y => if y = x then true else m y) (n + 1) := by
  refine ⟨h.most_le, h.last_le, fun y hy => ?_, ?_⟩
  · by_cases e : y = x
    · subst e; exact ⟨h1, h2⟩
    · rw [if_neg e] at hy; exact h.range y hy
  · rw [cnt_on h1 h2 h3, h.num]
theorem free_ok {most last n : Nat} {m : Int → Bool} (h : PidsOk most last m n) {x : Int} (h3 : m x = true) : PidsOk most last (fun y => if y = x then false else m y) (n - 1) := by
  obtain ⟨h1, h2⟩ := h.range x h3
  refine ⟨h.most_le, h.last_le, fun y hy => ?_, ?_⟩
  · by_cases e : y = x
    · rw [if_pos e] at hy; cases hy
    · rw [if_neg e] at hy; exact h.range y hy
  · rw [(cnt_off h1 h2 h3).1, h.num]
theorem last_ok {most last last' n : Nat} {m : Int → Bool} (h : PidsOk most last m n) (hl : last' ≤ most) : PidsOk most last' m n := ⟨h.most_le, hl, h.range, h.num⟩
/-- Where a number that was just given is freed, the next one is that only if no other is free. -/
theorem last_comes {most id n x : Nat} {m : Int → Bool} (h : PidsOk most id m n) (h1 : 1 ≤ id) (hid : m id = false) (hs : scan m most id most 0 = some x) : (x = id ↔ n + 1 = most) := by
  obtain ⟨j, _, h2, rfl, h4, h5⟩ := scan_some hs
  have hle : id ≤ most := h.last_le
  rw [cand_last h1 hle (by omega)]
  have hc := cnt_on (k := most) (x := (id : Nat)) (by omega) (by omega) hid
  constructor
  · rintro rfl
    have := cnt_all (m := fun y => if y = (id : Int) then true else m y) (k := most) (fun y g1 g2 => by
      show (if y = (id : Int) then true else m y) = true
      by_cases e : y = id
      · rw [if_pos e]
      · rw [if_neg e]
        obtain ⟨i, hi, hc2⟩ := cand_all (last := id) (x := y.toNat) (most := most) (by omega) (by omega)
        have hne : i ≠ most - 1 := by
          intro e2
          have := (cand_last h1 hle hi).2 e2
          omega
        have := h5 i (Nat.zero_le _) (by omega)
        rw [hc2] at this
        rwa [show ((y.toNat : Nat) : Int) = y by omega] at this)
    rw [hc] at this
    have := h.num
    omega
  · intro hn
    have hcj := cand_in (last := id) (i := j) (show 0 < most by omega)
    by_cases e : cand most id j = id
    · exact (cand_last h1 hle (by omega)).1 e
    · exfalso
      have := cnt_lt (m := fun y => if y = (id : Int) then true else m y) (k := most) (x := (cand most id j : Nat)) (by omega) (by omega) (by rw [if_neg (by omega)]; exact h4)
      have := h.num
      omega
end Go.Proofs.Ytkbinmjbbmejpaa
