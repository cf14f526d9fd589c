/- What is proved here: plain lists: the packets of bytes, the error behind them and what is left; bytes that come later change nothing of the packets that were whole. No conditions. -/
import Derived.Test.YtfojoeafhdiaiaaDoorHed07
namespace Go.Proofs.YtfojoeafhdiaiaaDoor
set_option maxRecDepth 100000
open Go.RowKit Go.Extern.Stop Go.Stop Go.Extern
theorem vt_later (t u : List UInt8) (f : Nat) : ∀ i n b : Nat, (vt ⟨t.toArray⟩ f i n b).2.2.1 ≠ 1 → vt ⟨(t ++ u).toArray⟩ f i n b = vt ⟨t.toArray⟩ f i n b := by
  induction f with
  | zero => exact fun _ _ _ _ => rfl
  | succ f ih =>
    intro i n b h
    by_cases hlt : i < (⟨t.toArray⟩ : ByteArray).size
    · have hl : i < t.length := by rw [bsize] at hlt; exact hlt
      have hlt' : i < (⟨(t ++ u).toArray⟩ : ByteArray).size := by rw [bsize, List.length_append]; omega
      have hc : (⟨(t ++ u).toArray⟩ : ByteArray)[i] = (⟨t.toArray⟩ : ByteArray)[i] := by
        show (t ++ u).toArray[i] = t.toArray[i]
        simp [List.getElem_append_left hl]
      by_cases h1 : (⟨t.toArray⟩ : ByteArray)[i].toNat < 128
      · by_cases h0 : (⟨t.toArray⟩ : ByteArray)[i].toNat = 0 ∧ 0 < i
        · rw [vt_zero hlt h0.1 h0.2, vt_zero hlt' (by rw [hc]; exact h0.1) h0.2]
        · rw [vt_last hlt h1 h0, vt_last hlt' (by rw [hc]; exact h1) (by rw [hc]; exact h0), hc]
      · rw [vt_more hlt h1] at h ⊢
        rw [vt_more hlt' (by rw [hc]; exact h1), hc]
        exact ih _ _ _ h
    · exact absurd (by rw [vt_short hlt]) h
theorem vt_some (s : ByteArray) (f : Nat) : ∀ i n b : Nat, (vt s f i n b).2.2.1 = 0 → i < (vt s f i n b).2.1 := by
  induction f with
  | zero => exact fun _ _ _ h => absurd h (fun e => by cases e)
  | succ f ih =>
    intro i n b h
    by_cases hlt : i < s.size
    · by_cases h1 : s[i].toNat < 128
      · by_cases h0 : s[i].toNat = 0 ∧ 0 < i
        · rw [vt_zero hlt h0.1 h0.2] at h
          exact absurd h (fun e => by cases e)
        · rw [vt_last hlt h1 h0]
          exact Nat.lt_succ_self i
      · rw [vt_more hlt h1] at h ⊢
        have := ih _ _ _ h
        omega
    · rw [vt_short hlt] at h
      exact absurd h (fun e => by cases e)
theorem head_later (most : Int) (R u : List UInt8) (h : (headF most R).no ≠ 0 ∨ 0 < (headF most R).z) : headF most (R ++ u) = headF most R := by
  cases R with
  | nil => rcases h with h | h
           · exact absurd rfl h
           · exact absurd h (Nat.lt_irrefl 0)
  | cons b t =>
    have hd : headF most (b :: t) = if mayI (b.toNat : Int) = true then headT most (vt ⟨t.toArray⟩ 4 0 0 1) else ⟨0, 0, 2, 129, 0⟩ := rfl
    have hd2 : headF most (b :: t ++ u) = if mayI (b.toNat : Int) = true then headT most (vt ⟨(t ++ u).toArray⟩ 4 0 0 1) else ⟨0, 0, 2, 129, 0⟩ := rfl
    rw [hd] at h ⊢
    rw [hd2]
    by_cases hm : mayI (b.toNat : Int) = true
    · rw [if_pos hm] at h ⊢
      rw [if_pos hm]
      by_cases h1 : (vt ⟨t.toArray⟩ 4 0 0 1).2.2.1 = 1
      · unfold headT at h
        rw [if_pos h1] at h
        rcases h with h | h
        · exact absurd rfl h
        · exact absurd h (by decide)
      · rw [vt_later t u 4 0 0 1 h1]
    · rw [if_neg hm, if_neg hm]
theorem head_two (most : Int) (R : List UInt8) (h : 0 < (headF most R).z) : 2 ≤ (headF most R).z := by
  cases R with
  | nil => exact absurd h (Nat.lt_irrefl 0)
  | cons b t =>
    have hd : headF most (b :: t) = if mayI (b.toNat : Int) = true then headT most (vt ⟨t.toArray⟩ 4 0 0 1) else ⟨0, 0, 2, 129, 0⟩ := rfl
    rw [hd] at h ⊢
    by_cases hm : mayI (b.toNat : Int) = true
    · rw [if_pos hm] at h ⊢
      have hv := vt_some ⟨t.toArray⟩ 4 0 0 1
      unfold headT at h ⊢
      by_cases h1 : (vt ⟨t.toArray⟩ 4 0 0 1).2.2.1 = 1
      · rw [if_pos h1] at h
        exact absurd h (by decide)
      · rw [if_neg h1] at h ⊢
        by_cases h2 : (vt ⟨t.toArray⟩ 4 0 0 1).2.2.1 = 0
        · rw [if_pos h2] at h ⊢
          have hv2 := hv h2
          by_cases h3 : most < ((1 + (vt ⟨t.toArray⟩ 4 0 0 1).2.1 + (vt ⟨t.toArray⟩ 4 0 0 1).1 : Nat) : Int)
          · rw [if_pos h3] at h
            exact absurd h (by decide)
          · rw [if_neg h3]
            show 2 ≤ 1 + (vt ⟨t.toArray⟩ 4 0 0 1).2.1 + (vt ⟨t.toArray⟩ 4 0 0 1).1
            omega
        · rw [if_neg h2] at h
          exact absurd h (by simp)
    · rw [if_neg hm] at h
      exact absurd h (by decide)
/-- A packet: its first byte and its body. -/
abbrev FP := Nat × List UInt8
/-- Packets, what is left, the error behind them. -/
structure AV where
  pk : List FP
  rest : List UInt8
  no : Nat
  r : Int
  a : Nat
/-- The packet at the head. -/
def fpOf (R : List UInt8) (q : HV) : FP := ((R.getD 0 0).toNat, (R.take q.z).drop q.h)
/-- May a packet be taken? -/
def whole (q : HV) (R : List UInt8) : Prop := q.no = 0 ∧ 0 < q.z ∧ q.z ≤ R.length
instance (q : HV) (R : List UInt8) : Decidable (whole q R) := by unfold whole; infer_instance
def runF (most : Int) : Nat → List UInt8 → AV
  | 0, R => ⟨[], R, 0, 0, 0⟩
  | n + 1, R => if whole (headF most R) R then ⟨fpOf R (headF most R) :: (runF most n (R.drop (headF most R).z)).pk, (runF most n (R.drop (headF most R).z)).rest, (runF most n (R.drop (headF most R).z)).no, (runF most n (R.drop (headF most R).z)).r, (runF most n (R.drop (headF most R).z)).a⟩
    else if (headF most R).no = 0 then ⟨[], R, 0, 0, 0⟩ else ⟨[], R, (headF most R).no, (headF most R).r, (headF most R).a⟩
theorem runF_whole {most : Int} {n : Nat} {R : List UInt8} (h : whole (headF most R) R) : runF most (n + 1) R = ⟨fpOf R (headF most R) :: (runF most n (R.drop (headF most R).z)).pk, (runF most n (R.drop (headF most R).z)).rest, (runF most n (R.drop (headF most R).z)).no, (runF most n (R.drop (headF most R).z)).r, (runF most n (R.drop (headF most R).z)).a⟩ := by
  rw [runF, if_pos h]
theorem runF_part {most : Int} {n : Nat} {R : List UInt8} (h : ¬ whole (headF most R) R) (h0 : (headF most R).no = 0) : runF most n R = ⟨[], R, 0, 0, 0⟩ := by
  cases n with
  | zero => rfl
  | succ n => rw [runF, if_neg h, if_pos h0]
theorem runF_bad {most : Int} {n : Nat} {R : List UInt8} (h0 : (headF most R).no ≠ 0) : runF most (n + 1) R = ⟨[], R, (headF most R).no, (headF most R).r, (headF most R).a⟩ := by
  rw [runF, if_neg (fun h => h0 h.1), if_neg h0]
theorem runF_fuel (most : Int) (n : Nat) : ∀ (m : Nat) (R : List UInt8), R.length < n → R.length < m → runF most n R = runF most m R := by
  induction n with
  | zero => exact fun m R h _ => absurd h (by omega)
  | succ n ih =>
    intro m R h h2
    cases m with
    | zero => exact absurd h2 (by omega)
    | succ m =>
      by_cases hw : whole (headF most R) R
      · have hd : (R.drop (headF most R).z).length < n ∧ (R.drop (headF most R).z).length < m := by
          rw [List.length_drop]
          have := hw.2.1
          have := hw.2.2
          omega
        rw [runF_whole hw, runF_whole hw, ih m _ hd.1 hd.2]
      · by_cases h0 : (headF most R).no = 0
        · rw [runF_part hw h0, runF_part hw h0]
        · rw [runF_bad h0, runF_bad h0]
/-- All packets of bytes. -/
def allF (most : Int) (R : List UInt8) : AV := runF most (R.length + 1) R
theorem allF_whole {most : Int} {R : List UInt8} (h : whole (headF most R) R) : allF most R = ⟨fpOf R (headF most R) :: (allF most (R.drop (headF most R).z)).pk, (allF most (R.drop (headF most R).z)).rest, (allF most (R.drop (headF most R).z)).no, (allF most (R.drop (headF most R).z)).r, (allF most (R.drop (headF most R).z)).a⟩ := by
  have hd : (R.drop (headF most R).z).length < R.length := by
    rw [List.length_drop]
    have := h.2.1
    have := h.2.2
    omega
  unfold allF
  rw [runF_whole h, runF_fuel most R.length ((R.drop (headF most R).z).length + 1) _ hd (Nat.lt_succ_self _)]
theorem allF_part {most : Int} {R : List UInt8} (h : ¬ whole (headF most R) R) (h0 : (headF most R).no = 0) : allF most R = ⟨[], R, 0, 0, 0⟩ := runF_part h h0
theorem allF_bad {most : Int} {R : List UInt8} (h0 : (headF most R).no ≠ 0) : allF most R = ⟨[], R, (headF most R).no, (headF most R).r, (headF most R).a⟩ := runF_bad h0
theorem whole_later {most : Int} {R u : List UInt8} (h : whole (headF most R) R) : whole (headF most (R ++ u)) (R ++ u) ∧ headF most (R ++ u) = headF most R ∧ fpOf (R ++ u) (headF most R) = fpOf R (headF most R) ∧ (R ++ u).drop (headF most R).z = R.drop (headF most R).z ++ u := by
  have e := head_later most R u (.inr h.2.1)
  have h1 := h.2.1
  have h2 := h.2.2
  refine ⟨?_, e, ?_, ?_⟩
  · rw [e]
    exact ⟨h.1, h.2.1, by rw [List.length_append]; omega⟩
  · unfold fpOf
    have e1 : (R ++ u).getD 0 0 = R.getD 0 0 := by
      rw [List.getD_eq_getElem?_getD, List.getD_eq_getElem?_getD, List.getElem?_append_left (by omega)]
    rw [e1, List.take_append_of_le_length h2]
  · rw [List.drop_append_of_le_length h2]
/-- However the bytes are cut into two: the packets are those of all bytes together, and so are the error and what is left. -/
theorem allF_cut (most : Int) (n : Nat) : ∀ R u : List UInt8, R.length ≤ n →
    ((allF most R).no ≠ 0 → allF most (R ++ u) = ⟨(allF most R).pk, (allF most R).rest ++ u, (allF most R).no, (allF most R).r, (allF most R).a⟩) ∧
    ((allF most R).no = 0 → allF most (R ++ u) = ⟨(allF most R).pk ++ (allF most ((allF most R).rest ++ u)).pk, (allF most ((allF most R).rest ++ u)).rest, (allF most ((allF most R).rest ++ u)).no, (allF most ((allF most R).rest ++ u)).r, (allF most ((allF most R).rest ++ u)).a⟩) := by
  induction n with
  | zero =>
    intro R u h
    obtain rfl : R = [] := List.eq_nil_of_length_eq_zero (by omega)
    have e : allF most [] = ⟨[], [], 0, 0, 0⟩ := rfl
    rw [e]
    exact ⟨fun h => absurd rfl h, fun _ => rfl⟩
  | succ n ih =>
    intro R u h
    by_cases hw : whole (headF most R) R
    · obtain ⟨k1, k2, k3, k4⟩ := whole_later (u := u) hw
      have hd : (R.drop (headF most R).z).length ≤ n := by
        rw [List.length_drop]
        have := hw.2.1
        have := hw.2.2
        omega
      obtain ⟨i1, i2⟩ := ih (R.drop (headF most R).z) u hd
      have e2 := allF_whole k1
      rw [k2, k3, k4] at e2
      rw [e2, allF_whole hw]
      refine ⟨fun h0 => ?_, fun h0 => ?_⟩
      · rw [i1 h0]
      · rw [i2 h0]
        rfl
    · by_cases h0 : (headF most R).no = 0
      · rw [allF_part hw h0]
        exact ⟨fun h => absurd rfl h, fun _ => rfl⟩
      · have e := head_later most R u (.inl h0)
        have h0' : (headF most (R ++ u)).no ≠ 0 := by rw [e]; exact h0
        rw [allF_bad h0, allF_bad h0', e]
        exact ⟨fun _ => rfl, fun h => absurd h h0⟩
/-- So many packets at most. -/
theorem allF_len (most : Int) (n : Nat) : ∀ R : List UInt8, R.length ≤ n → 2 * (allF most R).pk.length + (allF most R).rest.length ≤ R.length := by
  induction n with
  | zero =>
    intro R h
    obtain rfl : R = [] := List.eq_nil_of_length_eq_zero (by omega)
    exact Nat.le_refl _
  | succ n ih =>
    intro R h
    by_cases hw : whole (headF most R) R
    · have h2 := head_two most R hw.2.1
      have h3 := hw.2.2
      have hl : (R.drop (headF most R).z).length = R.length - (headF most R).z := List.length_drop
      have := ih (R.drop (headF most R).z) (by omega)
      rw [allF_whole hw, List.length_cons]
      show 2 * ((allF most (R.drop (headF most R).z)).pk.length + 1) + (allF most (R.drop (headF most R).z)).rest.length ≤ R.length
      omega
    · by_cases h0 : (headF most R).no = 0
      · rw [allF_part hw h0]
        show 2 * 0 + R.length ≤ R.length
        omega
      · rw [allF_bad h0]
        show 2 * 0 + R.length ≤ R.length
        omega
end Go.Proofs.YtfojoeafhdiaiaaDoor
