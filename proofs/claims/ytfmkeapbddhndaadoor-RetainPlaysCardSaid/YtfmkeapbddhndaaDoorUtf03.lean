/- What is proved here, on plain bytes: the letter that bytes begin with, by its class and its number, is the one whose own bytes stand there; and the walk through all letters. No conditions. -/
import Derived.Test.YtfmkeapbddhndaaDoorLib
namespace Go.Proofs.YtfmkeapbddhndaaDoor

/-- A byte, as a number; 0 behind the end. -/
def bAt (s : ByteArray) (i : Nat) : Nat := (s.data.toList.getD i 0).toNat
theorem bLen (s : ByteArray) : s.data.toList.length = s.size := by rw [Array.length_toList]; rfl
theorem bAt_get {s : ByteArray} {i : Nat} (h : i < s.size) : bAt s i = s[i].toNat := by
  unfold bAt
  have : i < s.data.toList.length := by rw [bLen]; exact h
  rw [List.getD_eq_getElem?_getD, List.getElem?_eq_getElem this]
  rfl
theorem bAt_lt (s : ByteArray) (i : Nat) : bAt s i < 256 := UInt8.toNat_lt _
theorem bAt_none {s : ByteArray} {i : Nat} (h : s.size ≤ i) : bAt s i = 0 := by
  unfold bAt
  have : s.data.toList.length ≤ i := by rw [bLen]; exact h
  rw [List.getD_eq_getElem?_getD, List.getElem?_eq_none this]
  rfl

/-- A byte that follows others. -/
def isC (c : Nat) : Bool := decide (128 ≤ c ∧ c < 192)
/-- Of how many bytes a letter is that begins so; 0: of none. -/
def classOf (a : Nat) : Nat := if a < 128 then 1 else if a < 192 then 0 else if a < 224 then 2 else if a < 240 then 3 else if a < 248 then 4 else 0
/-- The number that so many bytes from a place tell. -/
def numAt (s : ByteArray) (at_ many : Nat) : Nat :=
  if many = 1 then bAt s at_
  else if many = 2 then (bAt s at_ - 192) * 64 + (bAt s (at_ + 1) - 128)
  else if many = 3 then ((bAt s at_ - 224) * 64 + (bAt s (at_ + 1) - 128)) * 64 + (bAt s (at_ + 2) - 128)
  else (((bAt s at_ - 240) * 64 + (bAt s (at_ + 1) - 128)) * 64 + (bAt s (at_ + 2) - 128)) * 64 + (bAt s (at_ + 3) - 128)
def leastOf (many : Nat) : Nat := if many = 1 then 1 else if many = 2 then 128 else if many = 3 then 2048 else 65536
def contB (s : ByteArray) (at_ many : Nat) : Bool := (many ≤ 1 || isC (bAt s (at_ + 1))) && (many ≤ 2 || isC (bAt s (at_ + 2))) && (many ≤ 3 || isC (bAt s (at_ + 3)))
def okNum (many n : Nat) : Bool := decide (leastOf many ≤ n ∧ n ≤ 1114111 ∧ ¬ (55296 ≤ n ∧ n ≤ 57343))
/-- How many bytes the letter has that stands at a place; 0: there is none. -/
def szAt (s : ByteArray) (at_ : Nat) : Nat :=
  if classOf (bAt s at_) = 0 ∨ s.size < at_ + classOf (bAt s at_) then 0
  else if contB s at_ (classOf (bAt s at_)) && okNum (classOf (bAt s at_)) (numAt s at_ (classOf (bAt s at_))) then classOf (bAt s at_) else 0

/-- May a number be a letter's? -/
def letB (n : Int) : Bool := decide (1 ≤ n ∧ n ≤ 1114111 ∧ ¬ (55296 ≤ n ∧ n ≤ 57343))
/-- How many bytes it has, and which. -/
def lenOf (n : Nat) : Nat := if n < 128 then 1 else if n < 2048 then 2 else if n < 65536 then 3 else 4
def digs (n : Nat) : List Nat :=
  if n < 128 then [n] else if n < 2048 then [192 + n / 64, 128 + n % 64] else if n < 65536 then [224 + n / 4096, 128 + n / 64 % 64, 128 + n % 64]
  else [240 + n / 262144, 128 + n / 4096 % 64, 128 + n / 64 % 64, 128 + n % 64]
def bytesOf (n : Int) : List UInt8 := if letB n then (digs n.toNat).map UInt8.ofNat else []

theorem isC_iff {c : Nat} : isC c = true ↔ 128 ≤ c ∧ c < 192 := by unfold isC; simp
theorem letB_iff {n : Int} : letB n = true ↔ 1 ≤ n ∧ n ≤ 1114111 ∧ ¬ (55296 ≤ n ∧ n ≤ 57343) := by unfold letB; rw [decide_eq_true_iff]
theorem digs_len (n : Nat) : (digs n).length = lenOf n := by unfold digs lenOf; split <;> (try split) <;> (try split) <;> rfl
theorem digs_lt {n : Nat} (h : n ≤ 1114111) : ∀ x ∈ digs n, x < 256 := by
  unfold digs
  intro x hx
  split at hx
  · simp at hx; omega
  · split at hx
    · simp at hx; omega
    · split at hx
      · simp at hx; omega
      · simp at hx; omega
theorem lenOf_bd (n : Nat) : 1 ≤ lenOf n ∧ lenOf n ≤ 4 := by unfold lenOf; split <;> (try split) <;> (try split) <;> omega
theorem bytesOf_len {n : Int} (h : letB n = true) : (bytesOf n).length = lenOf n.toNat := by unfold bytesOf; rw [if_pos h]; simp [digs_len]
theorem bytesOf_none {n : Int} (h : letB n = false) : bytesOf n = [] := by unfold bytesOf; rw [if_neg (by simp [h])]
theorem bytesOf_get {n : Int} (h : letB n = true) (i : Nat) (hi : i < lenOf n.toNat) : ((bytesOf n).getD i 0).toNat = (digs n.toNat).getD i 0 := by
  have hl := letB_iff.1 h
  unfold bytesOf
  rw [if_pos h]
  have hi' : i < (digs n.toNat).length := by rw [digs_len]; exact hi
  have hlt := digs_lt (n := n.toNat) (by omega) _ (List.getElem_mem hi')
  simp [List.getD_eq_getElem?_getD, List.getElem?_map, List.getElem?_eq_getElem hi', UInt8.toNat_ofNat', Nat.mod_eq_of_lt hlt]

/-- (D) Where a letter's own bytes stand, there stands a letter of so many bytes. -/
theorem sz_of_bytes {s : ByteArray} {at_ : Nat} {n : Int} (h : letB n = true) (hs : at_ + lenOf n.toNat ≤ s.size) (hb : ∀ i, i < lenOf n.toNat → bAt s (at_ + i) = (digs n.toNat).getD i 0) :
    szAt s at_ = lenOf n.toNat := by
  have hl := letB_iff.1 h
  obtain ⟨m, rfl⟩ : ∃ m : Nat, n = (m : Int) := ⟨n.toNat, by omega⟩
  rw [Int.toNat_natCast] at *
  by_cases h1 : m < 128
  · have e1 : lenOf m = 1 := by unfold lenOf; rw [if_pos h1]
    have d : digs m = [m] := by unfold digs; rw [if_pos h1]
    rw [e1] at hb hs ⊢
    have b0 := hb 0 (by omega)
    rw [d] at b0
    simp at b0
    have hc : classOf (bAt s at_) = 1 := by unfold classOf; rw [if_pos (by omega)]
    unfold szAt
    rw [hc, if_neg (by omega), if_pos]
    simp [contB, okNum, numAt, leastOf]
    omega
  · by_cases h2 : m < 2048
    · have e1 : lenOf m = 2 := by unfold lenOf; rw [if_neg h1, if_pos h2]
      have d : digs m = [192 + m / 64, 128 + m % 64] := by unfold digs; rw [if_neg h1, if_pos h2]
      rw [e1] at hb hs ⊢
      have b0 := hb 0 (by omega)
      have b1 := hb 1 (by omega)
      rw [d] at b0 b1
      simp at b0 b1
      have hc : classOf (bAt s at_) = 2 := by unfold classOf; rw [if_neg (by omega), if_neg (by omega), if_pos (by omega)]
      unfold szAt
      rw [hc, if_neg (by omega), if_pos]
      simp [contB, okNum, numAt, leastOf, isC]
      omega
    · by_cases h3 : m < 65536
      · have e1 : lenOf m = 3 := by unfold lenOf; rw [if_neg h1, if_neg h2, if_pos h3]
        have d : digs m = [224 + m / 4096, 128 + m / 64 % 64, 128 + m % 64] := by unfold digs; rw [if_neg h1, if_neg h2, if_pos h3]
        rw [e1] at hb hs ⊢
        have b0 := hb 0 (by omega)
        have b1 := hb 1 (by omega)
        have b2 := hb 2 (by omega)
        rw [d] at b0 b1 b2
        simp at b0 b1 b2
        have hc : classOf (bAt s at_) = 3 := by unfold classOf; rw [if_neg (by omega), if_neg (by omega), if_neg (by omega), if_pos (by omega)]
        unfold szAt
        rw [hc, if_neg (by omega), if_pos]
        simp [contB, okNum, numAt, leastOf, isC]
        omega
      · have e1 : lenOf m = 4 := by unfold lenOf; rw [if_neg h1, if_neg h2, if_neg h3]
        have d : digs m = [240 + m / 262144, 128 + m / 4096 % 64, 128 + m / 64 % 64, 128 + m % 64] := by unfold digs; rw [if_neg h1, if_neg h2, if_neg h3]
        rw [e1] at hb hs ⊢
        have b0 := hb 0 (by omega)
        have b1 := hb 1 (by omega)
        have b2 := hb 2 (by omega)
        have b3 := hb 3 (by omega)
        rw [d] at b0 b1 b2 b3
        simp at b0 b1 b2 b3
        have hc : classOf (bAt s at_) = 4 := by unfold classOf; rw [if_neg (by omega), if_neg (by omega), if_neg (by omega), if_neg (by omega), if_pos (by omega)]
        unfold szAt
        rw [hc, if_neg (by omega), if_pos]
        simp [contB, okNum, numAt, leastOf, isC]
        omega

theorem sz_or (s : ByteArray) (at_ : Nat) : szAt s at_ = 0 ∨ (szAt s at_ = classOf (bAt s at_) ∧ 1 ≤ classOf (bAt s at_) ∧ at_ + classOf (bAt s at_) ≤ s.size ∧ contB s at_ (classOf (bAt s at_)) = true ∧ okNum (classOf (bAt s at_)) (numAt s at_ (classOf (bAt s at_))) = true) := by
  unfold szAt
  split
  · exact .inl rfl
  · rename_i h
    split
    · rename_i h2
      simp only [Bool.and_eq_true] at h2
      exact .inr ⟨rfl, by omega, by omega, h2.1, h2.2⟩
    · exact .inl rfl
theorem class_bd (a : Nat) : classOf a ≤ 4 := by unfold classOf; split <;> (try split) <;> (try split) <;> (try split) <;> (try split) <;> omega
theorem sz_bd (s : ByteArray) (at_ : Nat) : szAt s at_ ≤ 4 ∧ (szAt s at_ ≠ 0 → at_ + szAt s at_ ≤ s.size) := by
  rcases sz_or s at_ with h | ⟨h, h1, h2, _⟩
  · exact ⟨by omega, fun h' => absurd h h'⟩
  · have := class_bd (bAt s at_)
    exact ⟨by omega, fun _ => by omega⟩

/-- (E) A letter that stands somewhere is its number's. -/
theorem sz_num {s : ByteArray} {at_ : Nat} (h : szAt s at_ ≠ 0) :
    letB (numAt s at_ (szAt s at_) : Nat) = true ∧ lenOf (numAt s at_ (szAt s at_)) = szAt s at_ ∧ ∀ i, i < szAt s at_ → bAt s (at_ + i) = (digs (numAt s at_ (szAt s at_))).getD i 0 := by
  rcases sz_or s at_ with h' | ⟨e, h1, h2, hc, ho⟩
  · exact absurd h' h
  · rw [← e] at hc ho
    have hb := bAt_lt s at_
    have hb1 := bAt_lt s (at_ + 1)
    have hb2 := bAt_lt s (at_ + 2)
    have hb3 := bAt_lt s (at_ + 3)
    have hcl : (szAt s at_ = 1 ∧ bAt s at_ < 128) ∨ (szAt s at_ = 2 ∧ 192 ≤ bAt s at_ ∧ bAt s at_ < 224) ∨ (szAt s at_ = 3 ∧ 224 ≤ bAt s at_ ∧ bAt s at_ < 240) ∨ (szAt s at_ = 4 ∧ 240 ≤ bAt s at_ ∧ bAt s at_ < 248) := by
      rw [e]
      rw [e] at h
      unfold classOf at *
      split <;> (try split) <;> (try split) <;> (try split) <;> (try split) <;> (first | omega | simp_all)
    clear h1 h2 e h
    rcases hcl with ⟨k, h0⟩ | ⟨k, h0, h0'⟩ | ⟨k, h0, h0'⟩ | ⟨k, h0, h0'⟩
    · rw [k] at hc ho ⊢
      have n : numAt s at_ 1 = bAt s at_ := by unfold numAt; rw [if_pos rfl]
      rw [n] at ho ⊢
      simp [okNum, leastOf] at ho
      have hl : lenOf (bAt s at_) = 1 := by unfold lenOf; rw [if_pos h0]
      have hd : digs (bAt s at_) = [bAt s at_] := by unfold digs; rw [if_pos h0]
      refine ⟨letB_iff.2 ⟨by omega, by omega, by omega⟩, hl, fun i hi => ?_⟩
      obtain rfl : i = 0 := by omega
      rw [hd]; rfl
    · rw [k] at hc ho ⊢
      have n : numAt s at_ 2 = (bAt s at_ - 192) * 64 + (bAt s (at_ + 1) - 128) := rfl
      rw [n] at ho ⊢
      simp [contB, isC] at hc
      simp [okNum, leastOf] at ho
      have hl : lenOf ((bAt s at_ - 192) * 64 + (bAt s (at_ + 1) - 128)) = 2 := by unfold lenOf; rw [if_neg (by omega), if_pos (by omega)]
      have hd : digs ((bAt s at_ - 192) * 64 + (bAt s (at_ + 1) - 128)) = [bAt s at_, bAt s (at_ + 1)] := by
        unfold digs; rw [if_neg (by omega), if_pos (by omega)]
        simp only [List.cons.injEq, and_true]
        omega
      refine ⟨letB_iff.2 ⟨by omega, by omega, by omega⟩, hl, fun i hi => ?_⟩
      rw [hd]
      rcases (show i = 0 ∨ i = 1 by omega) with rfl | rfl <;> rfl
    · rw [k] at hc ho ⊢
      have n : numAt s at_ 3 = ((bAt s at_ - 224) * 64 + (bAt s (at_ + 1) - 128)) * 64 + (bAt s (at_ + 2) - 128) := rfl
      rw [n] at ho ⊢
      simp [contB, isC] at hc
      simp [okNum, leastOf] at ho
      have hl : lenOf (((bAt s at_ - 224) * 64 + (bAt s (at_ + 1) - 128)) * 64 + (bAt s (at_ + 2) - 128)) = 3 := by unfold lenOf; rw [if_neg (by omega), if_neg (by omega), if_pos (by omega)]
      have hd : digs (((bAt s at_ - 224) * 64 + (bAt s (at_ + 1) - 128)) * 64 + (bAt s (at_ + 2) - 128)) = [bAt s at_, bAt s (at_ + 1), bAt s (at_ + 2)] := by
        unfold digs; rw [if_neg (by omega), if_neg (by omega), if_pos (by omega)]
        simp only [List.cons.injEq, and_true]
        omega
      refine ⟨letB_iff.2 ⟨by omega, by omega, by omega⟩, hl, fun i hi => ?_⟩
      rw [hd]
      rcases (show i = 0 ∨ i = 1 ∨ i = 2 by omega) with rfl | rfl | rfl <;> rfl
    · rw [k] at hc ho ⊢
      have n : numAt s at_ 4 = (((bAt s at_ - 240) * 64 + (bAt s (at_ + 1) - 128)) * 64 + (bAt s (at_ + 2) - 128)) * 64 + (bAt s (at_ + 3) - 128) := rfl
      rw [n] at ho ⊢
      simp [contB, isC] at hc
      simp [okNum, leastOf] at ho
      have hl : lenOf ((((bAt s at_ - 240) * 64 + (bAt s (at_ + 1) - 128)) * 64 + (bAt s (at_ + 2) - 128)) * 64 + (bAt s (at_ + 3) - 128)) = 4 := by unfold lenOf; rw [if_neg (by omega), if_neg (by omega), if_neg (by omega)]
      have hd : digs ((((bAt s at_ - 240) * 64 + (bAt s (at_ + 1) - 128)) * 64 + (bAt s (at_ + 2) - 128)) * 64 + (bAt s (at_ + 3) - 128)) = [bAt s at_, bAt s (at_ + 1), bAt s (at_ + 2), bAt s (at_ + 3)] := by
        unfold digs; rw [if_neg (by omega), if_neg (by omega), if_neg (by omega)]
        simp only [List.cons.injEq, and_true]
        omega
      refine ⟨letB_iff.2 ⟨by omega, by omega, by omega⟩, hl, fun i hi => ?_⟩
      rw [hd]
      rcases (show i = 0 ∨ i = 1 ∨ i = 2 ∨ i = 3 by omega) with rfl | rfl | rfl | rfl <;> rfl
end Go.Proofs.YtfmkeapbddhndaaDoor
