/- What is proved here, on plain bytes: the letter that bytes begin with, by its class and its number, is the one whose own bytes stand there; and the walk through all letters. No conditions. What is proved here, on plain numbers: what the bit operations on a byte come to, and what a letter's size is by its class. No conditions. What is proved here: how many bytes the letter has that bytes begin with, of the landed code. Condition: there is a byte. What is proved here: the cut, the check and the letters of bytes, of the landed code, are what a plain walk over the bytes says. Conditions: the text's length; for the check what the rows list of the package's variables. -/
import Derived.Test.YtnolnhpmpjgnaaaGreatDoorLib
import Derived.IntWalk
import Derived.Laws.Bits64b
import Derived.Test.YtnolnhpmpjgnaaaGreatDoorEnv
import Derived.WalkSpells
import Derived.WalkLawsBesides
import Derived.Outline
namespace Go.Proofs.YtnolnhpmpjgnaaaGreatDoor

/-- A byte, as a number; 0 behind the end. -/
def bAt (s : ByteArray) (i : Nat) : Nat := (s.data.toList.getD i 0).toNat
theorem bLen (s : ByteArray) : s.data.toList.length = s.size := by rw [Array.length_toList]; rfl
theorem bAt_get {s : ByteArray} {i : Nat} (h : i < s.size) : bAt s i = s[i].toNat := by
  unfold bAt
  have : i < s.data.toList.length := by rw [bLen]; exact h
  rw [List.getD_eq_getElem?_getD, List.getElem?_eq_getElem this]
  rfl
theorem bAt_lt (s : ByteArray) (i : Nat) : bAt s i < 256 := UInt8.toNat_lt _
theorem bAt_none {s : ByteArray} {i : Nat} (h : s.size ≤ i) : bAt s i = 0 := by
  unfold bAt
  have : s.data.toList.length ≤ i := by rw [bLen]; exact h
  rw [List.getD_eq_getElem?_getD, List.getElem?_eq_none this]
  rfl

/-- A byte that follows others. -/
def isC (c : Nat) : Bool := decide (128 ≤ c ∧ c < 192)
/-- Of how many bytes a letter is that begins so; 0: of none. -/
def classOf (a : Nat) : Nat := if a < 128 then 1 else if a < 192 then 0 else if a < 224 then 2 else if a < 240 then 3 else if a < 248 then 4 else 0
/-- The number that so many bytes from a place tell. -/
def numAt (s : ByteArray) (at_ many : Nat) : Nat :=
  if many = 1 then bAt s at_
  else if many = 2 then (bAt s at_ - 192) * 64 + (bAt s (at_ + 1) - 128)
  else if many = 3 then ((bAt s at_ - 224) * 64 + (bAt s (at_ + 1) - 128)) * 64 + (bAt s (at_ + 2) - 128)
  else (((bAt s at_ - 240) * 64 + (bAt s (at_ + 1) - 128)) * 64 + (bAt s (at_ + 2) - 128)) * 64 + (bAt s (at_ + 3) - 128)
def leastOf (many : Nat) : Nat := if many = 1 then 1 else if many = 2 then 128 else if many = 3 then 2048 else 65536
def contB (s : ByteArray) (at_ many : Nat) : Bool := (many ≤ 1 || isC (bAt s (at_ + 1))) && (many ≤ 2 || isC (bAt s (at_ + 2))) && (many ≤ 3 || isC (bAt s (at_ + 3)))
def okNum (many n : Nat) : Bool := decide (leastOf many ≤ n ∧ n ≤ 1114111 ∧ ¬ (55296 ≤ n ∧ n ≤ 57343))
/-- How many bytes the letter has that stands at a place; 0: there is none. -/
def szAt (s : ByteArray) (at_ : Nat) : Nat :=
  if classOf (bAt s at_) = 0 ∨ s.size < at_ + classOf (bAt s at_) then 0
  else if contB s at_ (classOf (bAt s at_)) && okNum (classOf (bAt s at_)) (numAt s at_ (classOf (bAt s at_))) then classOf (bAt s at_) else 0

/-- May a number be a letter's? -/
def letB (n : Int) : Bool := decide (1 ≤ n ∧ n ≤ 1114111 ∧ ¬ (55296 ≤ n ∧ n ≤ 57343))
/-- How many bytes it has, and which. -/
def lenOf (n : Nat) : Nat := if n < 128 then 1 else if n < 2048 then 2 else if n < 65536 then 3 else 4
def digs (n : Nat) : List Nat :=
  if n < 128 then [n] else if n < 2048 then [192 + n / 64, 128 + n % 64] else if n < 65536 then [224 + n / 4096, 128 + n / 64 % 64, 128 + n % 64]
  else [240 + n / 262144, 128 + n / 4096 % 64, 128 + n / 64 % 64, 128 + n % 64]
def bytesOf (n : Int) : List UInt8 := if letB n then (digs n.toNat).map UInt8.ofNat else []

theorem isC_iff {c : Nat} : isC c = true ↔ 128 ≤ c ∧ c < 192 := by unfold isC; simp
theorem letB_iff {n : Int} : letB n = true ↔ 1 ≤ n ∧ n ≤ 1114111 ∧ ¬ (55296 ≤ n ∧ n ≤ 57343) := by unfold letB; rw [decide_eq_true_iff]
theorem digs_len (n : Nat) : (digs n).length = lenOf n := by unfold digs lenOf; split <;> (try split) <;> (try split) <;> rfl
theorem digs_lt {n : Nat} (h : n ≤ 1114111) : ∀ x ∈ digs n, x < 256 := by
  unfold digs
  intro x hx
  split at hx
  · simp at hx; omega
  · split at hx
    · simp at hx; omega
    · split at hx
      · simp at hx; omega
      · simp at hx; omega
theorem lenOf_bd (n : Nat) : 1 ≤ lenOf n ∧ lenOf n ≤ 4 := by unfold lenOf; split <;> (try split) <;> (try split) <;> omega
theorem bytesOf_len {n : Int} (h : letB n = true) : (bytesOf n).length = lenOf n.toNat := by unfold bytesOf; rw [if_pos h]; simp [digs_len]
theorem bytesOf_none {n : Int} (h : letB n = false) : bytesOf n = [] := by unfold bytesOf; rw [if_neg (by simp [h])]
theorem bytesOf_get {n : Int} (h : letB n = true) (i : Nat) (hi : i < lenOf n.toNat) : ((bytesOf n).getD i 0).toNat = (digs n.toNat).getD i 0 := by
  have hl := letB_iff.1 h
  unfold bytesOf
  rw [if_pos h]
  have hi' : i < (digs n.toNat).length := by rw [digs_len]; exact hi
  have hlt := digs_lt (n := n.toNat) (by omega) _ (List.getElem_mem hi')
  simp [List.getD_eq_getElem?_getD, List.getElem?_map, List.getElem?_eq_getElem hi', UInt8.toNat_ofNat', Nat.mod_eq_of_lt hlt]

/-- (D) Where a letter's own bytes stand, there stands a letter of so many bytes. -/
theorem sz_of_bytes {s : ByteArray} {at_ : Nat} {n : Int} (h : letB n = true) (hs : at_ + lenOf n.toNat ≤ s.size) (hb : ∀ i, i < lenOf n.toNat → bAt s (at_ + i) = (digs n.toNat).getD i 0) :
    szAt s at_ = lenOf n.toNat := by
  have hl := letB_iff.1 h
  obtain ⟨m, rfl⟩ : ∃ m : Nat, n = (m : Int) := ⟨n.toNat, by omega⟩
  rw [Int.toNat_natCast] at *
  by_cases h1 : m < 128
  · have e1 : lenOf m = 1 := by unfold lenOf; rw [if_pos h1]
    have d : digs m = [m] := by unfold digs; rw [if_pos h1]
    rw [e1] at hb hs ⊢
    have b0 := hb 0 (by omega)
    rw [d] at b0
    simp at b0
    have hc : classOf (bAt s at_) = 1 := by unfold classOf; rw [if_pos (by omega)]
    unfold szAt
    rw [hc, if_neg (by omega), if_pos]
    simp [contB, okNum, numAt, leastOf]
    omega
  · by_cases h2 : m < 2048
    · have e1 : lenOf m = 2 := by unfold lenOf; rw [if_neg h1, if_pos h2]
      have d : digs m = [192 + m / 64, 128 + m % 64] := by unfold digs; rw [if_neg h1, if_pos h2]
      rw [e1] at hb hs ⊢
      have b0 := hb 0 (by omega)
      have b1 := hb 1 (by omega)
      rw [d] at b0 b1
      simp at b0 b1
      have hc : classOf (bAt s at_) = 2 := by unfold classOf; rw [if_neg (by omega), if_neg (by omega), if_pos (by omega)]
      unfold szAt
      rw [hc, if_neg (by omega), if_pos]
      simp [contB, okNum, numAt, leastOf, isC]
      omega
    · by_cases h3 : m < 65536
      · have e1 : lenOf m = 3 := by unfold lenOf; rw [if_neg h1, if_neg h2, if_pos h3]
        have d : digs m = [224 + m / 4096, 128 + m / 64 % 64, 128 + m % 64] := by unfold digs; rw [if_neg h1, if_neg h2, if_pos h3]
        rw [e1] at hb hs ⊢
        have b0 := hb 0 (by omega)
        have b1 := hb 1 (by omega)
        have b2 := hb 2 (by omega)
        rw [d] at b0 b1 b2
        simp at b0 b1 b2
        have hc : classOf (bAt s at_) = 3 := by unfold classOf; rw [if_neg (by omega), if_neg (by omega), if_neg (by omega), if_pos (by omega)]
        unfold szAt
        rw [hc, if_neg (by omega), if_pos]
        simp [contB, okNum, numAt, leastOf, isC]
        omega
      · have e1 : lenOf m = 4 := by unfold lenOf; rw [if_neg h1, if_neg h2, if_neg h3]
        have d : digs m = [240 + m / 262144, 128 + m / 4096 % 64, 128 + m / 64 % 64, 128 + m % 64] := by unfold digs; rw [if_neg h1, if_neg h2, if_neg h3]
        rw [e1] at hb hs ⊢
        have b0 := hb 0 (by omega)
        have b1 := hb 1 (by omega)
        have b2 := hb 2 (by omega)
        have b3 := hb 3 (by omega)
        rw [d] at b0 b1 b2 b3
        simp at b0 b1 b2 b3
        have hc : classOf (bAt s at_) = 4 := by unfold classOf; rw [if_neg (by omega), if_neg (by omega), if_neg (by omega), if_neg (by omega), if_pos (by omega)]
        unfold szAt
        rw [hc, if_neg (by omega), if_pos]
        simp [contB, okNum, numAt, leastOf, isC]
        omega

theorem sz_or (s : ByteArray) (at_ : Nat) : szAt s at_ = 0 ∨ (szAt s at_ = classOf (bAt s at_) ∧ 1 ≤ classOf (bAt s at_) ∧ at_ + classOf (bAt s at_) ≤ s.size ∧ contB s at_ (classOf (bAt s at_)) = true ∧ okNum (classOf (bAt s at_)) (numAt s at_ (classOf (bAt s at_))) = true) := by
  unfold szAt
  split
  · exact .inl rfl
  · rename_i h
    split
    · rename_i h2
      simp only [Bool.and_eq_true] at h2
      exact .inr ⟨rfl, by omega, by omega, h2.1, h2.2⟩
    · exact .inl rfl
theorem class_bd (a : Nat) : classOf a ≤ 4 := by unfold classOf; split <;> (try split) <;> (try split) <;> (try split) <;> (try split) <;> omega
theorem sz_bd (s : ByteArray) (at_ : Nat) : szAt s at_ ≤ 4 ∧ (szAt s at_ ≠ 0 → at_ + szAt s at_ ≤ s.size) := by
  rcases sz_or s at_ with h | ⟨h, h1, h2, _⟩
  · exact ⟨by omega, fun h' => absurd h h'⟩
  · have := class_bd (bAt s at_)
    exact ⟨by omega, fun _ => by omega⟩

/-- (E) A letter that stands somewhere is its number's. -/
theorem sz_num {s : ByteArray} {at_ : Nat} (h : szAt s at_ ≠ 0) :
    letB (numAt s at_ (szAt s at_) : Nat) = true ∧ lenOf (numAt s at_ (szAt s at_)) = szAt s at_ ∧ ∀ i, i < szAt s at_ → bAt s (at_ + i) = (digs (numAt s at_ (szAt s at_))).getD i 0 := by
  rcases sz_or s at_ with h' | ⟨e, h1, h2, hc, ho⟩
  · exact absurd h' h
  · rw [← e] at hc ho
    have hb := bAt_lt s at_
    have hb1 := bAt_lt s (at_ + 1)
    have hb2 := bAt_lt s (at_ + 2)
    have hb3 := bAt_lt s (at_ + 3)
    have hcl : (szAt s at_ = 1 ∧ bAt s at_ < 128) ∨ (szAt s at_ = 2 ∧ 192 ≤ bAt s at_ ∧ bAt s at_ < 224) ∨ (szAt s at_ = 3 ∧ 224 ≤ bAt s at_ ∧ bAt s at_ < 240) ∨ (szAt s at_ = 4 ∧ 240 ≤ bAt s at_ ∧ bAt s at_ < 248) := by
      rw [e]
      rw [e] at h
      unfold classOf at *
      split <;> (try split) <;> (try split) <;> (try split) <;> (try split) <;> (first | omega | simp_all)
    clear h1 h2 e h
    rcases hcl with ⟨k, h0⟩ | ⟨k, h0, h0'⟩ | ⟨k, h0, h0'⟩ | ⟨k, h0, h0'⟩
    · rw [k] at hc ho ⊢
      have n : numAt s at_ 1 = bAt s at_ := by unfold numAt; rw [if_pos rfl]
      rw [n] at ho ⊢
      simp [okNum, leastOf] at ho
      have hl : lenOf (bAt s at_) = 1 := by unfold lenOf; rw [if_pos h0]
      have hd : digs (bAt s at_) = [bAt s at_] := by unfold digs; rw [if_pos h0]
      refine ⟨letB_iff.2 ⟨by omega, by omega, by omega⟩, hl, fun i hi => ?_⟩
      obtain rfl : i = 0 := by omega
      rw [hd]; rfl
    · rw [k] at hc ho ⊢
      have n : numAt s at_ 2 = (bAt s at_ - 192) * 64 + (bAt s (at_ + 1) - 128) := rfl
      rw [n] at ho ⊢
      simp [contB, isC] at hc
      simp [okNum, leastOf] at ho
      have hl : lenOf ((bAt s at_ - 192) * 64 + (bAt s (at_ + 1) - 128)) = 2 := by unfold lenOf; rw [if_neg (by omega), if_pos (by omega)]
      have hd : digs ((bAt s at_ - 192) * 64 + (bAt s (at_ + 1) - 128)) = [bAt s at_, bAt s (at_ + 1)] := by
        unfold digs; rw [if_neg (by omega), if_pos (by omega)]
        simp only [List.cons.injEq, and_true]
        omega
      refine ⟨letB_iff.2 ⟨by omega, by omega, by omega⟩, hl, fun i hi => ?_⟩
      rw [hd]
      rcases (show i = 0 ∨ i = 1 by omega) with rfl | rfl <;> rfl
    · rw [k] at hc ho ⊢
      have n : numAt s at_ 3 = ((bAt s at_ - 224) * 64 + (bAt s (at_ + 1) - 128)) * 64 + (bAt s (at_ + 2) - 128) := rfl
      rw [n] at ho ⊢
      simp [contB, isC] at hc
      simp [okNum, leastOf] at ho
      have hl : lenOf (((bAt s at_ - 224) * 64 + (bAt s (at_ + 1) - 128)) * 64 + (bAt s (at_ + 2) - 128)) = 3 := by unfold lenOf; rw [if_neg (by omega), if_neg (by omega), if_pos (by omega)]
      have hd : digs (((bAt s at_ - 224) * 64 + (bAt s (at_ + 1) - 128)) * 64 + (bAt s (at_ + 2) - 128)) = [bAt s at_, bAt s (at_ + 1), bAt s (at_ + 2)] := by
        unfold digs; rw [if_neg (by omega), if_neg (by omega), if_pos (by omega)]
        simp only [List.cons.injEq, and_true]
        omega
      refine ⟨letB_iff.2 ⟨by omega, by omega, by omega⟩, hl, fun i hi => ?_⟩
      rw [hd]
      rcases (show i = 0 ∨ i = 1 ∨ i = 2 by omega) with rfl | rfl | rfl <;> rfl
    · rw [k] at hc ho ⊢
      have n : numAt s at_ 4 = (((bAt s at_ - 240) * 64 + (bAt s (at_ + 1) - 128)) * 64 + (bAt s (at_ + 2) - 128)) * 64 + (bAt s (at_ + 3) - 128) := rfl
      rw [n] at ho ⊢
      simp [contB, isC] at hc
      simp [okNum, leastOf] at ho
      have hl : lenOf ((((bAt s at_ - 240) * 64 + (bAt s (at_ + 1) - 128)) * 64 + (bAt s (at_ + 2) - 128)) * 64 + (bAt s (at_ + 3) - 128)) = 4 := by unfold lenOf; rw [if_neg (by omega), if_neg (by omega), if_neg (by omega)]
      have hd : digs ((((bAt s at_ - 240) * 64 + (bAt s (at_ + 1) - 128)) * 64 + (bAt s (at_ + 2) - 128)) * 64 + (bAt s (at_ + 3) - 128)) = [bAt s at_, bAt s (at_ + 1), bAt s (at_ + 2), bAt s (at_ + 3)] := by
        unfold digs; rw [if_neg (by omega), if_neg (by omega), if_neg (by omega)]
        simp only [List.cons.injEq, and_true]
        omega
      refine ⟨letB_iff.2 ⟨by omega, by omega, by omega⟩, hl, fun i hi => ?_⟩
      rw [hd]
      rcases (show i = 0 ∨ i = 1 ∨ i = 2 ∨ i = 3 by omega) with rfl | rfl | rfl | rfl <;> rfl
end Go.Proofs.YtnolnhpmpjgnaaaGreatDoor
namespace Go.Proofs.YtnolnhpmpjgnaaaGreatDoor
open Go.RowKit

theorem and63_fin : ∀ c : Fin 256, bits .and .u8 ((c.val : Nat) : Int) 63 = ((c.val % 64 : Nat) : Int) := by decide +kernel
theorem and192_fin : ∀ c : Fin 256, (bits .and .u8 ((c.val : Nat) : Int) 192 != 128) = !isC c.val := by decide +kernel
theorem and63 (c : Nat) (h : c < 256) : bits .and .u8 (c : Int) 63 = ((c % 64 : Nat) : Int) := and63_fin ⟨c, h⟩
theorem and192 (c : Nat) (h : c < 256) : (bits .and .u8 (c : Int) 192 != 128) = !isC c := and192_fin ⟨c, h⟩
theorem or_i64_nat (a b : Nat) (ha : a < 9223372036854775808) (hb : b < 9223372036854775808) : bits .or .i64 (a : Int) (b : Int) = ((a ||| b : Nat) : Int) := by
  have hx : a ||| b < 2 ^ 63 := Nat.or_lt_two_pow (by omega) (by omega)
  have h1 : (BitVec.ofInt 64 (a : Int)).toNat = a := by
    rw [BitVec.ofInt_natCast, BitVec.toNat_ofNat]; exact Nat.mod_eq_of_lt (by omega)
  have h2 : (BitVec.ofInt 64 (b : Int)).toNat = b := by
    rw [BitVec.ofInt_natCast, BitVec.toNat_ofNat]; exact Nat.mod_eq_of_lt (by omega)
  show IntKind.i64.wrap ((BitVec.ofInt 64 (a : Int) ||| BitVec.ofInt 64 (b : Int)).toNat : Int) = _
  rw [BitVec.toNat_or, h1, h2]
  exact IntWalk.i64_in _ (by omega)
theorem roll (n c : Nat) (hn : n < 100000000) (_hc : c < 256) : bits .or .i64 ((n : Int) * 64) ((c : Int) % 64) = ((n * 64 + c % 64 : Nat) : Int) := by
  have e : (c : Int) % 64 = ((c % 64 : Nat) : Int) := by omega
  have e2 : (n : Int) * 64 = ((n * 64 : Nat) : Int) := by omega
  rw [e, e2, or_i64_nat _ _ (by omega) (by omega)]
  have h := Nat.two_pow_add_eq_or_of_lt (i := 6) (b := c % 64) (by omega) n
  have e3 : n * 64 ||| c % 64 = n * 64 + c % 64 := by
    rw [show n * 64 = 2 ^ 6 * n by omega]
    exact h.symm
  rw [e3]

/-- The number of the first bytes. -/
def preN (s : ByteArray) (base : Nat) : Nat → Nat
  | 0 => 0
  | 1 => bAt s 0 - base
  | i + 2 => preN s base (i + 1) * 64 + (bAt s (i + 1) - 128)
def PreBd (i n : Nat) : Prop := i = 1 ∧ n < 32 ∨ i = 2 ∧ n < 2048 ∨ i = 3 ∧ n < 131072 ∨ i = 4 ∧ n < 8388608
theorem pre_step {s : ByteArray} {base i : Nat} (h1 : 1 ≤ i) (hc : isC (bAt s i) = true) : preN s base (i + 1) = preN s base i * 64 + bAt s i % 64 := by
  obtain ⟨k, rfl⟩ : ∃ k, i = k + 1 := ⟨i - 1, by omega⟩
  have h := isC_iff.1 hc
  show preN s base (k + 1) * 64 + (bAt s (k + 1) - 128) = _
  omega
theorem num_pre (s : ByteArray) : numAt s 0 2 = preN s 192 2 ∧ numAt s 0 3 = preN s 224 3 ∧ numAt s 0 4 = preN s 240 4 := ⟨rfl, rfl, rfl⟩
theorem class_of {a : Nat} : (a < 128 → classOf a = 1) ∧ (128 ≤ a → a < 192 → classOf a = 0) ∧ (192 ≤ a → a < 224 → classOf a = 2) ∧ (224 ≤ a → a < 240 → classOf a = 3) ∧ (240 ≤ a → a < 248 → classOf a = 4) ∧ (248 ≤ a → classOf a = 0) := by
  unfold classOf
  refine ⟨fun h => if_pos h, fun h1 h2 => ?_, fun h1 h2 => ?_, fun h1 h2 => ?_, fun h1 h2 => ?_, fun h1 => ?_⟩
  · rw [if_neg (by omega), if_pos (by omega)]
  · rw [if_neg (by omega), if_neg (by omega), if_pos (by omega)]
  · rw [if_neg (by omega), if_neg (by omega), if_neg (by omega), if_pos (by omega)]
  · rw [if_neg (by omega), if_neg (by omega), if_neg (by omega), if_neg (by omega), if_pos (by omega)]
  · rw [if_neg (by omega), if_neg (by omega), if_neg (by omega), if_neg (by omega), if_neg (by omega)]
theorem sz_zero {s : ByteArray} {at_ : Nat} (h : classOf (bAt s at_) = 0 ∨ s.size < at_ + classOf (bAt s at_)) : szAt s at_ = 0 := by unfold szAt; rw [if_pos h]
theorem sz_notC {s : ByteArray} {many i : Nat} (hm : classOf (bAt s 0) = many) (h1 : 1 ≤ i) (hi : i < many) (h4 : many ≤ 4) (hc : isC (bAt s i) = false) : szAt s 0 = 0 := by
  unfold szAt
  split
  · rfl
  · rw [hm, if_neg]
    simp only [Bool.and_eq_true, not_and]
    intro h
    exfalso
    unfold contB at h
    simp only [Nat.zero_add, Bool.and_eq_true, Bool.or_eq_true, decide_eq_true_eq] at h
    rcases (show i = 1 ∨ i = 2 ∨ i = 3 by omega) with rfl | rfl | rfl
    · rcases h.1.1 with h | h
      · omega
      · rw [hc] at h; cases h
    · rcases h.1.2 with h | h
      · omega
      · rw [hc] at h; cases h
    · rcases h.2 with h | h
      · omega
      · rw [hc] at h; cases h
theorem sz_whole {s : ByteArray} {many : Nat} (hm : classOf (bAt s 0) = many) (h1 : 1 ≤ many) (h4 : many ≤ 4) (hs : many ≤ s.size) (hc : ∀ j, 1 ≤ j → j < many → isC (bAt s j) = true) :
    szAt s 0 = if okNum many (numAt s 0 many) then many else 0 := by
  unfold szAt
  rw [hm, if_neg (by omega)]
  have e : contB s 0 many = true := by
    unfold contB
    simp only [Nat.zero_add, Bool.and_eq_true, Bool.or_eq_true, decide_eq_true_eq]
    refine ⟨⟨?_, ?_⟩, ?_⟩
    · by_cases h : many ≤ 1
      · exact .inl h
      · exact .inr (hc 1 (by omega) (by omega))
    · by_cases h : many ≤ 2
      · exact .inl h
      · exact .inr (hc 2 (by omega) (by omega))
    · by_cases h : many ≤ 3
      · exact .inl h
      · exact .inr (hc 3 (by omega) (by omega))
  rw [e, Bool.true_and]
theorem ok_iff {many n : Nat} : okNum many n = true ↔ leastOf many ≤ n ∧ n ≤ 1114111 ∧ ¬ (55296 ≤ n ∧ n ≤ 57343) := by unfold okNum; rw [decide_eq_true_iff]
end Go.Proofs.YtnolnhpmpjgnaaaGreatDoor
namespace Go.Proofs.YtnolnhpmpjgnaaaGreatDoor
open Go.RowKit Go.Extern.Stop Go.Stop Go.Extern

theorem ret_nat {a b : Nat} (h : a = b) : Ending.returned (.int .i64 (a : Int)) = .returned (.int .i64 (b : Int)) := by rw [h]
def SizeSays (s : ByteArray) (w : World) (x : Ending) (w' : World) : Prop := x = .returned (.int .i64 (szAt s 0 : Nat)) ∧ w = w'

set_option maxRecDepth 100000 in
theorem ut_size_1 (s : ByteArray) (w : World) (h0 : 0 < s.size) (ha : s[0].toNat < 128) : Calls Tryz.prog 136 #[.string s] w (SizeSays s w) := by
  have hb := bAt_get h0
  have hcl := class_of.1 (show bAt s 0 < 128 by omega)
  have hz := sz_whole hcl (by omega) (by omega) (by omega) (fun j h1 h2 => by omega)
  have hn : numAt s 0 1 = s[0].toNat := hb
  rw [hn] at hz
  have HZ := Lib.hid hz
  have hd : decide ((s[0].toNat : Int) < 128) = true := by simp; omega
  have hds : decide ((s.size : Int) < 1) = false := by simp; omega
  clear hz hcl hn hb
  by_cases h1 : s[0].toNat < 1
  · go_enter Tryz.func136, Tryz.ntmps136
    go_wp2
    go_loopg [5, 7] 1 (fun f x y wr => w = wr ∧ f = 1 ∧ x = .int .i64 (s[0].toNat : Nat) ∧ y = .int .i64 1)
    case atStart => exact ⟨rfl, rfl, rfl, rfl⟩
    case round =>
      obtain ⟨rfl, _, rfl, rfl⟩ := hrel
      go_wp2
      go_ret
      exact ⟨by rw [HZ.out, if_neg (by rw [ok_iff]; simp [leastOf]; omega)]; rfl, rfl⟩
  · go_enter Tryz.func136, Tryz.ntmps136
    go_wp2
    go_loopg [5, 7] 1 (fun f x y wr => w = wr ∧ f = 1 ∧ x = .int .i64 (s[0].toNat : Nat) ∧ y = .int .i64 1)
    case atStart => exact ⟨rfl, rfl, rfl, rfl⟩
    case round =>
      obtain ⟨rfl, _, rfl, rfl⟩ := hrel
      go_wp2
      go_ret
      exact ⟨by rw [HZ.out, if_pos (by rw [ok_iff]; simp [leastOf]; omega)]; rfl, rfl⟩

set_option maxRecDepth 100000 in
theorem ut_size_0 (s : ByteArray) (w : World) (h0 : 0 < s.size) (ha : 128 ≤ s[0].toNat ∧ s[0].toNat < 192 ∨ 248 ≤ s[0].toNat) : Calls Tryz.prog 136 #[.string s] w (SizeSays s w) := by
  have hb := bAt_get h0
  have hz : szAt s 0 = 0 := by
    rcases ha with ⟨h1, h2⟩ | h1
    · exact sz_zero (.inl (class_of.2.1 (by omega) (by omega)))
    · exact sz_zero (.inl (class_of.2.2.2.2.2 (by omega)))
  have HZ := Lib.hid hz
  clear hz hb
  rcases ha with ⟨h1, h2⟩ | h1
  · go_enter Tryz.func136, Tryz.ntmps136
    go_wp2
    go_ret
    exact ⟨ret_nat HZ.out.symm, rfl⟩
  · have gu : s[0].toNat < 256 := UInt8.toNat_lt _
    have g0 : 128 ≤ s[0].toNat := by omega
    have g1 : 192 ≤ s[0].toNat := by omega
    have g2 : 224 ≤ s[0].toNat := by omega
    have g3 : 240 ≤ s[0].toNat := by omega
    go_enter Tryz.func136, Tryz.ntmps136
    go_wp2
    go_ret
    exact ⟨ret_nat HZ.out.symm, rfl⟩

set_option maxRecDepth 100000 in
set_option maxHeartbeats 4000000 in
theorem ut_size_2 (s : ByteArray) (w : World) (h0 : 0 < s.size) (ha : 192 ≤ s[0].toNat) (ha2 : s[0].toNat < 224) (hm : s.size ≤ 9223372036854775807) : Calls Tryz.prog 136 #[.string s] w (SizeSays s w) := by
  have hb := bAt_get h0
  have hcl := class_of.2.2.1 (show 192 ≤ bAt s 0 by omega) (by omega)
  by_cases hs : 2 ≤ s.size
  · have HW := Lib.hid (fun hc => sz_whole hcl (by omega) (by omega) hs hc)
    have HN := Lib.hid (fun i h1 h2 => sz_notC (i := i) hcl h1 h2 (by omega))
    have hp : preN s 192 1 = s[0].toNat - 192 := by show bAt s 0 - 192 = _; rw [hb]
    have HP := Lib.hid hp
    have hd128 : decide ((s[0].toNat : Int) < 128) = false := by simp; omega
    have hd192 : decide ((s[0].toNat : Int) < 192) = false := by simp; omega
    have hd224 : decide ((s[0].toNat : Int) < 224) = true := by simp; omega
    have hds : decide ((s.size : Int) < 2) = false := by simp; omega
    clear hp hb hcl
    go_enter Tryz.func136, Tryz.ntmps136
    go_wp2
    go_loopg [5, 7] (2 - 1) (fun f x y wr => w = wr ∧ ∃ i n : Nat, f = 2 - i ∧ i ≤ 2 ∧ x = .int .i64 n ∧ y = .int .i64 i ∧ n = preN s 192 i ∧ PreBd i n ∧ ∀ j, 1 ≤ j → j < i → isC (bAt s j) = true)
    case atStart => exact ⟨rfl, 1, s[0].toNat - 192, rfl, by omega, by go_num, rfl, HP.out.symm, .inl ⟨rfl, by omega⟩, fun j h1 h2 => by omega⟩
    case round =>
      obtain ⟨rfl, i, n, rfl, hi, rfl, rfl, hn, hbd, hc⟩ := hrel
      have HX := Lib.hid hn
      have HC := Lib.hid hc
      clear hn hc HP
      rcases hbd with ⟨rfl, hn⟩ | ⟨rfl, hn⟩ | ⟨rfl, hn⟩ | ⟨rfl, hn⟩
      · have hlt' : 1 < s.size := by omega
        have hbi := bAt_get hlt'
        have hby : s[1].toNat < 256 := UInt8.toNat_lt _
        have hand := and192 s[1].toNat hby
        have hroll := roll n s[1].toNat (by omega) hby
        by_cases hcc : isC s[1].toNat = true
        · rw [hcc] at hand
          have hand' : (bits .and .u8 (s[1].toNat : Int) 192 != 128) = false := hand
          have hst := pre_step (s := s) (base := 192) (i := 1) (by omega) (by rw [hbi]; exact hcc)
          rw [hbi, ← HX.out] at hst
          have HS := Lib.hid hst
          have HR := Lib.hid hroll
          have HCC := Lib.hid hcc
          have HBI := Lib.hid hbi
          clear hand hroll hst hcc hbi
          go_wp2
          go_roundg (2 - 2)
          case rel => exact ⟨rfl, 2, n * 64 + s[1].toNat % 64, rfl, by omega, by rw [← HR.out], rfl, HS.out.symm, .inr (.inl ⟨rfl, by omega⟩), fun j h1 h2 => by
            by_cases hj : j = 1
            · subst hj; rw [HBI.out]; exact HCC.out
            · exact HC.out j h1 (by omega)⟩
          case measure => omega
        · have hcc' : isC s[1].toNat = false := by simpa using hcc
          rw [hcc'] at hand
          have hand' : (bits .and .u8 (s[1].toNat : Int) 192 != 128) = true := hand
          have hz := HN.out 1 (by omega) (by omega) (by rw [hbi]; exact hcc')
          have HZ := Lib.hid hz
          clear hand hroll hz hcc hcc' hbi
          go_wp2
          go_ret
          exact ⟨ret_nat HZ.out.symm, rfl⟩
      · have hz := HW.out HC.out
        have hnum : numAt s 0 2 = n := HX.out.symm
        rw [hnum] at hz
        have HZ := Lib.hid hz
        clear hz hnum
        by_cases h1 : n < 128
        · go_wp2
          all_goals go_ret
          all_goals exact ⟨by rw [HZ.out, if_neg (by rw [ok_iff]; simp [leastOf]; omega)]; rfl, rfl⟩
        · have h1' : 128 ≤ n := by omega
          by_cases h2 : 1114111 < n
          · go_wp2
            all_goals go_ret
            all_goals exact ⟨by rw [HZ.out, if_neg (by rw [ok_iff]; omega)]; rfl, rfl⟩
          · have h2' : n ≤ 1114111 := by omega
            by_cases h3 : n < 55296
            · go_wp2
              all_goals go_ret
              all_goals exact ⟨by rw [HZ.out, if_pos (by rw [ok_iff]; simp [leastOf]; omega)]; rfl, rfl⟩
            · have h3' : 55296 ≤ n := by omega
              by_cases h4 : n ≤ 57343
              · go_wp2
                all_goals go_ret
                all_goals exact ⟨by rw [HZ.out, if_neg (by rw [ok_iff]; omega)]; rfl, rfl⟩
              · have h4' : 57343 < n := by omega
                go_wp2
                all_goals go_ret
                all_goals exact ⟨by rw [HZ.out, if_pos (by rw [ok_iff]; simp [leastOf]; omega)]; rfl, rfl⟩
      · exact absurd hi (by omega)
      · exact absurd hi (by omega)
  · have hz : szAt s 0 = 0 := sz_zero (.inr (by rw [hcl]; omega))
    have HZ := Lib.hid hz
    have hs' : s.size < 2 := by omega
    clear hz hb hcl hs
    go_enter Tryz.func136, Tryz.ntmps136
    go_wp2
    go_ret
    exact ⟨ret_nat HZ.out.symm, rfl⟩

set_option maxRecDepth 100000 in
set_option maxHeartbeats 4000000 in
theorem ut_size_3 (s : ByteArray) (w : World) (h0 : 0 < s.size) (ha : 224 ≤ s[0].toNat) (ha2 : s[0].toNat < 240) (hm : s.size ≤ 9223372036854775807) : Calls Tryz.prog 136 #[.string s] w (SizeSays s w) := by
  have hb := bAt_get h0
  have hcl := class_of.2.2.2.1 (show 224 ≤ bAt s 0 by omega) (by omega)
  by_cases hs : 3 ≤ s.size
  · have HW := Lib.hid (fun hc => sz_whole hcl (by omega) (by omega) hs hc)
    have HN := Lib.hid (fun i h1 h2 => sz_notC (i := i) hcl h1 h2 (by omega))
    have hp : preN s 224 1 = s[0].toNat - 224 := by show bAt s 0 - 224 = _; rw [hb]
    have HP := Lib.hid hp
    have hd128 : decide ((s[0].toNat : Int) < 128) = false := by simp; omega
    have hd192 : decide ((s[0].toNat : Int) < 192) = false := by simp; omega
    have hd224 : decide ((s[0].toNat : Int) < 224) = false := by simp; omega
    have hd240 : decide ((s[0].toNat : Int) < 240) = true := by simp; omega
    have hds : decide ((s.size : Int) < 3) = false := by simp; omega
    clear hp hb hcl
    go_enter Tryz.func136, Tryz.ntmps136
    go_wp2
    go_loopg [5, 7] (3 - 1) (fun f x y wr => w = wr ∧ ∃ i n : Nat, f = 3 - i ∧ i ≤ 3 ∧ x = .int .i64 n ∧ y = .int .i64 i ∧ n = preN s 224 i ∧ PreBd i n ∧ ∀ j, 1 ≤ j → j < i → isC (bAt s j) = true)
    case atStart => exact ⟨rfl, 1, s[0].toNat - 224, rfl, by omega, by go_num, rfl, HP.out.symm, .inl ⟨rfl, by omega⟩, fun j h1 h2 => by omega⟩
    case round =>
      obtain ⟨rfl, i, n, rfl, hi, rfl, rfl, hn, hbd, hc⟩ := hrel
      have HX := Lib.hid hn
      have HC := Lib.hid hc
      clear hn hc HP
      rcases hbd with ⟨rfl, hn⟩ | ⟨rfl, hn⟩ | ⟨rfl, hn⟩ | ⟨rfl, hn⟩
      · have hlt' : 1 < s.size := by omega
        have hbi := bAt_get hlt'
        have hby : s[1].toNat < 256 := UInt8.toNat_lt _
        have hand := and192 s[1].toNat hby
        have hroll := roll n s[1].toNat (by omega) hby
        by_cases hcc : isC s[1].toNat = true
        · rw [hcc] at hand
          have hand' : (bits .and .u8 (s[1].toNat : Int) 192 != 128) = false := hand
          have hst := pre_step (s := s) (base := 224) (i := 1) (by omega) (by rw [hbi]; exact hcc)
          rw [hbi, ← HX.out] at hst
          have HS := Lib.hid hst
          have HR := Lib.hid hroll
          have HCC := Lib.hid hcc
          have HBI := Lib.hid hbi
          clear hand hroll hst hcc hbi
          go_wp2
          go_roundg (3 - 2)
          case rel => exact ⟨rfl, 2, n * 64 + s[1].toNat % 64, rfl, by omega, by rw [← HR.out], rfl, HS.out.symm, .inr (.inl ⟨rfl, by omega⟩), fun j h1 h2 => by
            by_cases hj : j = 1
            · subst hj; rw [HBI.out]; exact HCC.out
            · exact HC.out j h1 (by omega)⟩
          case measure => omega
        · have hcc' : isC s[1].toNat = false := by simpa using hcc
          rw [hcc'] at hand
          have hand' : (bits .and .u8 (s[1].toNat : Int) 192 != 128) = true := hand
          have hz := HN.out 1 (by omega) (by omega) (by rw [hbi]; exact hcc')
          have HZ := Lib.hid hz
          clear hand hroll hz hcc hcc' hbi
          go_wp2
          go_ret
          exact ⟨ret_nat HZ.out.symm, rfl⟩
      · have hlt' : 2 < s.size := by omega
        have hbi := bAt_get hlt'
        have hby : s[2].toNat < 256 := UInt8.toNat_lt _
        have hand := and192 s[2].toNat hby
        have hroll := roll n s[2].toNat (by omega) hby
        by_cases hcc : isC s[2].toNat = true
        · rw [hcc] at hand
          have hand' : (bits .and .u8 (s[2].toNat : Int) 192 != 128) = false := hand
          have hst := pre_step (s := s) (base := 224) (i := 2) (by omega) (by rw [hbi]; exact hcc)
          rw [hbi, ← HX.out] at hst
          have HS := Lib.hid hst
          have HR := Lib.hid hroll
          have HCC := Lib.hid hcc
          have HBI := Lib.hid hbi
          clear hand hroll hst hcc hbi
          go_wp2
          go_roundg (3 - 3)
          case rel => exact ⟨rfl, 3, n * 64 + s[2].toNat % 64, rfl, by omega, by rw [← HR.out], rfl, HS.out.symm, .inr (.inr (.inl ⟨rfl, by omega⟩)), fun j h1 h2 => by
            by_cases hj : j = 2
            · subst hj; rw [HBI.out]; exact HCC.out
            · exact HC.out j h1 (by omega)⟩
          case measure => omega
        · have hcc' : isC s[2].toNat = false := by simpa using hcc
          rw [hcc'] at hand
          have hand' : (bits .and .u8 (s[2].toNat : Int) 192 != 128) = true := hand
          have hz := HN.out 2 (by omega) (by omega) (by rw [hbi]; exact hcc')
          have HZ := Lib.hid hz
          clear hand hroll hz hcc hcc' hbi
          go_wp2
          go_ret
          exact ⟨ret_nat HZ.out.symm, rfl⟩
      · have hz := HW.out HC.out
        have hnum : numAt s 0 3 = n := HX.out.symm
        rw [hnum] at hz
        have HZ := Lib.hid hz
        clear hz hnum
        by_cases h1 : n < 2048
        · go_wp2
          all_goals go_ret
          all_goals exact ⟨by rw [HZ.out, if_neg (by rw [ok_iff]; simp [leastOf]; omega)]; rfl, rfl⟩
        · have h1' : 2048 ≤ n := by omega
          by_cases h2 : 1114111 < n
          · go_wp2
            all_goals go_ret
            all_goals exact ⟨by rw [HZ.out, if_neg (by rw [ok_iff]; omega)]; rfl, rfl⟩
          · have h2' : n ≤ 1114111 := by omega
            by_cases h3 : n < 55296
            · go_wp2
              all_goals go_ret
              all_goals exact ⟨by rw [HZ.out, if_pos (by rw [ok_iff]; simp [leastOf]; omega)]; rfl, rfl⟩
            · have h3' : 55296 ≤ n := by omega
              by_cases h4 : n ≤ 57343
              · go_wp2
                all_goals go_ret
                all_goals exact ⟨by rw [HZ.out, if_neg (by rw [ok_iff]; omega)]; rfl, rfl⟩
              · have h4' : 57343 < n := by omega
                go_wp2
                all_goals go_ret
                all_goals exact ⟨by rw [HZ.out, if_pos (by rw [ok_iff]; simp [leastOf]; omega)]; rfl, rfl⟩
      · exact absurd hi (by omega)
  · have hz : szAt s 0 = 0 := sz_zero (.inr (by rw [hcl]; omega))
    have HZ := Lib.hid hz
    have hs' : s.size < 3 := by omega
    clear hz hb hcl hs
    go_enter Tryz.func136, Tryz.ntmps136
    go_wp2
    go_ret
    exact ⟨ret_nat HZ.out.symm, rfl⟩

set_option maxRecDepth 100000 in
set_option maxHeartbeats 4000000 in
theorem ut_size_4 (s : ByteArray) (w : World) (h0 : 0 < s.size) (ha : 240 ≤ s[0].toNat) (ha2 : s[0].toNat < 248) (hm : s.size ≤ 9223372036854775807) : Calls Tryz.prog 136 #[.string s] w (SizeSays s w) := by
  have hb := bAt_get h0
  have hcl := class_of.2.2.2.2.1 (show 240 ≤ bAt s 0 by omega) (by omega)
  by_cases hs : 4 ≤ s.size
  · have HW := Lib.hid (fun hc => sz_whole hcl (by omega) (by omega) hs hc)
    have HN := Lib.hid (fun i h1 h2 => sz_notC (i := i) hcl h1 h2 (by omega))
    have hp : preN s 240 1 = s[0].toNat - 240 := by show bAt s 0 - 240 = _; rw [hb]
    have HP := Lib.hid hp
    have hd128 : decide ((s[0].toNat : Int) < 128) = false := by simp; omega
    have hd192 : decide ((s[0].toNat : Int) < 192) = false := by simp; omega
    have hd224 : decide ((s[0].toNat : Int) < 224) = false := by simp; omega
    have hd240 : decide ((s[0].toNat : Int) < 240) = false := by simp; omega
    have hd248 : decide ((s[0].toNat : Int) < 248) = true := by simp; omega
    have hds : decide ((s.size : Int) < 4) = false := by simp; omega
    clear hp hb hcl
    go_enter Tryz.func136, Tryz.ntmps136
    go_wp2
    go_loopg [5, 7] (4 - 1) (fun f x y wr => w = wr ∧ ∃ i n : Nat, f = 4 - i ∧ i ≤ 4 ∧ x = .int .i64 n ∧ y = .int .i64 i ∧ n = preN s 240 i ∧ PreBd i n ∧ ∀ j, 1 ≤ j → j < i → isC (bAt s j) = true)
    case atStart => exact ⟨rfl, 1, s[0].toNat - 240, rfl, by omega, by go_num, rfl, HP.out.symm, .inl ⟨rfl, by omega⟩, fun j h1 h2 => by omega⟩
    case round =>
      obtain ⟨rfl, i, n, rfl, hi, rfl, rfl, hn, hbd, hc⟩ := hrel
      have HX := Lib.hid hn
      have HC := Lib.hid hc
      clear hn hc HP
      rcases hbd with ⟨rfl, hn⟩ | ⟨rfl, hn⟩ | ⟨rfl, hn⟩ | ⟨rfl, hn⟩
      · have hlt' : 1 < s.size := by omega
        have hbi := bAt_get hlt'
        have hby : s[1].toNat < 256 := UInt8.toNat_lt _
        have hand := and192 s[1].toNat hby
        have hroll := roll n s[1].toNat (by omega) hby
        by_cases hcc : isC s[1].toNat = true
        · rw [hcc] at hand
          have hand' : (bits .and .u8 (s[1].toNat : Int) 192 != 128) = false := hand
          have hst := pre_step (s := s) (base := 240) (i := 1) (by omega) (by rw [hbi]; exact hcc)
          rw [hbi, ← HX.out] at hst
          have HS := Lib.hid hst
          have HR := Lib.hid hroll
          have HCC := Lib.hid hcc
          have HBI := Lib.hid hbi
          clear hand hroll hst hcc hbi
          go_wp2
          go_roundg (4 - 2)
          case rel => exact ⟨rfl, 2, n * 64 + s[1].toNat % 64, rfl, by omega, by rw [← HR.out], rfl, HS.out.symm, .inr (.inl ⟨rfl, by omega⟩), fun j h1 h2 => by
            by_cases hj : j = 1
            · subst hj; rw [HBI.out]; exact HCC.out
            · exact HC.out j h1 (by omega)⟩
          case measure => omega
        · have hcc' : isC s[1].toNat = false := by simpa using hcc
          rw [hcc'] at hand
          have hand' : (bits .and .u8 (s[1].toNat : Int) 192 != 128) = true := hand
          have hz := HN.out 1 (by omega) (by omega) (by rw [hbi]; exact hcc')
          have HZ := Lib.hid hz
          clear hand hroll hz hcc hcc' hbi
          go_wp2
          go_ret
          exact ⟨ret_nat HZ.out.symm, rfl⟩
      · have hlt' : 2 < s.size := by omega
        have hbi := bAt_get hlt'
        have hby : s[2].toNat < 256 := UInt8.toNat_lt _
        have hand := and192 s[2].toNat hby
        have hroll := roll n s[2].toNat (by omega) hby
        by_cases hcc : isC s[2].toNat = true
        · rw [hcc] at hand
          have hand' : (bits .and .u8 (s[2].toNat : Int) 192 != 128) = false := hand
          have hst := pre_step (s := s) (base := 240) (i := 2) (by omega) (by rw [hbi]; exact hcc)
          rw [hbi, ← HX.out] at hst
          have HS := Lib.hid hst
          have HR := Lib.hid hroll
          have HCC := Lib.hid hcc
          have HBI := Lib.hid hbi
          clear hand hroll hst hcc hbi
          go_wp2
          go_roundg (4 - 3)
          case rel => exact ⟨rfl, 3, n * 64 + s[2].toNat % 64, rfl, by omega, by rw [← HR.out], rfl, HS.out.symm, .inr (.inr (.inl ⟨rfl, by omega⟩)), fun j h1 h2 => by
            by_cases hj : j = 2
            · subst hj; rw [HBI.out]; exact HCC.out
            · exact HC.out j h1 (by omega)⟩
          case measure => omega
        · have hcc' : isC s[2].toNat = false := by simpa using hcc
          rw [hcc'] at hand
          have hand' : (bits .and .u8 (s[2].toNat : Int) 192 != 128) = true := hand
          have hz := HN.out 2 (by omega) (by omega) (by rw [hbi]; exact hcc')
          have HZ := Lib.hid hz
          clear hand hroll hz hcc hcc' hbi
          go_wp2
          go_ret
          exact ⟨ret_nat HZ.out.symm, rfl⟩
      · have hlt' : 3 < s.size := by omega
        have hbi := bAt_get hlt'
        have hby : s[3].toNat < 256 := UInt8.toNat_lt _
        have hand := and192 s[3].toNat hby
        have hroll := roll n s[3].toNat (by omega) hby
        by_cases hcc : isC s[3].toNat = true
        · rw [hcc] at hand
          have hand' : (bits .and .u8 (s[3].toNat : Int) 192 != 128) = false := hand
          have hst := pre_step (s := s) (base := 240) (i := 3) (by omega) (by rw [hbi]; exact hcc)
          rw [hbi, ← HX.out] at hst
          have HS := Lib.hid hst
          have HR := Lib.hid hroll
          have HCC := Lib.hid hcc
          have HBI := Lib.hid hbi
          clear hand hroll hst hcc hbi
          go_wp2
          go_roundg (4 - 4)
          case rel => exact ⟨rfl, 4, n * 64 + s[3].toNat % 64, rfl, by omega, by rw [← HR.out], rfl, HS.out.symm, .inr (.inr (.inr (⟨rfl, by omega⟩))), fun j h1 h2 => by
            by_cases hj : j = 3
            · subst hj; rw [HBI.out]; exact HCC.out
            · exact HC.out j h1 (by omega)⟩
          case measure => omega
        · have hcc' : isC s[3].toNat = false := by simpa using hcc
          rw [hcc'] at hand
          have hand' : (bits .and .u8 (s[3].toNat : Int) 192 != 128) = true := hand
          have hz := HN.out 3 (by omega) (by omega) (by rw [hbi]; exact hcc')
          have HZ := Lib.hid hz
          clear hand hroll hz hcc hcc' hbi
          go_wp2
          go_ret
          exact ⟨ret_nat HZ.out.symm, rfl⟩
      · have hz := HW.out HC.out
        have hnum : numAt s 0 4 = n := HX.out.symm
        rw [hnum] at hz
        have HZ := Lib.hid hz
        clear hz hnum
        by_cases h1 : n < 65536
        · go_wp2
          all_goals go_ret
          all_goals exact ⟨by rw [HZ.out, if_neg (by rw [ok_iff]; simp [leastOf]; omega)]; rfl, rfl⟩
        · have h1' : 65536 ≤ n := by omega
          by_cases h2 : 1114111 < n
          · go_wp2
            all_goals go_ret
            all_goals exact ⟨by rw [HZ.out, if_neg (by rw [ok_iff]; omega)]; rfl, rfl⟩
          · have h2' : n ≤ 1114111 := by omega
            by_cases h3 : n < 55296
            · go_wp2
              all_goals go_ret
              all_goals exact ⟨by rw [HZ.out, if_pos (by rw [ok_iff]; simp [leastOf]; omega)]; rfl, rfl⟩
            · have h3' : 55296 ≤ n := by omega
              by_cases h4 : n ≤ 57343
              · go_wp2
                all_goals go_ret
                all_goals exact ⟨by rw [HZ.out, if_neg (by rw [ok_iff]; omega)]; rfl, rfl⟩
              · have h4' : 57343 < n := by omega
                go_wp2
                all_goals go_ret
                all_goals exact ⟨by rw [HZ.out, if_pos (by rw [ok_iff]; simp [leastOf]; omega)]; rfl, rfl⟩
  · have hz : szAt s 0 = 0 := sz_zero (.inr (by rw [hcl]; omega))
    have HZ := Lib.hid hz
    have hs' : s.size < 4 := by omega
    clear hz hb hcl hs
    go_enter Tryz.func136, Tryz.ntmps136
    go_wp2
    go_ret
    exact ⟨ret_nat HZ.out.symm, rfl⟩

theorem ut_size (s : ByteArray) (w : World) (h0 : 0 < s.size) (hm : s.size ≤ 9223372036854775807) : Calls Tryz.prog 136 #[.string s] w (SizeSays s w) := by
  by_cases h1 : s[0].toNat < 128
  · exact ut_size_1 s w h0 h1
  · by_cases h2 : s[0].toNat < 192
    · exact ut_size_0 s w h0 (.inl ⟨by omega, h2⟩)
    · by_cases h3 : s[0].toNat < 224
      · exact ut_size_2 s w h0 (by omega) h3 hm
      · by_cases h4 : s[0].toNat < 240
        · exact ut_size_3 s w h0 (by omega) h4 hm
        · by_cases h5 : s[0].toNat < 248
          · exact ut_size_4 s w h0 (by omega) h5 hm
          · exact ut_size_0 s w h0 (.inr (by omega))
end Go.Proofs.YtnolnhpmpjgnaaaGreatDoor
namespace Go.Proofs.YtnolnhpmpjgnaaaGreatDoor
open Go.RowKit Go.Extern.Stop Go.Stop Go.Extern

theorem bAt_extract {s : ByteArray} {a b i : Nat} (h : a + i < b) : bAt (s.extract a b) i = bAt s (a + i) := by
  unfold bAt
  have e : (s.extract a b).data.toList = (s.data.toList.drop a).take (b - a) := by simp [ByteArray.data_extract]
  rw [e, List.getD_eq_getElem?_getD, List.getD_eq_getElem?_getD, List.getElem?_take_of_lt (by omega), List.getElem?_drop]
theorem size_tail {s : ByteArray} {a : Nat} : (s.extract a s.size).size = s.size - a := by simp
/-- The letter at the head of what is left is the one that stands there. -/
theorem sz_cong {s t : ByteArray} {a b : Nat} (h : ∀ i, i < 4 → a + i < s.size → bAt t (b + i) = bAt s (a + i)) (hz : t.size - b = s.size - a) (ha : a < s.size) : szAt t b = szAt s a := by
  have h0 := h 0 (by omega) (by omega)
  simp only [Nat.add_zero] at h0
  unfold szAt
  rw [h0]
  by_cases hc : classOf (bAt s a) = 0 ∨ s.size < a + classOf (bAt s a)
  · rw [if_pos hc, if_pos (by omega)]
  · have h1 : 2 ≤ classOf (bAt s a) → bAt t (b + 1) = bAt s (a + 1) := fun _ => h 1 (by omega) (by omega)
    have h2 : 3 ≤ classOf (bAt s a) → bAt t (b + 2) = bAt s (a + 2) := fun _ => h 2 (by omega) (by omega)
    have h3 : 4 ≤ classOf (bAt s a) → bAt t (b + 3) = bAt s (a + 3) := fun _ => h 3 (by omega) (by omega)
    rw [if_neg hc, if_neg (by omega)]
    have hb := class_bd (bAt s a)
    have ec : contB t b (classOf (bAt s a)) = contB s a (classOf (bAt s a)) := by
      unfold contB
      generalize classOf (bAt s a) = k at *
      rcases (show k = 0 ∨ k = 1 ∨ k = 2 ∨ k = 3 ∨ k = 4 by omega) with rfl | rfl | rfl | rfl | rfl
      · rfl
      · rfl
      · rw [h1 (by omega)]; rfl
      · rw [h1 (by omega), h2 (by omega)]; rfl
      · rw [h1 (by omega), h2 (by omega), h3 (by omega)]
    have en : numAt t b (classOf (bAt s a)) = numAt s a (classOf (bAt s a)) := by
      unfold numAt
      generalize classOf (bAt s a) = k at *
      rcases (show k = 0 ∨ k = 1 ∨ k = 2 ∨ k = 3 ∨ k = 4 by omega) with rfl | rfl | rfl | rfl | rfl
      · omega
      · simp [h0]
      · simp [h0, h1]
      · simp [h0, h1, h2]
      · simp [h0, h1, h2, h3]
    rw [ec, en]
theorem sz_tail {s : ByteArray} {a : Nat} (ha : a < s.size) : szAt (s.extract a s.size) 0 = szAt s a := by
  refine sz_cong (s := s) (a := a) (b := 0) (fun i _ hi => ?_) (by rw [size_tail]; omega) ha
  rw [Nat.zero_add, bAt_extract (by omega)]

/-- The walk: where it comes to, and how many letters it met. -/
def walkF (s : ByteArray) : Nat → Nat → Nat → Nat × Nat
  | 0, a, n => (a, n)
  | f + 1, a, n => if a < s.size ∧ szAt s a ≠ 0 then walkF s f (a + szAt s a) (n + 1) else (a, n)
def cutOf (s : ByteArray) : Nat := (walkF s s.size 0 0).1
def lettersOf (s : ByteArray) : Nat := (walkF s s.size 0 0).2
/-- The check: the error's number, and where. -/
def checkOf (s : ByteArray) : Nat × Nat := if 65535 < s.size then (4, 65535) else if cutOf s < s.size then (2, cutOf s) else (0, 0)
theorem walk_more {s : ByteArray} {f a n : Nat} (h : a < s.size) (hz : szAt s a ≠ 0) : walkF s (f + 1) a n = walkF s f (a + szAt s a) (n + 1) := by rw [walkF, if_pos ⟨h, hz⟩]
theorem walk_end {s : ByteArray} {f a n : Nat} (h : ¬ (a < s.size ∧ szAt s a ≠ 0)) : walkF s f a n = (a, n) := by
  cases f with
  | zero => rfl
  | succ f => rw [walkF, if_neg h]
theorem walk_bd {s : ByteArray} {f a n : Nat} (h : a ≤ s.size) : a ≤ (walkF s f a n).1 ∧ (walkF s f a n).1 ≤ s.size ∧ n ≤ (walkF s f a n).2 := by
  induction f generalizing a n with
  | zero => exact ⟨Nat.le_refl _, h, Nat.le_refl _⟩
  | succ f ih =>
    by_cases hc : a < s.size ∧ szAt s a ≠ 0
    · rw [walk_more hc.1 hc.2]
      have := (sz_bd s a).2 hc.2
      have := ih (a := a + szAt s a) (n := n + 1) (by omega)
      omega
    · rw [walk_end hc]
      exact ⟨Nat.le_refl _, h, Nat.le_refl _⟩
theorem cut_le (s : ByteArray) : cutOf s ≤ s.size := (walk_bd (Nat.zero_le _)).2.1

def WalkSays (s : ByteArray) (w : World) (x : Ending) (w' : World) : Prop := x = .returned (.tuple #[.int .i64 (cutOf s : Nat), .int .i64 (lettersOf s : Nat)]) ∧ w = w'
set_option maxRecDepth 100000 in
set_option maxHeartbeats 4000000 in
theorem ut_walk (s : ByteArray) (w : World) (hm : s.size ≤ 4611686018427387903) : Calls Tryz.prog 135 #[.string s] w (WalkSays s w) := by
  have HF := Lib.hid (show walkF s s.size 0 0 = (cutOf s, lettersOf s) from rfl)
  go_enter Tryz.func135, Tryz.ntmps135
  go_wp2
  go_loopg [2, 3] s.size (fun f x y wr => w = wr ∧ ∃ a n : Nat, x = .int .i64 a ∧ y = .int .i64 n ∧ a ≤ s.size ∧ n ≤ a ∧ s.size ≤ a + f ∧ walkF s f a n = (cutOf s, lettersOf s))
  case atStart => exact ⟨rfl, 0, 0, rfl, rfl, Nat.zero_le _, Nat.le_refl _, by omega, HF.out⟩
  case round =>
    obtain ⟨rfl, a, n, rfl, rfl, ha, hn, hf, hv⟩ := hrel
    have HV := Lib.hid hv
    clear hv HF
    by_cases hlt : a < s.size
    · have hd := (sz_bd s a)
      have HS := Lib.hid (fun w => ut_size (s.extract a s.size) w (by rw [size_tail]; omega) (by rw [size_tail]; omega))
      have het := sz_tail hlt
      unfold SizeSays at HS
      rw [het] at HS
      clear het
      by_cases hz : szAt s a = 0
      · have hend := walk_end (s := s) (f := gk) (a := a) (n := n) (by omega)
        rw [HV.out] at hend
        have HEN := Lib.hid hend
        rw [hz] at HS
        have HS0 : ∀ w, Calls Tryz.prog 136 #[.string (s.extract a s.size)] w (fun x w' => x = .returned (.int .i64 0) ∧ w = w') := HS.out
        have HS1 := Lib.hid HS0
        clear hend hz hd HS HS0
        go_wp2_with fail
        refine (HS1.out _).mono ?_
        rintro x w1 ⟨rfl, rfl⟩
        go_wp2
        go_ret2
        exact ⟨by rw [Prod.mk.injEq] at HEN; rw [HEN.out.1, HEN.out.2]; rfl, rfl⟩
      · obtain ⟨g, rfl⟩ : ∃ g, gk = g + 1 := ⟨gk - 1, by omega⟩
        have hst := walk_more (s := s) (f := g) (a := a) (n := n) hlt hz
        rw [HV.out] at hst
        have HST := Lib.hid hst
        have hd2 := hd.2 hz
        have hd1 := hd.1
        have hz1 : 1 ≤ szAt s a := by omega
        clear hst hd hz
        generalize szAt s a = k at *
        have hk0 : ((k : Int) == 0) = false := beq_eq_false_iff_ne.2 (by omega)
        go_wp2_with fail
        refine (HS.out _).mono ?_
        rintro x w1 ⟨rfl, rfl⟩
        go_wp2
        go_roundg g
        case rel => exact ⟨rfl, a + k, n + 1, by go_num, by go_num, by omega, by omega, by omega, HST.out.symm⟩
        case measure => omega
    · have hend := walk_end (s := s) (f := gk) (a := a) (n := n) (by omega)
      rw [HV.out] at hend
      have HEN := Lib.hid hend
      clear hend
      go_wp2
      go_ret2
      exact ⟨by rw [Prod.mk.injEq] at HEN; rw [HEN.out.1, HEN.out.2]; rfl, rfl⟩

theorem ut_cut (s : ByteArray) (w : World) (hm : s.size ≤ 4611686018427387903) : Calls Tryz.prog 134 #[.string s] w fun x w' => x = .returned (.int .i64 (cutOf s : Nat)) ∧ w = w' := by
  have H := Lib.hid (fun w => ut_walk s w hm)
  unfold WalkSays at H
  generalize cutOf s = c at *
  generalize lettersOf s = n at *
  go_enter Tryz.func134, Tryz.ntmps134
  go_wp2_with fail
  refine (H.out _).mono ?_
  rintro x w1 ⟨rfl, rfl⟩
  go_wp2
  go_ret
  exact ⟨rfl, rfl⟩

/-- What a check answers. -/
def Checked (w : World) (S : Nat → Addr) (c : Nat × Nat) (x : Ending) (w' : World) : Prop := ∃ e, x = .returned e ∧ ErrOf w' S 129 c.1 c.2 e ∧ Below w.heap.size w w'
theorem ut_check (S : Nat → Addr) (s : ByteArray) (w : World) (h : Env w S) (hm : s.size ≤ 4611686018427387903) : Calls Tryz.prog 129 #[.string s] w (Checked w S (checkOf s)) := by
  have HC := Lib.hid (fun w => ut_cut s w hm)
  have hcl := cut_le s
  unfold checkOf
  generalize cutOf s = c at *
  by_cases h1 : 65535 < s.size
  · have hk := h.kTooLarge
    rw [if_pos h1]
    go_enter Tryz.func129, Tryz.ntmps129
    go_wp2_with fail
    refine (new_err S 3 129 65535).mono ?_
    rintro x w1 ⟨e, rfl, he, hb⟩
    clear hk
    go_wp2
    go_ret
    exact ⟨e, rfl, ErrOf.some (by simp) (by simp) he, hb⟩
  · rw [if_neg h1]
    have h1' : s.size ≤ 65535 := by omega
    by_cases h2 : c < s.size
    · have hk := h.kMalformed
      rw [if_pos h2]
      clear h1
      go_enter Tryz.func129, Tryz.ntmps129
      go_wp2_with fail
      refine (HC.out _).mono ?_
      rintro x w1 ⟨rfl, rfl⟩
      go_wp2_with fail
      refine (new_err S 1 129 c).mono ?_
      rintro x w1 ⟨e, rfl, he, hb⟩
      clear hk
      go_wp2
      go_ret
      exact ⟨e, rfl, ErrOf.some (by simp) (by simp) he, hb⟩
    · rw [if_neg h2]
      have h2' : s.size ≤ c := by omega
      clear h1 h2
      go_enter Tryz.func129, Tryz.ntmps129
      go_wp2_with fail
      refine (HC.out _).mono ?_
      rintro x w1 ⟨rfl, rfl⟩
      go_wp2
      go_ret
      exact ⟨_, rfl, ErrOf.none, Below.refl _ _⟩

def LetterSays3 (w : World) (S : Nat → Addr) (c : Nat × Nat) (n : Nat) (x : Ending) (w' : World) : Prop := ∃ e, x = .returned (.tuple #[.int .i64 (if c.1 = 0 then n else 0 : Nat), e]) ∧ ErrOf w' S 129 c.1 c.2 e ∧ Below w.heap.size w w'
end Go.Proofs.YtnolnhpmpjgnaaaGreatDoor
