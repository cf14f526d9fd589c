/- What is proved here, on plain numbers: what the bit operations on a byte come to, and what a letter's size is by its class. No conditions. -/
import Derived.Test.YtfmkeapbddhndaaDoorUtf03
import Derived.IntWalk
import Derived.Laws.Bits64b
namespace Go.Proofs.YtfmkeapbddhndaaDoor
open Go.RowKit

theorem and63_fin : ∀ c : Fin 256, bits .and .u8 ((c.val : Nat) : Int) 63 = ((c.val % 64 : Nat) : Int) := by decide +kernel
theorem and192_fin : ∀ c : Fin 256, (bits .and .u8 ((c.val : Nat) : Int) 192 != 128) = !isC c.val := by decide +kernel
theorem and63 (c : Nat) (h : c < 256) : bits .and .u8 (c : Int) 63 = ((c % 64 : Nat) : Int) := and63_fin ⟨c, h⟩
theorem and192 (c : Nat) (h : c < 256) : (bits .and .u8 (c : Int) 192 != 128) = !isC c := and192_fin ⟨c, h⟩
theorem or_i64_nat (a b : Nat) (ha : a < 9223372036854775808) (hb : b < 9223372036854775808) : bits .or .i64 (a : Int) (b : Int) = ((a ||| b : Nat) : Int) := by
  have hx : a ||| b < 2 ^ 63 := Nat.or_lt_two_pow (by omega) (by omega)
  have h1 : (BitVec.ofInt 64 (a : Int)).toNat = a := by
    rw [BitVec.ofInt_natCast, BitVec.toNat_ofNat]; exact Nat.mod_eq_of_lt (by omega)
  have h2 : (BitVec.ofInt 64 (b : Int)).toNat = b := by
    rw [BitVec.ofInt_natCast, BitVec.toNat_ofNat]; exact Nat.mod_eq_of_lt (by omega)
  show IntKind.i64.wrap ((BitVec.ofInt 64 (a : Int) ||| BitVec.ofInt 64 (b : Int)).toNat : Int) = _
  rw [BitVec.toNat_or, h1, h2]
  exact IntWalk.i64_in _ (by omega)
theorem roll (n c : Nat) (hn : n < 100000000) (_hc : c < 256) : bits .or .i64 ((n : Int) * 64) ((c : Int) % 64) = ((n * 64 + c % 64 : Nat) : Int) := by
  have e : (c : Int) % 64 = ((c % 64 : Nat) : Int) := by omega
  have e2 : (n : Int) * 64 = ((n * 64 : Nat) : Int) := by omega
  rw [e, e2, or_i64_nat _ _ (by omega) (by omega)]
  have h := Nat.two_pow_add_eq_or_of_lt (i := 6) (b := c % 64) (by omega) n
  have e3 : n * 64 ||| c % 64 = n * 64 + c % 64 := by
    rw [show n * 64 = 2 ^ 6 * n by omega]
    exact h.symm
  rw [e3]

/-- The number of the first bytes. -/
def preN (s : ByteArray) (base : Nat) : Nat → Nat
  | 0 => 0
  | 1 => bAt s 0 - base
  | i + 2 => preN s base (i + 1) * 64 + (bAt s (i + 1) - 128)
def PreBd (i n : Nat) : Prop := i = 1 ∧ n < 32 ∨ i = 2 ∧ n < 2048 ∨ i = 3 ∧ n < 131072 ∨ i = 4 ∧ n < 8388608
theorem pre_step {s : ByteArray} {base i : Nat} (h1 : 1 ≤ i) (hc : isC (bAt s i) = true) : preN s base (i + 1) = preN s base i * 64 + bAt s i % 64 := by
  obtain ⟨k, rfl⟩ : ∃ k, i = k + 1 := ⟨i - 1, by omega⟩
  have h := isC_iff.1 hc
  show preN s base (k + 1) * 64 + (bAt s (k + 1) - 128) = _
  omega
theorem num_pre (s : ByteArray) : numAt s 0 2 = preN s 192 2 ∧ numAt s 0 3 = preN s 224 3 ∧ numAt s 0 4 = preN s 240 4 := ⟨rfl, rfl, rfl⟩
theorem class_of {a : Nat} : (a < 128 → classOf a = 1) ∧ (128 ≤ a → a < 192 → classOf a = 0) ∧ (192 ≤ a → a < 224 → classOf a = 2) ∧ (224 ≤ a → a < 240 → classOf a = 3) ∧ (240 ≤ a → a < 248 → classOf a = 4) ∧ (248 ≤ a → classOf a = 0) := by
  unfold classOf
  refine ⟨fun h => if_pos h, fun h1 h2 => ?_, fun h1 h2 => ?_, fun h1 h2 => ?_, fun h1 h2 => ?_, fun h1 => ?_⟩
  · rw [if_neg (by omega), if_pos (by omega)]
  · rw [if_neg (by omega), if_neg (by omega), if_pos (by omega)]
  · rw [if_neg (by omega), if_neg (by omega), if_neg (by omega), if_pos (by omega)]
  · rw [if_neg (by omega), if_neg (by omega), if_neg (by omega), if_neg (by omega), if_pos (by omega)]
  · rw [if_neg (by omega), if_neg (by omega), if_neg (by omega), if_neg (by omega), if_neg (by omega)]
theorem sz_zero {s : ByteArray} {at_ : Nat} (h : classOf (bAt s at_) = 0 ∨ s.size < at_ + classOf (bAt s at_)) : szAt s at_ = 0 := by unfold szAt; rw [if_pos h]
theorem sz_notC {s : ByteArray} {many i : Nat} (hm : classOf (bAt s 0) = many) (h1 : 1 ≤ i) (hi : i < many) (h4 : many ≤ 4) (hc : isC (bAt s i) = false) : szAt s 0 = 0 := by
  unfold szAt
  split
  · rfl
  · rw [hm, if_neg]
    simp only [Bool.and_eq_true, not_and]
    intro h
    exfalso
    unfold contB at h
    simp only [Nat.zero_add, Bool.and_eq_true, Bool.or_eq_true, decide_eq_true_eq] at h
    rcases (show i = 1 ∨ i = 2 ∨ i = 3 by omega) with rfl | rfl | rfl
    · rcases h.1.1 with h | h
      · omega
      · rw [hc] at h; cases h
    · rcases h.1.2 with h | h
      · omega
      · rw [hc] at h; cases h
    · rcases h.2 with h | h
      · omega
      · rw [hc] at h; cases h
theorem sz_whole {s : ByteArray} {many : Nat} (hm : classOf (bAt s 0) = many) (h1 : 1 ≤ many) (h4 : many ≤ 4) (hs : many ≤ s.size) (hc : ∀ j, 1 ≤ j → j < many → isC (bAt s j) = true) :
    szAt s 0 = if okNum many (numAt s 0 many) then many else 0 := by
  unfold szAt
  rw [hm, if_neg (by omega)]
  have e : contB s 0 many = true := by
    unfold contB
    simp only [Nat.zero_add, Bool.and_eq_true, Bool.or_eq_true, decide_eq_true_eq]
    refine ⟨⟨?_, ?_⟩, ?_⟩
    · by_cases h : many ≤ 1
      · exact .inl h
      · exact .inr (hc 1 (by omega) (by omega))
    · by_cases h : many ≤ 2
      · exact .inl h
      · exact .inr (hc 2 (by omega) (by omega))
    · by_cases h : many ≤ 3
      · exact .inl h
      · exact .inr (hc 3 (by omega) (by omega))
  rw [e, Bool.true_and]
theorem ok_iff {many n : Nat} : okNum many n = true ↔ leastOf many ≤ n ∧ n ≤ 1114111 ∧ ¬ (55296 ≤ n ∧ n ≤ 57343) := by unfold okNum; rw [decide_eq_true_iff]
end Go.Proofs.YtfmkeapbddhndaaDoor
