/- What is proved here: the number that bytes begin with, or why there is none, by the document's own answer, is what a plain function on the bytes says. No conditions beyond the text's length. -/
import Derived.Test.YtfojoeafhdiaiaaGreatDoorRef02
namespace Go.Proofs.YtfojoeafhdiaiaaGreatDoor
open Go.RowKit Go.Extern.Stop Go.Stop Go.Extern

/-- The number, how many bytes, the error's number, and where it is: from byte i on, n being the number so far, b the next digit's weight. -/
def vt (s : ByteArray) : Nat → Nat → Nat → Nat → Nat × Nat × Nat × Nat
  | 0, _, _, _ => (0, 0, 2, 3)
  | f + 1, i, n, b => if h : i < s.size then
      if s[i].toNat < 128 then if s[i].toNat = 0 ∧ 0 < i then (0, 0, 2, i) else (n + s[i].toNat % 128 * b, i + 1, 0, 0)
      else vt s f (i + 1) (n + s[i].toNat % 128 * b) (b * 128)
    else (0, 0, 1, s.size)
theorem vt_short {s : ByteArray} {f i n b : Nat} (h : ¬ i < s.size) : vt s (f + 1) i n b = (0, 0, 1, s.size) := by rw [vt, dif_neg h]
theorem vt_zero {s : ByteArray} {f i n b : Nat} (h : i < s.size) (h0 : s[i].toNat = 0) (hi : 0 < i) : vt s (f + 1) i n b = (0, 0, 2, i) := by
  rw [vt, dif_pos h, if_pos (by omega), if_pos ⟨h0, hi⟩]
theorem vt_last {s : ByteArray} {f i n b : Nat} (h : i < s.size) (hc : s[i].toNat < 128) (h0 : ¬ (s[i].toNat = 0 ∧ 0 < i)) : vt s (f + 1) i n b = (n + s[i].toNat % 128 * b, i + 1, 0, 0) := by
  rw [vt, dif_pos h, if_pos hc, if_neg h0]
theorem vt_more {s : ByteArray} {f i n b : Nat} (h : i < s.size) (hc : ¬ s[i].toNat < 128) : vt s (f + 1) i n b = vt s f (i + 1) (n + s[i].toNat % 128 * b) (b * 128) := by
  rw [vt, dif_pos h, if_neg hc]
def four (x : Nat × Nat × Nat × Nat) : Value := .tuple #[.int .i64 (x.1 : Int), .int .i64 (x.2.1 : Int), .int .i64 (x.2.2.1 : Int), .int .i64 (x.2.2.2 : Int)]
def Weight (i n b : Nat) : Prop := (i = 0 ∧ b = 1 ∨ i = 1 ∧ b = 128 ∨ i = 2 ∧ b = 16384 ∨ i = 3 ∧ b = 2097152 ∨ i = 4 ∧ b = 268435456) ∧ n < b

end Go.Proofs.YtfojoeafhdiaiaaGreatDoor
