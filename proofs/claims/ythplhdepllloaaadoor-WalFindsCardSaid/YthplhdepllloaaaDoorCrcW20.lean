/- What is proved here, on plain numbers: a checksum behind bytes, and what becomes of it when bytes differ. No conditions. What is proved here: what the functions of package crc, and the document's own, answer: one checksum. Condition: the bytes are not more than ten thousand. -/
import Derived.Test.YthplhdepllloaaaDoorLib
import Derived.WalkSpells
import Derived.WalkLawsBesides
import Derived.IntWalk
import Derived.Lib.Hide
namespace Go.Proofs.YthplhdepllloaaaDoor
/-- One bit shifted out of the register. -/
@[irreducible] def st1 (c : Nat) : Nat := if c % 2 = 1 then c / 2 ^^^ 2197175160 else c / 2
/-- So many bits. -/
def stN : Nat → Nat → Nat
  | 0, c => c
  | n + 1, c => st1 (stN n c)
/-- The register behind bytes. -/
def crcL (c : Nat) : List UInt8 → Nat
  | [] => c
  | b :: l => crcL (stN 8 (c ^^^ b.toNat)) l
/-- A number's register: its bits, turned. -/
def inv32 (n : Nat) : Nat := 4294967295 - n
def u32of (n : Int) : Nat := (n % 4294967296).toNat
def crcMore (n : Int) (l : List UInt8) : Nat := inv32 (crcL (inv32 (u32of n)) l)

theorem u32of_lt (n : Int) : u32of n < 4294967296 := by unfold u32of; omega
theorem inv32_lt (n : Nat) : inv32 n < 4294967296 := by unfold inv32; omega
theorem inv_inv {n : Nat} (h : n < 4294967296) : inv32 (inv32 n) = n := by unfold inv32; omega

theorem st1_lt {c : Nat} (h : c < 4294967296) : st1 c < 4294967296 := by
  unfold st1
  split
  · exact Nat.xor_lt_two_pow (n := 32) (by omega) (by omega)
  · omega
theorem stN_lt {c : Nat} (n : Nat) (h : c < 4294967296) : stN n c < 4294967296 := by
  induction n with
  | zero => exact h
  | succ n ih => exact st1_lt ih
theorem x_lt {a b : Nat} (ha : a < 4294967296) (hb : b < 4294967296) : a ^^^ b < 4294967296 := Nat.xor_lt_two_pow (n := 32) ha hb
theorem xb_lt {a : Nat} (ha : a < 4294967296) (b : UInt8) : a ^^^ b.toNat < 4294967296 := x_lt ha (by have := b.toNat_lt; omega)
theorem crcL_lt (l : List UInt8) : ∀ {c : Nat}, c < 4294967296 → crcL c l < 4294967296 := by
  induction l with
  | nil => exact fun h => h
  | cons b l ih => exact fun h => ih (stN_lt 8 (xb_lt h b))
theorem crcL_append (l k : List UInt8) : ∀ c, crcL c (l ++ k) = crcL (crcL c l) k := by
  induction l with
  | nil => exact fun _ => rfl
  | cons b l ih => exact fun c => ih _
theorem crcMore_lt (n : Int) (l : List UInt8) : crcMore n l < 4294967296 := inv32_lt _
theorem u32of_nat {n : Nat} (h : n < 4294967296) : u32of (n : Int) = n := by unfold u32of; omega
theorem crc_more (l k : List UInt8) : crcMore 0 (l ++ k) = crcMore (crcMore 0 l : Nat) k := by
  unfold crcMore
  have h := crcL_lt l (inv32_lt (u32of 0))
  rw [u32of_nat (inv32_lt _), inv_inv h, crcL_append]

theorem st1_add (a b : Nat) : st1 (a ^^^ b) = st1 a ^^^ st1 b := by
  unfold st1
  rw [Nat.xor_div_two]
  have hm : (a ^^^ b) % 2 = (a + b) % 2 := by
    have := Nat.xor_mod_two_pow (a := a) (b := b) (n := 1)
    rw [Nat.pow_one] at this
    rw [this]
    rcases Nat.mod_two_eq_zero_or_one a with h | h <;> rcases Nat.mod_two_eq_zero_or_one b with k | k <;> rw [h, k] <;> simp <;> omega
  rw [hm]
  by_cases ha : a % 2 = 1 <;> by_cases hb : b % 2 = 1
  · rw [if_neg (by omega), if_pos ha, if_pos hb]
    rw [Nat.xor_assoc, Nat.xor_comm (2197175160), Nat.xor_assoc, Nat.xor_self, Nat.xor_zero]
  · rw [if_pos (by omega), if_pos ha, if_neg hb]
    rw [Nat.xor_assoc, Nat.xor_assoc, Nat.xor_comm (b / 2)]
  · rw [if_pos (by omega), if_neg ha, if_pos hb, Nat.xor_assoc]
  · rw [if_neg (by omega), if_neg ha, if_neg hb]
theorem stN_add (n a b : Nat) : stN n (a ^^^ b) = stN n a ^^^ stN n b := by
  induction n with
  | zero => rfl
  | succ n ih => show st1 _ = st1 _ ^^^ st1 _; rw [ih, st1_add]
theorem xor_eq {a b : Nat} (h : a ^^^ b = 0) : a = b := by
  have : (a ^^^ b) ^^^ b = 0 ^^^ b := by rw [h]
  rw [Nat.xor_assoc, Nat.xor_self, Nat.xor_zero, Nat.zero_xor] at this
  exact this
theorem st1_zero {c : Nat} (hc : c < 4294967296) (h : st1 c = 0) : c = 0 := by
  unfold st1 at h
  split at h
  · have := xor_eq h
    omega
  · omega
theorem stN_zero {c : Nat} (n : Nat) (hc : c < 4294967296) (h : stN n c = 0) : c = 0 := by
  induction n with
  | zero => exact h
  | succ n ih => exact ih (st1_zero (stN_lt n hc) h)
theorem stN_inj {a b : Nat} (n : Nat) (ha : a < 4294967296) (hb : b < 4294967296) (h : stN n a = stN n b) : a = b := by
  apply xor_eq
  apply stN_zero n (x_lt ha hb)
  rw [stN_add, h, Nat.xor_self]
theorem stN_shift (n x : Nat) : stN n (2 ^ n * x) = x := by
  induction n generalizing x with
  | zero => show 1 * x = x; omega
  | succ n ih =>
    have e : 2 ^ (n + 1) * x = 2 ^ n * (2 * x) := by rw [Nat.pow_succ, Nat.mul_assoc]
    show st1 (stN n _) = x
    rw [e, ih]
    unfold st1
    rw [if_neg (by omega)]
    omega
theorem low_xor {x d : Nat} (h : d < 256) : (256 * x) ^^^ d = 256 * x + d := by
  apply Nat.eq_of_testBit_eq
  intro i
  rw [Nat.testBit_xor, show 256 * x = 2 ^ 8 * x from rfl, Nat.testBit_two_pow_mul_add x (by exact h), Nat.testBit_two_pow_mul]
  by_cases hi : i < 8
  · simp [hi, Nat.not_le.2 hi]
  · have : d.testBit i = false := Nat.testBit_lt_two_pow (Nat.lt_of_lt_of_le h (by
      have := Nat.pow_le_pow_right (n := 2) (by omega) (show 8 ≤ i by omega)
      exact this))
    simp [hi, this, Nat.not_lt.1 hi]
/-- What comes out of one byte's steps as a small number came out of that number, shifted. -/
theorem back8 {y x : Nat} (hy : y < 4294967296) (hx : x < 16777216) (h : stN 8 y = x) : y = 256 * x := by
  apply stN_inj 8 hy (by omega)
  rw [h]
  exact (stN_shift 8 x).symm
/-- Four bytes, of which one is not 0, leave something behind. -/
theorem four_zero {d0 d1 d2 d3 : Nat} (h0 : d0 < 256) (h1 : d1 < 256) (h2 : d2 < 256) (h3 : d3 < 256)
    (h : stN 8 (stN 8 (stN 8 (stN 8 d0 ^^^ d1) ^^^ d2) ^^^ d3) = 0) : d0 = 0 ∧ d1 = 0 ∧ d2 = 0 ∧ d3 = 0 := by
  have l0 := stN_lt (c := d0) 8 (by omega)
  have l1 := stN_lt 8 (x_lt l0 (show d1 < 4294967296 by omega))
  have l2 := stN_lt 8 (x_lt l1 (show d2 < 4294967296 by omega))
  have e3 := xor_eq (stN_zero 8 (x_lt l2 (by omega)) h)
  have e2 := back8 (x_lt l1 (by omega)) (by omega) e3
  have f2 : stN 8 (stN 8 d0 ^^^ d1) = 256 * d3 + d2 := by
    rw [← low_xor h2, ← e2, Nat.xor_assoc, Nat.xor_self, Nat.xor_zero]
  have e1 := back8 (x_lt l0 (by omega)) (by omega) f2
  have f1 : stN 8 d0 = 256 * (256 * d3 + d2) + d1 := by
    rw [← low_xor h1, ← e1, Nat.xor_assoc, Nat.xor_self, Nat.xor_zero]
  have e0 := back8 (by omega) (by omega) f1
  omega
theorem crcL_inj (l : List UInt8) : ∀ {a b : Nat}, a < 4294967296 → b < 4294967296 → crcL a l = crcL b l → a = b := by
  induction l with
  | nil => exact fun _ _ h => h
  | cons x l ih =>
    intro a b ha hb h
    have := stN_inj 8 (xb_lt ha x) (xb_lt hb x) (ih (stN_lt 8 (xb_lt ha x)) (stN_lt 8 (xb_lt hb x)) h)
    have h2 : (a ^^^ x.toNat) ^^^ x.toNat = (b ^^^ x.toNat) ^^^ x.toNat := by rw [this]
    rw [Nat.xor_assoc, Nat.xor_assoc, Nat.xor_self, Nat.xor_zero, Nat.xor_zero] at h2
    exact h2
theorem xx (a b c d : Nat) : (a ^^^ c) ^^^ (b ^^^ d) = (a ^^^ b) ^^^ (c ^^^ d) := by
  rw [Nat.xor_assoc, ← Nat.xor_assoc c b d, Nat.xor_comm c b, Nat.xor_assoc, Nat.xor_assoc]
theorem four_same {r a0 a1 a2 a3 d0 d1 d2 d3 : Nat} (h : stN 8 (stN 8 (stN 8 (stN 8 (r ^^^ (a0 ^^^ d0)) ^^^ (a1 ^^^ d1)) ^^^ (a2 ^^^ d2)) ^^^ (a3 ^^^ d3)) = stN 8 (stN 8 (stN 8 (stN 8 (r ^^^ a0) ^^^ a1) ^^^ a2) ^^^ a3)) :
    stN 8 (stN 8 (stN 8 (stN 8 d0 ^^^ d1) ^^^ d2) ^^^ d3) = 0 := by
  generalize 8 = m at *
  have k0 : stN m (r ^^^ (a0 ^^^ d0)) = stN m (r ^^^ a0) ^^^ stN m d0 := by rw [← Nat.xor_assoc, stN_add]
  rw [k0] at h
  generalize stN m (r ^^^ a0) = r0 at *
  generalize stN m d0 = z0 at *
  have k1 : stN m ((r0 ^^^ z0) ^^^ (a1 ^^^ d1)) = stN m (r0 ^^^ a1) ^^^ stN m (z0 ^^^ d1) := by rw [xx, stN_add]
  rw [k1] at h
  generalize stN m (r0 ^^^ a1) = r1 at *
  generalize stN m (z0 ^^^ d1) = z1 at *
  have k2 : stN m ((r1 ^^^ z1) ^^^ (a2 ^^^ d2)) = stN m (r1 ^^^ a2) ^^^ stN m (z1 ^^^ d2) := by rw [xx, stN_add]
  rw [k2] at h
  generalize stN m (r1 ^^^ a2) = r2 at *
  generalize stN m (z1 ^^^ d2) = z2 at *
  rw [xx, stN_add] at h
  generalize stN m (r2 ^^^ a3) = r3 at *
  generalize stN m (z2 ^^^ d3) = z at *
  have h2 : r3 ^^^ (r3 ^^^ z) = r3 ^^^ r3 := by rw [h]
  rw [← Nat.xor_assoc, Nat.xor_self, Nat.zero_xor] at h2
  exact h2
theorem four_lt (a : Nat) (b0 b1 b2 b3 : UInt8) (h : a < 4294967296) : stN 8 (stN 8 (stN 8 (stN 8 (a ^^^ b0.toNat) ^^^ b1.toNat) ^^^ b2.toNat) ^^^ b3.toNat) < 4294967296 :=
  stN_lt 8 (xb_lt (stN_lt 8 (xb_lt (stN_lt 8 (xb_lt (stN_lt 8 (xb_lt h b0)) b1)) b2)) b3)
theorem crcL_cons (c : Nat) (b : UInt8) (l : List UInt8) : crcL c (b :: l) = crcL (stN 8 (c ^^^ b.toNat)) l := rfl
theorem crcL_four (c : Nat) (b0 b1 b2 b3 : UInt8) (q : List UInt8) : crcL c (b0 :: b1 :: b2 :: b3 :: q) = crcL (stN 8 (stN 8 (stN 8 (stN 8 (c ^^^ b0.toNat) ^^^ b1.toNat) ^^^ b2.toNat) ^^^ b3.toNat)) q := by rw [crcL_cons, crcL_cons, crcL_cons, crcL_cons]
/-- Where four bytes that follow one another differ by four bytes, of which one is not 0, the registers differ. -/
theorem crc_finds {p q : List UInt8} {x0 x1 x2 x3 y0 y1 y2 y3 : UInt8} {c d0 d1 d2 d3 : Nat} (hc : c < 4294967296) (h0 : d0 < 256) (h1 : d1 < 256) (h2 : d2 < 256) (h3 : d3 < 256)
    (e0 : y0.toNat = x0.toNat ^^^ d0) (e1 : y1.toNat = x1.toNat ^^^ d1) (e2 : y2.toNat = x2.toNat ^^^ d2) (e3 : y3.toNat = x3.toNat ^^^ d3) (hd : ¬ (d0 = 0 ∧ d1 = 0 ∧ d2 = 0 ∧ d3 = 0)) :
    crcL c (p ++ y0 :: y1 :: y2 :: y3 :: q) ≠ crcL c (p ++ x0 :: x1 :: x2 :: x3 :: q) := by
  intro h
  rw [crcL_append, crcL_append, crcL_four, crcL_four] at h
  have hp := crcL_lt p hc
  have h' := crcL_inj q (four_lt _ y0 y1 y2 y3 hp) (four_lt _ x0 x1 x2 x3 hp) h
  rw [e0, e1, e2, e3] at h'
  exact hd (four_zero h0 h1 h2 h3 (four_same h'))
/-- A number's four bytes. -/
theorem bytes_zero {n : Nat} (h : n < 4294967296) (h0 : n % 256 = 0) (h1 : n / 256 % 256 = 0) (h2 : n / 65536 % 256 = 0) (h3 : n / 16777216 % 256 = 0) : n = 0 := by omega
end Go.Proofs.YthplhdepllloaaaDoor
namespace Go.Proofs.YthplhdepllloaaaDoor
open Go.RowKit Go.Extern.Stop Go.Stop Go.Extern

theorem ofInt_u32 (a : Nat) (ha : a < 4294967296) : (BitVec.ofInt 32 (a : Int)).toNat = a := by
  rw [BitVec.ofInt_natCast, BitVec.toNat_ofNat]; exact Nat.mod_eq_of_lt (by omega)
theorem u32_in (a : Nat) (ha : a < 4294967296) : IntKind.u32.wrap (a : Int) = (a : Int) := by
  have e : IntKind.u32.wrap (a : Int) = (a : Int) % 4294967296 := rfl
  omega
theorem xor_u32 (a b : Nat) (ha : a < 4294967296) (hb : b < 4294967296) : bits .xor .u32 (a : Int) (b : Int) = ((a ^^^ b : Nat) : Int) := by
  show IntKind.u32.wrap ((BitVec.ofInt 32 (a : Int) ^^^ BitVec.ofInt 32 (b : Int)).toNat : Int) = _
  rw [BitVec.toNat_xor, ofInt_u32 a ha, ofInt_u32 b hb]
  exact u32_in _ (x_lt ha hb)
theorem and1_u32 (a : Nat) (ha : a < 4294967296) : bits .and .u32 (a : Int) 1 = ((a % 2 : Nat) : Int) := by
  show IntKind.u32.wrap ((BitVec.ofInt 32 (a : Int) &&& BitVec.ofInt 32 1).toNat : Int) = _
  rw [BitVec.toNat_and, ofInt_u32 a ha]
  have : (BitVec.ofInt 32 1).toNat = 1 := by decide
  rw [this, Nat.and_one_is_mod]
  exact u32_in _ (by omega)
theorem ones_xor (a : Nat) (ha : a < 4294967296) : 4294967295 ^^^ a = inv32 a := by
  have h := BitVec.toNat_not (x := BitVec.ofNat 32 a)
  have h2 := BitVec.allOnes_xor (x := BitVec.ofNat 32 a)
  have h3 : (BitVec.allOnes 32 ^^^ BitVec.ofNat 32 a).toNat = 4294967295 ^^^ a := by
    rw [BitVec.toNat_xor, BitVec.toNat_allOnes, BitVec.toNat_ofNat, Nat.mod_eq_of_lt (show a < 2 ^ 32 by omega)]
  rw [← h3, h2, h, BitVec.toNat_ofNat, Nat.mod_eq_of_lt (show a < 2 ^ 32 by omega)]
  unfold inv32
  omega
theorem not_u32 (a : Nat) (ha : a < 4294967296) : bits .xor .u32 IntKind.u32.max (a : Int) = ((inv32 a : Nat) : Int) := by
  have e : IntKind.u32.max = ((4294967295 : Nat) : Int) := rfl
  rw [e, xor_u32 _ _ (by omega) ha, ones_xor a ha]
theorem not_u32' (a : Nat) (ha : a < 4294967296) : bits .xor .u32 (a : Int) 4294967295 = ((inv32 a : Nat) : Int) := by
  have e : (4294967295 : Int) = ((4294967295 : Nat) : Int) := rfl
  rw [e, xor_u32 _ _ ha (by omega), Nat.xor_comm, ones_xor a ha]
theorem u32_nat (n : Int) : n % 4294967296 = ((u32of n : Nat) : Int) := by unfold u32of; omega
theorem ret_u32 {a b : Nat} (h : a = b) : Ending.returned (.int .u32 (a : Int)) = .returned (.int .u32 (b : Int)) := by rw [h]
theorem stN_succ (k c : Nat) : stN (k + 1) c = st1 (stN k c) := rfl
theorem st1_odd {c : Nat} (h : c % 2 = 1) : st1 c = c / 2 ^^^ 2197175160 := by unfold st1; rw [if_pos h]
theorem st1_even {c : Nat} (h : ¬ c % 2 = 1) : st1 c = c / 2 := by unfold st1; rw [if_neg h]

theorem poly_u32 (d : Nat) (hd : d < 4294967296) : bits .xor .u32 ((d : Int) / 2) 2197175160 = ((d / 2 ^^^ 2197175160 : Nat) : Int) := by
  have e : (d : Int) / 2 = ((d / 2 : Nat) : Int) := by omega
  have e2 : (2197175160 : Int) = ((2197175160 : Nat) : Int) := rfl
  rw [e, e2, xor_u32 _ _ (by omega) (by omega)]
theorem half_u32 (d : Nat) : Value.int .u32 ((d : Int) / 2) = Value.int .u32 ((d / 2 : Nat) : Int) := by congr 1
theorem eight_any (r b : Nat) (w : World) (hr : r < 4294967296) (hb : b < 256) :
    Calls Tryd.prog 97 #[.int .u32 r, .int .u8 b] w fun e w' => e = .returned (.int .u32 (stN 8 (r ^^^ b) : Nat)) ∧ w = w' := by
  have hx := xor_u32 r b hr (by omega)
  have hl := x_lt hr (show b < 4294967296 by omega)
  generalize r ^^^ b = c at *
  go_enter Tryd.func97, Tryd.ntmps97
  go_wp2
  clear hx
  go_loop [0, 10] (fun x i => ∃ k : Nat, k ≤ 8 ∧ i = .int .i64 k ∧ x = .int .u32 (stN k c : Nat)) (fun _ i => 8 - (intOf i).toNat)
  case atStart => exact ⟨0, by omega, rfl, rfl⟩
  case round =>
    obtain ⟨k, hk, rfl, rfl⟩ := hrel
    have hd := stN_lt k hl
    by_cases hlt : k < 8
    · have hS := stN_succ k c
      generalize stN k c = d at *
      have ha := and1_u32 d hd
      by_cases ho : d % 2 = 1
      · have h1 : ((d : Int) % 2 == 1) = true := by rw [beq_iff_eq]; omega
        have hx := poly_u32 d hd
        rw [st1_odd ho] at hS
        have HS := Lib.hid hS
        clear hS ho
        go_wp2
        go_round
        case rel => exact ⟨k + 1, by omega, by go_num, by rw [HS.out]⟩
        case measure => simp [intOf]; omega
      · have h1 : ((d : Int) % 2 == 1) = false := by rw [beq_eq_false_iff_ne]; omega
        rw [st1_even ho] at hS
        have HS := Lib.hid hS
        clear hS ho
        go_wp2
        go_round
        case rel => exact ⟨k + 1, by omega, by go_num, by rw [HS.out, half_u32]⟩
        case measure => simp [intOf]; omega
    · obtain rfl : k = 8 := by omega
      go_wp2
      go_ret
      exact ⟨rfl, rfl⟩
theorem crcL_get (s : ByteArray) (c k : Nat) (h : k < s.size) : crcL c (s.data.toList.take (k + 1)) = stN 8 (crcL c (s.data.toList.take k) ^^^ s[k].toNat) := by
  have hl : k < s.data.toList.length := by rw [Array.length_toList]; exact h
  rw [List.take_succ_eq_append_getElem hl, crcL_append]
  rfl
theorem crcL_all (s : ByteArray) (c k : Nat) (h : s.size ≤ k) : crcL c (s.data.toList.take k) = crcL c s.data.toList := by
  rw [List.take_of_length_le (by rw [Array.length_toList]; exact h)]
theorem u32_i64 (n : Nat) : Ending.returned (.int .i64 (n : Int)) = .returned (.int .i64 (n : Int)) := rfl
theorem more_any (n : Int) (s : ByteArray) (w : World) (hs : s.size ≤ 10000) :
    Calls Tryd.prog 77 #[.int .i64 n, .string s] w fun e w' => e = .returned (.int .i64 (crcMore n s.data.toList : Nat)) ∧ w = w' := by
  have hm := u32_nat n
  have hn := not_u32 (u32of n) (u32of_lt n)
  have HC := Lib.hid (show crcMore n s.data.toList = inv32 (crcL (inv32 (u32of n)) s.data.toList) from rfl)
  have hi := inv32_lt (u32of n)
  generalize u32of n = m at *
  generalize inv32 m = c at *
  go_enter Tryd.func77, Tryd.ntmps77
  go_wp2
  clear hm hn
  go_loop [5, 12] (fun x i => ∃ k : Nat, k ≤ s.size ∧ i = .int .i64 k ∧ x = .int .u32 (crcL c (s.data.toList.take k) : Nat)) (fun _ i => s.size - (intOf i).toNat)
  case atStart => exact ⟨0, by omega, rfl, rfl⟩
  case round =>
    obtain ⟨k, hk, rfl, rfl⟩ := hrel
    have hd := crcL_lt (s.data.toList.take k) hi
    by_cases hlt : k < s.size
    · have hS := crcL_get s c k hlt
      generalize crcL c (s.data.toList.take k) = d at *
      have HS := Lib.hid hS
      have hb := s[k].toNat_lt
      clear hS
      go_wp2_with (go_at_call 97; refine (eight_any _ _ _ hd (by omega)).mono ?_; rintro e w' ⟨rfl, rfl⟩)
      go_round
      case rel => exact ⟨k + 1, by omega, by go_num, by rw [HS.out]⟩
      case measure => simp [intOf]; omega
    · rw [crcL_all s c k (by omega)] at hd
      have hn := not_u32 _ hd
      have hb := inv32_lt (crcL c s.data.toList)
      have HA := Lib.hid (crcL_all s c k (by omega))
      rw [HA.out]
      go_wp2
      go_ret
      rw [HC.out]
      generalize inv32 (crcL c s.data.toList) = z at *
      exact ⟨rfl, rfl⟩
theorem low_u32 (a b : Nat) (ha : a < 4294967296) (hb : b < 256) : bits .xor .u32 (a : Int) (b : Int) = ((a ^^^ b : Nat) : Int) := xor_u32 a b ha (by omega)
set_option maxHeartbeats 400000 in
theorem refmore_any (n : Int) (s : ByteArray) (w : World) (hs : s.size ≤ 10000) :
    Calls Tryd.prog 75 #[.int .i64 n, .string s] w fun e w' => e = .returned (.int .i64 (crcMore n s.data.toList : Nat)) ∧ w = w' := by
  have hm := u32_nat n
  have hn := not_u32' (u32of n) (u32of_lt n)
  have HC := Lib.hid (show crcMore n s.data.toList = inv32 (crcL (inv32 (u32of n)) s.data.toList) from rfl)
  have hi := inv32_lt (u32of n)
  generalize u32of n = m at *
  generalize inv32 m = c at *
  go_enter Tryd.func75, Tryd.ntmps75
  go_wp2
  clear hm hn
  go_loop [5, 6] (fun x i => ∃ k : Nat, k ≤ s.size ∧ i = .int .i64 k ∧ x = .int .u32 (crcL c (s.data.toList.take k) : Nat)) (fun _ i => s.size - (intOf i).toNat)
  case atStart => exact ⟨0, by omega, rfl, rfl⟩
  case round =>
    obtain ⟨k, hk, rfl, rfl⟩ := hrel
    have hd := crcL_lt (s.data.toList.take k) hi
    by_cases hlt : k < s.size
    · have hS := crcL_get s c k hlt
      generalize crcL c (s.data.toList.take k) = d at *
      have HS := Lib.hid hS
      have hb := s[k].toNat_lt
      clear hS
      have hx := low_u32 d _ hd hb
      have hl := xb_lt hd s[k]
      generalize d ^^^ s[k].toNat = f at *
      go_wp2
      clear hx
      go_loop [5, 7] (fun x i => ∃ j : Nat, j ≤ 8 ∧ i = .int .i64 j ∧ x = .int .u32 (stN j f : Nat)) (fun _ i => 8 - (intOf i).toNat)
      case atStart => exact ⟨0, by omega, rfl, rfl⟩
      case round =>
        obtain ⟨j, hj, rfl, rfl⟩ := hrel
        have hd := stN_lt j hl
        by_cases hlt2 : j < 8
        · have hS := stN_succ j f
          generalize stN j f = g at *
          by_cases ho : g % 2 = 1
          · have h1 : ((g : Int) % 2 == 1) = true := by rw [beq_iff_eq]; omega
            have hx := poly_u32 g hd
            rw [st1_odd ho] at hS
            have HS2 := Lib.hid hS
            clear hS ho
            go_wp2
            go_round
            case rel => exact ⟨j + 1, by omega, by go_num, by rw [HS2.out]⟩
            case measure => simp [intOf]; omega
          · have h1 : ((g : Int) % 2 == 1) = false := by rw [beq_eq_false_iff_ne]; omega
            rw [st1_even ho] at hS
            have HS2 := Lib.hid hS
            clear hS ho
            go_wp2
            go_round
            case rel => exact ⟨j + 1, by omega, by go_num, by rw [HS2.out, half_u32]⟩
            case measure => simp [intOf]; omega
        · obtain rfl : j = 8 := by omega
          go_wp2
          go_round
          case rel => exact ⟨k + 1, by omega, by go_num, by rw [HS.out]⟩
          case measure => simp [intOf]; omega
    · rw [crcL_all s c k (by omega)] at hd
      have hn := not_u32' _ hd
      have hb := inv32_lt (crcL c s.data.toList)
      have HA := Lib.hid (crcL_all s c k (by omega))
      rw [HA.out]
      go_wp2
      go_ret
      exact ⟨by rw [HC.out]; rfl, rfl⟩
theorem sum_any (s : ByteArray) (w : World) (hs : s.size ≤ 10000) :
    Calls Tryd.prog 78 #[.string s] w fun e w' => e = .returned (.int .i64 (crcMore 0 s.data.toList : Nat)) ∧ w = w' := by
  go_enter Tryd.func78, Tryd.ntmps78
  go_wp2_with fail
  refine (more_any _ _ _ hs).mono ?_
  rintro e w' ⟨rfl, rfl⟩
  go_wp2
  go_ret
  exact ⟨rfl, rfl⟩
theorem refsum_any (s : ByteArray) (w : World) (hs : s.size ≤ 10000) :
    Calls Tryd.prog 35 #[.string s] w fun e w' => e = .returned (.int .i64 (crcMore 0 s.data.toList : Nat)) ∧ w = w' := by
  go_enter Tryd.func35, Tryd.ntmps35
  go_wp2_with fail
  refine (refmore_any _ _ _ hs).mono ?_
  rintro e w' ⟨rfl, rfl⟩
  go_wp2
  go_ret
  exact ⟨rfl, rfl⟩
theorem crc_nine : crcMore 0 [49, 50, 51, 52, 53, 54, 55, 56, 57] = 3808858755 := by decide +kernel
theorem crc_none : crcMore 0 [] = 0 := by decide +kernel
end Go.Proofs.YthplhdepllloaaaDoor
