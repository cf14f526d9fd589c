/- What is proved here: the document's decimal digits of a number are the library's decimal numeral. No conditions beyond the number's range. -/
import Derived.Test.YtekjdmmoongaaaaDoorIs
import Derived.Lib.ItoaNum
import Derived.Lib.Strings
import Derived.IntWalk
namespace Go.Proofs.YtekjdmmoongaaaaDoor
open Go.RowKit Go.Extern.Stop Go.Stop Go.Extern

/-- The digits of a number, none for zero. -/
def rest (m : Nat) : List UInt8 := if m = 0 then [] else Lib.decDigits m
theorem rest_step (m : Nat) (h : 0 < m) : rest m = rest (m / 10) ++ [UInt8.ofNat (48 + m % 10)] := by
  unfold rest
  rw [if_neg (by omega), Lib.decDigits]
  by_cases h1 : m < 10
  · rw [dif_pos h1, if_pos (by omega)]
    simp [Nat.mod_eq_of_lt h1]
  · rw [dif_neg h1, if_neg (by omega)]

theorem nDigits_le (k : Nat) : ∀ u, 0 < k → u < 10 ^ k → Lib.nDigits u ≤ k := by
  induction k with
  | zero => intro u h; omega
  | succ k ih =>
    intro u _ hu
    rw [Lib.nDigits]
    split
    · omega
    · rename_i h10
      have h1 : u / 10 < 10 ^ k := by rw [Nat.pow_succ] at hu; omega
      have h2 : 0 < k := by
        rcases Nat.eq_zero_or_pos k with h | h
        · subst h; simp at hu; omega
        · exact h
      have := ih (u / 10) h2 h1
      omega
theorem rest_len (u m : Nat) (l : List UInt8) (hu : u < 100000000000000000000) (h : rest m ++ l = Lib.decDigits u) : l.length ≤ 20 := by
  have h1 := congrArg List.length h
  rw [List.length_append, Lib.decDigits_length] at h1
  have := nDigits_le 20 u (by omega) (by simpa using hu)
  omega
theorem digit_at (i : Nat) (h : i < 10) (l : List UInt8) :
    (⟨#[48, 49, 50, 51, 52, 53, 54, 55, 56, 57]⟩ : ByteArray).extract i (i + 1) ++ (⟨l.toArray⟩ : ByteArray) = ⟨(UInt8.ofNat (48 + i) :: l).toArray⟩ := by
  have e : (⟨#[48, 49, 50, 51, 52, 53, 54, 55, 56, 57]⟩ : ByteArray).extract i (i + 1) = ⟨#[UInt8.ofNat (48 + i)]⟩ := by
    rcases (show i = 0 ∨ i = 1 ∨ i = 2 ∨ i = 3 ∨ i = 4 ∨ i = 5 ∨ i = 6 ∨ i = 7 ∨ i = 8 ∨ i = 9 by omega) with rfl | rfl | rfl | rfl | rfl | rfl | rfl | rfl | rfl | rfl <;> rfl
  rw [e]
  apply ByteArray.ext
  simp

theorem ret_str {a b : ByteArray} (h : a = b) : Ending.returned (.string a) = .returned (.string b) := by rw [h]
theorem minus_cat (l : List UInt8) : (⟨#[45]⟩ : ByteArray) ++ (⟨l.toArray⟩ : ByteArray) = ⟨(45 :: l).toArray⟩ := by
  apply ByteArray.ext
  simp

theorem dec_zero (w : World) : Calls Tryd.prog 15 #[.int .i64 0] w fun x w' => x = .returned (.string ⟨(Lib.itoa 0).toArray⟩) ∧ w = w' := by
  go_enter Tryd.func15, Tryd.ntmps15
  go_wp2
  go_ret
  exact ⟨by simp [Lib.itoa, Lib.decDigits], rfl⟩

set_option maxHeartbeats 1000000 in
theorem dec_pos (u : Nat) (h0 : 0 < u) (h1 : (u : Int) ≤ 9223372036854775807) (w : World) : Calls Tryd.prog 15 #[.int .i64 u] w fun x w' => x = .returned (.string ⟨(Lib.decDigits u).toArray⟩) ∧ w = w' := by
  have hz : ((u : Int) == 0) = false := beq_eq_false_iff_ne.2 (by omega)
  have hd : rest u ++ [] = Lib.decDigits u := by unfold rest; rw [if_neg (by omega)]; simp
  have hu20 : Hid (u < 100000000000000000000) := (by omega : u < 100000000000000000000)
  have HD := Lib.hid hd
  clear hd
  go_enter Tryd.func15, Tryd.ntmps15
  go_wp2
  go_loopg [3, 4, 5] u (fun n s k d wr => w = wr ∧ ∃ (l : List UInt8), n ≤ u ∧ k = .int .i64 n ∧ s = .string ⟨l.toArray⟩ ∧ rest n ++ l = Lib.decDigits u)
  case atStart => exact ⟨rfl, [], Nat.le_refl _, rfl, rfl, HD.out⟩
  case round =>
    obtain ⟨rfl, l, hm, rfl, rfl, hl⟩ := hrel
    have hlen := rest_len u gk l hu20.out hl
    have HL := Lib.hid hl
    clear hl
    by_cases hm0 : gk = 0
    · subst hm0
      go_wp2
      go_ret
      have := HL.out
      simp only [rest, if_true, List.nil_append] at this
      exact ⟨ret_str (by rw [this]), rfl⟩
    · have hb : ((gk : Int) != 0) = true := by rw [bne_iff_ne]; omega
      have hp : 0 < gk := by omega
      have h10 : (gk : Int) % 10 < 10 := by omega
      have h11 : 0 ≤ (gk : Int) % 10 := by omega
      clear hm0
      go_wp2
      go_roundg (gk / 10)
      case rel =>
        refine ⟨rfl, UInt8.ofNat (48 + gk % 10) :: l, by omega, by go_num, by rw [digit_at _ (by omega)], ?_⟩
        have := HL.out
        rw [rest_step gk hp] at this
        simpa using this
      case measure => omega

theorem neg_quo (m : Nat) : (-(m : Int)).tdiv 10 = -((m / 10 : Nat) : Int) := by rw [Int.neg_tdiv]; simp
theorem neg_rem (m : Nat) : (-(m : Int)).tmod 10 = -((m % 10 : Nat) : Int) := by rw [Int.neg_tmod, Int.tmod_eq_emod_of_nonneg (by omega)]; simp

set_option maxHeartbeats 1000000 in
theorem dec_neg (u : Nat) (h0 : 0 < u) (h1 : (u : Int) ≤ 9223372036854775808) (w : World) : Calls Tryd.prog 15 #[.int .i64 (-(u : Int))] w fun x w' => x = .returned (.string ⟨(45 :: Lib.decDigits u).toArray⟩) ∧ w = w' := by
  have hz : ((-(u : Int)) == 0) = false := beq_eq_false_iff_ne.2 (by omega)
  have hd : rest u ++ [] = Lib.decDigits u := by unfold rest; rw [if_neg (by omega)]; simp
  have hu20 : Hid (u < 100000000000000000000) := (by omega : u < 100000000000000000000)
  have HD := Lib.hid hd
  clear hd
  go_enter Tryd.func15, Tryd.ntmps15
  go_wp2
  go_loopg [3, 4, 5] u (fun n s k d wr => w = wr ∧ ∃ (l : List UInt8), n ≤ u ∧ k = .int .i64 (-(n : Int)) ∧ s = .string ⟨l.toArray⟩ ∧ rest n ++ l = Lib.decDigits u)
  case atStart => exact ⟨rfl, [], Nat.le_refl _, rfl, rfl, HD.out⟩
  case round =>
    obtain ⟨rfl, l, hm, rfl, rfl, hl⟩ := hrel
    have hlen := rest_len u gk l hu20.out hl
    have HL := Lib.hid hl
    clear hl
    by_cases hm0 : gk = 0
    · subst hm0
      go_wp2
      go_ret
      have := HL.out
      simp only [rest, if_true, List.nil_append] at this
      exact ⟨ret_str (by rw [minus_cat, this]), rfl⟩
    · have hb : ((-(gk : Int)) != 0) = true := by rw [bne_iff_ne]; omega
      have hp : 0 < gk := by omega
      have hq := neg_quo gk
      have hr := neg_rem gk
      clear hm0
      go_wp2
      all_goals go_roundg (gk / 10)
      case rel =>
        refine ⟨rfl, UInt8.ofNat (48 + gk % 10) :: l, by omega, by go_num, by rw [digit_at _ (by omega)], ?_⟩
        have := HL.out
        rw [rest_step gk hp] at this
        simpa using this
      case measure => omega
      case rel =>
        refine ⟨rfl, UInt8.ofNat (48 + gk % 10) :: l, by omega, by go_num, ?_, ?_⟩
        · rw [show (-((gk : Int) % 10)).toNat = gk % 10 by omega, show (-((gk : Int) % 10) + 1).toNat = gk % 10 + 1 by omega, digit_at _ (by omega)]
        · have := HL.out
          rw [rest_step gk hp] at this
          simpa using this
      case measure => omega

/-- The document's decimal digits. -/
theorem dec_any (n : Int) (h0 : -9223372036854775808 ≤ n) (h1 : n ≤ 9223372036854775807) (w : World) : Calls Tryd.prog 15 #[.int .i64 n] w fun x w' => x = .returned (.string ⟨(Lib.itoa n).toArray⟩) ∧ w = w' := by
  rcases Int.lt_trichotomy n 0 with h | h | h
  · obtain ⟨u, rfl⟩ : ∃ u : Nat, n = -(u : Int) := ⟨n.natAbs, by omega⟩
    have e : Lib.itoa (-(u : Int)) = 45 :: Lib.decDigits u := by unfold Lib.itoa; rw [if_pos h]; simp
    rw [e]
    exact dec_neg u (by omega) (by omega) w
  · subst h
    exact dec_zero w
  · obtain ⟨u, rfl⟩ : ∃ u : Nat, n = (u : Int) := ⟨n.toNat, by omega⟩
    have e : Lib.itoa (u : Int) = Lib.decDigits u := by unfold Lib.itoa; rw [if_neg (by omega)]; simp
    rw [e]
    exact dec_pos u (by omega) h1 w
end Go.Proofs.YtekjdmmoongaaaaDoor
