/- What is proved here: what the functions of package crc, and the document's own, answer: one checksum. Condition: the bytes are not more than ten thousand. -/
import Derived.Test.YtbicoiciapngdaaCrc20
import Derived.WalkSpells
import Derived.WalkLawsBesides
import Derived.IntWalk
import Derived.Lib.Hide
namespace Go.Proofs.Ytbicoiciapngdaa
open Go.RowKit Go.Extern.Stop Go.Stop Go.Extern

theorem ofInt_u32 (a : Nat) (ha : a < 4294967296) : (BitVec.ofInt 32 (a : Int)).toNat = a := by
  rw [BitVec.ofInt_natCast, BitVec.toNat_ofNat]; exact Nat.mod_eq_of_lt (by omega)
theorem u32_in (a : Nat) (ha : a < 4294967296) : IntKind.u32.wrap (a : Int) = (a : Int) := by
  have e : IntKind.u32.wrap (a : Int) = (a : Int) % 4294967296 := rfl
  omega
theorem xor_u32 (a b : Nat) (ha : a < 4294967296) (hb : b < 4294967296) : bits .xor .u32 (a : Int) (b : Int) = ((a ^^^ b : Nat) : Int) := by
  show IntKind.u32.wrap ((BitVec.ofInt 32 (a : Int) ^^^ BitVec.ofInt 32 (b : Int)).toNat : Int) = _
  rw [BitVec.toNat_xor, ofInt_u32 a ha, ofInt_u32 b hb]
  exact u32_in _ (x_lt ha hb)
theorem and1_u32 (a : Nat) (ha : a < 4294967296) : bits .and .u32 (a : Int) 1 = ((a % 2 : Nat) : Int) := by
  show IntKind.u32.wrap ((BitVec.ofInt 32 (a : Int) &&& BitVec.ofInt 32 1).toNat : Int) = _
  rw [BitVec.toNat_and, ofInt_u32 a ha]
  have : (BitVec.ofInt 32 1).toNat = 1 := by decide
  rw [this, Nat.and_one_is_mod]
  exact u32_in _ (by omega)
theorem ones_xor (a : Nat) (ha : a < 4294967296) : 4294967295 ^^^ a = inv32 a := by
  have h := BitVec.toNat_not (x := BitVec.ofNat 32 a)
  have h2 := BitVec.allOnes_xor (x := BitVec.ofNat 32 a)
  have h3 : (BitVec.allOnes 32 ^^^ BitVec.ofNat 32 a).toNat = 4294967295 ^^^ a := by
    rw [BitVec.toNat_xor, BitVec.toNat_allOnes, BitVec.toNat_ofNat, Nat.mod_eq_of_lt (show a < 2 ^ 32 by omega)]
  rw [← h3, h2, h, BitVec.toNat_ofNat, Nat.mod_eq_of_lt (show a < 2 ^ 32 by omega)]
  unfold inv32
  omega
theorem not_u32 (a : Nat) (ha : a < 4294967296) : bits .xor .u32 IntKind.u32.max (a : Int) = ((inv32 a : Nat) : Int) := by
  have e : IntKind.u32.max = ((4294967295 : Nat) : Int) := rfl
  rw [e, xor_u32 _ _ (by omega) ha, ones_xor a ha]
theorem not_u32' (a : Nat) (ha : a < 4294967296) : bits .xor .u32 (a : Int) 4294967295 = ((inv32 a : Nat) : Int) := by
  have e : (4294967295 : Int) = ((4294967295 : Nat) : Int) := rfl
  rw [e, xor_u32 _ _ ha (by omega), Nat.xor_comm, ones_xor a ha]
theorem u32_nat (n : Int) : n % 4294967296 = ((u32of n : Nat) : Int) := by unfold u32of; omega
theorem ret_u32 {a b : Nat} (h : a = b) : Ending.returned (.int .u32 (a : Int)) = .returned (.int .u32 (b : Int)) := by rw [h]
theorem stN_succ (k c : Nat) : stN (k + 1) c = st1 (stN k c) := rfl
theorem st1_odd {c : Nat} (h : c % 2 = 1) : st1 c = c / 2 ^^^ 2197175160 := by unfold st1; rw [if_pos h]
theorem st1_even {c : Nat} (h : ¬ c % 2 = 1) : st1 c = c / 2 := by unfold st1; rw [if_neg h]

theorem poly_u32 (d : Nat) (hd : d < 4294967296) : bits .xor .u32 ((d : Int) / 2) 2197175160 = ((d / 2 ^^^ 2197175160 : Nat) : Int) := by
  have e : (d : Int) / 2 = ((d / 2 : Nat) : Int) := by omega
  have e2 : (2197175160 : Int) = ((2197175160 : Nat) : Int) := rfl
  rw [e, e2, xor_u32 _ _ (by omega) (by omega)]
theorem half_u32 (d : Nat) : Value.int .u32 ((d : Int) / 2) = Value.int .u32 ((d / 2 : Nat) : Int) := by congr 1
theorem eight_any (r b : Nat) (w : World) (hr : r < 4294967296) (hb : b < 256) :
    Calls Try.prog 53 #[.int .u32 r, .int .u8 b] w fun e w' => e = .returned (.int .u32 (stN 8 (r ^^^ b) : Nat)) ∧ w = w' := by
  have hx := xor_u32 r b hr (by omega)
  have hl := x_lt hr (show b < 4294967296 by omega)
  generalize r ^^^ b = c at *
  go_enter Try.func53, Try.ntmps53
  go_wp2
  clear hx
  go_loop [0, 10] (fun x i => ∃ k : Nat, k ≤ 8 ∧ i = .int .i64 k ∧ x = .int .u32 (stN k c : Nat)) (fun _ i => 8 - (intOf i).toNat)
  case atStart => exact ⟨0, by omega, rfl, rfl⟩
  case round =>
    obtain ⟨k, hk, rfl, rfl⟩ := hrel
    have hd := stN_lt k hl
    by_cases hlt : k < 8
    · have hS := stN_succ k c
      generalize stN k c = d at *
      have ha := and1_u32 d hd
      by_cases ho : d % 2 = 1
      · have h1 : ((d : Int) % 2 == 1) = true := by rw [beq_iff_eq]; omega
        have hx := poly_u32 d hd
        rw [st1_odd ho] at hS
        have HS := Lib.hid hS
        clear hS ho
        go_wp2
        go_round
        case rel => exact ⟨k + 1, by omega, by go_num, by rw [HS.out]⟩
        case measure => simp [intOf]; omega
      · have h1 : ((d : Int) % 2 == 1) = false := by rw [beq_eq_false_iff_ne]; omega
        rw [st1_even ho] at hS
        have HS := Lib.hid hS
        clear hS ho
        go_wp2
        go_round
        case rel => exact ⟨k + 1, by omega, by go_num, by rw [HS.out, half_u32]⟩
        case measure => simp [intOf]; omega
    · obtain rfl : k = 8 := by omega
      go_wp2
      go_ret
      exact ⟨rfl, rfl⟩
theorem crcL_get (s : ByteArray) (c k : Nat) (h : k < s.size) : crcL c (s.data.toList.take (k + 1)) = stN 8 (crcL c (s.data.toList.take k) ^^^ s[k].toNat) := by
  have hl : k < s.data.toList.length := by rw [Array.length_toList]; exact h
  rw [List.take_succ_eq_append_getElem hl, crcL_append]
  rfl
theorem crcL_all (s : ByteArray) (c k : Nat) (h : s.size ≤ k) : crcL c (s.data.toList.take k) = crcL c s.data.toList := by
  rw [List.take_of_length_le (by rw [Array.length_toList]; exact h)]
theorem u32_i64 (n : Nat) : Ending.returned (.int .i64 (n : Int)) = .returned (.int .i64 (n : Int)) := rfl
theorem more_any (n : Int) (s : ByteArray) (w : World) (hs : s.size ≤ 10000) :
    Calls Try.prog 17 #[.int .i64 n, .string s] w fun e w' => e = .returned (.int .i64 (crcMore n s.data.toList : Nat)) ∧ w = w' := by
  have hm := u32_nat n
  have hn := not_u32 (u32of n) (u32of_lt n)
  have HC := Lib.hid (show crcMore n s.data.toList = inv32 (crcL (inv32 (u32of n)) s.data.toList) from rfl)
  have hi := inv32_lt (u32of n)
  generalize u32of n = m at *
  generalize inv32 m = c at *
  go_enter Try.func17, Try.ntmps17
  go_wp2
  clear hm hn
  go_loop [5, 12] (fun x i => ∃ k : Nat, k ≤ s.size ∧ i = .int .i64 k ∧ x = .int .u32 (crcL c (s.data.toList.take k) : Nat)) (fun _ i => s.size - (intOf i).toNat)
  case atStart => exact ⟨0, by omega, rfl, rfl⟩
  case round =>
    obtain ⟨k, hk, rfl, rfl⟩ := hrel
    have hd := crcL_lt (s.data.toList.take k) hi
    by_cases hlt : k < s.size
    · have hS := crcL_get s c k hlt
      generalize crcL c (s.data.toList.take k) = d at *
      have HS := Lib.hid hS
      have hb := s[k].toNat_lt
      clear hS
      go_wp2_with (go_at_call 53; refine (eight_any _ _ _ hd (by omega)).mono ?_; rintro e w' ⟨rfl, rfl⟩)
      go_round
      case rel => exact ⟨k + 1, by omega, by go_num, by rw [HS.out]⟩
      case measure => simp [intOf]; omega
    · rw [crcL_all s c k (by omega)] at hd
      have hn := not_u32 _ hd
      have hb := inv32_lt (crcL c s.data.toList)
      have HA := Lib.hid (crcL_all s c k (by omega))
      rw [HA.out]
      go_wp2
      go_ret
      rw [HC.out]
      generalize inv32 (crcL c s.data.toList) = z at *
      exact ⟨rfl, rfl⟩
theorem low_u32 (a b : Nat) (ha : a < 4294967296) (hb : b < 256) : bits .xor .u32 (a : Int) (b : Int) = ((a ^^^ b : Nat) : Int) := xor_u32 a b ha (by omega)
set_option maxHeartbeats 400000 in
theorem refmore_any (n : Int) (s : ByteArray) (w : World) (hs : s.size ≤ 10000) :
    Calls Try.prog 18 #[.int .i64 n, .string s] w fun e w' => e = .returned (.int .i64 (crcMore n s.data.toList : Nat)) ∧ w = w' := by
  have hm := u32_nat n
  have hn := not_u32' (u32of n) (u32of_lt n)
  have HC := Lib.hid (show crcMore n s.data.toList = inv32 (crcL (inv32 (u32of n)) s.data.toList) from rfl)
  have hi := inv32_lt (u32of n)
  generalize u32of n = m at *
  generalize inv32 m = c at *
  go_enter Try.func18, Try.ntmps18
  go_wp2
  clear hm hn
  go_loop [5, 6] (fun x i => ∃ k : Nat, k ≤ s.size ∧ i = .int .i64 k ∧ x = .int .u32 (crcL c (s.data.toList.take k) : Nat)) (fun _ i => s.size - (intOf i).toNat)
  case atStart => exact ⟨0, by omega, rfl, rfl⟩
  case round =>
    obtain ⟨k, hk, rfl, rfl⟩ := hrel
    have hd := crcL_lt (s.data.toList.take k) hi
    by_cases hlt : k < s.size
    · have hS := crcL_get s c k hlt
      generalize crcL c (s.data.toList.take k) = d at *
      have HS := Lib.hid hS
      have hb := s[k].toNat_lt
      clear hS
      have hx := low_u32 d _ hd hb
      have hl := xb_lt hd s[k]
      generalize d ^^^ s[k].toNat = f at *
      go_wp2
      clear hx
      go_loop [5, 7] (fun x i => ∃ j : Nat, j ≤ 8 ∧ i = .int .i64 j ∧ x = .int .u32 (stN j f : Nat)) (fun _ i => 8 - (intOf i).toNat)
      case atStart => exact ⟨0, by omega, rfl, rfl⟩
      case round =>
        obtain ⟨j, hj, rfl, rfl⟩ := hrel
        have hd := stN_lt j hl
        by_cases hlt2 : j < 8
        · have hS := stN_succ j f
          generalize stN j f = g at *
          by_cases ho : g % 2 = 1
          · have h1 : ((g : Int) % 2 == 1) = true := by rw [beq_iff_eq]; omega
            have hx := poly_u32 g hd
            rw [st1_odd ho] at hS
            have HS2 := Lib.hid hS
            clear hS ho
            go_wp2
            go_round
            case rel => exact ⟨j + 1, by omega, by go_num, by rw [HS2.out]⟩
            case measure => simp [intOf]; omega
          · have h1 : ((g : Int) % 2 == 1) = false := by rw [beq_eq_false_iff_ne]; omega
            rw [st1_even ho] at hS
            have HS2 := Lib.hid hS
            clear hS ho
            go_wp2
            go_round
            case rel => exact ⟨j + 1, by omega, by go_num, by rw [HS2.out, half_u32]⟩
            case measure => simp [intOf]; omega
        · obtain rfl : j = 8 := by omega
          go_wp2
          go_round
          case rel => exact ⟨k + 1, by omega, by go_num, by rw [HS.out]⟩
          case measure => simp [intOf]; omega
    · rw [crcL_all s c k (by omega)] at hd
      have hn := not_u32' _ hd
      have hb := inv32_lt (crcL c s.data.toList)
      have HA := Lib.hid (crcL_all s c k (by omega))
      rw [HA.out]
      go_wp2
      go_ret
      exact ⟨by rw [HC.out]; rfl, rfl⟩
theorem sum_any (s : ByteArray) (w : World) (hs : s.size ≤ 10000) :
    Calls Try.prog 15 #[.string s] w fun e w' => e = .returned (.int .i64 (crcMore 0 s.data.toList : Nat)) ∧ w = w' := by
  go_enter Try.func15, Try.ntmps15
  go_wp2_with fail
  refine (more_any _ _ _ hs).mono ?_
  rintro e w' ⟨rfl, rfl⟩
  go_wp2
  go_ret
  exact ⟨rfl, rfl⟩
theorem refsum_any (s : ByteArray) (w : World) (hs : s.size ≤ 10000) :
    Calls Try.prog 16 #[.string s] w fun e w' => e = .returned (.int .i64 (crcMore 0 s.data.toList : Nat)) ∧ w = w' := by
  go_enter Try.func16, Try.ntmps16
  go_wp2_with fail
  refine (refmore_any _ _ _ hs).mono ?_
  rintro e w' ⟨rfl, rfl⟩
  go_wp2
  go_ret
  exact ⟨rfl, rfl⟩
theorem crc_nine : crcMore 0 [49, 50, 51, 52, 53, 54, 55, 56, 57] = 3808858755 := by decide +kernel
theorem crc_none : crcMore 0 [] = 0 := by decide +kernel
theorem awake20 (w : World) : Calls Try.prog 19 #[] w fun e w' => e = .returned (.bool true) ∧ w = w' := by
  go_enter Try.func19, Try.ntmps19
  go_wp2_with fail
  refine (sum_any _ _ (by decide)).mono ?_
  rintro e w' ⟨rfl, rfl⟩
  rw [crc_nine]
  go_wp2_with fail
  refine (sum_any _ _ (by decide)).mono ?_
  rintro e w' ⟨rfl, rfl⟩
  rw [crc_none]
  go_wp2
  go_ret
  exact ⟨rfl, rfl⟩
end Go.Proofs.Ytbicoiciapngdaa
