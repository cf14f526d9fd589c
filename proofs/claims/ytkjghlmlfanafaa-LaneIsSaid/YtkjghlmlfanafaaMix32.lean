/- What is proved here: the number of any text, and how any key ranks any client, as package pick and as the document have them. Condition: few bytes. -/
import Derived.Test.YtkjghlmlfanafaaObj
import Derived.WalkSpells
import Derived.WalkLawsBesides
import Derived.IntWalk
import Derived.Lib.Hide
namespace Go.Proofs.Ytkjghlmlfanafaa
open Go.RowKit Go.Extern.Stop Go.Stop Go.Extern

/-- The number of a text's first bytes. -/
def mixL (l : List UInt8) : Nat := l.foldl (fun n b => ((n ^^^ b.toNat) * 16777619) % 4294967296) 2166136261
def mixF (s : ByteArray) : Nat := mixL s.data.toList
def rankF (key who : ByteArray) : Nat := mixF (key ++ ⟨#[0]⟩ ++ who)
theorem mix_append (l : List UInt8) (b : UInt8) : mixL (l ++ [b]) = ((mixL l ^^^ b.toNat) * 16777619) % 4294967296 := by
  unfold mixL
  rw [List.foldl_append, List.foldl_cons, List.foldl_nil]
theorem mixL_lt (l : List UInt8) : mixL l < 4294967296 := by
  have key : ∀ (l : List UInt8) (n : Nat), n < 4294967296 → l.foldl (fun n b => ((n ^^^ b.toNat) * 16777619) % 4294967296) n < 4294967296 := by
    intro l
    induction l with
    | nil => exact fun _ h => h
    | cons b l ih => exact fun n _ => ih _ (Nat.mod_lt _ (by decide))
  exact key l _ (by decide)
theorem mix_get (s : ByteArray) (k : Nat) (h : k < s.size) : mixL (s.data.toList.take (k + 1)) = ((mixL (s.data.toList.take k) ^^^ s[k].toNat) * 16777619) % 4294967296 := by
  have hl : k < s.data.toList.length := by rw [Array.length_toList]; exact h
  rw [List.take_succ_eq_append_getElem hl, mix_append]
  rfl
theorem mix_all (s : ByteArray) (k : Nat) (h : s.size ≤ k) : mixL (s.data.toList.take k) = mixF s := by
  rw [List.take_of_length_le (by rw [Array.length_toList]; exact h)]; rfl
theorem x_lt {a b : Nat} (ha : a < 4294967296) (hb : b < 4294967296) : a ^^^ b < 4294967296 := Nat.xor_lt_two_pow (n := 32) ha hb
theorem ofInt_u32 (a : Nat) (ha : a < 4294967296) : (BitVec.ofInt 32 (a : Int)).toNat = a := by
  rw [BitVec.ofInt_natCast, BitVec.toNat_ofNat]; exact Nat.mod_eq_of_lt (by omega)
theorem u32_in (a : Nat) (ha : a < 4294967296) : IntKind.u32.wrap (a : Int) = (a : Int) := by
  have e : IntKind.u32.wrap (a : Int) = (a : Int) % 4294967296 := rfl
  omega
theorem xor_u32 (a b : Nat) (ha : a < 4294967296) (hb : b < 4294967296) : bits .xor .u32 (a : Int) (b : Int) = ((a ^^^ b : Nat) : Int) := by
  show IntKind.u32.wrap ((BitVec.ofInt 32 (a : Int) ^^^ BitVec.ofInt 32 (b : Int)).toNat : Int) = _
  rw [BitVec.toNat_xor, ofInt_u32 a ha, ofInt_u32 b hb]
  exact u32_in _ (x_lt ha hb)
theorem ofInt_u64 (a : Nat) (ha : a < 4294967296) : (BitVec.ofInt 64 (a : Int)).toNat = a := by
  rw [BitVec.ofInt_natCast, BitVec.toNat_ofNat]; exact Nat.mod_eq_of_lt (by omega)
theorem i64_in32 (a : Nat) (ha : a < 4294967296) : IntKind.i64.wrap (a : Int) = (a : Int) := by rw [IntKind.wrap_i64]; omega
theorem xor_i64 (a b : Nat) (ha : a < 4294967296) (hb : b < 4294967296) : bits .xor .i64 (a : Int) (b : Int) = ((a ^^^ b : Nat) : Int) := by
  show IntKind.i64.wrap ((BitVec.ofInt 64 (a : Int) ^^^ BitVec.ofInt 64 (b : Int)).toNat : Int) = _
  rw [BitVec.toNat_xor, ofInt_u64 a ha, ofInt_u64 b hb]
  exact i64_in32 _ (x_lt ha hb)
theorem ret_int {a b : Int} (h : a = b) : Ending.returned (.int .i64 a) = .returned (.int .i64 b) := by rw [h]
theorem mix_any (s : ByteArray) (w : World) (hs : s.size ≤ 100000) : Calls Try.prog 29 #[.string s] w fun e w' => e = .returned (.int .i64 (mixF s : Nat)) ∧ w = w' := by
  go_enter Try.func29, Try.ntmps29
  go_wp2
  go_loop [3, 7] (fun x i => ∃ k : Nat, k ≤ s.size ∧ i = .int .i64 k ∧ x = .int .u32 (mixL (s.data.toList.take k) : Nat)) (fun _ i => s.size - (intOf i).toNat)
  case atStart => exact ⟨0, by omega, rfl, rfl⟩
  case round =>
    obtain ⟨k, hk, rfl, rfl⟩ := hrel
    have hd := mixL_lt (s.data.toList.take k)
    by_cases hlt : k < s.size
    · have hS := mix_get s k hlt
      generalize mixL (s.data.toList.take k) = d at *
      have HS := Lib.hid hS
      have hb := s[k].toNat_lt
      have hx := xor_u32 d s[k].toNat hd (by omega)
      have hl := x_lt hd (show s[k].toNat < 4294967296 by omega)
      clear hS
      generalize d ^^^ s[k].toNat = f at *
      go_wp2
      go_round
      case rel => exact ⟨k + 1, by omega, by go_num, by rw [HS.out]; congr 1⟩
      case measure => simp [intOf]; omega
    · have HA := Lib.hid (mix_all s k (by omega))
      generalize mixL (s.data.toList.take k) = d at *
      go_wp2
      go_ret
      exact ⟨by rw [HA.out]; rfl, rfl⟩
theorem rmix_any (s : ByteArray) (w : World) (hs : s.size ≤ 100000) : Calls Try.prog 30 #[.string s] w fun e w' => e = .returned (.int .i64 (mixF s : Nat)) ∧ w = w' := by
  go_enter Try.func30, Try.ntmps30
  go_wp2
  go_loop [3, 4] (fun x i => ∃ k : Nat, k ≤ s.size ∧ i = .int .i64 k ∧ x = .int .i64 (mixL (s.data.toList.take k) : Nat)) (fun _ i => s.size - (intOf i).toNat)
  case atStart => exact ⟨0, by omega, rfl, rfl⟩
  case round =>
    obtain ⟨k, hk, rfl, rfl⟩ := hrel
    have hd := mixL_lt (s.data.toList.take k)
    by_cases hlt : k < s.size
    · have hS := mix_get s k hlt
      generalize mixL (s.data.toList.take k) = d at *
      have HS := Lib.hid hS
      have hb := s[k].toNat_lt
      have hx := xor_i64 d s[k].toNat hd (by omega)
      have hl := x_lt hd (show s[k].toNat < 4294967296 by omega)
      clear hS
      generalize d ^^^ s[k].toNat = f at *
      go_wp2
      go_round
      case rel => exact ⟨k + 1, by omega, by go_num, by rw [HS.out]; congr 1⟩
      case measure => simp [intOf]; omega
    · have HA := Lib.hid (mix_all s k (by omega))
      generalize mixL (s.data.toList.take k) = d at *
      go_wp2
      go_ret
      exact ⟨by rw [HA.out]; rfl, rfl⟩
theorem rank_size (k t : ByteArray) : (k ++ ⟨#[0]⟩ ++ t).size = k.size + 1 + t.size := by rw [ByteArray.size_append, ByteArray.size_append]; rfl
theorem rank_any (k t : ByteArray) (w : World) (hk : k.size ≤ 1000) (ht : t.size ≤ 1000) : Calls Try.prog 31 #[.string k, .string t] w fun e w' => e = .returned (.int .i64 (rankF k t : Nat)) ∧ w = w' := by
  have HM := Lib.hid (mix_any (k ++ ⟨#[0]⟩ ++ t) w (by rw [rank_size]; omega))
  have hz : (k ++ ⟨#[0]⟩).size = k.size + 1 := by rw [ByteArray.size_append]; rfl
  go_enter Try.func31, Try.ntmps31
  go_wp2_with fail
  refine HM.out.mono ?_
  rintro x w1 ⟨rfl, rfl⟩
  go_wp2_with fail
  go_ret
  exact ⟨rfl, rfl⟩
theorem rrank_any (k t : ByteArray) (w : World) (hk : k.size ≤ 1000) (ht : t.size ≤ 1000) : Calls Try.prog 32 #[.string k, .string t] w fun e w' => e = .returned (.int .i64 (rankF k t : Nat)) ∧ w = w' := by
  have HM := Lib.hid (rmix_any (k ++ ⟨#[0]⟩ ++ t) w (by rw [rank_size]; omega))
  have hz : (k ++ ⟨#[0]⟩).size = k.size + 1 := by rw [ByteArray.size_append]; rfl
  go_enter Try.func32, Try.ntmps32
  go_wp2_with fail
  refine HM.out.mono ?_
  rintro x w1 ⟨rfl, rfl⟩
  go_wp2_with fail
  go_ret
  exact ⟨rfl, rfl⟩
end Go.Proofs.Ytkjghlmlfanafaa
