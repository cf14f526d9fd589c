/- What is proved here: the document's own writer of fields: the bytes of a number, and what each field does to it. Conditions: the writer is there, with few bytes. -/
import Derived.Test.YthplhdepllloaaaDoorWlw04
import Derived.Test.YthplhdepllloaaaDoorRegT
namespace Go.Proofs.YthplhdepllloaaaDoor
set_option maxRecDepth 100000
open Go.RowKit Go.Extern.Stop Go.Stop Go.Extern
theorem be_cat (k n : Nat) : (⟨[UInt8.ofNat (n / 256 ^ k % 256)].toArray⟩ : ByteArray) ++ ⟨(be k n).toArray⟩ = ⟨(be (k + 1) n).toArray⟩ := by
  apply ba_eq
  rw [be_head]
  simp
set_option maxRecDepth 100000 in
set_option maxHeartbeats 1000000 in
theorem rnum_any (m u : Nat) (w : World) (hm : m ≤ 4) (hu : u ≤ 4294967296) :
    Calls Tryd.prog 36 #[.int .i64 u, .int .i64 m] w fun x w' => x = .returned (.string ⟨(be m u).toArray⟩) ∧ Below w.heap.size w w' := by
  go_enter Tryd.func36, Tryd.ntmps36
  go_wp2
  go_loopg [0, 5, 6] m (fun f x y z wr => ∃ k : Nat, f = m - k ∧ k ≤ m ∧ x = .int .i64 ((u / 256 ^ k : Nat) : Int) ∧ y = .string ⟨(be k u).toArray⟩ ∧ z = .int .i64 k ∧ Below w.heap.size w wr)
  case atStart => exact ⟨0, rfl, Nat.zero_le _, by simp, rfl, rfl, Below.refl _ _⟩
  case round =>
    obtain ⟨k, rfl, hk, rfl, rfl, rfl, hb⟩ := hrel
    have HB := Lib.hid hb
    have HC := Lib.hid (be_cat k u)
    have hq : u / 256 ^ k ≤ 4294967296 := Nat.le_trans (Nat.div_le_self _ _) hu
    have hq1 : u / 256 ^ (k + 1) = u / 256 ^ k / 256 := by rw [Nat.div_div_eq_div_mul, Nat.pow_succ]
    have HQ := Lib.hid hq1
    have hbs : (⟨(be k u).toArray⟩ : ByteArray).size = k := by rw [bsize, be_len]
    generalize u / 256 ^ k = q at *
    clear hb hq1 hu
    by_cases hlt : k < m
    · have hc := conv_cells wr [UInt8.ofNat (q % 256)] #[.int .u8 ((q : Int) % 256)] (by
        rw [List.map_singleton, byteV_ofNat (Nat.mod_lt _ (by omega))]
        rfl)
      have hcat := HC.out
      have has : (⟨[UInt8.ofNat (q % 256)].toArray⟩ : ByteArray).size = 1 := rfl
      rw [List.length_singleton] at hc
      generalize (⟨[UInt8.ofNat (q % 256)].toArray⟩ : ByteArray) = a at *
      generalize (⟨(be k u).toArray⟩ : ByteArray) = b at *
      obtain ⟨c, hce⟩ : ∃ c, (⟨(be (k + 1) u).toArray⟩ : ByteArray) = c := ⟨_, rfl⟩
      rw [hce] at hcat
      have HE := Lib.hid hce
      clear hce
      have hlt' : (k : Int) < (m : Int) := by omega
      have hsm : a.size + b.size ≤ 9223372036854775807 := by omega
      go_wp2
      go_roundg (m - (k + 1))
      case rel => exact ⟨k + 1, rfl, hlt, by rw [HQ.out]; rfl, by rw [HE.out], by go_num, HB.out.alloc HB.out.size _⟩
      case measure => omega
    · obtain rfl : k = m := by omega
      clear hk HC
      go_wp2
      go_ret
      exact ⟨rfl, HB.out⟩
section
variable {w w' w2 : World} {g : Nat} {W W' : EV} {X : List Nat}
end
end Go.Proofs.YthplhdepllloaaaDoor
