/- What is proved here: the third statement of layer 20 answers true: where up to 32 bits that follow one another differ, the sums do. No conditions but those of the values themselves. -/
import Derived.Test.YtbicoiciapngdaaLawA20
import Derived.Lib.ConvBytes
import Derived.Laws.IdiomStrings
import Derived.RegionTactic
import Derived.BigRegion
namespace Go.Proofs.Ytbicoiciapngdaa
open Go.RowKit Go.Extern.Stop Go.Stop Go.Extern

/-- A block of bytes that a conversion made: what it holds. -/
def BRow (w : World) (g : Nat) (l : List UInt8) : Prop :=
  ∃ cur : Array Value, w.heap[g]? = some (.cells cur 5 (cur.size, cur.size + 1)) ∧ l.length ≤ cur.size ∧ ∀ j (h : j < l.length), cur[j]? = some (.int .u8 (l[j].toNat : Nat))
theorem BRow.cell {w : World} {g : Nat} {l : List UInt8} (h : BRow w g l) (j : Nat) (hj : j < l.length) : w.cell? ⟨g, j, none⟩ = some (.int .u8 (l[j].toNat : Nat)) := by
  obtain ⟨cur, h1, h2, h3⟩ := h
  simp [World.cell?, h1]
  exact h3 j hj
theorem BRow.frozen {w : World} {g : Nat} {l : List UInt8} (h : BRow w g l) (j : Nat) (hj : j < l.length) : w.frozen? ⟨g, j, none⟩ = false := by
  obtain ⟨cur, h1, h2, h3⟩ := h
  simp [World.frozen?, h1]
  omega
theorem BRow.set {w : World} {g : Nat} {l : List UInt8} (h : BRow w g l) (j : Nat) (hj : j < l.length) (v : UInt8) : BRow (w.setCell ⟨g, j, none⟩ (.int .u8 (v.toNat : Nat))) g (l.set j v) := by
  obtain ⟨cur, h1, h2, h3⟩ := h
  refine ⟨cur.setIfInBounds j (.int .u8 (v.toNat : Nat)), ?_, by simpa using h2, ?_⟩
  · simp [World.setCell, Array.getElem?_modify, h1]
  · intro i hi
    rw [List.length_set] at hi
    by_cases e : j = i
    · subst e
      simp [Array.getElem?_setIfInBounds]
      omega
    · rw [Array.getElem?_setIfInBounds_ne e, List.getElem_set_ne e]
      exact h3 i hi
theorem BRow.drew {w : World} {g : Nat} {l : List UInt8} (h : BRow w g l) : BRow w.drew g l := h
theorem BRow.drewN {w : World} {g : Nat} {l : List UInt8} (h : BRow w g l) (n : Nat) : BRow (w.drewN n) g l := h
theorem BRow.made (w : World) (s : ByteArray) : BRow (Lib.bytesWorld w 5 s) w.heap.size s.data.toList := by
  refine ⟨Lib.bytesCells w 5 s, Lib.bytesWorld_at_new w 5 s, ?_, ?_⟩
  · simp [Lib.bytesCells]
  · intro j hj
    simp at hj
    have := Lib.bytesWorld_cell w 5 s j hj
    simp [World.cell?, Lib.bytesWorld_at_new] at this
    rw [this]
    simp [hj]
theorem bytes_below (w : World) (s : ByteArray) : Below w.heap.size w (Lib.bytesWorld w 5 s) := by
  refine ⟨rfl, rfl, rfl, by rw [Lib.bytesWorld_size]; omega, fun k hk => Lib.bytesWorld_at_old w 5 s k hk⟩

def modL (p q : List UInt8) (x y : Nat → UInt8) : Nat → List UInt8
  | 0 => p ++ x 0 :: x 1 :: x 2 :: x 3 :: q
  | 1 => p ++ y 0 :: x 1 :: x 2 :: x 3 :: q
  | 2 => p ++ y 0 :: y 1 :: x 2 :: x 3 :: q
  | 3 => p ++ y 0 :: y 1 :: y 2 :: x 3 :: q
  | _ => p ++ y 0 :: y 1 :: y 2 :: y 3 :: q
theorem modL_len (p q : List UInt8) (x y : Nat → UInt8) (j : Nat) : (modL p q x y j).length = p.length + q.length + 4 := by
  unfold modL; split <;> simp <;> omega
theorem modL_at (p q : List UInt8) (x y : Nat → UInt8) (j : Nat) (hj : j < 4) (h : p.length + j < (modL p q x y j).length) : (modL p q x y j)[p.length + j] = x j := by
  rcases (show j = 0 ∨ j = 1 ∨ j = 2 ∨ j = 3 by omega) with rfl | rfl | rfl | rfl <;> simp [modL]
theorem modL_set (p q : List UInt8) (x y : Nat → UInt8) (j : Nat) (hj : j < 4) : (modL p q x y j).set (p.length + j) (y j) = modL p q x y (j + 1) := by
  rcases (show j = 0 ∨ j = 1 ∨ j = 2 ∨ j = 3 by omega) with rfl | rfl | rfl | rfl <;> simp [modL]
theorem split4 (l : List UInt8) (k : Nat) (h : k + 3 < l.length) : ∃ (p q : List UInt8) (x : Nat → UInt8), p.length = k ∧ l = p ++ x 0 :: x 1 :: x 2 :: x 3 :: q := by
  refine ⟨l.take k, l.drop (k + 4), fun i => l.getD (k + i) 0, by simp; omega, ?_⟩
  have h0 : l = l.take k ++ l.drop k := (List.take_append_drop k l).symm
  have e : l.drop k = l.getD (k + 0) 0 :: l.getD (k + 1) 0 :: l.getD (k + 2) 0 :: l.getD (k + 3) 0 :: l.drop (k + 4) := by
    rw [List.drop_eq_getElem_cons (by omega), List.drop_eq_getElem_cons (by omega), List.drop_eq_getElem_cons (by omega), List.drop_eq_getElem_cons (by omega)]
    simp [List.getD, List.getElem?_eq_getElem (show k < l.length by omega), List.getElem?_eq_getElem (show k + 1 < l.length by omega), List.getElem?_eq_getElem (show k + 2 < l.length by omega), List.getElem?_eq_getElem (show k + 3 < l.length by omega)]
  rw [← e]
  exact h0
theorem finds_no (s : ByteArray) (n m : Nat) (w : World) (hs : s.size ≤ maxLen) (hm : m < 4294967296) (h : 1024 < s.size ∨ s.size ≤ 1024 ∧ s.size < 4 ∨ s.size ≤ 1024 ∧ 4 ≤ s.size ∧ m = 0) :
    Calls Try.prog 5 #[.string s, .int .u16 n, .int .u32 m] w fun x w' => x = .returned (.bool true) ∧ Below w.heap.size w w' := by
  unfold maxLen at hs
  rcases h with h | ⟨h, h2⟩ | ⟨h, h2, rfl⟩
  all_goals
    go_enter Try.func5, Try.ntmps5
    go_wp2_with (go_at_call 19; refine (awake20 _).mono ?_; rintro e w' ⟨rfl, rfl⟩)
    go_ret
    exact ⟨rfl, Below.refl _ _⟩
def yOf (m : Nat) (x : Nat → UInt8) (j : Nat) : UInt8 := UInt8.ofNat ((x j).toNat ^^^ (m / 2 ^ (8 * j) % 256))
theorem yOf_nat (m : Nat) (x : Nat → UInt8) (j : Nat) : (yOf m x j).toNat = (x j).toNat ^^^ (m / 2 ^ (8 * j) % 256) := by
  unfold yOf
  have h : (x j).toNat ^^^ (m / 2 ^ (8 * j) % 256) < 2 ^ 8 := Nat.xor_lt_two_pow (x j).toNat_lt (by omega)
  rw [UInt8.toNat_ofNat']
  exact Nat.mod_eq_of_lt h
theorem xor8 (a b : Nat) (ha : a < 256) (hb : b < 256) : bits .xor .u8 (a : Int) (b : Int) = ((a ^^^ b : Nat) : Int) := by
  have h : a ^^^ b < 2 ^ 8 := Nat.xor_lt_two_pow ha hb
  have h1 : ∀ c : Nat, c < 256 → (BitVec.ofInt 8 (c : Int)).toNat = c := fun c hc => by
    rw [BitVec.ofInt_natCast, BitVec.toNat_ofNat]; exact Nat.mod_eq_of_lt hc
  show IntKind.u8.wrap ((BitVec.ofInt 8 (a : Int) ^^^ BitVec.ofInt 8 (b : Int)).toNat : Int) = _
  rw [BitVec.toNat_xor, h1 a ha, h1 b hb]
  have e : ∀ c : Int, IntKind.u8.wrap c = c % 256 := fun _ => rfl
  rw [e]
  omega
theorem xor8_0 (m : Nat) (x : Nat → UInt8) : bits .xor .u8 ((x 0).toNat : Int) ((m : Int) % 256) = ((yOf m x 0).toNat : Int) := by
  have e : (m : Int) % 256 = ((m / 2 ^ (8 * 0) % 256 : Nat) : Int) := by omega
  rw [e, xor8 _ _ (x 0).toNat_lt (by omega), yOf_nat]
theorem xor8_1 (m : Nat) (x : Nat → UInt8) : bits .xor .u8 ((x 1).toNat : Int) ((m : Int) / 256 % 256) = ((yOf m x 1).toNat : Int) := by
  have e : (m : Int) / 256 % 256 = ((m / 2 ^ (8 * 1) % 256 : Nat) : Int) := by omega
  rw [e, xor8 _ _ (x 1).toNat_lt (by omega), yOf_nat]
theorem xor8_2 (m : Nat) (x : Nat → UInt8) : bits .xor .u8 ((x 2).toNat : Int) ((m : Int) / 65536 % 256) = ((yOf m x 2).toNat : Int) := by
  have e : (m : Int) / 65536 % 256 = ((m / 2 ^ (8 * 2) % 256 : Nat) : Int) := by omega
  rw [e, xor8 _ _ (x 2).toNat_lt (by omega), yOf_nat]
theorem xor8_3 (m : Nat) (x : Nat → UInt8) (hm : m < 4294967296) : bits .xor .u8 ((x 3).toNat : Int) ((m : Int) / 16777216) = ((yOf m x 3).toNat : Int) := by
  have e : (m : Int) / 16777216 = ((m / 2 ^ (8 * 3) % 256 : Nat) : Int) := by omega
  rw [e, xor8 _ _ (x 3).toNat_lt (by omega), yOf_nat]
theorem crcMore_eq (l : List UInt8) : crcMore 0 l = inv32 (crcL (inv32 (u32of 0)) l) := rfl
theorem sums_differ {m : Nat} (hm0 : m ≠ 0) (hm : m < 4294967296) (p q : List UInt8) (x : Nat → UInt8) :
    crcMore 0 (modL p q x (yOf m x) 4) ≠ crcMore 0 (p ++ x 0 :: x 1 :: x 2 :: x 3 :: q) := by
  have hi := inv32_lt (u32of 0)
  have h := crc_finds (p := p) (q := q) (x0 := x 0) (x1 := x 1) (x2 := x 2) (x3 := x 3) (y0 := yOf m x 0) (y1 := yOf m x 1) (y2 := yOf m x 2) (y3 := yOf m x 3) (c := inv32 (u32of 0)) hi
    (Nat.mod_lt _ (by omega)) (Nat.mod_lt _ (by omega)) (Nat.mod_lt _ (by omega)) (Nat.mod_lt _ (by omega)) (yOf_nat m x 0) (yOf_nat m x 1) (yOf_nat m x 2) (yOf_nat m x 3)
    (fun ⟨h0, h1, h2, h3⟩ => hm0 (by omega))
  have e : modL p q x (yOf m x) 4 = p ++ yOf m x 0 :: yOf m x 1 :: yOf m x 2 :: yOf m x 3 :: q := rfl
  rw [e, crcMore_eq, crcMore_eq]
  have l1 := crcL_lt (p ++ yOf m x 0 :: yOf m x 1 :: yOf m x 2 :: yOf m x 3 :: q) hi
  have l2 := crcL_lt (p ++ x 0 :: x 1 :: x 2 :: x 3 :: q) hi
  intro h2
  apply h
  unfold inv32 at h2 l1 l2 ⊢
  omega
set_option maxHeartbeats 1000000 in
theorem finds_yes (s : ByteArray) (n m : Nat) (w : World) (hs : s.size ≤ 1024) (h4 : 4 ≤ s.size) (hn : n < 65536) (hm : m < 4294967296) (hm0 : m ≠ 0) :
    Calls Try.prog 5 #[.string s, .int .u16 n, .int .u32 m] w fun x w' => x = .returned (.bool true) ∧ Below w.heap.size w w' := by
  have hz : ((m : Int) == 0) = false := by rw [beq_eq_false_iff_ne]; omega
  have hsz : s.data.toList.length = s.size := by rw [Array.length_toList]; rfl
  have hk : (n : Int) % ((s.size : Int) - 3) = ((n % (s.size - 3) : Nat) : Int) := by
    rw [show (s.size : Int) - 3 = ((s.size - 3 : Nat) : Int) by omega]
    rfl
  have hlt := Nat.mod_lt n (show 0 < s.size - 3 by omega)
  generalize n % (s.size - 3) = k at *
  obtain ⟨p, q, x, hp, hl⟩ := split4 s.data.toList k (by omega)
  have hconv := Lib.run_convert_string_bytes (P := Try.prog) w 9 29 5 s Try.underlying9 Try.underlying29 Try.underlying5
  have hrow := BRow.made w s
  rw [hl] at hrow
  have HB := Lib.hid (show BRow (Lib.bytesWorld w 5 s) w.heap.size (modL p q x (yOf m x) 0) from hrow)
  have HW := Lib.hid (bytes_below w s)
  have HS := Lib.hid (Lib.bytesWorld_size w 5 s)
  have hpl : p.length + q.length + 4 = s.size := by rw [← hsz, hl]; simp; omega
  have HL := Lib.hid hl
  have HP := Lib.hid hp
  have HM := Lib.hid hm0
  clear hm0 hrow hl hsz hp
  generalize Lib.bytesWorld w 5 s = w1 at *
  generalize grownCap w s.size 0 5 = cap at *
  go_enter Try.func5, Try.ntmps5
  go_wp2
  rw [hk]
  clear hconv hk hz
  go_loopw [9] (fun i wr => ∃ j : Nat, j ≤ 4 ∧ i = .int .i64 j ∧ BRow wr w.heap.size (modL p q x (yOf m x) j) ∧ Below w.heap.size w wr) (fun i _ => 4 - (intOf i).toNat)
  case atStart => exact ⟨0, by omega, rfl, HB.out, HW.out⟩
  case round =>
    obtain ⟨j, hj, rfl, hrow, hb⟩ := hrel
    by_cases hlt : j < 4
    · have hc := hrow.cell (k + j) (by rw [modL_len]; omega)
      have hf := hrow.frozen (k + j) (by rw [modL_len]; omega)
      have hst := hrow.set (k + j) (by rw [modL_len]; omega) (yOf m x j)
      have e : k + j = p.length + j := by rw [HP.out]
      simp only [e] at hc hf hst
      rw [modL_set p q x _ j hlt] at hst
      rw [modL_at p q x _ j hlt] at hc
      simp only [← e] at hc hf hst
      have HR := Lib.hid hst
      have HB2 := Lib.hid hb
      clear hrow hst hb e
      rcases (show j = 0 ∨ j = 1 ∨ j = 2 ∨ j = 3 by omega) with rfl | rfl | rfl | rfl
      · have HV := Lib.hid (xor8_0 m x)
        rw [Nat.add_zero] at hc hf HR
        go_wp2
        go_region
        rw [HV.out]
        go_wp2
        go_roundw
        case rel => exact ⟨1, by omega, by go_num, HR.out, (HB2.out.setCell (Nat.le_refl _) _).drew⟩
        case measure => simp [intOf]
      · have HV := Lib.hid (xor8_1 m x)
        go_wp2
        go_region
        rw [HV.out]
        go_wp2
        go_roundw
        case rel => exact ⟨2, by omega, by go_num, HR.out, (HB2.out.setCell (Nat.le_refl _) _).drew⟩
        case measure => simp [intOf]
      · have HV := Lib.hid (xor8_2 m x)
        go_wp2
        go_region
        rw [HV.out]
        go_wp2
        go_roundw
        case rel => exact ⟨3, by omega, by go_num, HR.out, (HB2.out.setCell (Nat.le_refl _) _).drew⟩
        case measure => simp [intOf]
      · have HV := Lib.hid (xor8_3 m x hm)
        go_wp2
        go_region
        rw [HV.out]
        go_wp2
        go_roundw
        case rel => exact ⟨4, by omega, by go_num, HR.out, (HB2.out.setCell (Nat.le_refl _) _).drew⟩
        case measure => simp [intOf]
    · obtain rfl : j = 4 := by omega
      have hlen : (modL p q x (yOf m x) 4).length = s.size := by rw [modL_len]; exact hpl
      have hback := run_convert_bytes_back (P := Try.prog) wr 29 9 5 ⟨w.heap.size, 0, none⟩ cap (modL p q x (yOf m x) 4) Try.underlying29 Try.underlying5 Try.underlying9 (fun j hj => by
        rw [Addr.add_lit, Nat.zero_add]
        exact hrow.cell j hj)
      have h1 := fun w => sum_any ⟨(modL p q x (yOf m x) 4).toArray⟩ w (by
        have : (⟨(modL p q x (yOf m x) 4).toArray⟩ : ByteArray).size = (modL p q x (yOf m x) 4).length := by simp [ByteArray.size]
        omega)
      have h2 := fun w => sum_any s w (by omega)
      have hne := sums_differ HM.out hm p q x
      rw [← HL.out] at hne
      have e1 : (⟨(modL p q x (yOf m x) 4).toArray⟩ : ByteArray).data.toList = modL p q x (yOf m x) 4 := rfl
      rw [e1] at h1
      have H1 := Lib.hid h1
      have H2 := Lib.hid h2
      have HB2 := Lib.hid hb
      rw [hlen] at hback
      clear h1 h2 hb e1 hrow hlen
      have hn2 : ((crcMore 0 (modL p q x (yOf m x) 4) : Nat) : Int) != ((crcMore 0 s.data.toList : Nat) : Int) := by rw [bne_iff_ne]; omega
      clear hne
      generalize (⟨(modL p q x (yOf m x) 4).toArray⟩ : ByteArray) = t at *
      generalize crcMore 0 (modL p q x (yOf m x) 4) = a at *
      generalize crcMore 0 s.data.toList = b at *
      go_wp2_with fail
      refine (H1.out _).mono ?_
      rintro e w' ⟨rfl, rfl⟩
      go_wp2_with fail
      refine (H2.out _).mono ?_
      rintro e w' ⟨rfl, rfl⟩
      go_wp2_with fail
      refine (awake20 _).mono ?_
      rintro e w' ⟨rfl, rfl⟩
      go_wp2
      go_ret
      exact ⟨rfl, HB2.out⟩
theorem crcFinds_walk (s : ByteArray) (n m : Int) (w : World) (hs : s.size ≤ maxLen) (hn : (Lit.int .u16 n).wf = true) (hm : (Lit.int .u32 m).wf = true) :
    Calls Try.prog 5 #[.string s, .int .u16 n, .int .u32 m] w fun x w' => x = .returned (.bool true) ∧ Below w.heap.size w w' := by
  have hn' : 0 ≤ n ∧ n ≤ 65535 := by simpa [Lit.wf, IntKind.min, IntKind.max, IntKind.signed, IntKind.bits] using hn
  have hm' : 0 ≤ m ∧ m ≤ 4294967295 := by simpa [Lit.wf, IntKind.min, IntKind.max, IntKind.signed, IntKind.bits] using hm
  obtain ⟨n, rfl⟩ := Int.eq_ofNat_of_zero_le hn'.1
  obtain ⟨m, rfl⟩ := Int.eq_ofNat_of_zero_le hm'.1
  by_cases h : 1024 < s.size ∨ s.size ≤ 1024 ∧ s.size < 4 ∨ s.size ≤ 1024 ∧ 4 ≤ s.size ∧ m = 0
  · exact finds_no s n m w hs (by omega) h
  · exact finds_yes s n m w (by omega) (by omega) (by omega) (by omega) (by omega)
end Go.Proofs.Ytbicoiciapngdaa
