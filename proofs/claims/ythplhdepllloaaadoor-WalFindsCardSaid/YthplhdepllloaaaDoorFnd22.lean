/- What is proved here: where up to 32 bits that follow one another differ in a record's bytes, a scan ends ahead of it (plain); a block of bytes that a conversion made. No conditions but those of the values themselves. -/
import Derived.Test.YthplhdepllloaaaDoorAwk22
import Derived.Test.YthplhdepllloaaaDoorRes22
import Derived.Lib.ConvBytes
import Derived.Laws.IdiomStrings
import Derived.RegionTactic
import Derived.BigRegion
namespace Go.Proofs.YthplhdepllloaaaDoor
set_option maxRecDepth 100000
open Go.RowKit Go.Extern.Stop Go.Stop Go.Extern

/-- A block of bytes that a conversion made: what it holds. -/
def BR22 (w : World) (g : Nat) (l : List UInt8) : Prop :=
  ∃ cur : Array Value, w.heap[g]? = some (.cells cur 5 (cur.size, cur.size + 1)) ∧ l.length ≤ cur.size ∧ ∀ j (h : j < l.length), cur[j]? = some (.int .u8 (l[j].toNat : Nat))
theorem BR22.cell {w : World} {g : Nat} {l : List UInt8} (h : BR22 w g l) (j : Nat) (hj : j < l.length) : w.cell? ⟨g, j, none⟩ = some (.int .u8 (l[j].toNat : Nat)) := by
  obtain ⟨cur, h1, h2, h3⟩ := h
  simp [World.cell?, h1]
  exact h3 j hj
theorem BR22.frozen {w : World} {g : Nat} {l : List UInt8} (h : BR22 w g l) (j : Nat) (hj : j < l.length) : w.frozen? ⟨g, j, none⟩ = false := by
  obtain ⟨cur, h1, h2, h3⟩ := h
  simp [World.frozen?, h1]
  omega
theorem BR22.set {w : World} {g : Nat} {l : List UInt8} (h : BR22 w g l) (j : Nat) (hj : j < l.length) (v : UInt8) : BR22 (w.setCell ⟨g, j, none⟩ (.int .u8 (v.toNat : Nat))) g (l.set j v) := by
  obtain ⟨cur, h1, h2, h3⟩ := h
  refine ⟨cur.setIfInBounds j (.int .u8 (v.toNat : Nat)), ?_, by simpa using h2, ?_⟩
  · simp [World.setCell, Array.getElem?_modify, h1]
  · intro i hi
    rw [List.length_set] at hi
    by_cases e : j = i
    · subst e
      simp [Array.getElem?_setIfInBounds]
      omega
    · rw [Array.getElem?_setIfInBounds_ne e, List.getElem_set_ne e]
      exact h3 i hi
theorem BR22.drew {w : World} {g : Nat} {l : List UInt8} (h : BR22 w g l) : BR22 w.drew g l := h
theorem BR22.drewN {w : World} {g : Nat} {l : List UInt8} (h : BR22 w g l) (n : Nat) : BR22 (w.drewN n) g l := h
theorem BR22.made (w : World) (s : ByteArray) : BR22 (Lib.bytesWorld w 5 s) w.heap.size s.data.toList := by
  refine ⟨Lib.bytesCells w 5 s, Lib.bytesWorld_at_new w 5 s, ?_, ?_⟩
  · simp [Lib.bytesCells]
  · intro j hj
    simp at hj
    have := Lib.bytesWorld_cell w 5 s j hj
    simp [World.cell?, Lib.bytesWorld_at_new] at this
    rw [this]
    simp [hj]
theorem bytes_below22 (w : World) (s : ByteArray) : Below w.heap.size w (Lib.bytesWorld w 5 s) := by
  refine ⟨rfl, rfl, rfl, by rw [Lib.bytesWorld_size]; omega, fun k hk => Lib.bytesWorld_at_old w 5 s k hk⟩

def modL (p q : List UInt8) (x y : Nat → UInt8) : Nat → List UInt8
  | 0 => p ++ x 0 :: x 1 :: x 2 :: x 3 :: q
  | 1 => p ++ y 0 :: x 1 :: x 2 :: x 3 :: q
  | 2 => p ++ y 0 :: y 1 :: x 2 :: x 3 :: q
  | 3 => p ++ y 0 :: y 1 :: y 2 :: x 3 :: q
  | _ => p ++ y 0 :: y 1 :: y 2 :: y 3 :: q
theorem modL_len (p q : List UInt8) (x y : Nat → UInt8) (j : Nat) : (modL p q x y j).length = p.length + q.length + 4 := by
  unfold modL; split <;> simp <;> omega
theorem modL_at (p q : List UInt8) (x y : Nat → UInt8) (j : Nat) (hj : j < 4) (h : p.length + j < (modL p q x y j).length) : (modL p q x y j)[p.length + j] = x j := by
  rcases (show j = 0 ∨ j = 1 ∨ j = 2 ∨ j = 3 by omega) with rfl | rfl | rfl | rfl <;> simp [modL]
theorem modL_set (p q : List UInt8) (x y : Nat → UInt8) (j : Nat) (hj : j < 4) : (modL p q x y j).set (p.length + j) (y j) = modL p q x y (j + 1) := by
  rcases (show j = 0 ∨ j = 1 ∨ j = 2 ∨ j = 3 by omega) with rfl | rfl | rfl | rfl <;> simp [modL]
theorem split4 (l : List UInt8) (k : Nat) (h : k + 3 < l.length) : ∃ (p q : List UInt8) (x : Nat → UInt8), p.length = k ∧ l = p ++ x 0 :: x 1 :: x 2 :: x 3 :: q := by
  refine ⟨l.take k, l.drop (k + 4), fun i => l.getD (k + i) 0, by simp; omega, ?_⟩
  have h0 : l = l.take k ++ l.drop k := (List.take_append_drop k l).symm
  have e : l.drop k = l.getD (k + 0) 0 :: l.getD (k + 1) 0 :: l.getD (k + 2) 0 :: l.getD (k + 3) 0 :: l.drop (k + 4) := by
    rw [List.drop_eq_getElem_cons (by omega), List.drop_eq_getElem_cons (by omega), List.drop_eq_getElem_cons (by omega), List.drop_eq_getElem_cons (by omega)]
    simp [List.getD, List.getElem?_eq_getElem (show k < l.length by omega), List.getElem?_eq_getElem (show k + 1 < l.length by omega), List.getElem?_eq_getElem (show k + 2 < l.length by omega), List.getElem?_eq_getElem (show k + 3 < l.length by omega)]
  rw [← e]
  exact h0
def yOf (m : Nat) (x : Nat → UInt8) (j : Nat) : UInt8 := UInt8.ofNat ((x j).toNat ^^^ (m / 2 ^ (8 * j) % 256))
theorem yOf_nat (m : Nat) (x : Nat → UInt8) (j : Nat) : (yOf m x j).toNat = (x j).toNat ^^^ (m / 2 ^ (8 * j) % 256) := by
  unfold yOf
  have h : (x j).toNat ^^^ (m / 2 ^ (8 * j) % 256) < 2 ^ 8 := Nat.xor_lt_two_pow (x j).toNat_lt (by omega)
  rw [UInt8.toNat_ofNat']
  exact Nat.mod_eq_of_lt h
theorem xor8 (a b : Nat) (ha : a < 256) (hb : b < 256) : bits .xor .u8 (a : Int) (b : Int) = ((a ^^^ b : Nat) : Int) := by
  have h : a ^^^ b < 2 ^ 8 := Nat.xor_lt_two_pow ha hb
  have h1 : ∀ c : Nat, c < 256 → (BitVec.ofInt 8 (c : Int)).toNat = c := fun c hc => by
    rw [BitVec.ofInt_natCast, BitVec.toNat_ofNat]; exact Nat.mod_eq_of_lt hc
  show IntKind.u8.wrap ((BitVec.ofInt 8 (a : Int) ^^^ BitVec.ofInt 8 (b : Int)).toNat : Int) = _
  rw [BitVec.toNat_xor, h1 a ha, h1 b hb]
  have e : ∀ c : Int, IntKind.u8.wrap c = c % 256 := fun _ => rfl
  rw [e]
  omega
theorem xor8_0 (m : Nat) (x : Nat → UInt8) : bits .xor .u8 ((x 0).toNat : Int) ((m : Int) % 256) = ((yOf m x 0).toNat : Int) := by
  have e : (m : Int) % 256 = ((m / 2 ^ (8 * 0) % 256 : Nat) : Int) := by omega
  rw [e, xor8 _ _ (x 0).toNat_lt (by omega), yOf_nat]
theorem xor8_1 (m : Nat) (x : Nat → UInt8) : bits .xor .u8 ((x 1).toNat : Int) ((m : Int) / 256 % 256) = ((yOf m x 1).toNat : Int) := by
  have e : (m : Int) / 256 % 256 = ((m / 2 ^ (8 * 1) % 256 : Nat) : Int) := by omega
  rw [e, xor8 _ _ (x 1).toNat_lt (by omega), yOf_nat]
theorem xor8_2 (m : Nat) (x : Nat → UInt8) : bits .xor .u8 ((x 2).toNat : Int) ((m : Int) / 65536 % 256) = ((yOf m x 2).toNat : Int) := by
  have e : (m : Int) / 65536 % 256 = ((m / 2 ^ (8 * 2) % 256 : Nat) : Int) := by omega
  rw [e, xor8 _ _ (x 2).toNat_lt (by omega), yOf_nat]
theorem xor8_3 (m : Nat) (x : Nat → UInt8) (hm : m < 4294967296) : bits .xor .u8 ((x 3).toNat : Int) ((m : Int) / 16777216) = ((yOf m x 3).toNat : Int) := by
  have e : (m : Int) / 16777216 = ((m / 2 ^ (8 * 3) % 256 : Nat) : Int) := by omega
  rw [e, xor8 _ _ (x 3).toNat_lt (by omega), yOf_nat]
theorem crcMore_eq (l : List UInt8) : crcMore 0 l = inv32 (crcL (inv32 (u32of 0)) l) := rfl
theorem sums_differ {m : Nat} (hm0 : m ≠ 0) (hm : m < 4294967296) (p q : List UInt8) (x : Nat → UInt8) :
    crcMore 0 (modL p q x (yOf m x) 4) ≠ crcMore 0 (p ++ x 0 :: x 1 :: x 2 :: x 3 :: q) := by
  have hi := inv32_lt (u32of 0)
  have h := crc_finds (p := p) (q := q) (x0 := x 0) (x1 := x 1) (x2 := x 2) (x3 := x 3) (y0 := yOf m x 0) (y1 := yOf m x 1) (y2 := yOf m x 2) (y3 := yOf m x 3) (c := inv32 (u32of 0)) hi
    (Nat.mod_lt _ (by omega)) (Nat.mod_lt _ (by omega)) (Nat.mod_lt _ (by omega)) (Nat.mod_lt _ (by omega)) (yOf_nat m x 0) (yOf_nat m x 1) (yOf_nat m x 2) (yOf_nat m x 3)
    (fun ⟨h0, h1, h2, h3⟩ => hm0 (by omega))
  have e : modL p q x (yOf m x) 4 = p ++ yOf m x 0 :: yOf m x 1 :: yOf m x 2 :: yOf m x 3 :: q := rfl
  rw [e, crcMore_eq, crcMore_eq]
  have l1 := crcL_lt (p ++ yOf m x 0 :: yOf m x 1 :: yOf m x 2 :: yOf m x 3 :: q) hi
  have l2 := crcL_lt (p ++ x 0 :: x 1 :: x 2 :: x 3 :: q) hi
  intro h2
  apply h
  unfold inv32 at h2 l1 l2 ⊢
  omega
theorem frs_at {L : List ByteArray} {k : Nat} (hk : k < L.length) : frs L = frs (L.take k) ++ (frW (L.getD k e0) ++ frs (L.drop (k + 1))) := by
  have h := frs_app (L.take k) (L.drop k)
  rw [List.take_append_drop] at h
  rw [h, List.drop_eq_getElem_cons hk, List.getD_eq_getElem?_getD, List.getElem?_eq_getElem hk]
  rfl
/-- What is found where a record's bytes differ. -/
theorem finds_plain {L : List ByteArray} {k j : Nat} (hk : k < L.length) (h64 : ∀ b ∈ L, b.size ≤ 65536) (hj : j + 3 < (L.getD k e0).size) : ∃ (p q : List UInt8) (x : Nat → UInt8), p.length = (frs (L.take k)).length + 8 + j ∧ frs L = p ++ x 0 :: x 1 :: x 2 :: x 3 :: q ∧
    ∀ m, m ≠ 0 → m < 4294967296 → ScR ⟨(modL p q x (yOf m x) 4).toArray⟩ (L.take k) 0 (frs (L.take k)).length := by
  have hfr := frs_at hk
  have hX : L.getD k e0 ∈ L := by
    rw [List.getD_eq_getElem?_getD, List.getElem?_eq_getElem hk]
    exact List.getElem_mem _
  have hX64 := h64 _ hX
  generalize L.getD k e0 = X at *
  have hXs : X.data.toList.length = X.size := by rw [Array.length_toList]; rfl
  obtain ⟨xp, xq, x, hp, hl⟩ := split4 X.data.toList j (by omega)
  refine ⟨frs (L.take k) ++ (be 4 X.size ++ (be 4 (crcW X) ++ xp)), xq ++ frs (L.drop (k + 1)), x, ?_, ?_, fun m h0 hm => ?_⟩
  · rw [List.length_append, List.length_append, List.length_append, be_len, be_len, hp]
    omega
  · rw [hfr]
    unfold frW
    rw [hl]
    simp
  · have hne := sums_differ h0 hm (be 4 X.size ++ xp) xq x
    have hb' : (⟨(modL xp xq x (yOf m x) 4).toArray⟩ : ByteArray).size = X.size := by
      rw [bsize, modL_len, ← hXs, hl]
      simp
      omega
    refine scR_all (tail := be 4 X.size ++ (be 4 (crcW X) ++ ((⟨(modL xp xq x (yOf m x) 4).toArray⟩ : ByteArray).data.toList ++ frs (L.drop (k + 1))))) (fun t ht => nx_wrong ht hb' hX64 ?_) (fun b hb => h64 b (List.mem_of_mem_take hb)) ?_
    · rw [crcW_eq, crcW_eq, hb', hl]
      show crcMore 0 (be 4 X.size ++ modL xp xq x (yOf m x) 4) ≠ _
      rw [← List.append_assoc (be 4 X.size) xp]
      have e : be 4 X.size ++ modL xp xq x (yOf m x) 4 = modL (be 4 X.size ++ xp) xq x (yOf m x) 4 := by simp [modL]
      rw [e]
      exact hne
    · show modL (frs (L.take k) ++ (be 4 X.size ++ (be 4 (crcW X) ++ xp))) (xq ++ frs (L.drop (k + 1))) x (yOf m x) 4 = frs (L.take k) ++ (be 4 X.size ++ (be 4 (crcW X) ++ (modL xp xq x (yOf m x) 4 ++ frs (L.drop (k + 1)))))
      simp [modL]
end Go.Proofs.YthplhdepllloaaaDoor
