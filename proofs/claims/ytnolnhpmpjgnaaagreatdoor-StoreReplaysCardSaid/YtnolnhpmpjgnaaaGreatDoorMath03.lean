/- What is proved here: the letter that bytes begin with, by the document's own answer, is the one of the plain walk. Conditions: the number's range, the text's length. What is proved here, on plain bytes: the document's number of so many bytes is a letter's whose bytes stand there, just if a letter of so many bytes stands there. No conditions. What is proved here: the cut, the check and the letters of bytes, by the document's own answers, are those of the plain walk. Condition: the text's length. What is proved here, on plain bytes: what stands ahead of the cut is a text; two texts together are one; a letter's bytes are a text of one letter, cut they are none. No conditions. -/
import Derived.Test.YtnolnhpmpjgnaaaGreatDoorCut03
import Derived.Test.YtnolnhpmpjgnaaaGreatDoorRef02
namespace Go.Proofs.YtnolnhpmpjgnaaaGreatDoor
open Go.RowKit Go.Extern.Stop Go.Stop Go.Extern

theorem conv_cells (w : World) (l : List UInt8) (vs : Array Value) (hv : vs.toList = l.map byteV) :
    (convert 80 9 (.slice (some ⟨w.heap.size, 0, none⟩) l.length l.length)).run Tryz.prog (w.alloc (.cells vs 5)) = .ok (.string ⟨l.toArray⟩) (w.alloc (.cells vs 5)) := by
  refine run_convert_bytes_back _ 80 9 5 ⟨w.heap.size, 0, none⟩ l.length l Tryz.underlying80 Tryz.underlying5 Tryz.underlying9 fun j hj => ?_
  have h := (MapKept.heap_alloc w (.cells vs 5)).1
  have hz : vs[j]? = some (byteV l[j]) := by
    rw [← Array.getElem?_toList, hv, List.getElem?_map, List.getElem?_eq_getElem hj]; rfl
  rw [Go.WideShapes.add_plain, Nat.zero_add]
  unfold World.cell?
  dsimp only
  rw [h]
  simp only [hz, byteV, Option.isSome_none, Bool.false_eq_true, if_false]

def BytesSays (n : Int) (w : World) (x : Ending) (w' : World) : Prop := x = .returned (.string ⟨(bytesOf n).toArray⟩) ∧ Below w.heap.size w w'
theorem byteV_of {n : Nat} (h : n < 256) : byteV (UInt8.ofNat n) = .int .u8 (n : Int) := byteV_ofNat h

set_option maxRecDepth 100000 in
theorem rf_bytes_none (n : Int) (w : World) (h : letB n = false) : Calls Tryz.prog 131 #[.int .i64 n] w (BytesSays n w) := by
  have HB := Lib.hid (bytesOf_none h)
  have hn : ¬ (1 ≤ n ∧ n ≤ 1114111 ∧ ¬ (55296 ≤ n ∧ n ≤ 57343)) := by
    intro h'
    rw [letB_iff.2 h'] at h
    cases h
  clear h
  by_cases h1 : n < 1
  · clear hn
    go_enter Tryz.func131, Tryz.ntmps131
    go_wp2
    go_ret
    exact ⟨by rw [HB.out]; rfl, Below.refl _ _⟩
  · by_cases h2 : 1114111 < n
    · clear hn
      have h1' : 1 ≤ n := by omega
      go_enter Tryz.func131, Tryz.ntmps131
      go_wp2
      go_ret
      exact ⟨by rw [HB.out]; rfl, Below.refl _ _⟩
    · have h3 : 55296 ≤ n := by omega
      have h4 : n ≤ 57343 := by omega
      have h1' : 1 ≤ n := by omega
      have h2' : n ≤ 1114111 := by omega
      clear hn h1 h2
      go_enter Tryz.func131, Tryz.ntmps131
      go_wp2
      go_ret
      exact ⟨by rw [HB.out]; rfl, Below.refl _ _⟩

set_option maxRecDepth 100000 in
theorem rf_bytes_1 (n : Nat) (w : World) (h0 : 1 ≤ n) (h1 : n < 128) : Calls Tryz.prog 131 #[.int .i64 n] w (BytesSays n w) := by
  have hb : bytesOf (n : Int) = ([n]).map UInt8.ofNat := by
    unfold bytesOf
    rw [if_pos (letB_iff.2 ⟨by omega, by omega, by omega⟩), Int.toNat_natCast]
    unfold digs
    rw [if_pos (by omega)]
  have hc := conv_cells w (bytesOf (n : Int)) #[.int .u8 ((n : Int))] (by
    rw [hb]
    simp only [List.map_cons, List.map_nil]
    rw [byteV_of (show n < 256 by omega)])
  have hl : (bytesOf (n : Int)).length = 1 := by rw [hb]; rfl
  rw [hl] at hc
  unfold BytesSays
  clear hb hl
  generalize (⟨(bytesOf (n : Int)).toArray⟩ : ByteArray) = r at *
  have q0 : decide ((n : Int) < 1) = false := by simp; omega
  have q1 : decide (1114111 < (n : Int)) = false := by simp; omega
  have q2 : decide ((n : Int) < 128) = true := by simp; omega
  have q3 : decide ((n : Int) < 2048) = true := by simp; omega
  have q4 : decide ((n : Int) < 65536) = true := by simp; omega
  have q5 : decide (55296 ≤ (n : Int)) = false := by simp; omega
  have g0 : (n : Int) < 128 := by omega
  have H0 := Lib.hid h0
  have H1 := Lib.hid h1
  clear h0 h1
  go_enter Tryz.func131, Tryz.ntmps131
  go_wp2
  go_ret
  exact ⟨rfl, (Below.refl _ _).alloc (Nat.le_refl _) _⟩

set_option maxRecDepth 100000 in
theorem rf_bytes_2 (n : Nat) (w : World) (h0 : 128 ≤ n) (h1 : n < 2048) : Calls Tryz.prog 131 #[.int .i64 n] w (BytesSays n w) := by
  have hb : bytesOf (n : Int) = ([192 + n / 64, 128 + n % 64]).map UInt8.ofNat := by
    unfold bytesOf
    rw [if_pos (letB_iff.2 ⟨by omega, by omega, by omega⟩), Int.toNat_natCast]
    unfold digs
    rw [if_neg (by omega), if_pos (by omega)]
  have hc := conv_cells w (bytesOf (n : Int)) #[.int .u8 (192 + (n : Int) / 64), .int .u8 (128 + (n : Int) % 64)] (by
    rw [hb]
    simp only [List.map_cons, List.map_nil]
    rw [byteV_of (show 192 + n / 64 < 256 by omega), byteV_of (show 128 + n % 64 < 256 by omega)]
    have c0 : ((192 + n / 64 : Nat) : Int) = 192 + (n : Int) / 64 := by omega
    have c1 : ((128 + n % 64 : Nat) : Int) = 128 + (n : Int) % 64 := by omega
    rw [c0, c1])
  have hl : (bytesOf (n : Int)).length = 2 := by rw [hb]; rfl
  rw [hl] at hc
  unfold BytesSays
  clear hb hl
  generalize (⟨(bytesOf (n : Int)).toArray⟩ : ByteArray) = r at *
  have q0 : decide ((n : Int) < 1) = false := by simp; omega
  have q1 : decide (1114111 < (n : Int)) = false := by simp; omega
  have q2 : decide ((n : Int) < 128) = false := by simp; omega
  have q3 : decide ((n : Int) < 2048) = true := by simp; omega
  have q4 : decide ((n : Int) < 65536) = true := by simp; omega
  have q5 : decide (55296 ≤ (n : Int)) = false := by simp; omega
  have g0 : (n : Int) < 2048 := by omega
  have H0 := Lib.hid h0
  have H1 := Lib.hid h1
  clear h0 h1
  go_enter Tryz.func131, Tryz.ntmps131
  go_wp2
  go_ret
  exact ⟨rfl, (Below.refl _ _).alloc (Nat.le_refl _) _⟩

set_option maxRecDepth 100000 in
theorem rf_bytes_3 (n : Nat) (w : World) (h0 : 2048 ≤ n) (h1 : n < 65536) (hs : ¬ (55296 ≤ n ∧ n ≤ 57343)) : Calls Tryz.prog 131 #[.int .i64 n] w (BytesSays n w) := by
  have hb : bytesOf (n : Int) = ([224 + n / 4096, 128 + n / 64 % 64, 128 + n % 64]).map UInt8.ofNat := by
    unfold bytesOf
    rw [if_pos (letB_iff.2 ⟨by omega, by omega, by omega⟩), Int.toNat_natCast]
    unfold digs
    rw [if_neg (by omega), if_neg (by omega), if_pos (by omega)]
  have hc := conv_cells w (bytesOf (n : Int)) #[.int .u8 (224 + (n : Int) / 4096), .int .u8 (128 + (n : Int) / 64 % 64), .int .u8 (128 + (n : Int) % 64)] (by
    rw [hb]
    simp only [List.map_cons, List.map_nil]
    rw [byteV_of (show 224 + n / 4096 < 256 by omega), byteV_of (show 128 + n / 64 % 64 < 256 by omega), byteV_of (show 128 + n % 64 < 256 by omega)]
    have c0 : ((224 + n / 4096 : Nat) : Int) = 224 + (n : Int) / 4096 := by omega
    have c1 : ((128 + n / 64 % 64 : Nat) : Int) = 128 + (n : Int) / 64 % 64 := by omega
    have c2 : ((128 + n % 64 : Nat) : Int) = 128 + (n : Int) % 64 := by omega
    rw [c0, c1, c2])
  have hl : (bytesOf (n : Int)).length = 3 := by rw [hb]; rfl
  rw [hl] at hc
  unfold BytesSays
  clear hb hl
  generalize (⟨(bytesOf (n : Int)).toArray⟩ : ByteArray) = r at *
  have g0 : (n : Int) < 65536 := by omega
  by_cases h5 : n < 55296
  · have q0 : decide ((n : Int) < 1) = false := by simp; omega
    have q1 : decide (1114111 < (n : Int)) = false := by simp; omega
    have q2 : decide ((n : Int) < 128) = false := by simp; omega
    have q3 : decide ((n : Int) < 2048) = false := by simp; omega
    have q4 : decide ((n : Int) < 65536) = true := by simp; omega
    have q5 : decide (55296 ≤ (n : Int)) = false := by simp; omega
    clear h0 h1 hs h5
    go_enter Tryz.func131, Tryz.ntmps131
    go_wp2
    go_ret
    exact ⟨rfl, (Below.refl _ _).alloc (Nat.le_refl _) _⟩
  · have q0 : decide ((n : Int) < 1) = false := by simp; omega
    have q1 : decide (1114111 < (n : Int)) = false := by simp; omega
    have q2 : decide ((n : Int) < 128) = false := by simp; omega
    have q3 : decide ((n : Int) < 2048) = false := by simp; omega
    have q4 : decide ((n : Int) < 65536) = true := by simp; omega
    have q5 : decide (55296 ≤ (n : Int)) = true := by simp; omega
    have q6 : decide ((n : Int) ≤ 57343) = false := by simp; omega
    clear h0 h1 hs h5
    go_enter Tryz.func131, Tryz.ntmps131
    go_wp2
    go_ret
    exact ⟨rfl, (Below.refl _ _).alloc (Nat.le_refl _) _⟩

set_option maxRecDepth 100000 in
theorem rf_bytes_4 (n : Nat) (w : World) (h0 : 65536 ≤ n) (h1 : n < 1114112) : Calls Tryz.prog 131 #[.int .i64 n] w (BytesSays n w) := by
  have hb : bytesOf (n : Int) = ([240 + n / 262144, 128 + n / 4096 % 64, 128 + n / 64 % 64, 128 + n % 64]).map UInt8.ofNat := by
    unfold bytesOf
    rw [if_pos (letB_iff.2 ⟨by omega, by omega, by omega⟩), Int.toNat_natCast]
    unfold digs
    rw [if_neg (by omega), if_neg (by omega), if_neg (by omega)]
  have hc := conv_cells w (bytesOf (n : Int)) #[.int .u8 (240 + (n : Int) / 262144), .int .u8 (128 + (n : Int) / 4096 % 64), .int .u8 (128 + (n : Int) / 64 % 64), .int .u8 (128 + (n : Int) % 64)] (by
    rw [hb]
    simp only [List.map_cons, List.map_nil]
    rw [byteV_of (show 240 + n / 262144 < 256 by omega), byteV_of (show 128 + n / 4096 % 64 < 256 by omega), byteV_of (show 128 + n / 64 % 64 < 256 by omega), byteV_of (show 128 + n % 64 < 256 by omega)]
    have c0 : ((240 + n / 262144 : Nat) : Int) = 240 + (n : Int) / 262144 := by omega
    have c1 : ((128 + n / 4096 % 64 : Nat) : Int) = 128 + (n : Int) / 4096 % 64 := by omega
    have c2 : ((128 + n / 64 % 64 : Nat) : Int) = 128 + (n : Int) / 64 % 64 := by omega
    have c3 : ((128 + n % 64 : Nat) : Int) = 128 + (n : Int) % 64 := by omega
    rw [c0, c1, c2, c3])
  have hl : (bytesOf (n : Int)).length = 4 := by rw [hb]; rfl
  rw [hl] at hc
  unfold BytesSays
  clear hb hl
  generalize (⟨(bytesOf (n : Int)).toArray⟩ : ByteArray) = r at *
  have q0 : decide ((n : Int) < 1) = false := by simp; omega
  have q1 : decide (1114111 < (n : Int)) = false := by simp; omega
  have q2 : decide ((n : Int) < 128) = false := by simp; omega
  have q3 : decide ((n : Int) < 2048) = false := by simp; omega
  have q4 : decide ((n : Int) < 65536) = false := by simp; omega
  have q5 : decide (55296 ≤ (n : Int)) = true := by simp; omega
  have q6 : decide ((n : Int) ≤ 57343) = false := by simp; omega
  have g0 : (n : Int) < 1114112 := by omega
  have H0 := Lib.hid h0
  have H1 := Lib.hid h1
  clear h0 h1
  go_enter Tryz.func131, Tryz.ntmps131
  go_wp2
  go_ret
  exact ⟨rfl, (Below.refl _ _).alloc (Nat.le_refl _) _⟩

theorem rf_bytes (n : Int) (w : World) : Calls Tryz.prog 131 #[.int .i64 n] w (BytesSays n w) := by
  cases hb : letB n with
  | false => exact rf_bytes_none n w hb
  | true =>
    have h := letB_iff.1 hb
    obtain ⟨m, rfl⟩ : ∃ m : Nat, n = (m : Int) := ⟨n.toNat, by omega⟩
    by_cases h1 : m < 128
    · exact rf_bytes_1 m w (by omega) h1
    · by_cases h2 : m < 2048
      · exact rf_bytes_2 m w (by omega) h2
      · by_cases h3 : m < 65536
        · exact rf_bytes_3 m w (by omega) h3 (by omega)
        · exact rf_bytes_4 m w (by omega) (by omega)

/-- The document's number of so many bytes. -/
def pInt (s : ByteArray) (base : Int) : Nat → Int
  | 0 => 0
  | 1 => (bAt s 0 : Int) - base
  | i + 2 => 64 * pInt s base (i + 1) + (bAt s (i + 1) : Int) - 128
def refNum (s : ByteArray) (many : Nat) : Int := if many = 1 then (bAt s 0 : Int) else if many = 2 then pInt s 192 2 else if many = 3 then pInt s 224 3 else pInt s 240 4
def IntBd (i : Nat) (z : Int) : Prop := i = 1 ∧ -300 ≤ z ∧ z ≤ 300 ∨ i = 2 ∧ -20000 ≤ z ∧ z ≤ 20000 ∨ i = 3 ∧ -1300000 ≤ z ∧ z ≤ 1300000 ∨ i = 4 ∧ -84000000 ≤ z ∧ z ≤ 84000000
def NumSays (z : Int) (w : World) (x : Ending) (w' : World) : Prop := x = .returned (.int .i64 z) ∧ w = w'
theorem rf_number_1 (s : ByteArray) (w : World) (h0 : 0 < s.size) : Calls Tryz.prog 132 #[.string s, .int .i64 1] w (NumSays (refNum s 1) w) := by
  have e : refNum s 1 = (s[0].toNat : Int) := by show (bAt s 0 : Int) = _; rw [bAt_get h0]
  have hb : s[0].toNat < 256 := UInt8.toNat_lt _
  rw [e]
  clear e
  unfold NumSays
  go_enter Tryz.func132, Tryz.ntmps132
  go_wp2
  go_ret
  exact ⟨rfl, rfl⟩

set_option maxRecDepth 100000 in
set_option maxHeartbeats 4000000 in
theorem rf_number_2 (s : ByteArray) (w : World) (hs : 2 ≤ s.size) (hm : s.size ≤ 4611686018427387903) : Calls Tryz.prog 132 #[.string s, .int .i64 2] w (NumSays (refNum s 2) w) := by
  have e : refNum s 2 = pInt s 192 2 := rfl
  have hp : pInt s 192 1 = (s[0].toNat : Int) - 192 := by show (bAt s 0 : Int) - 192 = _; rw [bAt_get (by omega)]
  have HP := Lib.hid hp
  have HE := Lib.hid e
  have hb : s[0].toNat < 256 := UInt8.toNat_lt _
  clear hp e
  unfold NumSays
  generalize refNum s 2 = r at *
  go_enter Tryz.func132, Tryz.ntmps132
  go_wp2
  go_loopg [5, 6] (2 - 1) (fun f x y wr => w = wr ∧ ∃ (i : Nat) (z : Int), f = 2 - i ∧ i ≤ 2 ∧ x = .int .i64 z ∧ y = .int .i64 i ∧ z = pInt s 192 i ∧ IntBd i z)
  case atStart => exact ⟨rfl, 1, (s[0].toNat : Int) - 192, rfl, by omega, by go_num, rfl, HP.out.symm, .inl ⟨rfl, by omega, by omega⟩⟩
  case round =>
    obtain ⟨rfl, i, z, rfl, hi, rfl, rfl, hz, hbd⟩ := hrel
    have HZ := Lib.hid hz
    clear hz HP
    rcases hbd with ⟨rfl, hn1, hn2⟩ | ⟨rfl, hn1, hn2⟩ | ⟨rfl, hn1, hn2⟩ | ⟨rfl, hn1, hn2⟩
    · have hlt : 1 < s.size := by omega
      have hst : pInt s 192 2 = (64 : Int) * z + (s[1].toNat : Int) - 128 := by
        show (64 : Int) * pInt s 192 1 + (bAt s 1 : Int) - 128 = _
        rw [bAt_get hlt, ← HZ.out]
      have HS := Lib.hid hst
      have hb2 : s[1].toNat < 256 := UInt8.toNat_lt _
      clear hst
      go_wp2
      go_roundg (2 - 2)
      case rel => exact ⟨rfl, 2, 64 * z + (s[1].toNat : Int) - 128, rfl, by omega, by go_num, rfl, HS.out.symm, .inr (.inl ⟨rfl, by omega, by omega⟩)⟩
      case measure => omega
    · go_wp2
      go_ret
      exact ⟨by rw [HE.out, ← HZ.out]; rfl, rfl⟩
    · exact absurd hi (by omega)
    · exact absurd hi (by omega)

set_option maxRecDepth 100000 in
set_option maxHeartbeats 4000000 in
theorem rf_number_3 (s : ByteArray) (w : World) (hs : 3 ≤ s.size) (hm : s.size ≤ 4611686018427387903) : Calls Tryz.prog 132 #[.string s, .int .i64 3] w (NumSays (refNum s 3) w) := by
  have e : refNum s 3 = pInt s 224 3 := rfl
  have hp : pInt s 224 1 = (s[0].toNat : Int) - 224 := by show (bAt s 0 : Int) - 224 = _; rw [bAt_get (by omega)]
  have HP := Lib.hid hp
  have HE := Lib.hid e
  have hb : s[0].toNat < 256 := UInt8.toNat_lt _
  clear hp e
  unfold NumSays
  generalize refNum s 3 = r at *
  go_enter Tryz.func132, Tryz.ntmps132
  go_wp2
  go_loopg [5, 6] (3 - 1) (fun f x y wr => w = wr ∧ ∃ (i : Nat) (z : Int), f = 3 - i ∧ i ≤ 3 ∧ x = .int .i64 z ∧ y = .int .i64 i ∧ z = pInt s 224 i ∧ IntBd i z)
  case atStart => exact ⟨rfl, 1, (s[0].toNat : Int) - 224, rfl, by omega, by go_num, rfl, HP.out.symm, .inl ⟨rfl, by omega, by omega⟩⟩
  case round =>
    obtain ⟨rfl, i, z, rfl, hi, rfl, rfl, hz, hbd⟩ := hrel
    have HZ := Lib.hid hz
    clear hz HP
    rcases hbd with ⟨rfl, hn1, hn2⟩ | ⟨rfl, hn1, hn2⟩ | ⟨rfl, hn1, hn2⟩ | ⟨rfl, hn1, hn2⟩
    · have hlt : 1 < s.size := by omega
      have hst : pInt s 224 2 = (64 : Int) * z + (s[1].toNat : Int) - 128 := by
        show (64 : Int) * pInt s 224 1 + (bAt s 1 : Int) - 128 = _
        rw [bAt_get hlt, ← HZ.out]
      have HS := Lib.hid hst
      have hb2 : s[1].toNat < 256 := UInt8.toNat_lt _
      clear hst
      go_wp2
      go_roundg (3 - 2)
      case rel => exact ⟨rfl, 2, 64 * z + (s[1].toNat : Int) - 128, rfl, by omega, by go_num, rfl, HS.out.symm, .inr (.inl ⟨rfl, by omega, by omega⟩)⟩
      case measure => omega
    · have hlt : 2 < s.size := by omega
      have hst : pInt s 224 3 = (64 : Int) * z + (s[2].toNat : Int) - 128 := by
        show (64 : Int) * pInt s 224 2 + (bAt s 2 : Int) - 128 = _
        rw [bAt_get hlt, ← HZ.out]
      have HS := Lib.hid hst
      have hb2 : s[2].toNat < 256 := UInt8.toNat_lt _
      clear hst
      go_wp2
      go_roundg (3 - 3)
      case rel => exact ⟨rfl, 3, 64 * z + (s[2].toNat : Int) - 128, rfl, by omega, by go_num, rfl, HS.out.symm, .inr (.inr (.inl ⟨rfl, by omega, by omega⟩))⟩
      case measure => omega
    · go_wp2
      go_ret
      exact ⟨by rw [HE.out, ← HZ.out]; rfl, rfl⟩
    · exact absurd hi (by omega)

set_option maxRecDepth 100000 in
set_option maxHeartbeats 4000000 in
theorem rf_number_4 (s : ByteArray) (w : World) (hs : 4 ≤ s.size) (hm : s.size ≤ 4611686018427387903) : Calls Tryz.prog 132 #[.string s, .int .i64 4] w (NumSays (refNum s 4) w) := by
  have e : refNum s 4 = pInt s 240 4 := rfl
  have hp : pInt s 240 1 = (s[0].toNat : Int) - 240 := by show (bAt s 0 : Int) - 240 = _; rw [bAt_get (by omega)]
  have HP := Lib.hid hp
  have HE := Lib.hid e
  have hb : s[0].toNat < 256 := UInt8.toNat_lt _
  clear hp e
  unfold NumSays
  generalize refNum s 4 = r at *
  go_enter Tryz.func132, Tryz.ntmps132
  go_wp2
  go_loopg [5, 6] (4 - 1) (fun f x y wr => w = wr ∧ ∃ (i : Nat) (z : Int), f = 4 - i ∧ i ≤ 4 ∧ x = .int .i64 z ∧ y = .int .i64 i ∧ z = pInt s 240 i ∧ IntBd i z)
  case atStart => exact ⟨rfl, 1, (s[0].toNat : Int) - 240, rfl, by omega, by go_num, rfl, HP.out.symm, .inl ⟨rfl, by omega, by omega⟩⟩
  case round =>
    obtain ⟨rfl, i, z, rfl, hi, rfl, rfl, hz, hbd⟩ := hrel
    have HZ := Lib.hid hz
    clear hz HP
    rcases hbd with ⟨rfl, hn1, hn2⟩ | ⟨rfl, hn1, hn2⟩ | ⟨rfl, hn1, hn2⟩ | ⟨rfl, hn1, hn2⟩
    · have hlt : 1 < s.size := by omega
      have hst : pInt s 240 2 = (64 : Int) * z + (s[1].toNat : Int) - 128 := by
        show (64 : Int) * pInt s 240 1 + (bAt s 1 : Int) - 128 = _
        rw [bAt_get hlt, ← HZ.out]
      have HS := Lib.hid hst
      have hb2 : s[1].toNat < 256 := UInt8.toNat_lt _
      clear hst
      go_wp2
      go_roundg (4 - 2)
      case rel => exact ⟨rfl, 2, 64 * z + (s[1].toNat : Int) - 128, rfl, by omega, by go_num, rfl, HS.out.symm, .inr (.inl ⟨rfl, by omega, by omega⟩)⟩
      case measure => omega
    · have hlt : 2 < s.size := by omega
      have hst : pInt s 240 3 = (64 : Int) * z + (s[2].toNat : Int) - 128 := by
        show (64 : Int) * pInt s 240 2 + (bAt s 2 : Int) - 128 = _
        rw [bAt_get hlt, ← HZ.out]
      have HS := Lib.hid hst
      have hb2 : s[2].toNat < 256 := UInt8.toNat_lt _
      clear hst
      go_wp2
      go_roundg (4 - 3)
      case rel => exact ⟨rfl, 3, 64 * z + (s[2].toNat : Int) - 128, rfl, by omega, by go_num, rfl, HS.out.symm, .inr (.inr (.inl ⟨rfl, by omega, by omega⟩))⟩
      case measure => omega
    · have hlt : 3 < s.size := by omega
      have hst : pInt s 240 4 = (64 : Int) * z + (s[3].toNat : Int) - 128 := by
        show (64 : Int) * pInt s 240 3 + (bAt s 3 : Int) - 128 = _
        rw [bAt_get hlt, ← HZ.out]
      have HS := Lib.hid hst
      have hb2 : s[3].toNat < 256 := UInt8.toNat_lt _
      clear hst
      go_wp2
      go_roundg (4 - 4)
      case rel => exact ⟨rfl, 4, 64 * z + (s[3].toNat : Int) - 128, rfl, by omega, by go_num, rfl, HS.out.symm, .inr (.inr (.inr (⟨rfl, by omega, by omega⟩)))⟩
      case measure => omega
    · go_wp2
      go_ret
      exact ⟨by rw [HE.out, ← HZ.out]; rfl, rfl⟩

theorem rf_number (s : ByteArray) (k : Nat) (w : World) (h1 : 1 ≤ k) (h4 : k ≤ 4) (hs : k ≤ s.size) (hm : s.size ≤ 4611686018427387903) : Calls Tryz.prog 132 #[.string s, .int .i64 k] w (NumSays (refNum s k) w) := by
  rcases (show k = 1 ∨ k = 2 ∨ k = 3 ∨ k = 4 by omega) with rfl | rfl | rfl | rfl
  · exact rf_number_1 s w (by omega)
  · exact rf_number_2 s w hs hm
  · exact rf_number_3 s w hs hm
  · exact rf_number_4 s w hs hm
end Go.Proofs.YtnolnhpmpjgnaaaGreatDoor
namespace Go.Proofs.YtnolnhpmpjgnaaaGreatDoor

theorem ofNat_toNat8 (x : UInt8) : UInt8.ofNat x.toNat = x := UInt8.ofNat_toNat
theorem take_list (s : ByteArray) (k : Nat) : (s.extract 0 k).data.toList = s.data.toList.take k := by simp [ByteArray.data_extract]
theorem ref_num {s : ByteArray} {k : Nat} (h : szAt s 0 = k) (hk : 1 ≤ k) : refNum s k = (numAt s 0 k : Nat) := by
  rcases sz_or s 0 with h' | ⟨e, h1, h2, hc, ho⟩
  · omega
  · rw [← e, h] at hc
    rw [h] at e
    clear ho h1 h2
    have cl : ∀ a, classOf a = 2 → 192 ≤ a := by
      intro a h; unfold classOf at h; split at h <;> (try split at h) <;> (try split at h) <;> (try split at h) <;> (try split at h) <;> omega
    have cl3 : ∀ a, classOf a = 3 → 224 ≤ a := by
      intro a h; unfold classOf at h; split at h <;> (try split at h) <;> (try split at h) <;> (try split at h) <;> (try split at h) <;> omega
    have cl4 : ∀ a, classOf a = 4 → 240 ≤ a := by
      intro a h; unfold classOf at h; split at h <;> (try split at h) <;> (try split at h) <;> (try split at h) <;> (try split at h) <;> omega
    have hb := class_bd (bAt s 0)
    rcases (show k = 1 ∨ k = 2 ∨ k = 3 ∨ k = 4 by omega) with rfl | rfl | rfl | rfl
    · rfl
    · have := cl _ e.symm
      simp [contB, isC] at hc
      show (64 : Int) * ((bAt s 0 : Int) - 192) + (bAt s 1 : Int) - 128 = (((bAt s 0 - 192) * 64 + (bAt s 1 - 128) : Nat) : Int)
      omega
    · have := cl3 _ e.symm
      simp [contB, isC] at hc
      show (64 : Int) * ((64 : Int) * ((bAt s 0 : Int) - 224) + (bAt s 1 : Int) - 128) + (bAt s 2 : Int) - 128 = ((((bAt s 0 - 224) * 64 + (bAt s 1 - 128)) * 64 + (bAt s 2 - 128) : Nat) : Int)
      omega
    · have := cl4 _ e.symm
      simp [contB, isC] at hc
      show (64 : Int) * ((64 : Int) * ((64 : Int) * ((bAt s 0 : Int) - 240) + (bAt s 1 : Int) - 128) + (bAt s 2 : Int) - 128) + (bAt s 3 : Int) - 128 = (((((bAt s 0 - 240) * 64 + (bAt s 1 - 128)) * 64 + (bAt s 2 - 128)) * 64 + (bAt s 3 - 128) : Nat) : Int)
      omega
theorem hit {s : ByteArray} {k : Nat} (h : szAt s 0 = k) (hk : 1 ≤ k) : letB (refNum s k) = true ∧ (⟨(bytesOf (refNum s k)).toArray⟩ : ByteArray) = s.extract 0 k := by
  have hn := ref_num h hk
  have hz := sz_num (s := s) (at_ := 0) (by omega)
  rw [h] at hz
  obtain ⟨h1, h2, h3⟩ := hz
  rw [hn]
  refine ⟨h1, ?_⟩
  have hsz := (sz_bd s 0).2 (by omega)
  rw [h] at hsz
  apply ByteArray.ext
  apply Array.toList_inj.mp
  rw [take_list]
  show bytesOf _ = _
  have hlen : (bytesOf (numAt s 0 k : Nat)).length = k := by rw [bytesOf_len h1, Int.toNat_natCast]; exact h2
  apply List.ext_getElem
  · rw [hlen, List.length_take, bLen]; omega
  · intro i hi1 hi2
    rw [hlen] at hi1
    have g := bytesOf_get h1 i (by rw [Int.toNat_natCast]; omega)
    rw [Int.toNat_natCast] at g
    have g3 := h3 i hi1
    rw [Nat.zero_add] at g3
    rw [← g3] at g
    unfold bAt at g
    have g4 := UInt8.toNat_inj.1 g
    rw [List.getD_eq_getElem?_getD, List.getD_eq_getElem?_getD, List.getElem?_eq_getElem (by omega), List.getElem?_eq_getElem (by rw [bLen]; omega)] at g4
    rw [List.getElem_take]
    exact g4
theorem miss {s : ByteArray} {k : Nat} (hs : k ≤ s.size) (hl : letB (refNum s k) = true) (h : (⟨(bytesOf (refNum s k)).toArray⟩ : ByteArray) = s.extract 0 k) : szAt s 0 = k := by
  have h' := congrArg (fun x : ByteArray => x.data.toList) h
  simp only [take_list] at h'
  have h2 : bytesOf (refNum s k) = s.data.toList.take k := h'
  have hlen := bytesOf_len hl
  have hlk : lenOf (refNum s k).toNat = k := by
    rw [← hlen, h2, List.length_take, bLen]; omega
  have := sz_of_bytes (s := s) (at_ := 0) hl (by omega) (fun i hi => by
    rw [← bytesOf_get hl i hi, h2, Nat.zero_add]
    unfold bAt
    rw [List.getD_eq_getElem?_getD, List.getD_eq_getElem?_getD, List.getElem?_take_of_lt (by omega)])
  rw [this, hlk]
theorem bytes_ne0 {n : Int} (h : letB n = true) : (⟨(bytesOf n).toArray⟩ : ByteArray) ≠ ⟨#[]⟩ := by
  intro e
  have h1 : bytesOf n = [] := congrArg (fun x : ByteArray => x.data.toList) e
  have hl := bytesOf_len h
  have hb := lenOf_bd n.toNat
  rw [h1] at hl
  have : (0 : Nat) = lenOf n.toNat := hl
  omega
end Go.Proofs.YtnolnhpmpjgnaaaGreatDoor
namespace Go.Proofs.YtnolnhpmpjgnaaaGreatDoor
open Go.RowKit Go.Extern.Stop Go.Stop Go.Extern

theorem str_ne {a b : ByteArray} (h : a ≠ b) : (a.toList == b.toList) = false := by
  refine beq_eq_false_iff_ne.2 fun e => h ?_
  rw [ByteArray.toList_eq, ByteArray.toList_eq] at e
  exact ByteArray.ext (Array.toList_inj.mp e)
theorem str_full {a : ByteArray} (h : a ≠ ⟨#[]⟩) : ¬ a.toList = [] := by
  intro e
  rw [ByteArray.toList_eq] at e
  exact h (ByteArray.ext (Array.toList_inj.mp e))
theorem str_full2 {a : ByteArray} (h : ¬ a.toList = []) : (!a.toList.isEmpty) = true := by
  simpa using h
def FirstSays (s : ByteArray) (w : World) (x : Ending) (w' : World) : Prop := x = .returned (.int .i64 (szAt s 0 : Nat)) ∧ Below w.heap.size w w'

set_option maxRecDepth 100000 in
set_option maxHeartbeats 4000000 in
theorem rf_first (s : ByteArray) (w : World) (hm : s.size ≤ 4611686018427387903) : Calls Tryz.prog 126 #[.string s] w (FirstSays s w) := by
  go_enter Tryz.func126, Tryz.ntmps126
  go_wp2
  go_loopg [3] 4 (fun f y wr => ∃ k : Nat, f = 5 - k ∧ 1 ≤ k ∧ k ≤ 5 ∧ y = .int .i64 k ∧ k ≤ s.size + 1 ∧ (∀ j, 1 ≤ j → j < k → szAt s 0 ≠ j) ∧ Below w.heap.size w wr)
  case atStart => exact ⟨1, rfl, by omega, by omega, rfl, by omega, fun j h1 h2 => by omega, Below.refl _ _⟩
  case round =>
    obtain ⟨k, rfl, hk1, hk5, rfl, hks, hno, hb⟩ := hrel
    have HB := Lib.hid hb
    have HNO := Lib.hid hno
    clear hb hno
    by_cases hgo : k ≤ 4 ∧ k ≤ s.size
    · obtain ⟨hg1, hg2⟩ := hgo
      have HN := Lib.hid (fun w => rf_number s k w hk1 hg1 hg2 hm)
      unfold NumSays at HN
      have HBY := Lib.hid (fun w => rf_bytes (refNum s k) w)
      unfold BytesSays at HBY
      have hmiss := fun hl => miss (s := s) (k := k) hg2 hl
      have hne := bytes_ne0 (n := refNum s k)
      have hnone := bytesOf_none (n := refNum s k)
      have hhit := fun h => hit (s := s) (k := k) h hk1
      by_cases hz : szAt s 0 = k
      · obtain ⟨h1, h2⟩ := hhit hz
        have hn := str_full (hne h1)
        have hn2 := str_full2 hn
        rw [h2] at hn hn2 HBY
        have he : ((s.extract 0 k).toList == (s.extract 0 k).toList) = true := by simp
        have HZ := Lib.hid hz
        clear hmiss hne hnone hhit h1 h2 hz
        generalize refNum s k = z at *
        go_wp2_with fail
        refine (HN.out _).mono ?_
        rintro x w1 ⟨rfl, rfl⟩
        go_wp2_with fail
        refine (HBY.out _).mono ?_
        rintro x w1 ⟨rfl, hb⟩
        have HB1 := Lib.hid (HB.out.trans (hb.mono HB.out.size))
        clear hb
        go_wp2
        go_ret
        exact ⟨ret_nat HZ.out.symm, HB1.out⟩
      · have HZ : Hid (∀ j, 1 ≤ j → j < k + 1 → szAt s 0 ≠ j) := Lib.hid (fun j h1 h2 e => by
          by_cases hj : j = k
          · exact hz (e.trans hj)
          · exact HNO.out j h1 (by omega) e)
        by_cases hl : letB (refNum s k) = true
        · have hn := str_full (hne hl)
          have hn2 := str_full2 hn
          have he := str_ne (fun e => hz (hmiss hl e))
          clear hmiss hne hnone hhit hl hz
          generalize refNum s k = z at *
          generalize (⟨(bytesOf z).toArray⟩ : ByteArray) = b at *
          go_wp2_with fail
          refine (HN.out _).mono ?_
          rintro x w1 ⟨rfl, rfl⟩
          go_wp2_with fail
          refine (HBY.out _).mono ?_
          rintro x w1 ⟨rfl, hb⟩
          have HB1 := Lib.hid (HB.out.trans (hb.mono HB.out.size))
          clear hb
          go_wp2
          go_roundg (5 - (k + 1))
          case rel => exact ⟨k + 1, rfl, by omega, by omega, by go_num, by omega, HZ.out, HB1.out⟩
          case measure => omega
        · have hl' : letB (refNum s k) = false := by simpa using hl
          have hnil := hnone hl'
          rw [hnil] at HBY
          clear hmiss hne hnone hhit hl hl' hz hnil
          generalize refNum s k = z at *
          go_wp2_with fail
          refine (HN.out _).mono ?_
          rintro x w1 ⟨rfl, rfl⟩
          go_wp2_with fail
          refine (HBY.out _).mono ?_
          rintro x w1 ⟨rfl, hb⟩
          have HB1 := Lib.hid (HB.out.trans (hb.mono HB.out.size))
          clear hb
          go_wp2
          go_roundg (5 - (k + 1))
          case rel => exact ⟨k + 1, rfl, by omega, by omega, by go_num, by omega, HZ.out, HB1.out⟩
          case measure => omega
    · have hz : szAt s 0 = 0 := by
        have hb := sz_bd s 0
        by_cases h0 : szAt s 0 = 0
        · exact h0
        · have h1 := hb.2 h0
          exact absurd rfl (HNO.out (szAt s 0) (by omega) (by omega))
      have HZ := Lib.hid hz
      clear hz
      by_cases h4 : k ≤ 4
      · have h5 : s.size < k := by omega
        clear hgo
        go_wp2
        go_ret
        exact ⟨ret_nat HZ.out.symm, HB.out⟩
      · have h5 : 4 < k := by omega
        clear hgo h4
        go_wp2
        go_ret
        exact ⟨ret_nat HZ.out.symm, HB.out⟩

set_option maxRecDepth 100000 in
set_option maxHeartbeats 4000000 in
theorem rf_cut (s : ByteArray) (w : World) (hm : s.size ≤ 4611686018427387903) : Calls Tryz.prog 112 #[.string s] w fun x w' => x = .returned (.int .i64 (cutOf s : Nat)) ∧ Below w.heap.size w w' := by
  have HF := Lib.hid (show walkF s s.size 0 0 = (cutOf s, lettersOf s) from rfl)
  go_enter Tryz.func112, Tryz.ntmps112
  go_wp2
  go_loopg [3] s.size (fun f x wr => ∃ a n : Nat, x = .int .i64 a ∧ a ≤ s.size ∧ s.size ≤ a + f ∧ walkF s f a n = (cutOf s, lettersOf s) ∧ Below w.heap.size w wr)
  case atStart => exact ⟨0, 0, rfl, Nat.zero_le _, by omega, HF.out, Below.refl _ _⟩
  case round =>
    obtain ⟨a, n, rfl, ha, hf, hv, hb⟩ := hrel
    have HV := Lib.hid hv
    have HB := Lib.hid hb
    clear hv HF hb
    by_cases hlt : a < s.size
    · have hd := (sz_bd s a)
      have HS := Lib.hid (fun w => rf_first (s.extract a s.size) w (by rw [size_tail]; omega))
      have het := sz_tail hlt
      unfold FirstSays at HS
      rw [het] at HS
      clear het
      by_cases hz : szAt s a = 0
      · have hend := walk_end (s := s) (f := gk) (a := a) (n := n) (by omega)
        rw [HV.out] at hend
        have HEN := Lib.hid hend
        rw [hz] at HS
        have HS0 : ∀ w, Calls Tryz.prog 126 #[.string (s.extract a s.size)] w (fun x w' => x = .returned (.int .i64 0) ∧ Below w.heap.size w w') := HS.out
        have HS1 := Lib.hid HS0
        clear hend hz hd HS HS0
        go_wp2_with fail
        refine (HS1.out _).mono ?_
        rintro x w1 ⟨rfl, hb⟩
        have HB1 := Lib.hid (HB.out.trans (hb.mono HB.out.size))
        clear hb
        go_wp2
        go_ret
        exact ⟨by rw [Prod.mk.injEq] at HEN; rw [HEN.out.1]; rfl, HB1.out⟩
      · obtain ⟨g, rfl⟩ : ∃ g, gk = g + 1 := ⟨gk - 1, by omega⟩
        have hst := walk_more (s := s) (f := g) (a := a) (n := n) hlt hz
        rw [HV.out] at hst
        have HST := Lib.hid hst
        have hd2 := hd.2 hz
        have hd1 := hd.1
        have hz1 : 1 ≤ szAt s a := by omega
        clear hst hd hz
        generalize szAt s a = k at *
        have hk0 : (0 : Int) < (k : Int) := by omega
        go_wp2_with fail
        refine (HS.out _).mono ?_
        rintro x w1 ⟨rfl, hb⟩
        have HB1 := Lib.hid (HB.out.trans (hb.mono HB.out.size))
        clear hb
        go_wp2_with fail
        refine (HS.out _).mono ?_
        rintro x w2 ⟨rfl, hb⟩
        have HB2 := Lib.hid (HB1.out.trans (hb.mono HB1.out.size))
        clear hb
        go_wp2
        go_roundg g
        case rel => exact ⟨a + k, n + 1, by go_num, by omega, by omega, HST.out.symm, HB2.out⟩
        case measure => omega
    · have hend := walk_end (s := s) (f := gk) (a := a) (n := n) (by omega)
      rw [HV.out] at hend
      have HEN := Lib.hid hend
      have HB1 := HB
      clear hend
      go_wp2
      go_ret
      exact ⟨by rw [Prod.mk.injEq] at HEN; rw [HEN.out.1]; rfl, HB1.out⟩

theorem rf_check (s : ByteArray) (w : World) (hm : s.size ≤ 4611686018427387903) : Calls Tryz.prog 91 #[.string s] w fun x w' => x = .returned (.tuple #[.int .i64 ((checkOf s).1 : Nat), .int .i64 ((checkOf s).2 : Nat)]) ∧ Below w.heap.size w w' := by
  have HC := Lib.hid (fun w => rf_cut s w hm)
  have hcl := cut_le s
  unfold checkOf
  generalize cutOf s = c at *
  by_cases h1 : 65535 < s.size
  · rw [if_pos h1]
    go_enter Tryz.func91, Tryz.ntmps91
    go_wp2
    go_ret2
    exact ⟨rfl, Below.refl _ _⟩
  · rw [if_neg h1]
    have h1' : s.size ≤ 65535 := by omega
    by_cases h2 : c < s.size
    · rw [if_pos h2]
      clear h1
      go_enter Tryz.func91, Tryz.ntmps91
      go_wp2_with fail
      refine (HC.out _).mono ?_
      rintro x w1 ⟨rfl, hb⟩
      go_wp2
      go_ret2
      exact ⟨rfl, hb⟩
    · rw [if_neg h2]
      have h2' : s.size ≤ c := by omega
      clear h1 h2
      go_enter Tryz.func91, Tryz.ntmps91
      go_wp2_with fail
      refine (HC.out _).mono ?_
      rintro x w1 ⟨rfl, hb⟩
      go_wp2
      go_ret2
      exact ⟨rfl, hb⟩
def isB (s : ByteArray) : Bool := (checkOf s).1 == 0
end Go.Proofs.YtnolnhpmpjgnaaaGreatDoor
namespace Go.Proofs.YtnolnhpmpjgnaaaGreatDoor

theorem walk_fuel {s : ByteArray} : ∀ {f g a n : Nat}, s.size ≤ a + f → s.size ≤ a + g → walkF s f a n = walkF s g a n := by
  intro f
  induction f with
  | zero =>
    intro g a n h1 h2
    rw [walk_end (by omega), walk_end (by omega)]
  | succ f ih =>
    intro g a n h1 h2
    cases g with
    | zero => rw [walk_end (by omega), walk_end (by omega)]
    | succ g =>
      by_cases hc : a < s.size ∧ szAt s a ≠ 0
      · rw [walk_more hc.1 hc.2, walk_more hc.1 hc.2]
        exact ih (by omega) (by omega)
      · rw [walk_end hc, walk_end hc]
theorem walk_stop {s : ByteArray} : ∀ {f a n : Nat}, s.size ≤ a + f → a ≤ s.size → (walkF s f a n).1 < s.size → szAt s (walkF s f a n).1 = 0 := by
  intro f
  induction f with
  | zero =>
    intro a n h1 h2 h3
    have e : walkF s 0 a n = (a, n) := rfl
    rw [e] at h3
    have : a < s.size := h3
    omega
  | succ f ih =>
    intro a n h1 h2 h3
    by_cases hc : a < s.size ∧ szAt s a ≠ 0
    · rw [walk_more hc.1 hc.2] at h3 ⊢
      exact ih (by omega) ((sz_bd s a).2 hc.2) h3
    · rw [walk_end hc] at h3 ⊢
      have h4 : a < s.size := h3
      show szAt s a = 0
      by_cases hz : szAt s a = 0
      · exact hz
      · exact absurd ⟨h4, hz⟩ hc
/-- The letter at a place hangs on its own bytes alone. -/
theorem sz_same {s t : ByteArray} {a b : Nat} (hz : szAt s a ≠ 0) (hb : ∀ i, i < szAt s a → bAt t (b + i) = bAt s (a + i)) (ht : b + szAt s a ≤ t.size) : szAt t b = szAt s a := by
  obtain ⟨h1, h2, h3⟩ := sz_num hz
  have e : lenOf ((numAt s a (szAt s a) : Nat) : Int).toNat = szAt s a := by rw [Int.toNat_natCast]; exact h2
  have := sz_of_bytes (s := t) (at_ := b) h1 (by rw [e]; exact ht) (fun i hi => by
    rw [e] at hi
    rw [Int.toNat_natCast, hb i hi]
    exact h3 i hi)
  rw [this, e]
theorem walk_prefix {s : ByteArray} {k : Nat} (hk : k ≤ s.size) : ∀ {f a n : Nat}, a ≤ k → (walkF s f a n).1 = k → walkF (s.extract 0 k) f a n = walkF s f a n := by
  have hsz : (s.extract 0 k).size = k := by rw [ByteArray.size_extract]; omega
  intro f
  induction f with
  | zero => exact fun _ _ => rfl
  | succ f ih =>
    intro a n ha h
    by_cases hc : a < s.size ∧ szAt s a ≠ 0
    · rw [walk_more hc.1 hc.2] at h ⊢
      have hb := walk_bd (s := s) (f := f) (a := a + szAt s a) (n := n + 1) ((sz_bd s a).2 hc.2)
      rw [h] at hb
      have he : szAt (s.extract 0 k) a = szAt s a := sz_same hc.2 (fun i hi => by
        have := bAt_extract (s := s) (a := 0) (b := k) (i := a + i) (by omega)
        rw [Nat.zero_add] at this
        exact this) (by rw [hsz]; exact hb.1)
      have hp : 0 < szAt s a := Nat.pos_of_ne_zero hc.2
      rw [walk_more (by rw [hsz]; omega) (by rw [he]; exact hc.2), he]
      exact ih hb.1 h
    · rw [walk_end hc] at h ⊢
      have h' : a = k := h
      rw [walk_end (by rw [hsz]; omega)]
theorem cut_prefix (s : ByteArray) : cutOf (s.extract 0 (cutOf s)) = cutOf s := by
  have hk := cut_le s
  have hsz : (s.extract 0 (cutOf s)).size = cutOf s := by rw [ByteArray.size_extract]; omega
  have h := walk_prefix (s := s) hk (f := s.size) (a := 0) (n := 0) (Nat.zero_le _) rfl
  have h2 := walk_fuel (s := s.extract 0 (cutOf s)) (f := cutOf s) (g := s.size) (a := 0) (n := 0) (by rw [hsz]; omega) (by rw [hsz]; omega)
  have h3 : cutOf (s.extract 0 (cutOf s)) = (walkF (s.extract 0 (cutOf s)) (cutOf s) 0 0).1 := by
    show (walkF (s.extract 0 (cutOf s)) (s.extract 0 (cutOf s)).size 0 0).1 = _
    rw [hsz]
  rw [h3, h2, h]
  rfl
theorem cut_rest {s : ByteArray} (h : cutOf s < s.size) : cutOf (s.extract (cutOf s) s.size) = 0 := by
  have hz := walk_stop (s := s) (f := s.size) (a := 0) (n := 0) (by omega) (Nat.zero_le _) h
  have ht := sz_tail h
  have hz2 : szAt s (cutOf s) = 0 := hz
  rw [hz2] at ht
  show (walkF _ _ 0 0).1 = 0
  rw [walk_end (by rw [ht]; simp)]
theorem check_ok {s : ByteArray} (h1 : s.size ≤ 65535) (h2 : cutOf s = s.size) : checkOf s = (0, 0) := by
  unfold checkOf
  rw [if_neg (by omega), if_neg (by omega)]
theorem check_zero {s : ByteArray} (h : (checkOf s).1 = 0) : s.size ≤ 65535 ∧ cutOf s = s.size ∧ checkOf s = (0, 0) := by
  have hc := cut_le s
  unfold checkOf at h ⊢
  by_cases h1 : 65535 < s.size
  · rw [if_pos h1] at h; cases h
  · rw [if_neg h1] at h ⊢
    by_cases h2 : cutOf s < s.size
    · rw [if_pos h2] at h; cases h
    · rw [if_neg h2]
      exact ⟨by omega, by omega, rfl⟩
theorem check_no (s : ByteArray) : (checkOf s).1 ≤ 4 := by
  unfold checkOf
  split
  · exact Nat.le_refl _
  · split
    · show 2 ≤ 4; omega
    · show 0 ≤ 4; omega

/-- A letter's bytes. -/
theorem size_bytes {n : Int} (h : letB n = true) : (⟨(bytesOf n).toArray⟩ : ByteArray).size = lenOf n.toNat := by
  rw [← bytesOf_len h]; simp [ByteArray.size]
theorem sz_bytes {n : Int} (h : letB n = true) : szAt ⟨(bytesOf n).toArray⟩ 0 = lenOf n.toNat :=
  sz_of_bytes h (by rw [size_bytes h]; omega) fun i hi => by
    rw [Nat.zero_add, ← bytesOf_get h i hi]; rfl
theorem walk_bytes {n : Int} (h : letB n = true) : cutOf ⟨(bytesOf n).toArray⟩ = lenOf n.toNat ∧ lettersOf ⟨(bytesOf n).toArray⟩ = 1 := by
  have hb := lenOf_bd n.toNat
  have hs := size_bytes h
  have hz := sz_bytes h
  have e : walkF ⟨(bytesOf n).toArray⟩ (⟨(bytesOf n).toArray⟩ : ByteArray).size 0 0 = (lenOf n.toNat, 1) := by
    obtain ⟨f, hf⟩ : ∃ f, (⟨(bytesOf n).toArray⟩ : ByteArray).size = f + 1 := ⟨lenOf n.toNat - 1, by omega⟩
    rw [hf, walk_more (by omega) (by rw [hz]; omega), hz, Nat.zero_add, walk_end (by rw [hs]; omega)]
  exact ⟨congrArg (·.1) e, congrArg (·.2) e⟩
theorem check_bytes {n : Int} (h : letB n = true) : checkOf ⟨(bytesOf n).toArray⟩ = (0, 0) :=
  check_ok (by rw [size_bytes h]; have := lenOf_bd n.toNat; omega) (by rw [size_bytes h]; exact (walk_bytes h).1)
theorem check_part {n : Int} (h : letB n = true) {k : Nat} (h0 : 0 < k) (hk : k < lenOf n.toNat) : (checkOf ((⟨(bytesOf n).toArray⟩ : ByteArray).extract 0 k)).1 = 2 := by
  have hb := lenOf_bd n.toNat
  have hs := size_bytes h
  have hz := sz_bytes h
  have hcl : classOf (bAt ⟨(bytesOf n).toArray⟩ 0) = lenOf n.toNat := by
    rcases sz_or ⟨(bytesOf n).toArray⟩ 0 with h' | ⟨e, _⟩
    · omega
    · omega
  have hsz : ((⟨(bytesOf n).toArray⟩ : ByteArray).extract 0 k).size = k := by rw [ByteArray.size_extract, hs]; omega
  have hb0 : bAt ((⟨(bytesOf n).toArray⟩ : ByteArray).extract 0 k) 0 = bAt ⟨(bytesOf n).toArray⟩ 0 := by
    have := bAt_extract (s := ⟨(bytesOf n).toArray⟩) (a := 0) (b := k) (i := 0) (by omega)
    simpa using this
  have hz2 : szAt ((⟨(bytesOf n).toArray⟩ : ByteArray).extract 0 k) 0 = 0 := sz_zero (.inr (by rw [hb0, hcl, hsz]; omega))
  have hc : cutOf ((⟨(bytesOf n).toArray⟩ : ByteArray).extract 0 k) = 0 := by
    show (walkF _ _ 0 0).1 = 0
    rw [walk_end (by rw [hz2]; simp)]
  unfold checkOf
  rw [if_neg (by omega), if_pos (by omega)]

/-- A long text of one letter. -/
def rep (m : Nat) : ByteArray := ⟨(List.replicate m 97).toArray⟩
theorem rep_size (m : Nat) : (rep m).size = m := by show (List.replicate m (97 : UInt8)).toArray.size = m; simp
theorem rep_at {m i : Nat} (h : i < m) : bAt (rep m) i = 97 := by
  unfold bAt rep
  show ((List.replicate m (97 : UInt8)).getD i 0).toNat = 97
  rw [List.getD_eq_getElem?_getD, List.getElem?_replicate, if_pos h]; rfl
theorem rep_sz {m i : Nat} (h : i < m) : szAt (rep m) i = 1 := by
  have hb := rep_at h
  unfold szAt
  have hc : classOf (bAt (rep m) i) = 1 := by rw [hb]; rfl
  rw [hc, if_neg (by rw [rep_size]; omega), if_pos]
  have hn : numAt (rep m) i 1 = 97 := hb
  rw [hn]
  rfl
theorem rep_walk {m : Nat} : ∀ {f a n : Nat}, a + f = m → walkF (rep m) f a n = (m, n + f) := by
  intro f
  induction f with
  | zero => intro a n h; rw [walk_end (by rw [rep_size]; omega)]; simp; omega
  | succ f ih =>
    intro a n h
    have hz := rep_sz (m := m) (i := a) (by omega)
    rw [walk_more (by rw [rep_size]; omega) (by rw [hz]; omega), hz, ih (by omega)]
    simp
    omega
theorem rep_cut (m : Nat) : cutOf (rep m) = m := by
  unfold cutOf
  rw [rep_size, rep_walk (Nat.zero_add m)]

/-- Two texts together. -/
theorem bAt_left {s t : ByteArray} {i : Nat} (h : i < s.size) : bAt (s ++ t) i = bAt s i := by
  unfold bAt
  have e : (s ++ t).data.toList = s.data.toList ++ t.data.toList := by simp
  rw [e, List.getD_eq_getElem?_getD, List.getD_eq_getElem?_getD, List.getElem?_append_left (by rw [bLen]; exact h)]
theorem bAt_right {s t : ByteArray} {i : Nat} : bAt (s ++ t) (s.size + i) = bAt t i := by
  unfold bAt
  have e : (s ++ t).data.toList = s.data.toList ++ t.data.toList := by simp
  rw [e, List.getD_eq_getElem?_getD, List.getD_eq_getElem?_getD, List.getElem?_append_right (by rw [bLen]; omega), bLen, Nat.add_sub_cancel_left]
theorem walk_left {s t : ByteArray} {m : Nat} (g : Nat) : ∀ {f a n : Nat}, a ≤ s.size → walkF s f a n = (s.size, m) → ∃ j, walkF (s ++ t) (j + g) a n = walkF (s ++ t) g s.size m := by
  intro f
  induction f with
  | zero =>
    intro a n ha h
    have h' : (a, n) = (s.size, m) := h
    rw [Prod.mk.injEq] at h'
    exact ⟨0, by rw [Nat.zero_add, h'.1, h'.2]⟩
  | succ f ih =>
    intro a n ha h
    by_cases hc : a < s.size ∧ szAt s a ≠ 0
    · rw [walk_more hc.1 hc.2] at h
      have hb := (sz_bd s a).2 hc.2
      obtain ⟨j, hj⟩ := ih hb h
      have he : szAt (s ++ t) a = szAt s a := sz_same hc.2 (fun i hi => bAt_left (by omega)) (by rw [ByteArray.size_append]; omega)
      refine ⟨j + 1, ?_⟩
      rw [show j + 1 + g = (j + g) + 1 by omega, walk_more (by rw [ByteArray.size_append]; omega) (by rw [he]; exact hc.2), he]
      exact hj
    · rw [walk_end hc] at h
      rw [Prod.mk.injEq] at h
      exact ⟨0, by rw [Nat.zero_add, h.1, h.2]⟩
theorem walk_right {s t : ByteArray} {m : Nat} : ∀ {g b n : Nat}, walkF (s ++ t) g (s.size + b) (m + n) = (s.size + (walkF t g b n).1, m + (walkF t g b n).2) := by
  intro g
  induction g with
  | zero => intro b n; rfl
  | succ g ih =>
    intro b n
    by_cases hb : b < t.size
    · have he : szAt (s ++ t) (s.size + b) = szAt t b := sz_cong (fun i _ _ => by rw [Nat.add_assoc]; exact bAt_right) (by rw [ByteArray.size_append]; omega) hb
      by_cases hz : szAt t b ≠ 0
      · rw [walk_more hb hz, walk_more (by rw [ByteArray.size_append]; omega) (by rw [he]; exact hz), he]
        have := ih (b := b + szAt t b) (n := n + 1)
        rw [← Nat.add_assoc, ← Nat.add_assoc] at this
        exact this
      · rw [walk_end (s := t) (by omega), walk_end (by rw [he]; omega)]
    · rw [walk_end (s := t) (by omega), walk_end (by rw [ByteArray.size_append]; omega)]
theorem walk_both {s t : ByteArray} (hs : cutOf s = s.size) (ht : cutOf t = t.size) : cutOf (s ++ t) = (s ++ t).size ∧ lettersOf (s ++ t) = lettersOf s + lettersOf t := by
  have h1 : walkF s s.size 0 0 = (s.size, lettersOf s) := by rw [← hs]; exact congrArg (fun x => walkF s x 0 0) hs
  obtain ⟨j, hj⟩ := walk_left (t := t) (s.size + t.size) (Nat.zero_le _) h1
  have h2 := walk_right (s := s) (t := t) (m := lettersOf s) (g := s.size + t.size) (b := 0) (n := 0)
  simp only [Nat.add_zero] at h2
  have h3 := walk_fuel (s := t) (f := s.size + t.size) (g := t.size) (a := 0) (n := 0) (by omega) (by omega)
  have h4 := walk_fuel (s := s ++ t) (f := (s ++ t).size) (g := j + (s.size + t.size)) (a := 0) (n := 0) (by omega) (by rw [ByteArray.size_append]; omega)
  have e : walkF (s ++ t) (s ++ t).size 0 0 = (s.size + cutOf t, lettersOf s + lettersOf t) := by
    rw [h4, hj, h2, h3]; rfl
  have e1 : cutOf (s ++ t) = s.size + cutOf t := congrArg (·.1) e
  have e2 : lettersOf (s ++ t) = lettersOf s + lettersOf t := congrArg (·.2) e
  refine ⟨?_, e2⟩
  rw [e1, ht, ByteArray.size_append]
end Go.Proofs.YtnolnhpmpjgnaaaGreatDoor
