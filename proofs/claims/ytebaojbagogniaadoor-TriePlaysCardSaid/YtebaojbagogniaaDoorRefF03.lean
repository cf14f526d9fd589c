/- What is proved here: the letter that bytes begin with, by the document's own answer, is the one of the plain walk. Conditions: the number's range, the text's length. What is proved here, on plain bytes: the document's number of so many bytes is a letter's whose bytes stand there, just if a letter of so many bytes stands there. No conditions. What is proved here: the cut, the check and the letters of bytes, by the document's own answers, are those of the plain walk. Condition: the text's length. -/
import Derived.Test.YtebaojbagogniaaDoorCut03
import Derived.Test.YtebaojbagogniaaDoorRef02
namespace Go.Proofs.YtebaojbagogniaaDoor
open Go.RowKit Go.Extern.Stop Go.Stop Go.Extern

theorem conv_cells (w : World) (l : List UInt8) (vs : Array Value) (hv : vs.toList = l.map byteV) :
    (convert 118 9 (.slice (some ⟨w.heap.size, 0, none⟩) l.length l.length)).run Tryd.prog (w.alloc (.cells vs 5)) = .ok (.string ⟨l.toArray⟩) (w.alloc (.cells vs 5)) := by
  refine run_convert_bytes_back _ 118 9 5 ⟨w.heap.size, 0, none⟩ l.length l Tryd.underlying118 Tryd.underlying5 Tryd.underlying9 fun j hj => ?_
  have h := (MapKept.heap_alloc w (.cells vs 5)).1
  have hz : vs[j]? = some (byteV l[j]) := by
    rw [← Array.getElem?_toList, hv, List.getElem?_map, List.getElem?_eq_getElem hj]; rfl
  rw [Go.WideShapes.add_plain, Nat.zero_add]
  unfold World.cell?
  dsimp only
  rw [h]
  simp only [hz, byteV, Option.isSome_none, Bool.false_eq_true, if_false]

def BytesSays (n : Int) (w : World) (x : Ending) (w' : World) : Prop := x = .returned (.string ⟨(bytesOf n).toArray⟩) ∧ Below w.heap.size w w'
theorem byteV_of {n : Nat} (h : n < 256) : byteV (UInt8.ofNat n) = .int .u8 (n : Int) := byteV_ofNat h

set_option maxRecDepth 100000 in
theorem rf_bytes_none (n : Int) (w : World) (h : letB n = false) : Calls Tryd.prog 85 #[.int .i64 n] w (BytesSays n w) := by
  have HB := Lib.hid (bytesOf_none h)
  have hn : ¬ (1 ≤ n ∧ n ≤ 1114111 ∧ ¬ (55296 ≤ n ∧ n ≤ 57343)) := by
    intro h'
    rw [letB_iff.2 h'] at h
    cases h
  clear h
  by_cases h1 : n < 1
  · clear hn
    go_enter Tryd.func85, Tryd.ntmps85
    go_wp2
    go_ret
    exact ⟨by rw [HB.out]; rfl, Below.refl _ _⟩
  · by_cases h2 : 1114111 < n
    · clear hn
      have h1' : 1 ≤ n := by omega
      go_enter Tryd.func85, Tryd.ntmps85
      go_wp2
      go_ret
      exact ⟨by rw [HB.out]; rfl, Below.refl _ _⟩
    · have h3 : 55296 ≤ n := by omega
      have h4 : n ≤ 57343 := by omega
      have h1' : 1 ≤ n := by omega
      have h2' : n ≤ 1114111 := by omega
      clear hn h1 h2
      go_enter Tryd.func85, Tryd.ntmps85
      go_wp2
      go_ret
      exact ⟨by rw [HB.out]; rfl, Below.refl _ _⟩

set_option maxRecDepth 100000 in
theorem rf_bytes_1 (n : Nat) (w : World) (h0 : 1 ≤ n) (h1 : n < 128) : Calls Tryd.prog 85 #[.int .i64 n] w (BytesSays n w) := by
  have hb : bytesOf (n : Int) = ([n]).map UInt8.ofNat := by
    unfold bytesOf
    rw [if_pos (letB_iff.2 ⟨by omega, by omega, by omega⟩), Int.toNat_natCast]
    unfold digs
    rw [if_pos (by omega)]
  have hc := conv_cells w (bytesOf (n : Int)) #[.int .u8 ((n : Int))] (by
    rw [hb]
    simp only [List.map_cons, List.map_nil]
    rw [byteV_of (show n < 256 by omega)])
  have hl : (bytesOf (n : Int)).length = 1 := by rw [hb]; rfl
  rw [hl] at hc
  unfold BytesSays
  clear hb hl
  generalize (⟨(bytesOf (n : Int)).toArray⟩ : ByteArray) = r at *
  have q0 : decide ((n : Int) < 1) = false := by simp; omega
  have q1 : decide (1114111 < (n : Int)) = false := by simp; omega
  have q2 : decide ((n : Int) < 128) = true := by simp; omega
  have q3 : decide ((n : Int) < 2048) = true := by simp; omega
  have q4 : decide ((n : Int) < 65536) = true := by simp; omega
  have q5 : decide (55296 ≤ (n : Int)) = false := by simp; omega
  have g0 : (n : Int) < 128 := by omega
  have H0 := Lib.hid h0
  have H1 := Lib.hid h1
  clear h0 h1
  go_enter Tryd.func85, Tryd.ntmps85
  go_wp2
  go_ret
  exact ⟨rfl, (Below.refl _ _).alloc (Nat.le_refl _) _⟩

set_option maxRecDepth 100000 in
theorem rf_bytes_2 (n : Nat) (w : World) (h0 : 128 ≤ n) (h1 : n < 2048) : Calls Tryd.prog 85 #[.int .i64 n] w (BytesSays n w) := by
  have hb : bytesOf (n : Int) = ([192 + n / 64, 128 + n % 64]).map UInt8.ofNat := by
    unfold bytesOf
    rw [if_pos (letB_iff.2 ⟨by omega, by omega, by omega⟩), Int.toNat_natCast]
    unfold digs
    rw [if_neg (by omega), if_pos (by omega)]
  have hc := conv_cells w (bytesOf (n : Int)) #[.int .u8 (192 + (n : Int) / 64), .int .u8 (128 + (n : Int) % 64)] (by
    rw [hb]
    simp only [List.map_cons, List.map_nil]
    rw [byteV_of (show 192 + n / 64 < 256 by omega), byteV_of (show 128 + n % 64 < 256 by omega)]
    have c0 : ((192 + n / 64 : Nat) : Int) = 192 + (n : Int) / 64 := by omega
    have c1 : ((128 + n % 64 : Nat) : Int) = 128 + (n : Int) % 64 := by omega
    rw [c0, c1])
  have hl : (bytesOf (n : Int)).length = 2 := by rw [hb]; rfl
  rw [hl] at hc
  unfold BytesSays
  clear hb hl
  generalize (⟨(bytesOf (n : Int)).toArray⟩ : ByteArray) = r at *
  have q0 : decide ((n : Int) < 1) = false := by simp; omega
  have q1 : decide (1114111 < (n : Int)) = false := by simp; omega
  have q2 : decide ((n : Int) < 128) = false := by simp; omega
  have q3 : decide ((n : Int) < 2048) = true := by simp; omega
  have q4 : decide ((n : Int) < 65536) = true := by simp; omega
  have q5 : decide (55296 ≤ (n : Int)) = false := by simp; omega
  have g0 : (n : Int) < 2048 := by omega
  have H0 := Lib.hid h0
  have H1 := Lib.hid h1
  clear h0 h1
  go_enter Tryd.func85, Tryd.ntmps85
  go_wp2
  go_ret
  exact ⟨rfl, (Below.refl _ _).alloc (Nat.le_refl _) _⟩

set_option maxRecDepth 100000 in
theorem rf_bytes_3 (n : Nat) (w : World) (h0 : 2048 ≤ n) (h1 : n < 65536) (hs : ¬ (55296 ≤ n ∧ n ≤ 57343)) : Calls Tryd.prog 85 #[.int .i64 n] w (BytesSays n w) := by
  have hb : bytesOf (n : Int) = ([224 + n / 4096, 128 + n / 64 % 64, 128 + n % 64]).map UInt8.ofNat := by
    unfold bytesOf
    rw [if_pos (letB_iff.2 ⟨by omega, by omega, by omega⟩), Int.toNat_natCast]
    unfold digs
    rw [if_neg (by omega), if_neg (by omega), if_pos (by omega)]
  have hc := conv_cells w (bytesOf (n : Int)) #[.int .u8 (224 + (n : Int) / 4096), .int .u8 (128 + (n : Int) / 64 % 64), .int .u8 (128 + (n : Int) % 64)] (by
    rw [hb]
    simp only [List.map_cons, List.map_nil]
    rw [byteV_of (show 224 + n / 4096 < 256 by omega), byteV_of (show 128 + n / 64 % 64 < 256 by omega), byteV_of (show 128 + n % 64 < 256 by omega)]
    have c0 : ((224 + n / 4096 : Nat) : Int) = 224 + (n : Int) / 4096 := by omega
    have c1 : ((128 + n / 64 % 64 : Nat) : Int) = 128 + (n : Int) / 64 % 64 := by omega
    have c2 : ((128 + n % 64 : Nat) : Int) = 128 + (n : Int) % 64 := by omega
    rw [c0, c1, c2])
  have hl : (bytesOf (n : Int)).length = 3 := by rw [hb]; rfl
  rw [hl] at hc
  unfold BytesSays
  clear hb hl
  generalize (⟨(bytesOf (n : Int)).toArray⟩ : ByteArray) = r at *
  have g0 : (n : Int) < 65536 := by omega
  by_cases h5 : n < 55296
  · have q0 : decide ((n : Int) < 1) = false := by simp; omega
    have q1 : decide (1114111 < (n : Int)) = false := by simp; omega
    have q2 : decide ((n : Int) < 128) = false := by simp; omega
    have q3 : decide ((n : Int) < 2048) = false := by simp; omega
    have q4 : decide ((n : Int) < 65536) = true := by simp; omega
    have q5 : decide (55296 ≤ (n : Int)) = false := by simp; omega
    clear h0 h1 hs h5
    go_enter Tryd.func85, Tryd.ntmps85
    go_wp2
    go_ret
    exact ⟨rfl, (Below.refl _ _).alloc (Nat.le_refl _) _⟩
  · have q0 : decide ((n : Int) < 1) = false := by simp; omega
    have q1 : decide (1114111 < (n : Int)) = false := by simp; omega
    have q2 : decide ((n : Int) < 128) = false := by simp; omega
    have q3 : decide ((n : Int) < 2048) = false := by simp; omega
    have q4 : decide ((n : Int) < 65536) = true := by simp; omega
    have q5 : decide (55296 ≤ (n : Int)) = true := by simp; omega
    have q6 : decide ((n : Int) ≤ 57343) = false := by simp; omega
    clear h0 h1 hs h5
    go_enter Tryd.func85, Tryd.ntmps85
    go_wp2
    go_ret
    exact ⟨rfl, (Below.refl _ _).alloc (Nat.le_refl _) _⟩

set_option maxRecDepth 100000 in
theorem rf_bytes_4 (n : Nat) (w : World) (h0 : 65536 ≤ n) (h1 : n < 1114112) : Calls Tryd.prog 85 #[.int .i64 n] w (BytesSays n w) := by
  have hb : bytesOf (n : Int) = ([240 + n / 262144, 128 + n / 4096 % 64, 128 + n / 64 % 64, 128 + n % 64]).map UInt8.ofNat := by
    unfold bytesOf
    rw [if_pos (letB_iff.2 ⟨by omega, by omega, by omega⟩), Int.toNat_natCast]
    unfold digs
    rw [if_neg (by omega), if_neg (by omega), if_neg (by omega)]
  have hc := conv_cells w (bytesOf (n : Int)) #[.int .u8 (240 + (n : Int) / 262144), .int .u8 (128 + (n : Int) / 4096 % 64), .int .u8 (128 + (n : Int) / 64 % 64), .int .u8 (128 + (n : Int) % 64)] (by
    rw [hb]
    simp only [List.map_cons, List.map_nil]
    rw [byteV_of (show 240 + n / 262144 < 256 by omega), byteV_of (show 128 + n / 4096 % 64 < 256 by omega), byteV_of (show 128 + n / 64 % 64 < 256 by omega), byteV_of (show 128 + n % 64 < 256 by omega)]
    have c0 : ((240 + n / 262144 : Nat) : Int) = 240 + (n : Int) / 262144 := by omega
    have c1 : ((128 + n / 4096 % 64 : Nat) : Int) = 128 + (n : Int) / 4096 % 64 := by omega
    have c2 : ((128 + n / 64 % 64 : Nat) : Int) = 128 + (n : Int) / 64 % 64 := by omega
    have c3 : ((128 + n % 64 : Nat) : Int) = 128 + (n : Int) % 64 := by omega
    rw [c0, c1, c2, c3])
  have hl : (bytesOf (n : Int)).length = 4 := by rw [hb]; rfl
  rw [hl] at hc
  unfold BytesSays
  clear hb hl
  generalize (⟨(bytesOf (n : Int)).toArray⟩ : ByteArray) = r at *
  have q0 : decide ((n : Int) < 1) = false := by simp; omega
  have q1 : decide (1114111 < (n : Int)) = false := by simp; omega
  have q2 : decide ((n : Int) < 128) = false := by simp; omega
  have q3 : decide ((n : Int) < 2048) = false := by simp; omega
  have q4 : decide ((n : Int) < 65536) = false := by simp; omega
  have q5 : decide (55296 ≤ (n : Int)) = true := by simp; omega
  have q6 : decide ((n : Int) ≤ 57343) = false := by simp; omega
  have g0 : (n : Int) < 1114112 := by omega
  have H0 := Lib.hid h0
  have H1 := Lib.hid h1
  clear h0 h1
  go_enter Tryd.func85, Tryd.ntmps85
  go_wp2
  go_ret
  exact ⟨rfl, (Below.refl _ _).alloc (Nat.le_refl _) _⟩

theorem rf_bytes (n : Int) (w : World) : Calls Tryd.prog 85 #[.int .i64 n] w (BytesSays n w) := by
  cases hb : letB n with
  | false => exact rf_bytes_none n w hb
  | true =>
    have h := letB_iff.1 hb
    obtain ⟨m, rfl⟩ : ∃ m : Nat, n = (m : Int) := ⟨n.toNat, by omega⟩
    by_cases h1 : m < 128
    · exact rf_bytes_1 m w (by omega) h1
    · by_cases h2 : m < 2048
      · exact rf_bytes_2 m w (by omega) h2
      · by_cases h3 : m < 65536
        · exact rf_bytes_3 m w (by omega) h3 (by omega)
        · exact rf_bytes_4 m w (by omega) (by omega)

/-- The document's number of so many bytes. -/
def pInt (s : ByteArray) (base : Int) : Nat → Int
  | 0 => 0
  | 1 => (bAt s 0 : Int) - base
  | i + 2 => 64 * pInt s base (i + 1) + (bAt s (i + 1) : Int) - 128
def refNum (s : ByteArray) (many : Nat) : Int := if many = 1 then (bAt s 0 : Int) else if many = 2 then pInt s 192 2 else if many = 3 then pInt s 224 3 else pInt s 240 4
def IntBd (i : Nat) (z : Int) : Prop := i = 1 ∧ -300 ≤ z ∧ z ≤ 300 ∨ i = 2 ∧ -20000 ≤ z ∧ z ≤ 20000 ∨ i = 3 ∧ -1300000 ≤ z ∧ z ≤ 1300000 ∨ i = 4 ∧ -84000000 ≤ z ∧ z ≤ 84000000
def NumSays (z : Int) (w : World) (x : Ending) (w' : World) : Prop := x = .returned (.int .i64 z) ∧ w = w'
theorem rf_number_1 (s : ByteArray) (w : World) (h0 : 0 < s.size) : Calls Tryd.prog 86 #[.string s, .int .i64 1] w (NumSays (refNum s 1) w) := by
  have e : refNum s 1 = (s[0].toNat : Int) := by show (bAt s 0 : Int) = _; rw [bAt_get h0]
  have hb : s[0].toNat < 256 := UInt8.toNat_lt _
  rw [e]
  clear e
  unfold NumSays
  go_enter Tryd.func86, Tryd.ntmps86
  go_wp2
  go_ret
  exact ⟨rfl, rfl⟩

set_option maxRecDepth 100000 in
set_option maxHeartbeats 4000000 in
theorem rf_number_2 (s : ByteArray) (w : World) (hs : 2 ≤ s.size) (hm : s.size ≤ 4611686018427387903) : Calls Tryd.prog 86 #[.string s, .int .i64 2] w (NumSays (refNum s 2) w) := by
  have e : refNum s 2 = pInt s 192 2 := rfl
  have hp : pInt s 192 1 = (s[0].toNat : Int) - 192 := by show (bAt s 0 : Int) - 192 = _; rw [bAt_get (by omega)]
  have HP := Lib.hid hp
  have HE := Lib.hid e
  have hb : s[0].toNat < 256 := UInt8.toNat_lt _
  clear hp e
  unfold NumSays
  generalize refNum s 2 = r at *
  go_enter Tryd.func86, Tryd.ntmps86
  go_wp2
  go_loopg [5, 6] (2 - 1) (fun f x y wr => w = wr ∧ ∃ (i : Nat) (z : Int), f = 2 - i ∧ i ≤ 2 ∧ x = .int .i64 z ∧ y = .int .i64 i ∧ z = pInt s 192 i ∧ IntBd i z)
  case atStart => exact ⟨rfl, 1, (s[0].toNat : Int) - 192, rfl, by omega, by go_num, rfl, HP.out.symm, .inl ⟨rfl, by omega, by omega⟩⟩
  case round =>
    obtain ⟨rfl, i, z, rfl, hi, rfl, rfl, hz, hbd⟩ := hrel
    have HZ := Lib.hid hz
    clear hz HP
    rcases hbd with ⟨rfl, hn1, hn2⟩ | ⟨rfl, hn1, hn2⟩ | ⟨rfl, hn1, hn2⟩ | ⟨rfl, hn1, hn2⟩
    · have hlt : 1 < s.size := by omega
      have hst : pInt s 192 2 = (64 : Int) * z + (s[1].toNat : Int) - 128 := by
        show (64 : Int) * pInt s 192 1 + (bAt s 1 : Int) - 128 = _
        rw [bAt_get hlt, ← HZ.out]
      have HS := Lib.hid hst
      have hb2 : s[1].toNat < 256 := UInt8.toNat_lt _
      clear hst
      go_wp2
      go_roundg (2 - 2)
      case rel => exact ⟨rfl, 2, 64 * z + (s[1].toNat : Int) - 128, rfl, by omega, by go_num, rfl, HS.out.symm, .inr (.inl ⟨rfl, by omega, by omega⟩)⟩
      case measure => omega
    · go_wp2
      go_ret
      exact ⟨by rw [HE.out, ← HZ.out]; rfl, rfl⟩
    · exact absurd hi (by omega)
    · exact absurd hi (by omega)

set_option maxRecDepth 100000 in
set_option maxHeartbeats 4000000 in
theorem rf_number_3 (s : ByteArray) (w : World) (hs : 3 ≤ s.size) (hm : s.size ≤ 4611686018427387903) : Calls Tryd.prog 86 #[.string s, .int .i64 3] w (NumSays (refNum s 3) w) := by
  have e : refNum s 3 = pInt s 224 3 := rfl
  have hp : pInt s 224 1 = (s[0].toNat : Int) - 224 := by show (bAt s 0 : Int) - 224 = _; rw [bAt_get (by omega)]
  have HP := Lib.hid hp
  have HE := Lib.hid e
  have hb : s[0].toNat < 256 := UInt8.toNat_lt _
  clear hp e
  unfold NumSays
  generalize refNum s 3 = r at *
  go_enter Tryd.func86, Tryd.ntmps86
  go_wp2
  go_loopg [5, 6] (3 - 1) (fun f x y wr => w = wr ∧ ∃ (i : Nat) (z : Int), f = 3 - i ∧ i ≤ 3 ∧ x = .int .i64 z ∧ y = .int .i64 i ∧ z = pInt s 224 i ∧ IntBd i z)
  case atStart => exact ⟨rfl, 1, (s[0].toNat : Int) - 224, rfl, by omega, by go_num, rfl, HP.out.symm, .inl ⟨rfl, by omega, by omega⟩⟩
  case round =>
    obtain ⟨rfl, i, z, rfl, hi, rfl, rfl, hz, hbd⟩ := hrel
    have HZ := Lib.hid hz
    clear hz HP
    rcases hbd with ⟨rfl, hn1, hn2⟩ | ⟨rfl, hn1, hn2⟩ | ⟨rfl, hn1, hn2⟩ | ⟨rfl, hn1, hn2⟩
    · have hlt : 1 < s.size := by omega
      have hst : pInt s 224 2 = (64 : Int) * z + (s[1].toNat : Int) - 128 := by
        show (64 : Int) * pInt s 224 1 + (bAt s 1 : Int) - 128 = _
        rw [bAt_get hlt, ← HZ.out]
      have HS := Lib.hid hst
      have hb2 : s[1].toNat < 256 := UInt8.toNat_lt _
      clear hst
      go_wp2
      go_roundg (3 - 2)
      case rel => exact ⟨rfl, 2, 64 * z + (s[1].toNat : Int) - 128, rfl, by omega, by go_num, rfl, HS.out.symm, .inr (.inl ⟨rfl, by omega, by omega⟩)⟩
      case measure => omega
    · have hlt : 2 < s.size := by omega
      have hst : pInt s 224 3 = (64 : Int) * z + (s[2].toNat : Int) - 128 := by
        show (64 : Int) * pInt s 224 2 + (bAt s 2 : Int) - 128 = _
        rw [bAt_get hlt, ← HZ.out]
      have HS := Lib.hid hst
      have hb2 : s[2].toNat < 256 := UInt8.toNat_lt _
      clear hst
      go_wp2
      go_roundg (3 - 3)
      case rel => exact ⟨rfl, 3, 64 * z + (s[2].toNat : Int) - 128, rfl, by omega, by go_num, rfl, HS.out.symm, .inr (.inr (.inl ⟨rfl, by omega, by omega⟩))⟩
      case measure => omega
    · go_wp2
      go_ret
      exact ⟨by rw [HE.out, ← HZ.out]; rfl, rfl⟩
    · exact absurd hi (by omega)

set_option maxRecDepth 100000 in
set_option maxHeartbeats 4000000 in
theorem rf_number_4 (s : ByteArray) (w : World) (hs : 4 ≤ s.size) (hm : s.size ≤ 4611686018427387903) : Calls Tryd.prog 86 #[.string s, .int .i64 4] w (NumSays (refNum s 4) w) := by
  have e : refNum s 4 = pInt s 240 4 := rfl
  have hp : pInt s 240 1 = (s[0].toNat : Int) - 240 := by show (bAt s 0 : Int) - 240 = _; rw [bAt_get (by omega)]
  have HP := Lib.hid hp
  have HE := Lib.hid e
  have hb : s[0].toNat < 256 := UInt8.toNat_lt _
  clear hp e
  unfold NumSays
  generalize refNum s 4 = r at *
  go_enter Tryd.func86, Tryd.ntmps86
  go_wp2
  go_loopg [5, 6] (4 - 1) (fun f x y wr => w = wr ∧ ∃ (i : Nat) (z : Int), f = 4 - i ∧ i ≤ 4 ∧ x = .int .i64 z ∧ y = .int .i64 i ∧ z = pInt s 240 i ∧ IntBd i z)
  case atStart => exact ⟨rfl, 1, (s[0].toNat : Int) - 240, rfl, by omega, by go_num, rfl, HP.out.symm, .inl ⟨rfl, by omega, by omega⟩⟩
  case round =>
    obtain ⟨rfl, i, z, rfl, hi, rfl, rfl, hz, hbd⟩ := hrel
    have HZ := Lib.hid hz
    clear hz HP
    rcases hbd with ⟨rfl, hn1, hn2⟩ | ⟨rfl, hn1, hn2⟩ | ⟨rfl, hn1, hn2⟩ | ⟨rfl, hn1, hn2⟩
    · have hlt : 1 < s.size := by omega
      have hst : pInt s 240 2 = (64 : Int) * z + (s[1].toNat : Int) - 128 := by
        show (64 : Int) * pInt s 240 1 + (bAt s 1 : Int) - 128 = _
        rw [bAt_get hlt, ← HZ.out]
      have HS := Lib.hid hst
      have hb2 : s[1].toNat < 256 := UInt8.toNat_lt _
      clear hst
      go_wp2
      go_roundg (4 - 2)
      case rel => exact ⟨rfl, 2, 64 * z + (s[1].toNat : Int) - 128, rfl, by omega, by go_num, rfl, HS.out.symm, .inr (.inl ⟨rfl, by omega, by omega⟩)⟩
      case measure => omega
    · have hlt : 2 < s.size := by omega
      have hst : pInt s 240 3 = (64 : Int) * z + (s[2].toNat : Int) - 128 := by
        show (64 : Int) * pInt s 240 2 + (bAt s 2 : Int) - 128 = _
        rw [bAt_get hlt, ← HZ.out]
      have HS := Lib.hid hst
      have hb2 : s[2].toNat < 256 := UInt8.toNat_lt _
      clear hst
      go_wp2
      go_roundg (4 - 3)
      case rel => exact ⟨rfl, 3, 64 * z + (s[2].toNat : Int) - 128, rfl, by omega, by go_num, rfl, HS.out.symm, .inr (.inr (.inl ⟨rfl, by omega, by omega⟩))⟩
      case measure => omega
    · have hlt : 3 < s.size := by omega
      have hst : pInt s 240 4 = (64 : Int) * z + (s[3].toNat : Int) - 128 := by
        show (64 : Int) * pInt s 240 3 + (bAt s 3 : Int) - 128 = _
        rw [bAt_get hlt, ← HZ.out]
      have HS := Lib.hid hst
      have hb2 : s[3].toNat < 256 := UInt8.toNat_lt _
      clear hst
      go_wp2
      go_roundg (4 - 4)
      case rel => exact ⟨rfl, 4, 64 * z + (s[3].toNat : Int) - 128, rfl, by omega, by go_num, rfl, HS.out.symm, .inr (.inr (.inr (⟨rfl, by omega, by omega⟩)))⟩
      case measure => omega
    · go_wp2
      go_ret
      exact ⟨by rw [HE.out, ← HZ.out]; rfl, rfl⟩

theorem rf_number (s : ByteArray) (k : Nat) (w : World) (h1 : 1 ≤ k) (h4 : k ≤ 4) (hs : k ≤ s.size) (hm : s.size ≤ 4611686018427387903) : Calls Tryd.prog 86 #[.string s, .int .i64 k] w (NumSays (refNum s k) w) := by
  rcases (show k = 1 ∨ k = 2 ∨ k = 3 ∨ k = 4 by omega) with rfl | rfl | rfl | rfl
  · exact rf_number_1 s w (by omega)
  · exact rf_number_2 s w hs hm
  · exact rf_number_3 s w hs hm
  · exact rf_number_4 s w hs hm
end Go.Proofs.YtebaojbagogniaaDoor
namespace Go.Proofs.YtebaojbagogniaaDoor

theorem ofNat_toNat8 (x : UInt8) : UInt8.ofNat x.toNat = x := UInt8.ofNat_toNat
theorem take_list (s : ByteArray) (k : Nat) : (s.extract 0 k).data.toList = s.data.toList.take k := by simp [ByteArray.data_extract]
theorem ref_num {s : ByteArray} {k : Nat} (h : szAt s 0 = k) (hk : 1 ≤ k) : refNum s k = (numAt s 0 k : Nat) := by
  rcases sz_or s 0 with h' | ⟨e, h1, h2, hc, ho⟩
  · omega
  · rw [← e, h] at hc
    rw [h] at e
    clear ho h1 h2
    have cl : ∀ a, classOf a = 2 → 192 ≤ a := by
      intro a h; unfold classOf at h; split at h <;> (try split at h) <;> (try split at h) <;> (try split at h) <;> (try split at h) <;> omega
    have cl3 : ∀ a, classOf a = 3 → 224 ≤ a := by
      intro a h; unfold classOf at h; split at h <;> (try split at h) <;> (try split at h) <;> (try split at h) <;> (try split at h) <;> omega
    have cl4 : ∀ a, classOf a = 4 → 240 ≤ a := by
      intro a h; unfold classOf at h; split at h <;> (try split at h) <;> (try split at h) <;> (try split at h) <;> (try split at h) <;> omega
    have hb := class_bd (bAt s 0)
    rcases (show k = 1 ∨ k = 2 ∨ k = 3 ∨ k = 4 by omega) with rfl | rfl | rfl | rfl
    · rfl
    · have := cl _ e.symm
      simp [contB, isC] at hc
      show (64 : Int) * ((bAt s 0 : Int) - 192) + (bAt s 1 : Int) - 128 = (((bAt s 0 - 192) * 64 + (bAt s 1 - 128) : Nat) : Int)
      omega
    · have := cl3 _ e.symm
      simp [contB, isC] at hc
      show (64 : Int) * ((64 : Int) * ((bAt s 0 : Int) - 224) + (bAt s 1 : Int) - 128) + (bAt s 2 : Int) - 128 = ((((bAt s 0 - 224) * 64 + (bAt s 1 - 128)) * 64 + (bAt s 2 - 128) : Nat) : Int)
      omega
    · have := cl4 _ e.symm
      simp [contB, isC] at hc
      show (64 : Int) * ((64 : Int) * ((64 : Int) * ((bAt s 0 : Int) - 240) + (bAt s 1 : Int) - 128) + (bAt s 2 : Int) - 128) + (bAt s 3 : Int) - 128 = (((((bAt s 0 - 240) * 64 + (bAt s 1 - 128)) * 64 + (bAt s 2 - 128)) * 64 + (bAt s 3 - 128) : Nat) : Int)
      omega
theorem hit {s : ByteArray} {k : Nat} (h : szAt s 0 = k) (hk : 1 ≤ k) : letB (refNum s k) = true ∧ (⟨(bytesOf (refNum s k)).toArray⟩ : ByteArray) = s.extract 0 k := by
  have hn := ref_num h hk
  have hz := sz_num (s := s) (at_ := 0) (by omega)
  rw [h] at hz
  obtain ⟨h1, h2, h3⟩ := hz
  rw [hn]
  refine ⟨h1, ?_⟩
  have hsz := (sz_bd s 0).2 (by omega)
  rw [h] at hsz
  apply ByteArray.ext
  apply Array.toList_inj.mp
  rw [take_list]
  show bytesOf _ = _
  have hlen : (bytesOf (numAt s 0 k : Nat)).length = k := by rw [bytesOf_len h1, Int.toNat_natCast]; exact h2
  apply List.ext_getElem
  · rw [hlen, List.length_take, bLen]; omega
  · intro i hi1 hi2
    rw [hlen] at hi1
    have g := bytesOf_get h1 i (by rw [Int.toNat_natCast]; omega)
    rw [Int.toNat_natCast] at g
    have g3 := h3 i hi1
    rw [Nat.zero_add] at g3
    rw [← g3] at g
    unfold bAt at g
    have g4 := UInt8.toNat_inj.1 g
    rw [List.getD_eq_getElem?_getD, List.getD_eq_getElem?_getD, List.getElem?_eq_getElem (by omega), List.getElem?_eq_getElem (by rw [bLen]; omega)] at g4
    rw [List.getElem_take]
    exact g4
theorem miss {s : ByteArray} {k : Nat} (hs : k ≤ s.size) (hl : letB (refNum s k) = true) (h : (⟨(bytesOf (refNum s k)).toArray⟩ : ByteArray) = s.extract 0 k) : szAt s 0 = k := by
  have h' := congrArg (fun x : ByteArray => x.data.toList) h
  simp only [take_list] at h'
  have h2 : bytesOf (refNum s k) = s.data.toList.take k := h'
  have hlen := bytesOf_len hl
  have hlk : lenOf (refNum s k).toNat = k := by
    rw [← hlen, h2, List.length_take, bLen]; omega
  have := sz_of_bytes (s := s) (at_ := 0) hl (by omega) (fun i hi => by
    rw [← bytesOf_get hl i hi, h2, Nat.zero_add]
    unfold bAt
    rw [List.getD_eq_getElem?_getD, List.getD_eq_getElem?_getD, List.getElem?_take_of_lt (by omega)])
  rw [this, hlk]
theorem bytes_ne0 {n : Int} (h : letB n = true) : (⟨(bytesOf n).toArray⟩ : ByteArray) ≠ ⟨#[]⟩ := by
  intro e
  have h1 : bytesOf n = [] := congrArg (fun x : ByteArray => x.data.toList) e
  have hl := bytesOf_len h
  have hb := lenOf_bd n.toNat
  rw [h1] at hl
  have : (0 : Nat) = lenOf n.toNat := hl
  omega
end Go.Proofs.YtebaojbagogniaaDoor
namespace Go.Proofs.YtebaojbagogniaaDoor
open Go.RowKit Go.Extern.Stop Go.Stop Go.Extern

theorem str_ne {a b : ByteArray} (h : a ≠ b) : (a.toList == b.toList) = false := by
  refine beq_eq_false_iff_ne.2 fun e => h ?_
  rw [ByteArray.toList_eq, ByteArray.toList_eq] at e
  exact ByteArray.ext (Array.toList_inj.mp e)
theorem str_full {a : ByteArray} (h : a ≠ ⟨#[]⟩) : ¬ a.toList = [] := by
  intro e
  rw [ByteArray.toList_eq] at e
  exact h (ByteArray.ext (Array.toList_inj.mp e))
theorem str_full2 {a : ByteArray} (h : ¬ a.toList = []) : (!a.toList.isEmpty) = true := by
  simpa using h
def FirstSays (s : ByteArray) (w : World) (x : Ending) (w' : World) : Prop := x = .returned (.int .i64 (szAt s 0 : Nat)) ∧ Below w.heap.size w w'

set_option maxRecDepth 100000 in
set_option maxHeartbeats 4000000 in
theorem rf_first (s : ByteArray) (w : World) (hm : s.size ≤ 4611686018427387903) : Calls Tryd.prog 74 #[.string s] w (FirstSays s w) := by
  go_enter Tryd.func74, Tryd.ntmps74
  go_wp2
  go_loopg [3] 4 (fun f y wr => ∃ k : Nat, f = 5 - k ∧ 1 ≤ k ∧ k ≤ 5 ∧ y = .int .i64 k ∧ k ≤ s.size + 1 ∧ (∀ j, 1 ≤ j → j < k → szAt s 0 ≠ j) ∧ Below w.heap.size w wr)
  case atStart => exact ⟨1, rfl, by omega, by omega, rfl, by omega, fun j h1 h2 => by omega, Below.refl _ _⟩
  case round =>
    obtain ⟨k, rfl, hk1, hk5, rfl, hks, hno, hb⟩ := hrel
    have HB := Lib.hid hb
    have HNO := Lib.hid hno
    clear hb hno
    by_cases hgo : k ≤ 4 ∧ k ≤ s.size
    · obtain ⟨hg1, hg2⟩ := hgo
      have HN := Lib.hid (fun w => rf_number s k w hk1 hg1 hg2 hm)
      unfold NumSays at HN
      have HBY := Lib.hid (fun w => rf_bytes (refNum s k) w)
      unfold BytesSays at HBY
      have hmiss := fun hl => miss (s := s) (k := k) hg2 hl
      have hne := bytes_ne0 (n := refNum s k)
      have hnone := bytesOf_none (n := refNum s k)
      have hhit := fun h => hit (s := s) (k := k) h hk1
      by_cases hz : szAt s 0 = k
      · obtain ⟨h1, h2⟩ := hhit hz
        have hn := str_full (hne h1)
        have hn2 := str_full2 hn
        rw [h2] at hn hn2 HBY
        have he : ((s.extract 0 k).toList == (s.extract 0 k).toList) = true := by simp
        have HZ := Lib.hid hz
        clear hmiss hne hnone hhit h1 h2 hz
        generalize refNum s k = z at *
        go_wp2_with fail
        refine (HN.out _).mono ?_
        rintro x w1 ⟨rfl, rfl⟩
        go_wp2_with fail
        refine (HBY.out _).mono ?_
        rintro x w1 ⟨rfl, hb⟩
        have HB1 := Lib.hid (HB.out.trans (hb.mono HB.out.size))
        clear hb
        go_wp2
        go_ret
        exact ⟨ret_nat HZ.out.symm, HB1.out⟩
      · have HZ : Hid (∀ j, 1 ≤ j → j < k + 1 → szAt s 0 ≠ j) := Lib.hid (fun j h1 h2 e => by
          by_cases hj : j = k
          · exact hz (e.trans hj)
          · exact HNO.out j h1 (by omega) e)
        by_cases hl : letB (refNum s k) = true
        · have hn := str_full (hne hl)
          have hn2 := str_full2 hn
          have he := str_ne (fun e => hz (hmiss hl e))
          clear hmiss hne hnone hhit hl hz
          generalize refNum s k = z at *
          generalize (⟨(bytesOf z).toArray⟩ : ByteArray) = b at *
          go_wp2_with fail
          refine (HN.out _).mono ?_
          rintro x w1 ⟨rfl, rfl⟩
          go_wp2_with fail
          refine (HBY.out _).mono ?_
          rintro x w1 ⟨rfl, hb⟩
          have HB1 := Lib.hid (HB.out.trans (hb.mono HB.out.size))
          clear hb
          go_wp2
          go_roundg (5 - (k + 1))
          case rel => exact ⟨k + 1, rfl, by omega, by omega, by go_num, by omega, HZ.out, HB1.out⟩
          case measure => omega
        · have hl' : letB (refNum s k) = false := by simpa using hl
          have hnil := hnone hl'
          rw [hnil] at HBY
          clear hmiss hne hnone hhit hl hl' hz hnil
          generalize refNum s k = z at *
          go_wp2_with fail
          refine (HN.out _).mono ?_
          rintro x w1 ⟨rfl, rfl⟩
          go_wp2_with fail
          refine (HBY.out _).mono ?_
          rintro x w1 ⟨rfl, hb⟩
          have HB1 := Lib.hid (HB.out.trans (hb.mono HB.out.size))
          clear hb
          go_wp2
          go_roundg (5 - (k + 1))
          case rel => exact ⟨k + 1, rfl, by omega, by omega, by go_num, by omega, HZ.out, HB1.out⟩
          case measure => omega
    · have hz : szAt s 0 = 0 := by
        have hb := sz_bd s 0
        by_cases h0 : szAt s 0 = 0
        · exact h0
        · have h1 := hb.2 h0
          exact absurd rfl (HNO.out (szAt s 0) (by omega) (by omega))
      have HZ := Lib.hid hz
      clear hz
      by_cases h4 : k ≤ 4
      · have h5 : s.size < k := by omega
        clear hgo
        go_wp2
        go_ret
        exact ⟨ret_nat HZ.out.symm, HB.out⟩
      · have h5 : 4 < k := by omega
        clear hgo h4
        go_wp2
        go_ret
        exact ⟨ret_nat HZ.out.symm, HB.out⟩

set_option maxRecDepth 100000 in
set_option maxHeartbeats 4000000 in
theorem rf_cut (s : ByteArray) (w : World) (hm : s.size ≤ 4611686018427387903) : Calls Tryd.prog 57 #[.string s] w fun x w' => x = .returned (.int .i64 (cutOf s : Nat)) ∧ Below w.heap.size w w' := by
  have HF := Lib.hid (show walkF s s.size 0 0 = (cutOf s, lettersOf s) from rfl)
  go_enter Tryd.func57, Tryd.ntmps57
  go_wp2
  go_loopg [3] s.size (fun f x wr => ∃ a n : Nat, x = .int .i64 a ∧ a ≤ s.size ∧ s.size ≤ a + f ∧ walkF s f a n = (cutOf s, lettersOf s) ∧ Below w.heap.size w wr)
  case atStart => exact ⟨0, 0, rfl, Nat.zero_le _, by omega, HF.out, Below.refl _ _⟩
  case round =>
    obtain ⟨a, n, rfl, ha, hf, hv, hb⟩ := hrel
    have HV := Lib.hid hv
    have HB := Lib.hid hb
    clear hv HF hb
    by_cases hlt : a < s.size
    · have hd := (sz_bd s a)
      have HS := Lib.hid (fun w => rf_first (s.extract a s.size) w (by rw [size_tail]; omega))
      have het := sz_tail hlt
      unfold FirstSays at HS
      rw [het] at HS
      clear het
      by_cases hz : szAt s a = 0
      · have hend := walk_end (s := s) (f := gk) (a := a) (n := n) (by omega)
        rw [HV.out] at hend
        have HEN := Lib.hid hend
        rw [hz] at HS
        have HS0 : ∀ w, Calls Tryd.prog 74 #[.string (s.extract a s.size)] w (fun x w' => x = .returned (.int .i64 0) ∧ Below w.heap.size w w') := HS.out
        have HS1 := Lib.hid HS0
        clear hend hz hd HS HS0
        go_wp2_with fail
        refine (HS1.out _).mono ?_
        rintro x w1 ⟨rfl, hb⟩
        have HB1 := Lib.hid (HB.out.trans (hb.mono HB.out.size))
        clear hb
        go_wp2
        go_ret
        exact ⟨by rw [Prod.mk.injEq] at HEN; rw [HEN.out.1]; rfl, HB1.out⟩
      · obtain ⟨g, rfl⟩ : ∃ g, gk = g + 1 := ⟨gk - 1, by omega⟩
        have hst := walk_more (s := s) (f := g) (a := a) (n := n) hlt hz
        rw [HV.out] at hst
        have HST := Lib.hid hst
        have hd2 := hd.2 hz
        have hd1 := hd.1
        have hz1 : 1 ≤ szAt s a := by omega
        clear hst hd hz
        generalize szAt s a = k at *
        have hk0 : (0 : Int) < (k : Int) := by omega
        go_wp2_with fail
        refine (HS.out _).mono ?_
        rintro x w1 ⟨rfl, hb⟩
        have HB1 := Lib.hid (HB.out.trans (hb.mono HB.out.size))
        clear hb
        go_wp2_with fail
        refine (HS.out _).mono ?_
        rintro x w2 ⟨rfl, hb⟩
        have HB2 := Lib.hid (HB1.out.trans (hb.mono HB1.out.size))
        clear hb
        go_wp2
        go_roundg g
        case rel => exact ⟨a + k, n + 1, by go_num, by omega, by omega, HST.out.symm, HB2.out⟩
        case measure => omega
    · have hend := walk_end (s := s) (f := gk) (a := a) (n := n) (by omega)
      rw [HV.out] at hend
      have HEN := Lib.hid hend
      have HB1 := HB
      clear hend
      go_wp2
      go_ret
      exact ⟨by rw [Prod.mk.injEq] at HEN; rw [HEN.out.1]; rfl, HB1.out⟩

theorem rf_check (s : ByteArray) (w : World) (hm : s.size ≤ 4611686018427387903) : Calls Tryd.prog 50 #[.string s] w fun x w' => x = .returned (.tuple #[.int .i64 ((checkOf s).1 : Nat), .int .i64 ((checkOf s).2 : Nat)]) ∧ Below w.heap.size w w' := by
  have HC := Lib.hid (fun w => rf_cut s w hm)
  have hcl := cut_le s
  unfold checkOf
  generalize cutOf s = c at *
  by_cases h1 : 65535 < s.size
  · rw [if_pos h1]
    go_enter Tryd.func50, Tryd.ntmps50
    go_wp2
    go_ret2
    exact ⟨rfl, Below.refl _ _⟩
  · rw [if_neg h1]
    have h1' : s.size ≤ 65535 := by omega
    by_cases h2 : c < s.size
    · rw [if_pos h2]
      clear h1
      go_enter Tryd.func50, Tryd.ntmps50
      go_wp2_with fail
      refine (HC.out _).mono ?_
      rintro x w1 ⟨rfl, hb⟩
      go_wp2
      go_ret2
      exact ⟨rfl, hb⟩
    · rw [if_neg h2]
      have h2' : s.size ≤ c := by omega
      clear h1 h2
      go_enter Tryd.func50, Tryd.ntmps50
      go_wp2_with fail
      refine (HC.out _).mono ?_
      rintro x w1 ⟨rfl, hb⟩
      go_wp2
      go_ret2
      exact ⟨rfl, hb⟩
def isB (s : ByteArray) : Bool := (checkOf s).1 == 0
theorem rf_is (s : ByteArray) (w : World) (hm : s.size ≤ 4611686018427387903) : Calls Tryd.prog 37 #[.string s] w fun x w' => x = .returned (.bool (isB s)) ∧ Below w.heap.size w w' := by
  have HC := Lib.hid (fun w => rf_check s w hm)
  unfold isB
  generalize checkOf s = c at *
  obtain ⟨c1, c2⟩ := c
  by_cases h0 : c1 = 0
  · subst h0
    have HC0 : ∀ w, Calls Tryd.prog 50 #[.string s] w (fun x w' => x = .returned (.tuple #[.int .i64 0, .int .i64 (c2 : Nat)]) ∧ Below w.heap.size w w') := HC.out
    have HC1 := Lib.hid HC0
    clear HC HC0
    go_enter Tryd.func37, Tryd.ntmps37
    go_wp2_with fail
    refine (HC1.out _).mono ?_
    rintro x w1 ⟨rfl, hb⟩
    go_wp2
    go_ret
    exact ⟨rfl, hb⟩
  · have hz : ((c1 : Int) == 0) = false := beq_eq_false_iff_ne.2 (by omega)
    have H0 : Hid ((c1 == 0) = false) := Lib.hid (beq_eq_false_iff_ne.2 h0)
    clear h0
    go_enter Tryd.func37, Tryd.ntmps37
    go_wp2_with fail
    refine (HC.out _).mono ?_
    rintro x w1 ⟨rfl, hb⟩
    go_wp2
    go_ret
    exact ⟨by rw [H0.out]; rfl, hb⟩
end Go.Proofs.YtebaojbagogniaaDoor
