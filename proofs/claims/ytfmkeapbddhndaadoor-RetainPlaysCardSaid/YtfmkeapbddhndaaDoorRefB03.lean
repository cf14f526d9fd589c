/- What is proved here: the letter that bytes begin with, by the document's own answer, is the one of the plain walk. Conditions: the number's range, the text's length. -/
import Derived.Test.YtfmkeapbddhndaaDoorCut03
import Derived.Test.YtfmkeapbddhndaaDoorRef02
namespace Go.Proofs.YtfmkeapbddhndaaDoor
open Go.RowKit Go.Extern.Stop Go.Stop Go.Extern

theorem conv_cells (w : World) (l : List UInt8) (vs : Array Value) (hv : vs.toList = l.map byteV) :
    (convert 161 9 (.slice (some ⟨w.heap.size, 0, none⟩) l.length l.length)).run Tryd.prog (w.alloc (.cells vs 5)) = .ok (.string ⟨l.toArray⟩) (w.alloc (.cells vs 5)) := by
  refine run_convert_bytes_back _ 161 9 5 ⟨w.heap.size, 0, none⟩ l.length l Tryd.underlying161 Tryd.underlying5 Tryd.underlying9 fun j hj => ?_
  have h := (MapKept.heap_alloc w (.cells vs 5)).1
  have hz : vs[j]? = some (byteV l[j]) := by
    rw [← Array.getElem?_toList, hv, List.getElem?_map, List.getElem?_eq_getElem hj]; rfl
  rw [Go.WideShapes.add_plain, Nat.zero_add]
  unfold World.cell?
  dsimp only
  rw [h]
  simp only [hz, byteV, Option.isSome_none, Bool.false_eq_true, if_false]

def BytesSays (n : Int) (w : World) (x : Ending) (w' : World) : Prop := x = .returned (.string ⟨(bytesOf n).toArray⟩) ∧ Below w.heap.size w w'
theorem byteV_of {n : Nat} (h : n < 256) : byteV (UInt8.ofNat n) = .int .u8 (n : Int) := byteV_ofNat h

set_option maxRecDepth 100000 in
theorem rf_bytes_none (n : Int) (w : World) (h : letB n = false) : Calls Tryd.prog 124 #[.int .i64 n] w (BytesSays n w) := by
  have HB := Lib.hid (bytesOf_none h)
  have hn : ¬ (1 ≤ n ∧ n ≤ 1114111 ∧ ¬ (55296 ≤ n ∧ n ≤ 57343)) := by
    intro h'
    rw [letB_iff.2 h'] at h
    cases h
  clear h
  by_cases h1 : n < 1
  · clear hn
    go_enter Tryd.func124, Tryd.ntmps124
    go_wp2
    go_ret
    exact ⟨by rw [HB.out]; rfl, Below.refl _ _⟩
  · by_cases h2 : 1114111 < n
    · clear hn
      have h1' : 1 ≤ n := by omega
      go_enter Tryd.func124, Tryd.ntmps124
      go_wp2
      go_ret
      exact ⟨by rw [HB.out]; rfl, Below.refl _ _⟩
    · have h3 : 55296 ≤ n := by omega
      have h4 : n ≤ 57343 := by omega
      have h1' : 1 ≤ n := by omega
      have h2' : n ≤ 1114111 := by omega
      clear hn h1 h2
      go_enter Tryd.func124, Tryd.ntmps124
      go_wp2
      go_ret
      exact ⟨by rw [HB.out]; rfl, Below.refl _ _⟩

set_option maxRecDepth 100000 in
theorem rf_bytes_1 (n : Nat) (w : World) (h0 : 1 ≤ n) (h1 : n < 128) : Calls Tryd.prog 124 #[.int .i64 n] w (BytesSays n w) := by
  have hb : bytesOf (n : Int) = ([n]).map UInt8.ofNat := by
    unfold bytesOf
    rw [if_pos (letB_iff.2 ⟨by omega, by omega, by omega⟩), Int.toNat_natCast]
    unfold digs
    rw [if_pos (by omega)]
  have hc := conv_cells w (bytesOf (n : Int)) #[.int .u8 ((n : Int))] (by
    rw [hb]
    simp only [List.map_cons, List.map_nil]
    rw [byteV_of (show n < 256 by omega)])
  have hl : (bytesOf (n : Int)).length = 1 := by rw [hb]; rfl
  rw [hl] at hc
  unfold BytesSays
  clear hb hl
  generalize (⟨(bytesOf (n : Int)).toArray⟩ : ByteArray) = r at *
  have q0 : decide ((n : Int) < 1) = false := by simp; omega
  have q1 : decide (1114111 < (n : Int)) = false := by simp; omega
  have q2 : decide ((n : Int) < 128) = true := by simp; omega
  have q3 : decide ((n : Int) < 2048) = true := by simp; omega
  have q4 : decide ((n : Int) < 65536) = true := by simp; omega
  have q5 : decide (55296 ≤ (n : Int)) = false := by simp; omega
  have g0 : (n : Int) < 128 := by omega
  have H0 := Lib.hid h0
  have H1 := Lib.hid h1
  clear h0 h1
  go_enter Tryd.func124, Tryd.ntmps124
  go_wp2
  go_ret
  exact ⟨rfl, (Below.refl _ _).alloc (Nat.le_refl _) _⟩

set_option maxRecDepth 100000 in
theorem rf_bytes_2 (n : Nat) (w : World) (h0 : 128 ≤ n) (h1 : n < 2048) : Calls Tryd.prog 124 #[.int .i64 n] w (BytesSays n w) := by
  have hb : bytesOf (n : Int) = ([192 + n / 64, 128 + n % 64]).map UInt8.ofNat := by
    unfold bytesOf
    rw [if_pos (letB_iff.2 ⟨by omega, by omega, by omega⟩), Int.toNat_natCast]
    unfold digs
    rw [if_neg (by omega), if_pos (by omega)]
  have hc := conv_cells w (bytesOf (n : Int)) #[.int .u8 (192 + (n : Int) / 64), .int .u8 (128 + (n : Int) % 64)] (by
    rw [hb]
    simp only [List.map_cons, List.map_nil]
    rw [byteV_of (show 192 + n / 64 < 256 by omega), byteV_of (show 128 + n % 64 < 256 by omega)]
    have c0 : ((192 + n / 64 : Nat) : Int) = 192 + (n : Int) / 64 := by omega
    have c1 : ((128 + n % 64 : Nat) : Int) = 128 + (n : Int) % 64 := by omega
    rw [c0, c1])
  have hl : (bytesOf (n : Int)).length = 2 := by rw [hb]; rfl
  rw [hl] at hc
  unfold BytesSays
  clear hb hl
  generalize (⟨(bytesOf (n : Int)).toArray⟩ : ByteArray) = r at *
  have q0 : decide ((n : Int) < 1) = false := by simp; omega
  have q1 : decide (1114111 < (n : Int)) = false := by simp; omega
  have q2 : decide ((n : Int) < 128) = false := by simp; omega
  have q3 : decide ((n : Int) < 2048) = true := by simp; omega
  have q4 : decide ((n : Int) < 65536) = true := by simp; omega
  have q5 : decide (55296 ≤ (n : Int)) = false := by simp; omega
  have g0 : (n : Int) < 2048 := by omega
  have H0 := Lib.hid h0
  have H1 := Lib.hid h1
  clear h0 h1
  go_enter Tryd.func124, Tryd.ntmps124
  go_wp2
  go_ret
  exact ⟨rfl, (Below.refl _ _).alloc (Nat.le_refl _) _⟩

set_option maxRecDepth 100000 in
theorem rf_bytes_3 (n : Nat) (w : World) (h0 : 2048 ≤ n) (h1 : n < 65536) (hs : ¬ (55296 ≤ n ∧ n ≤ 57343)) : Calls Tryd.prog 124 #[.int .i64 n] w (BytesSays n w) := by
  have hb : bytesOf (n : Int) = ([224 + n / 4096, 128 + n / 64 % 64, 128 + n % 64]).map UInt8.ofNat := by
    unfold bytesOf
    rw [if_pos (letB_iff.2 ⟨by omega, by omega, by omega⟩), Int.toNat_natCast]
    unfold digs
    rw [if_neg (by omega), if_neg (by omega), if_pos (by omega)]
  have hc := conv_cells w (bytesOf (n : Int)) #[.int .u8 (224 + (n : Int) / 4096), .int .u8 (128 + (n : Int) / 64 % 64), .int .u8 (128 + (n : Int) % 64)] (by
    rw [hb]
    simp only [List.map_cons, List.map_nil]
    rw [byteV_of (show 224 + n / 4096 < 256 by omega), byteV_of (show 128 + n / 64 % 64 < 256 by omega), byteV_of (show 128 + n % 64 < 256 by omega)]
    have c0 : ((224 + n / 4096 : Nat) : Int) = 224 + (n : Int) / 4096 := by omega
    have c1 : ((128 + n / 64 % 64 : Nat) : Int) = 128 + (n : Int) / 64 % 64 := by omega
    have c2 : ((128 + n % 64 : Nat) : Int) = 128 + (n : Int) % 64 := by omega
    rw [c0, c1, c2])
  have hl : (bytesOf (n : Int)).length = 3 := by rw [hb]; rfl
  rw [hl] at hc
  unfold BytesSays
  clear hb hl
  generalize (⟨(bytesOf (n : Int)).toArray⟩ : ByteArray) = r at *
  have g0 : (n : Int) < 65536 := by omega
  by_cases h5 : n < 55296
  · have q0 : decide ((n : Int) < 1) = false := by simp; omega
    have q1 : decide (1114111 < (n : Int)) = false := by simp; omega
    have q2 : decide ((n : Int) < 128) = false := by simp; omega
    have q3 : decide ((n : Int) < 2048) = false := by simp; omega
    have q4 : decide ((n : Int) < 65536) = true := by simp; omega
    have q5 : decide (55296 ≤ (n : Int)) = false := by simp; omega
    clear h0 h1 hs h5
    go_enter Tryd.func124, Tryd.ntmps124
    go_wp2
    go_ret
    exact ⟨rfl, (Below.refl _ _).alloc (Nat.le_refl _) _⟩
  · have q0 : decide ((n : Int) < 1) = false := by simp; omega
    have q1 : decide (1114111 < (n : Int)) = false := by simp; omega
    have q2 : decide ((n : Int) < 128) = false := by simp; omega
    have q3 : decide ((n : Int) < 2048) = false := by simp; omega
    have q4 : decide ((n : Int) < 65536) = true := by simp; omega
    have q5 : decide (55296 ≤ (n : Int)) = true := by simp; omega
    have q6 : decide ((n : Int) ≤ 57343) = false := by simp; omega
    clear h0 h1 hs h5
    go_enter Tryd.func124, Tryd.ntmps124
    go_wp2
    go_ret
    exact ⟨rfl, (Below.refl _ _).alloc (Nat.le_refl _) _⟩

set_option maxRecDepth 100000 in
theorem rf_bytes_4 (n : Nat) (w : World) (h0 : 65536 ≤ n) (h1 : n < 1114112) : Calls Tryd.prog 124 #[.int .i64 n] w (BytesSays n w) := by
  have hb : bytesOf (n : Int) = ([240 + n / 262144, 128 + n / 4096 % 64, 128 + n / 64 % 64, 128 + n % 64]).map UInt8.ofNat := by
    unfold bytesOf
    rw [if_pos (letB_iff.2 ⟨by omega, by omega, by omega⟩), Int.toNat_natCast]
    unfold digs
    rw [if_neg (by omega), if_neg (by omega), if_neg (by omega)]
  have hc := conv_cells w (bytesOf (n : Int)) #[.int .u8 (240 + (n : Int) / 262144), .int .u8 (128 + (n : Int) / 4096 % 64), .int .u8 (128 + (n : Int) / 64 % 64), .int .u8 (128 + (n : Int) % 64)] (by
    rw [hb]
    simp only [List.map_cons, List.map_nil]
    rw [byteV_of (show 240 + n / 262144 < 256 by omega), byteV_of (show 128 + n / 4096 % 64 < 256 by omega), byteV_of (show 128 + n / 64 % 64 < 256 by omega), byteV_of (show 128 + n % 64 < 256 by omega)]
    have c0 : ((240 + n / 262144 : Nat) : Int) = 240 + (n : Int) / 262144 := by omega
    have c1 : ((128 + n / 4096 % 64 : Nat) : Int) = 128 + (n : Int) / 4096 % 64 := by omega
    have c2 : ((128 + n / 64 % 64 : Nat) : Int) = 128 + (n : Int) / 64 % 64 := by omega
    have c3 : ((128 + n % 64 : Nat) : Int) = 128 + (n : Int) % 64 := by omega
    rw [c0, c1, c2, c3])
  have hl : (bytesOf (n : Int)).length = 4 := by rw [hb]; rfl
  rw [hl] at hc
  unfold BytesSays
  clear hb hl
  generalize (⟨(bytesOf (n : Int)).toArray⟩ : ByteArray) = r at *
  have q0 : decide ((n : Int) < 1) = false := by simp; omega
  have q1 : decide (1114111 < (n : Int)) = false := by simp; omega
  have q2 : decide ((n : Int) < 128) = false := by simp; omega
  have q3 : decide ((n : Int) < 2048) = false := by simp; omega
  have q4 : decide ((n : Int) < 65536) = false := by simp; omega
  have q5 : decide (55296 ≤ (n : Int)) = true := by simp; omega
  have q6 : decide ((n : Int) ≤ 57343) = false := by simp; omega
  have g0 : (n : Int) < 1114112 := by omega
  have H0 := Lib.hid h0
  have H1 := Lib.hid h1
  clear h0 h1
  go_enter Tryd.func124, Tryd.ntmps124
  go_wp2
  go_ret
  exact ⟨rfl, (Below.refl _ _).alloc (Nat.le_refl _) _⟩

theorem rf_bytes (n : Int) (w : World) : Calls Tryd.prog 124 #[.int .i64 n] w (BytesSays n w) := by
  cases hb : letB n with
  | false => exact rf_bytes_none n w hb
  | true =>
    have h := letB_iff.1 hb
    obtain ⟨m, rfl⟩ : ∃ m : Nat, n = (m : Int) := ⟨n.toNat, by omega⟩
    by_cases h1 : m < 128
    · exact rf_bytes_1 m w (by omega) h1
    · by_cases h2 : m < 2048
      · exact rf_bytes_2 m w (by omega) h2
      · by_cases h3 : m < 65536
        · exact rf_bytes_3 m w (by omega) h3 (by omega)
        · exact rf_bytes_4 m w (by omega) (by omega)

/-- The document's number of so many bytes. -/
def pInt (s : ByteArray) (base : Int) : Nat → Int
  | 0 => 0
  | 1 => (bAt s 0 : Int) - base
  | i + 2 => 64 * pInt s base (i + 1) + (bAt s (i + 1) : Int) - 128
def refNum (s : ByteArray) (many : Nat) : Int := if many = 1 then (bAt s 0 : Int) else if many = 2 then pInt s 192 2 else if many = 3 then pInt s 224 3 else pInt s 240 4
def IntBd (i : Nat) (z : Int) : Prop := i = 1 ∧ -300 ≤ z ∧ z ≤ 300 ∨ i = 2 ∧ -20000 ≤ z ∧ z ≤ 20000 ∨ i = 3 ∧ -1300000 ≤ z ∧ z ≤ 1300000 ∨ i = 4 ∧ -84000000 ≤ z ∧ z ≤ 84000000
def NumSays (z : Int) (w : World) (x : Ending) (w' : World) : Prop := x = .returned (.int .i64 z) ∧ w = w'
theorem rf_number_1 (s : ByteArray) (w : World) (h0 : 0 < s.size) : Calls Tryd.prog 125 #[.string s, .int .i64 1] w (NumSays (refNum s 1) w) := by
  have e : refNum s 1 = (s[0].toNat : Int) := by show (bAt s 0 : Int) = _; rw [bAt_get h0]
  have hb : s[0].toNat < 256 := UInt8.toNat_lt _
  rw [e]
  clear e
  unfold NumSays
  go_enter Tryd.func125, Tryd.ntmps125
  go_wp2
  go_ret
  exact ⟨rfl, rfl⟩

set_option maxRecDepth 100000 in
set_option maxHeartbeats 4000000 in
theorem rf_number_2 (s : ByteArray) (w : World) (hs : 2 ≤ s.size) (hm : s.size ≤ 4611686018427387903) : Calls Tryd.prog 125 #[.string s, .int .i64 2] w (NumSays (refNum s 2) w) := by
  have e : refNum s 2 = pInt s 192 2 := rfl
  have hp : pInt s 192 1 = (s[0].toNat : Int) - 192 := by show (bAt s 0 : Int) - 192 = _; rw [bAt_get (by omega)]
  have HP := Lib.hid hp
  have HE := Lib.hid e
  have hb : s[0].toNat < 256 := UInt8.toNat_lt _
  clear hp e
  unfold NumSays
  generalize refNum s 2 = r at *
  go_enter Tryd.func125, Tryd.ntmps125
  go_wp2
  go_loopg [5, 6] (2 - 1) (fun f x y wr => w = wr ∧ ∃ (i : Nat) (z : Int), f = 2 - i ∧ i ≤ 2 ∧ x = .int .i64 z ∧ y = .int .i64 i ∧ z = pInt s 192 i ∧ IntBd i z)
  case atStart => exact ⟨rfl, 1, (s[0].toNat : Int) - 192, rfl, by omega, by go_num, rfl, HP.out.symm, .inl ⟨rfl, by omega, by omega⟩⟩
  case round =>
    obtain ⟨rfl, i, z, rfl, hi, rfl, rfl, hz, hbd⟩ := hrel
    have HZ := Lib.hid hz
    clear hz HP
    rcases hbd with ⟨rfl, hn1, hn2⟩ | ⟨rfl, hn1, hn2⟩ | ⟨rfl, hn1, hn2⟩ | ⟨rfl, hn1, hn2⟩
    · have hlt : 1 < s.size := by omega
      have hst : pInt s 192 2 = (64 : Int) * z + (s[1].toNat : Int) - 128 := by
        show (64 : Int) * pInt s 192 1 + (bAt s 1 : Int) - 128 = _
        rw [bAt_get hlt, ← HZ.out]
      have HS := Lib.hid hst
      have hb2 : s[1].toNat < 256 := UInt8.toNat_lt _
      clear hst
      go_wp2
      go_roundg (2 - 2)
      case rel => exact ⟨rfl, 2, 64 * z + (s[1].toNat : Int) - 128, rfl, by omega, by go_num, rfl, HS.out.symm, .inr (.inl ⟨rfl, by omega, by omega⟩)⟩
      case measure => omega
    · go_wp2
      go_ret
      exact ⟨by rw [HE.out, ← HZ.out]; rfl, rfl⟩
    · exact absurd hi (by omega)
    · exact absurd hi (by omega)

set_option maxRecDepth 100000 in
set_option maxHeartbeats 4000000 in
theorem rf_number_3 (s : ByteArray) (w : World) (hs : 3 ≤ s.size) (hm : s.size ≤ 4611686018427387903) : Calls Tryd.prog 125 #[.string s, .int .i64 3] w (NumSays (refNum s 3) w) := by
  have e : refNum s 3 = pInt s 224 3 := rfl
  have hp : pInt s 224 1 = (s[0].toNat : Int) - 224 := by show (bAt s 0 : Int) - 224 = _; rw [bAt_get (by omega)]
  have HP := Lib.hid hp
  have HE := Lib.hid e
  have hb : s[0].toNat < 256 := UInt8.toNat_lt _
  clear hp e
  unfold NumSays
  generalize refNum s 3 = r at *
  go_enter Tryd.func125, Tryd.ntmps125
  go_wp2
  go_loopg [5, 6] (3 - 1) (fun f x y wr => w = wr ∧ ∃ (i : Nat) (z : Int), f = 3 - i ∧ i ≤ 3 ∧ x = .int .i64 z ∧ y = .int .i64 i ∧ z = pInt s 224 i ∧ IntBd i z)
  case atStart => exact ⟨rfl, 1, (s[0].toNat : Int) - 224, rfl, by omega, by go_num, rfl, HP.out.symm, .inl ⟨rfl, by omega, by omega⟩⟩
  case round =>
    obtain ⟨rfl, i, z, rfl, hi, rfl, rfl, hz, hbd⟩ := hrel
    have HZ := Lib.hid hz
    clear hz HP
    rcases hbd with ⟨rfl, hn1, hn2⟩ | ⟨rfl, hn1, hn2⟩ | ⟨rfl, hn1, hn2⟩ | ⟨rfl, hn1, hn2⟩
    · have hlt : 1 < s.size := by omega
      have hst : pInt s 224 2 = (64 : Int) * z + (s[1].toNat : Int) - 128 := by
        show (64 : Int) * pInt s 224 1 + (bAt s 1 : Int) - 128 = _
        rw [bAt_get hlt, ← HZ.out]
      have HS := Lib.hid hst
      have hb2 : s[1].toNat < 256 := UInt8.toNat_lt _
      clear hst
      go_wp2
      go_roundg (3 - 2)
      case rel => exact ⟨rfl, 2, 64 * z + (s[1].toNat : Int) - 128, rfl, by omega, by go_num, rfl, HS.out.symm, .inr (.inl ⟨rfl, by omega, by omega⟩)⟩
      case measure => omega
    · have hlt : 2 < s.size := by omega
      have hst : pInt s 224 3 = (64 : Int) * z + (s[2].toNat : Int) - 128 := by
        show (64 : Int) * pInt s 224 2 + (bAt s 2 : Int) - 128 = _
        rw [bAt_get hlt, ← HZ.out]
      have HS := Lib.hid hst
      have hb2 : s[2].toNat < 256 := UInt8.toNat_lt _
      clear hst
      go_wp2
      go_roundg (3 - 3)
      case rel => exact ⟨rfl, 3, 64 * z + (s[2].toNat : Int) - 128, rfl, by omega, by go_num, rfl, HS.out.symm, .inr (.inr (.inl ⟨rfl, by omega, by omega⟩))⟩
      case measure => omega
    · go_wp2
      go_ret
      exact ⟨by rw [HE.out, ← HZ.out]; rfl, rfl⟩
    · exact absurd hi (by omega)

set_option maxRecDepth 100000 in
set_option maxHeartbeats 4000000 in
theorem rf_number_4 (s : ByteArray) (w : World) (hs : 4 ≤ s.size) (hm : s.size ≤ 4611686018427387903) : Calls Tryd.prog 125 #[.string s, .int .i64 4] w (NumSays (refNum s 4) w) := by
  have e : refNum s 4 = pInt s 240 4 := rfl
  have hp : pInt s 240 1 = (s[0].toNat : Int) - 240 := by show (bAt s 0 : Int) - 240 = _; rw [bAt_get (by omega)]
  have HP := Lib.hid hp
  have HE := Lib.hid e
  have hb : s[0].toNat < 256 := UInt8.toNat_lt _
  clear hp e
  unfold NumSays
  generalize refNum s 4 = r at *
  go_enter Tryd.func125, Tryd.ntmps125
  go_wp2
  go_loopg [5, 6] (4 - 1) (fun f x y wr => w = wr ∧ ∃ (i : Nat) (z : Int), f = 4 - i ∧ i ≤ 4 ∧ x = .int .i64 z ∧ y = .int .i64 i ∧ z = pInt s 240 i ∧ IntBd i z)
  case atStart => exact ⟨rfl, 1, (s[0].toNat : Int) - 240, rfl, by omega, by go_num, rfl, HP.out.symm, .inl ⟨rfl, by omega, by omega⟩⟩
  case round =>
    obtain ⟨rfl, i, z, rfl, hi, rfl, rfl, hz, hbd⟩ := hrel
    have HZ := Lib.hid hz
    clear hz HP
    rcases hbd with ⟨rfl, hn1, hn2⟩ | ⟨rfl, hn1, hn2⟩ | ⟨rfl, hn1, hn2⟩ | ⟨rfl, hn1, hn2⟩
    · have hlt : 1 < s.size := by omega
      have hst : pInt s 240 2 = (64 : Int) * z + (s[1].toNat : Int) - 128 := by
        show (64 : Int) * pInt s 240 1 + (bAt s 1 : Int) - 128 = _
        rw [bAt_get hlt, ← HZ.out]
      have HS := Lib.hid hst
      have hb2 : s[1].toNat < 256 := UInt8.toNat_lt _
      clear hst
      go_wp2
      go_roundg (4 - 2)
      case rel => exact ⟨rfl, 2, 64 * z + (s[1].toNat : Int) - 128, rfl, by omega, by go_num, rfl, HS.out.symm, .inr (.inl ⟨rfl, by omega, by omega⟩)⟩
      case measure => omega
    · have hlt : 2 < s.size := by omega
      have hst : pInt s 240 3 = (64 : Int) * z + (s[2].toNat : Int) - 128 := by
        show (64 : Int) * pInt s 240 2 + (bAt s 2 : Int) - 128 = _
        rw [bAt_get hlt, ← HZ.out]
      have HS := Lib.hid hst
      have hb2 : s[2].toNat < 256 := UInt8.toNat_lt _
      clear hst
      go_wp2
      go_roundg (4 - 3)
      case rel => exact ⟨rfl, 3, 64 * z + (s[2].toNat : Int) - 128, rfl, by omega, by go_num, rfl, HS.out.symm, .inr (.inr (.inl ⟨rfl, by omega, by omega⟩))⟩
      case measure => omega
    · have hlt : 3 < s.size := by omega
      have hst : pInt s 240 4 = (64 : Int) * z + (s[3].toNat : Int) - 128 := by
        show (64 : Int) * pInt s 240 3 + (bAt s 3 : Int) - 128 = _
        rw [bAt_get hlt, ← HZ.out]
      have HS := Lib.hid hst
      have hb2 : s[3].toNat < 256 := UInt8.toNat_lt _
      clear hst
      go_wp2
      go_roundg (4 - 4)
      case rel => exact ⟨rfl, 4, 64 * z + (s[3].toNat : Int) - 128, rfl, by omega, by go_num, rfl, HS.out.symm, .inr (.inr (.inr (⟨rfl, by omega, by omega⟩)))⟩
      case measure => omega
    · go_wp2
      go_ret
      exact ⟨by rw [HE.out, ← HZ.out]; rfl, rfl⟩

theorem rf_number (s : ByteArray) (k : Nat) (w : World) (h1 : 1 ≤ k) (h4 : k ≤ 4) (hs : k ≤ s.size) (hm : s.size ≤ 4611686018427387903) : Calls Tryd.prog 125 #[.string s, .int .i64 k] w (NumSays (refNum s k) w) := by
  rcases (show k = 1 ∨ k = 2 ∨ k = 3 ∨ k = 4 by omega) with rfl | rfl | rfl | rfl
  · exact rf_number_1 s w (by omega)
  · exact rf_number_2 s w hs hm
  · exact rf_number_3 s w hs hm
  · exact rf_number_4 s w hs hm
end Go.Proofs.YtfmkeapbddhndaaDoor
