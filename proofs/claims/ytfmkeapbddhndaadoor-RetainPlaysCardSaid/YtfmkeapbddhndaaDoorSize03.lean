/- What is proved here: how many bytes the letter has that bytes begin with, of the landed code. Condition: there is a byte. -/
import Derived.Test.YtfmkeapbddhndaaDoorBits03
import Derived.Test.YtfmkeapbddhndaaDoorErr
import Derived.WalkSpells
import Derived.WalkLawsBesides
import Derived.Outline
import Derived.IntWalk
namespace Go.Proofs.YtfmkeapbddhndaaDoor
open Go.RowKit Go.Extern.Stop Go.Stop Go.Extern

theorem ret_nat {a b : Nat} (h : a = b) : Ending.returned (.int .i64 (a : Int)) = .returned (.int .i64 (b : Int)) := by rw [h]
def SizeSays (s : ByteArray) (w : World) (x : Ending) (w' : World) : Prop := x = .returned (.int .i64 (szAt s 0 : Nat)) ∧ w = w'

set_option maxRecDepth 100000 in
theorem ut_size_1 (s : ByteArray) (w : World) (h0 : 0 < s.size) (ha : s[0].toNat < 128) : Calls Tryd.prog 127 #[.string s] w (SizeSays s w) := by
  have hb := bAt_get h0
  have hcl := class_of.1 (show bAt s 0 < 128 by omega)
  have hz := sz_whole hcl (by omega) (by omega) (by omega) (fun j h1 h2 => by omega)
  have hn : numAt s 0 1 = s[0].toNat := hb
  rw [hn] at hz
  have HZ := Lib.hid hz
  have hd : decide ((s[0].toNat : Int) < 128) = true := by simp; omega
  have hds : decide ((s.size : Int) < 1) = false := by simp; omega
  clear hz hcl hn hb
  by_cases h1 : s[0].toNat < 1
  · go_enter Tryd.func127, Tryd.ntmps127
    go_wp2
    go_loopg [5, 7] 1 (fun f x y wr => w = wr ∧ f = 1 ∧ x = .int .i64 (s[0].toNat : Nat) ∧ y = .int .i64 1)
    case atStart => exact ⟨rfl, rfl, rfl, rfl⟩
    case round =>
      obtain ⟨rfl, _, rfl, rfl⟩ := hrel
      go_wp2
      go_ret
      exact ⟨by rw [HZ.out, if_neg (by rw [ok_iff]; simp [leastOf]; omega)]; rfl, rfl⟩
  · go_enter Tryd.func127, Tryd.ntmps127
    go_wp2
    go_loopg [5, 7] 1 (fun f x y wr => w = wr ∧ f = 1 ∧ x = .int .i64 (s[0].toNat : Nat) ∧ y = .int .i64 1)
    case atStart => exact ⟨rfl, rfl, rfl, rfl⟩
    case round =>
      obtain ⟨rfl, _, rfl, rfl⟩ := hrel
      go_wp2
      go_ret
      exact ⟨by rw [HZ.out, if_pos (by rw [ok_iff]; simp [leastOf]; omega)]; rfl, rfl⟩

set_option maxRecDepth 100000 in
theorem ut_size_0 (s : ByteArray) (w : World) (h0 : 0 < s.size) (ha : 128 ≤ s[0].toNat ∧ s[0].toNat < 192 ∨ 248 ≤ s[0].toNat) : Calls Tryd.prog 127 #[.string s] w (SizeSays s w) := by
  have hb := bAt_get h0
  have hz : szAt s 0 = 0 := by
    rcases ha with ⟨h1, h2⟩ | h1
    · exact sz_zero (.inl (class_of.2.1 (by omega) (by omega)))
    · exact sz_zero (.inl (class_of.2.2.2.2.2 (by omega)))
  have HZ := Lib.hid hz
  clear hz hb
  rcases ha with ⟨h1, h2⟩ | h1
  · go_enter Tryd.func127, Tryd.ntmps127
    go_wp2
    go_ret
    exact ⟨ret_nat HZ.out.symm, rfl⟩
  · have gu : s[0].toNat < 256 := UInt8.toNat_lt _
    have g0 : 128 ≤ s[0].toNat := by omega
    have g1 : 192 ≤ s[0].toNat := by omega
    have g2 : 224 ≤ s[0].toNat := by omega
    have g3 : 240 ≤ s[0].toNat := by omega
    go_enter Tryd.func127, Tryd.ntmps127
    go_wp2
    go_ret
    exact ⟨ret_nat HZ.out.symm, rfl⟩

set_option maxRecDepth 100000 in
set_option maxHeartbeats 4000000 in
theorem ut_size_2 (s : ByteArray) (w : World) (h0 : 0 < s.size) (ha : 192 ≤ s[0].toNat) (ha2 : s[0].toNat < 224) (hm : s.size ≤ 9223372036854775807) : Calls Tryd.prog 127 #[.string s] w (SizeSays s w) := by
  have hb := bAt_get h0
  have hcl := class_of.2.2.1 (show 192 ≤ bAt s 0 by omega) (by omega)
  by_cases hs : 2 ≤ s.size
  · have HW := Lib.hid (fun hc => sz_whole hcl (by omega) (by omega) hs hc)
    have HN := Lib.hid (fun i h1 h2 => sz_notC (i := i) hcl h1 h2 (by omega))
    have hp : preN s 192 1 = s[0].toNat - 192 := by show bAt s 0 - 192 = _; rw [hb]
    have HP := Lib.hid hp
    have hd128 : decide ((s[0].toNat : Int) < 128) = false := by simp; omega
    have hd192 : decide ((s[0].toNat : Int) < 192) = false := by simp; omega
    have hd224 : decide ((s[0].toNat : Int) < 224) = true := by simp; omega
    have hds : decide ((s.size : Int) < 2) = false := by simp; omega
    clear hp hb hcl
    go_enter Tryd.func127, Tryd.ntmps127
    go_wp2
    go_loopg [5, 7] (2 - 1) (fun f x y wr => w = wr ∧ ∃ i n : Nat, f = 2 - i ∧ i ≤ 2 ∧ x = .int .i64 n ∧ y = .int .i64 i ∧ n = preN s 192 i ∧ PreBd i n ∧ ∀ j, 1 ≤ j → j < i → isC (bAt s j) = true)
    case atStart => exact ⟨rfl, 1, s[0].toNat - 192, rfl, by omega, by go_num, rfl, HP.out.symm, .inl ⟨rfl, by omega⟩, fun j h1 h2 => by omega⟩
    case round =>
      obtain ⟨rfl, i, n, rfl, hi, rfl, rfl, hn, hbd, hc⟩ := hrel
      have HX := Lib.hid hn
      have HC := Lib.hid hc
      clear hn hc HP
      rcases hbd with ⟨rfl, hn⟩ | ⟨rfl, hn⟩ | ⟨rfl, hn⟩ | ⟨rfl, hn⟩
      · have hlt' : 1 < s.size := by omega
        have hbi := bAt_get hlt'
        have hby : s[1].toNat < 256 := UInt8.toNat_lt _
        have hand := and192 s[1].toNat hby
        have hroll := roll n s[1].toNat (by omega) hby
        by_cases hcc : isC s[1].toNat = true
        · rw [hcc] at hand
          have hand' : (bits .and .u8 (s[1].toNat : Int) 192 != 128) = false := hand
          have hst := pre_step (s := s) (base := 192) (i := 1) (by omega) (by rw [hbi]; exact hcc)
          rw [hbi, ← HX.out] at hst
          have HS := Lib.hid hst
          have HR := Lib.hid hroll
          have HCC := Lib.hid hcc
          have HBI := Lib.hid hbi
          clear hand hroll hst hcc hbi
          go_wp2
          go_roundg (2 - 2)
          case rel => exact ⟨rfl, 2, n * 64 + s[1].toNat % 64, rfl, by omega, by rw [← HR.out], rfl, HS.out.symm, .inr (.inl ⟨rfl, by omega⟩), fun j h1 h2 => by
            by_cases hj : j = 1
            · subst hj; rw [HBI.out]; exact HCC.out
            · exact HC.out j h1 (by omega)⟩
          case measure => omega
        · have hcc' : isC s[1].toNat = false := by simpa using hcc
          rw [hcc'] at hand
          have hand' : (bits .and .u8 (s[1].toNat : Int) 192 != 128) = true := hand
          have hz := HN.out 1 (by omega) (by omega) (by rw [hbi]; exact hcc')
          have HZ := Lib.hid hz
          clear hand hroll hz hcc hcc' hbi
          go_wp2
          go_ret
          exact ⟨ret_nat HZ.out.symm, rfl⟩
      · have hz := HW.out HC.out
        have hnum : numAt s 0 2 = n := HX.out.symm
        rw [hnum] at hz
        have HZ := Lib.hid hz
        clear hz hnum
        by_cases h1 : n < 128
        · go_wp2
          all_goals go_ret
          all_goals exact ⟨by rw [HZ.out, if_neg (by rw [ok_iff]; simp [leastOf]; omega)]; rfl, rfl⟩
        · have h1' : 128 ≤ n := by omega
          by_cases h2 : 1114111 < n
          · go_wp2
            all_goals go_ret
            all_goals exact ⟨by rw [HZ.out, if_neg (by rw [ok_iff]; omega)]; rfl, rfl⟩
          · have h2' : n ≤ 1114111 := by omega
            by_cases h3 : n < 55296
            · go_wp2
              all_goals go_ret
              all_goals exact ⟨by rw [HZ.out, if_pos (by rw [ok_iff]; simp [leastOf]; omega)]; rfl, rfl⟩
            · have h3' : 55296 ≤ n := by omega
              by_cases h4 : n ≤ 57343
              · go_wp2
                all_goals go_ret
                all_goals exact ⟨by rw [HZ.out, if_neg (by rw [ok_iff]; omega)]; rfl, rfl⟩
              · have h4' : 57343 < n := by omega
                go_wp2
                all_goals go_ret
                all_goals exact ⟨by rw [HZ.out, if_pos (by rw [ok_iff]; simp [leastOf]; omega)]; rfl, rfl⟩
      · exact absurd hi (by omega)
      · exact absurd hi (by omega)
  · have hz : szAt s 0 = 0 := sz_zero (.inr (by rw [hcl]; omega))
    have HZ := Lib.hid hz
    have hs' : s.size < 2 := by omega
    clear hz hb hcl hs
    go_enter Tryd.func127, Tryd.ntmps127
    go_wp2
    go_ret
    exact ⟨ret_nat HZ.out.symm, rfl⟩

set_option maxRecDepth 100000 in
set_option maxHeartbeats 4000000 in
theorem ut_size_3 (s : ByteArray) (w : World) (h0 : 0 < s.size) (ha : 224 ≤ s[0].toNat) (ha2 : s[0].toNat < 240) (hm : s.size ≤ 9223372036854775807) : Calls Tryd.prog 127 #[.string s] w (SizeSays s w) := by
  have hb := bAt_get h0
  have hcl := class_of.2.2.2.1 (show 224 ≤ bAt s 0 by omega) (by omega)
  by_cases hs : 3 ≤ s.size
  · have HW := Lib.hid (fun hc => sz_whole hcl (by omega) (by omega) hs hc)
    have HN := Lib.hid (fun i h1 h2 => sz_notC (i := i) hcl h1 h2 (by omega))
    have hp : preN s 224 1 = s[0].toNat - 224 := by show bAt s 0 - 224 = _; rw [hb]
    have HP := Lib.hid hp
    have hd128 : decide ((s[0].toNat : Int) < 128) = false := by simp; omega
    have hd192 : decide ((s[0].toNat : Int) < 192) = false := by simp; omega
    have hd224 : decide ((s[0].toNat : Int) < 224) = false := by simp; omega
    have hd240 : decide ((s[0].toNat : Int) < 240) = true := by simp; omega
    have hds : decide ((s.size : Int) < 3) = false := by simp; omega
    clear hp hb hcl
    go_enter Tryd.func127, Tryd.ntmps127
    go_wp2
    go_loopg [5, 7] (3 - 1) (fun f x y wr => w = wr ∧ ∃ i n : Nat, f = 3 - i ∧ i ≤ 3 ∧ x = .int .i64 n ∧ y = .int .i64 i ∧ n = preN s 224 i ∧ PreBd i n ∧ ∀ j, 1 ≤ j → j < i → isC (bAt s j) = true)
    case atStart => exact ⟨rfl, 1, s[0].toNat - 224, rfl, by omega, by go_num, rfl, HP.out.symm, .inl ⟨rfl, by omega⟩, fun j h1 h2 => by omega⟩
    case round =>
      obtain ⟨rfl, i, n, rfl, hi, rfl, rfl, hn, hbd, hc⟩ := hrel
      have HX := Lib.hid hn
      have HC := Lib.hid hc
      clear hn hc HP
      rcases hbd with ⟨rfl, hn⟩ | ⟨rfl, hn⟩ | ⟨rfl, hn⟩ | ⟨rfl, hn⟩
      · have hlt' : 1 < s.size := by omega
        have hbi := bAt_get hlt'
        have hby : s[1].toNat < 256 := UInt8.toNat_lt _
        have hand := and192 s[1].toNat hby
        have hroll := roll n s[1].toNat (by omega) hby
        by_cases hcc : isC s[1].toNat = true
        · rw [hcc] at hand
          have hand' : (bits .and .u8 (s[1].toNat : Int) 192 != 128) = false := hand
          have hst := pre_step (s := s) (base := 224) (i := 1) (by omega) (by rw [hbi]; exact hcc)
          rw [hbi, ← HX.out] at hst
          have HS := Lib.hid hst
          have HR := Lib.hid hroll
          have HCC := Lib.hid hcc
          have HBI := Lib.hid hbi
          clear hand hroll hst hcc hbi
          go_wp2
          go_roundg (3 - 2)
          case rel => exact ⟨rfl, 2, n * 64 + s[1].toNat % 64, rfl, by omega, by rw [← HR.out], rfl, HS.out.symm, .inr (.inl ⟨rfl, by omega⟩), fun j h1 h2 => by
            by_cases hj : j = 1
            · subst hj; rw [HBI.out]; exact HCC.out
            · exact HC.out j h1 (by omega)⟩
          case measure => omega
        · have hcc' : isC s[1].toNat = false := by simpa using hcc
          rw [hcc'] at hand
          have hand' : (bits .and .u8 (s[1].toNat : Int) 192 != 128) = true := hand
          have hz := HN.out 1 (by omega) (by omega) (by rw [hbi]; exact hcc')
          have HZ := Lib.hid hz
          clear hand hroll hz hcc hcc' hbi
          go_wp2
          go_ret
          exact ⟨ret_nat HZ.out.symm, rfl⟩
      · have hlt' : 2 < s.size := by omega
        have hbi := bAt_get hlt'
        have hby : s[2].toNat < 256 := UInt8.toNat_lt _
        have hand := and192 s[2].toNat hby
        have hroll := roll n s[2].toNat (by omega) hby
        by_cases hcc : isC s[2].toNat = true
        · rw [hcc] at hand
          have hand' : (bits .and .u8 (s[2].toNat : Int) 192 != 128) = false := hand
          have hst := pre_step (s := s) (base := 224) (i := 2) (by omega) (by rw [hbi]; exact hcc)
          rw [hbi, ← HX.out] at hst
          have HS := Lib.hid hst
          have HR := Lib.hid hroll
          have HCC := Lib.hid hcc
          have HBI := Lib.hid hbi
          clear hand hroll hst hcc hbi
          go_wp2
          go_roundg (3 - 3)
          case rel => exact ⟨rfl, 3, n * 64 + s[2].toNat % 64, rfl, by omega, by rw [← HR.out], rfl, HS.out.symm, .inr (.inr (.inl ⟨rfl, by omega⟩)), fun j h1 h2 => by
            by_cases hj : j = 2
            · subst hj; rw [HBI.out]; exact HCC.out
            · exact HC.out j h1 (by omega)⟩
          case measure => omega
        · have hcc' : isC s[2].toNat = false := by simpa using hcc
          rw [hcc'] at hand
          have hand' : (bits .and .u8 (s[2].toNat : Int) 192 != 128) = true := hand
          have hz := HN.out 2 (by omega) (by omega) (by rw [hbi]; exact hcc')
          have HZ := Lib.hid hz
          clear hand hroll hz hcc hcc' hbi
          go_wp2
          go_ret
          exact ⟨ret_nat HZ.out.symm, rfl⟩
      · have hz := HW.out HC.out
        have hnum : numAt s 0 3 = n := HX.out.symm
        rw [hnum] at hz
        have HZ := Lib.hid hz
        clear hz hnum
        by_cases h1 : n < 2048
        · go_wp2
          all_goals go_ret
          all_goals exact ⟨by rw [HZ.out, if_neg (by rw [ok_iff]; simp [leastOf]; omega)]; rfl, rfl⟩
        · have h1' : 2048 ≤ n := by omega
          by_cases h2 : 1114111 < n
          · go_wp2
            all_goals go_ret
            all_goals exact ⟨by rw [HZ.out, if_neg (by rw [ok_iff]; omega)]; rfl, rfl⟩
          · have h2' : n ≤ 1114111 := by omega
            by_cases h3 : n < 55296
            · go_wp2
              all_goals go_ret
              all_goals exact ⟨by rw [HZ.out, if_pos (by rw [ok_iff]; simp [leastOf]; omega)]; rfl, rfl⟩
            · have h3' : 55296 ≤ n := by omega
              by_cases h4 : n ≤ 57343
              · go_wp2
                all_goals go_ret
                all_goals exact ⟨by rw [HZ.out, if_neg (by rw [ok_iff]; omega)]; rfl, rfl⟩
              · have h4' : 57343 < n := by omega
                go_wp2
                all_goals go_ret
                all_goals exact ⟨by rw [HZ.out, if_pos (by rw [ok_iff]; simp [leastOf]; omega)]; rfl, rfl⟩
      · exact absurd hi (by omega)
  · have hz : szAt s 0 = 0 := sz_zero (.inr (by rw [hcl]; omega))
    have HZ := Lib.hid hz
    have hs' : s.size < 3 := by omega
    clear hz hb hcl hs
    go_enter Tryd.func127, Tryd.ntmps127
    go_wp2
    go_ret
    exact ⟨ret_nat HZ.out.symm, rfl⟩

set_option maxRecDepth 100000 in
set_option maxHeartbeats 4000000 in
theorem ut_size_4 (s : ByteArray) (w : World) (h0 : 0 < s.size) (ha : 240 ≤ s[0].toNat) (ha2 : s[0].toNat < 248) (hm : s.size ≤ 9223372036854775807) : Calls Tryd.prog 127 #[.string s] w (SizeSays s w) := by
  have hb := bAt_get h0
  have hcl := class_of.2.2.2.2.1 (show 240 ≤ bAt s 0 by omega) (by omega)
  by_cases hs : 4 ≤ s.size
  · have HW := Lib.hid (fun hc => sz_whole hcl (by omega) (by omega) hs hc)
    have HN := Lib.hid (fun i h1 h2 => sz_notC (i := i) hcl h1 h2 (by omega))
    have hp : preN s 240 1 = s[0].toNat - 240 := by show bAt s 0 - 240 = _; rw [hb]
    have HP := Lib.hid hp
    have hd128 : decide ((s[0].toNat : Int) < 128) = false := by simp; omega
    have hd192 : decide ((s[0].toNat : Int) < 192) = false := by simp; omega
    have hd224 : decide ((s[0].toNat : Int) < 224) = false := by simp; omega
    have hd240 : decide ((s[0].toNat : Int) < 240) = false := by simp; omega
    have hd248 : decide ((s[0].toNat : Int) < 248) = true := by simp; omega
    have hds : decide ((s.size : Int) < 4) = false := by simp; omega
    clear hp hb hcl
    go_enter Tryd.func127, Tryd.ntmps127
    go_wp2
    go_loopg [5, 7] (4 - 1) (fun f x y wr => w = wr ∧ ∃ i n : Nat, f = 4 - i ∧ i ≤ 4 ∧ x = .int .i64 n ∧ y = .int .i64 i ∧ n = preN s 240 i ∧ PreBd i n ∧ ∀ j, 1 ≤ j → j < i → isC (bAt s j) = true)
    case atStart => exact ⟨rfl, 1, s[0].toNat - 240, rfl, by omega, by go_num, rfl, HP.out.symm, .inl ⟨rfl, by omega⟩, fun j h1 h2 => by omega⟩
    case round =>
      obtain ⟨rfl, i, n, rfl, hi, rfl, rfl, hn, hbd, hc⟩ := hrel
      have HX := Lib.hid hn
      have HC := Lib.hid hc
      clear hn hc HP
      rcases hbd with ⟨rfl, hn⟩ | ⟨rfl, hn⟩ | ⟨rfl, hn⟩ | ⟨rfl, hn⟩
      · have hlt' : 1 < s.size := by omega
        have hbi := bAt_get hlt'
        have hby : s[1].toNat < 256 := UInt8.toNat_lt _
        have hand := and192 s[1].toNat hby
        have hroll := roll n s[1].toNat (by omega) hby
        by_cases hcc : isC s[1].toNat = true
        · rw [hcc] at hand
          have hand' : (bits .and .u8 (s[1].toNat : Int) 192 != 128) = false := hand
          have hst := pre_step (s := s) (base := 240) (i := 1) (by omega) (by rw [hbi]; exact hcc)
          rw [hbi, ← HX.out] at hst
          have HS := Lib.hid hst
          have HR := Lib.hid hroll
          have HCC := Lib.hid hcc
          have HBI := Lib.hid hbi
          clear hand hroll hst hcc hbi
          go_wp2
          go_roundg (4 - 2)
          case rel => exact ⟨rfl, 2, n * 64 + s[1].toNat % 64, rfl, by omega, by rw [← HR.out], rfl, HS.out.symm, .inr (.inl ⟨rfl, by omega⟩), fun j h1 h2 => by
            by_cases hj : j = 1
            · subst hj; rw [HBI.out]; exact HCC.out
            · exact HC.out j h1 (by omega)⟩
          case measure => omega
        · have hcc' : isC s[1].toNat = false := by simpa using hcc
          rw [hcc'] at hand
          have hand' : (bits .and .u8 (s[1].toNat : Int) 192 != 128) = true := hand
          have hz := HN.out 1 (by omega) (by omega) (by rw [hbi]; exact hcc')
          have HZ := Lib.hid hz
          clear hand hroll hz hcc hcc' hbi
          go_wp2
          go_ret
          exact ⟨ret_nat HZ.out.symm, rfl⟩
      · have hlt' : 2 < s.size := by omega
        have hbi := bAt_get hlt'
        have hby : s[2].toNat < 256 := UInt8.toNat_lt _
        have hand := and192 s[2].toNat hby
        have hroll := roll n s[2].toNat (by omega) hby
        by_cases hcc : isC s[2].toNat = true
        · rw [hcc] at hand
          have hand' : (bits .and .u8 (s[2].toNat : Int) 192 != 128) = false := hand
          have hst := pre_step (s := s) (base := 240) (i := 2) (by omega) (by rw [hbi]; exact hcc)
          rw [hbi, ← HX.out] at hst
          have HS := Lib.hid hst
          have HR := Lib.hid hroll
          have HCC := Lib.hid hcc
          have HBI := Lib.hid hbi
          clear hand hroll hst hcc hbi
          go_wp2
          go_roundg (4 - 3)
          case rel => exact ⟨rfl, 3, n * 64 + s[2].toNat % 64, rfl, by omega, by rw [← HR.out], rfl, HS.out.symm, .inr (.inr (.inl ⟨rfl, by omega⟩)), fun j h1 h2 => by
            by_cases hj : j = 2
            · subst hj; rw [HBI.out]; exact HCC.out
            · exact HC.out j h1 (by omega)⟩
          case measure => omega
        · have hcc' : isC s[2].toNat = false := by simpa using hcc
          rw [hcc'] at hand
          have hand' : (bits .and .u8 (s[2].toNat : Int) 192 != 128) = true := hand
          have hz := HN.out 2 (by omega) (by omega) (by rw [hbi]; exact hcc')
          have HZ := Lib.hid hz
          clear hand hroll hz hcc hcc' hbi
          go_wp2
          go_ret
          exact ⟨ret_nat HZ.out.symm, rfl⟩
      · have hlt' : 3 < s.size := by omega
        have hbi := bAt_get hlt'
        have hby : s[3].toNat < 256 := UInt8.toNat_lt _
        have hand := and192 s[3].toNat hby
        have hroll := roll n s[3].toNat (by omega) hby
        by_cases hcc : isC s[3].toNat = true
        · rw [hcc] at hand
          have hand' : (bits .and .u8 (s[3].toNat : Int) 192 != 128) = false := hand
          have hst := pre_step (s := s) (base := 240) (i := 3) (by omega) (by rw [hbi]; exact hcc)
          rw [hbi, ← HX.out] at hst
          have HS := Lib.hid hst
          have HR := Lib.hid hroll
          have HCC := Lib.hid hcc
          have HBI := Lib.hid hbi
          clear hand hroll hst hcc hbi
          go_wp2
          go_roundg (4 - 4)
          case rel => exact ⟨rfl, 4, n * 64 + s[3].toNat % 64, rfl, by omega, by rw [← HR.out], rfl, HS.out.symm, .inr (.inr (.inr (⟨rfl, by omega⟩))), fun j h1 h2 => by
            by_cases hj : j = 3
            · subst hj; rw [HBI.out]; exact HCC.out
            · exact HC.out j h1 (by omega)⟩
          case measure => omega
        · have hcc' : isC s[3].toNat = false := by simpa using hcc
          rw [hcc'] at hand
          have hand' : (bits .and .u8 (s[3].toNat : Int) 192 != 128) = true := hand
          have hz := HN.out 3 (by omega) (by omega) (by rw [hbi]; exact hcc')
          have HZ := Lib.hid hz
          clear hand hroll hz hcc hcc' hbi
          go_wp2
          go_ret
          exact ⟨ret_nat HZ.out.symm, rfl⟩
      · have hz := HW.out HC.out
        have hnum : numAt s 0 4 = n := HX.out.symm
        rw [hnum] at hz
        have HZ := Lib.hid hz
        clear hz hnum
        by_cases h1 : n < 65536
        · go_wp2
          all_goals go_ret
          all_goals exact ⟨by rw [HZ.out, if_neg (by rw [ok_iff]; simp [leastOf]; omega)]; rfl, rfl⟩
        · have h1' : 65536 ≤ n := by omega
          by_cases h2 : 1114111 < n
          · go_wp2
            all_goals go_ret
            all_goals exact ⟨by rw [HZ.out, if_neg (by rw [ok_iff]; omega)]; rfl, rfl⟩
          · have h2' : n ≤ 1114111 := by omega
            by_cases h3 : n < 55296
            · go_wp2
              all_goals go_ret
              all_goals exact ⟨by rw [HZ.out, if_pos (by rw [ok_iff]; simp [leastOf]; omega)]; rfl, rfl⟩
            · have h3' : 55296 ≤ n := by omega
              by_cases h4 : n ≤ 57343
              · go_wp2
                all_goals go_ret
                all_goals exact ⟨by rw [HZ.out, if_neg (by rw [ok_iff]; omega)]; rfl, rfl⟩
              · have h4' : 57343 < n := by omega
                go_wp2
                all_goals go_ret
                all_goals exact ⟨by rw [HZ.out, if_pos (by rw [ok_iff]; simp [leastOf]; omega)]; rfl, rfl⟩
  · have hz : szAt s 0 = 0 := sz_zero (.inr (by rw [hcl]; omega))
    have HZ := Lib.hid hz
    have hs' : s.size < 4 := by omega
    clear hz hb hcl hs
    go_enter Tryd.func127, Tryd.ntmps127
    go_wp2
    go_ret
    exact ⟨ret_nat HZ.out.symm, rfl⟩

theorem ut_size (s : ByteArray) (w : World) (h0 : 0 < s.size) (hm : s.size ≤ 9223372036854775807) : Calls Tryd.prog 127 #[.string s] w (SizeSays s w) := by
  by_cases h1 : s[0].toNat < 128
  · exact ut_size_1 s w h0 h1
  · by_cases h2 : s[0].toNat < 192
    · exact ut_size_0 s w h0 (.inl ⟨by omega, h2⟩)
    · by_cases h3 : s[0].toNat < 224
      · exact ut_size_2 s w h0 (by omega) h3 hm
      · by_cases h4 : s[0].toNat < 240
        · exact ut_size_3 s w h0 (by omega) h4 hm
        · by_cases h5 : s[0].toNat < 248
          · exact ut_size_4 s w h0 (by omega) h5 hm
          · exact ut_size_0 s w h0 (.inr (by omega))
end Go.Proofs.YtfmkeapbddhndaaDoor
