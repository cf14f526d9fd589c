/- What is proved here: what the package's function Take answers, of the landed code. Conditions: what the rows list of the package's variables; the text's length. -/
import Derived.Test.YtbfbmdjnobdjpaaGreatDoorPut02
namespace Go.Proofs.YtbfbmdjnobdjpaaGreatDoor
open Go.RowKit Go.Extern.Stop Go.Stop Go.Extern

def TookSays (w : World) (S : Nat → Addr) (fin : Nat × Nat × Nat × Nat) (x : Ending) (w' : World) : Prop :=
  ∃ e, x = .returned (.tuple #[.int .i64 (fin.1 : Int), .int .i64 (fin.2.1 : Int), e]) ∧ ErrOf w' S 129 fin.2.2.1 fin.2.2.2 e ∧ Below w.heap.size w w'

set_option maxRecDepth 100000 in
set_option maxHeartbeats 4000000 in
theorem vi_take_long (S : Nat → Addr) (s : ByteArray) (w : World) (h : Env w S) (hm : s.size ≤ 9223372036854775807) (hs4 : 4 < s.size) :
    Calls Tryz.prog 194 #[.string s] w (TookSays w S (vt s 4 0 0 1)) := by
  obtain ⟨fin, hfin⟩ : ∃ fin, vt s 4 0 0 1 = fin := ⟨_, rfl⟩
  rw [hfin]
  have HF := Lib.hid hfin
  clear hfin
  have hi4 : (4 : Int) < (s.size : Int) := by omega
  have HE := Lib.hid h
  go_enter Tryz.func194, Tryz.ntmps194
  go_wp2
  go_loopg [5, 6, 12] 4 (fun f x y z wr => w = wr ∧ ∃ i n b : Nat, f = 4 - i ∧ x = .int .i64 n ∧ y = .int .i64 b ∧ z = .int .i64 i ∧ i ≤ 4 ∧ Weight i n b ∧ vt s (4 - i) i n b = fin)
  case atStart => exact ⟨rfl, 0, 0, 1, rfl, rfl, rfl, rfl, Nat.zero_le _, ⟨.inl ⟨rfl, rfl⟩, by omega⟩, HF.out⟩
  case round =>
    obtain ⟨rfl, i, n, b, rfl, rfl, rfl, rfl, hi, ⟨hw, hn⟩, hv⟩ := hrel
    clear HF
    have HV := Lib.hid hv
    clear hv
    rcases hw with ⟨rfl, rfl⟩ | ⟨rfl, rfl⟩ | ⟨rfl, rfl⟩ | ⟨rfl, rfl⟩ | ⟨rfl, rfl⟩
    · by_cases hlt : 0 < 4
      · have hlt' : 0 < s.size := by omega
        by_cases hc : s[0].toNat < 128
        · by_cases h0 : s[0].toNat = 0
          · have hz : ((s[0].toNat : Int) == 0) = true := beq_iff_eq.2 (by omega)
            have hv := (vt_last (f := 3) (n := n) (b := 1) hlt' hc (by omega)).symm.trans HV.out
            have HV2 := Lib.hid hv
            have H0 := Lib.hid h0
            clear hv h0 HV
            go_wp2
            exact bodyPost_ret (v := .tuple #[.int .i64 n, .int .i64 1, .nilIface]) (by simp [results, Tryz.results194, go_sem, H0.out]) rfl ⟨.nilIface, by rw [← HV2.out, H0.out]; simp, by rw [← HV2.out]; exact ErrOf.none, Below.refl _ _⟩
          · have hz : ((s[0].toNat : Int) == 0) = false := beq_eq_false_iff_ne.2 (by omega)
            have hv := (vt_last (f := 3) (n := n) (b := 1) hlt' hc (by omega)).symm.trans HV.out
            have HV2 := Lib.hid hv
            clear hv h0 HV
            go_wp2
            exact bodyPost_ret (v := .tuple #[.int .i64 ((n + s[0].toNat % 128 * 1 : Nat) : Int), .int .i64 1, .nilIface]) (by simp [results, Tryz.results194, go_sem]) rfl ⟨.nilIface, by rw [← HV2.out]; rfl, by rw [← HV2.out]; exact ErrOf.none, Below.refl _ _⟩
        · have hv := (vt_more (f := 3) (n := n) (b := 1) hlt' hc).symm.trans HV.out
          have HV2 := Lib.hid hv
          clear hv HV
          have hb := s[0].toNat_lt
          go_wp2
          go_roundg (4 - 1)
          case rel => exact ⟨rfl, 1, n + s[0].toNat % 128 * 1, 128, rfl, by go_num, rfl, rfl, by omega, ⟨by omega, by omega⟩, HV2.out⟩
          case measure => omega
      · exact absurd hlt (by omega)
    · by_cases hlt : 1 < 4
      · have hlt' : 1 < s.size := by omega
        by_cases hc : s[1].toNat < 128
        · by_cases h0 : s[1].toNat = 0
          · have hz : ((s[1].toNat : Int) == 0) = true := beq_iff_eq.2 (by omega)
            have hv := (vt_zero (f := 2) (n := n) (b := 128) hlt' h0 (by omega)).symm.trans HV.out
            have HV2 := Lib.hid hv
            have H0 := Lib.hid h0
            have hk := HE.out.kMalformed
            clear hv h0 HV
            go_wp2_with fail
            refine (vi_wrong S 1 1 _).mono ?_
            rintro x w2 ⟨e, rfl, he, hb2⟩
            clear hk
            go_wp2
            exact bodyPost_ret (v := .tuple #[.int .i64 0, .int .i64 0, e]) (by simp [results, Tryz.results194, go_sem]) rfl ⟨e, by rw [← HV2.out]; rfl, by rw [← HV2.out]; exact ErrOf.some (by simp) (by simp) he, hb2⟩
          · have hz : ((s[1].toNat : Int) == 0) = false := beq_eq_false_iff_ne.2 (by omega)
            have hv := (vt_last (f := 2) (n := n) (b := 128) hlt' hc (by omega)).symm.trans HV.out
            have HV2 := Lib.hid hv
            clear hv h0 HV
            go_wp2
            exact bodyPost_ret (v := .tuple #[.int .i64 ((n + s[1].toNat % 128 * 128 : Nat) : Int), .int .i64 2, .nilIface]) (by simp [results, Tryz.results194, go_sem]) rfl ⟨.nilIface, by rw [← HV2.out]; rfl, by rw [← HV2.out]; exact ErrOf.none, Below.refl _ _⟩
        · have hv := (vt_more (f := 2) (n := n) (b := 128) hlt' hc).symm.trans HV.out
          have HV2 := Lib.hid hv
          clear hv HV
          have hb := s[1].toNat_lt
          go_wp2
          go_roundg (4 - 2)
          case rel => exact ⟨rfl, 2, n + s[1].toNat % 128 * 128, 16384, rfl, by go_num, rfl, rfl, by omega, ⟨by omega, by omega⟩, HV2.out⟩
          case measure => omega
      · exact absurd hlt (by omega)
    · by_cases hlt : 2 < 4
      · have hlt' : 2 < s.size := by omega
        by_cases hc : s[2].toNat < 128
        · by_cases h0 : s[2].toNat = 0
          · have hz : ((s[2].toNat : Int) == 0) = true := beq_iff_eq.2 (by omega)
            have hv := (vt_zero (f := 1) (n := n) (b := 16384) hlt' h0 (by omega)).symm.trans HV.out
            have HV2 := Lib.hid hv
            have H0 := Lib.hid h0
            have hk := HE.out.kMalformed
            clear hv h0 HV
            go_wp2_with fail
            refine (vi_wrong S 1 2 _).mono ?_
            rintro x w2 ⟨e, rfl, he, hb2⟩
            clear hk
            go_wp2
            exact bodyPost_ret (v := .tuple #[.int .i64 0, .int .i64 0, e]) (by simp [results, Tryz.results194, go_sem]) rfl ⟨e, by rw [← HV2.out]; rfl, by rw [← HV2.out]; exact ErrOf.some (by simp) (by simp) he, hb2⟩
          · have hz : ((s[2].toNat : Int) == 0) = false := beq_eq_false_iff_ne.2 (by omega)
            have hv := (vt_last (f := 1) (n := n) (b := 16384) hlt' hc (by omega)).symm.trans HV.out
            have HV2 := Lib.hid hv
            clear hv h0 HV
            go_wp2
            exact bodyPost_ret (v := .tuple #[.int .i64 ((n + s[2].toNat % 128 * 16384 : Nat) : Int), .int .i64 3, .nilIface]) (by simp [results, Tryz.results194, go_sem]) rfl ⟨.nilIface, by rw [← HV2.out]; rfl, by rw [← HV2.out]; exact ErrOf.none, Below.refl _ _⟩
        · have hv := (vt_more (f := 1) (n := n) (b := 16384) hlt' hc).symm.trans HV.out
          have HV2 := Lib.hid hv
          clear hv HV
          have hb := s[2].toNat_lt
          go_wp2
          go_roundg (4 - 3)
          case rel => exact ⟨rfl, 3, n + s[2].toNat % 128 * 16384, 2097152, rfl, by go_num, rfl, rfl, by omega, ⟨by omega, by omega⟩, HV2.out⟩
          case measure => omega
      · exact absurd hlt (by omega)
    · by_cases hlt : 3 < 4
      · have hlt' : 3 < s.size := by omega
        by_cases hc : s[3].toNat < 128
        · by_cases h0 : s[3].toNat = 0
          · have hz : ((s[3].toNat : Int) == 0) = true := beq_iff_eq.2 (by omega)
            have hv := (vt_zero (f := 0) (n := n) (b := 2097152) hlt' h0 (by omega)).symm.trans HV.out
            have HV2 := Lib.hid hv
            have H0 := Lib.hid h0
            have hk := HE.out.kMalformed
            clear hv h0 HV
            go_wp2_with fail
            refine (vi_wrong S 1 3 _).mono ?_
            rintro x w2 ⟨e, rfl, he, hb2⟩
            clear hk
            go_wp2
            exact bodyPost_ret (v := .tuple #[.int .i64 0, .int .i64 0, e]) (by simp [results, Tryz.results194, go_sem]) rfl ⟨e, by rw [← HV2.out]; rfl, by rw [← HV2.out]; exact ErrOf.some (by simp) (by simp) he, hb2⟩
          · have hz : ((s[3].toNat : Int) == 0) = false := beq_eq_false_iff_ne.2 (by omega)
            have hv := (vt_last (f := 0) (n := n) (b := 2097152) hlt' hc (by omega)).symm.trans HV.out
            have HV2 := Lib.hid hv
            clear hv h0 HV
            go_wp2
            exact bodyPost_ret (v := .tuple #[.int .i64 ((n + s[3].toNat % 128 * 2097152 : Nat) : Int), .int .i64 4, .nilIface]) (by simp [results, Tryz.results194, go_sem]) rfl ⟨.nilIface, by rw [← HV2.out]; rfl, by rw [← HV2.out]; exact ErrOf.none, Below.refl _ _⟩
        · have hv := (vt_more (f := 0) (n := n) (b := 2097152) hlt' hc).symm.trans HV.out
          have HV2 := Lib.hid hv
          clear hv HV
          have hb := s[3].toNat_lt
          go_wp2
          go_roundg (4 - 4)
          case rel => exact ⟨rfl, 4, n + s[3].toNat % 128 * 2097152, 268435456, rfl, by go_num, rfl, rfl, by omega, ⟨by omega, by omega⟩, HV2.out⟩
          case measure => omega
      · exact absurd hlt (by omega)
    · have hv : (0, 0, 2, 3) = fin := HV.out
      have HV2 := Lib.hid hv
      have hk := HE.out.kMalformed
      clear hv HV
      go_wp2_with fail
      refine (vi_wrong S 1 3 _).mono ?_
      rintro x w2 ⟨e, rfl, he, hb2⟩
      clear hk
      go_wp2
      exact bodyPost_ret (v := .tuple #[.int .i64 0, .int .i64 0, e]) (by simp [results, Tryz.results194, go_sem]) rfl ⟨e, by rw [← HV2.out]; rfl, by rw [← HV2.out]; exact ErrOf.some (by simp) (by simp) he, hb2⟩

set_option maxRecDepth 100000 in
set_option maxHeartbeats 4000000 in
theorem vi_take_short (S : Nat → Addr) (s : ByteArray) (w : World) (h : Env w S) (hm : s.size ≤ 9223372036854775807) (hs4 : s.size ≤ 4) :
    Calls Tryz.prog 194 #[.string s] w (TookSays w S (vt s 4 0 0 1)) := by
  obtain ⟨fin, hfin⟩ : ∃ fin, vt s 4 0 0 1 = fin := ⟨_, rfl⟩
  rw [hfin]
  have HF := Lib.hid hfin
  clear hfin
  have hi4 : (s.size : Int) ≤ 4 := by omega
  have HE := Lib.hid h
  go_enter Tryz.func194, Tryz.ntmps194
  go_wp2
  go_loopg [5, 6, 12] s.size (fun f x y z wr => w = wr ∧ ∃ i n b : Nat, f = s.size - i ∧ x = .int .i64 n ∧ y = .int .i64 b ∧ z = .int .i64 i ∧ i ≤ s.size ∧ Weight i n b ∧ vt s (4 - i) i n b = fin)
  case atStart => exact ⟨rfl, 0, 0, 1, rfl, rfl, rfl, rfl, Nat.zero_le _, ⟨.inl ⟨rfl, rfl⟩, by omega⟩, HF.out⟩
  case round =>
    obtain ⟨rfl, i, n, b, rfl, rfl, rfl, rfl, hi, ⟨hw, hn⟩, hv⟩ := hrel
    clear HF
    have HV := Lib.hid hv
    clear hv
    rcases hw with ⟨rfl, rfl⟩ | ⟨rfl, rfl⟩ | ⟨rfl, rfl⟩ | ⟨rfl, rfl⟩ | ⟨rfl, rfl⟩
    · by_cases hlt : 0 < s.size
      · have hlt' : 0 < s.size := by omega
        by_cases hc : s[0].toNat < 128
        · by_cases h0 : s[0].toNat = 0
          · have hz : ((s[0].toNat : Int) == 0) = true := beq_iff_eq.2 (by omega)
            have hv := (vt_last (f := 3) (n := n) (b := 1) hlt' hc (by omega)).symm.trans HV.out
            have HV2 := Lib.hid hv
            have H0 := Lib.hid h0
            clear hv h0 HV
            go_wp2
            exact bodyPost_ret (v := .tuple #[.int .i64 n, .int .i64 1, .nilIface]) (by simp [results, Tryz.results194, go_sem, H0.out]) rfl ⟨.nilIface, by rw [← HV2.out, H0.out]; simp, by rw [← HV2.out]; exact ErrOf.none, Below.refl _ _⟩
          · have hz : ((s[0].toNat : Int) == 0) = false := beq_eq_false_iff_ne.2 (by omega)
            have hv := (vt_last (f := 3) (n := n) (b := 1) hlt' hc (by omega)).symm.trans HV.out
            have HV2 := Lib.hid hv
            clear hv h0 HV
            go_wp2
            exact bodyPost_ret (v := .tuple #[.int .i64 ((n + s[0].toNat % 128 * 1 : Nat) : Int), .int .i64 1, .nilIface]) (by simp [results, Tryz.results194, go_sem]) rfl ⟨.nilIface, by rw [← HV2.out]; rfl, by rw [← HV2.out]; exact ErrOf.none, Below.refl _ _⟩
        · have hv := (vt_more (f := 3) (n := n) (b := 1) hlt' hc).symm.trans HV.out
          have HV2 := Lib.hid hv
          clear hv HV
          have hb := s[0].toNat_lt
          go_wp2
          go_roundg (s.size - 1)
          case rel => exact ⟨rfl, 1, n + s[0].toNat % 128 * 1, 128, rfl, by go_num, rfl, rfl, by omega, ⟨by omega, by omega⟩, HV2.out⟩
          case measure => omega
      · have hv := (vt_short (f := 3) (n := n) (b := 1) hlt).symm.trans HV.out
        have HV2 := Lib.hid hv
        have hk := HE.out.kShort
        have h44 : (s.size : Int) < 4 := by omega
        clear hv HV
        go_wp2_with fail
        refine (vi_wrong S 0 _ _).mono ?_
        rintro x w2 ⟨e, rfl, he, hb2⟩
        clear hk
        go_wp2
        exact bodyPost_ret (v := .tuple #[.int .i64 0, .int .i64 0, e]) (by simp [results, Tryz.results194, go_sem]) rfl ⟨e, by rw [← HV2.out]; rfl, by rw [← HV2.out]; exact ErrOf.some (by simp) (by simp) he, hb2⟩
    · by_cases hlt : 1 < s.size
      · have hlt' : 1 < s.size := by omega
        by_cases hc : s[1].toNat < 128
        · by_cases h0 : s[1].toNat = 0
          · have hz : ((s[1].toNat : Int) == 0) = true := beq_iff_eq.2 (by omega)
            have hv := (vt_zero (f := 2) (n := n) (b := 128) hlt' h0 (by omega)).symm.trans HV.out
            have HV2 := Lib.hid hv
            have H0 := Lib.hid h0
            have hk := HE.out.kMalformed
            clear hv h0 HV
            go_wp2_with fail
            refine (vi_wrong S 1 1 _).mono ?_
            rintro x w2 ⟨e, rfl, he, hb2⟩
            clear hk
            go_wp2
            exact bodyPost_ret (v := .tuple #[.int .i64 0, .int .i64 0, e]) (by simp [results, Tryz.results194, go_sem]) rfl ⟨e, by rw [← HV2.out]; rfl, by rw [← HV2.out]; exact ErrOf.some (by simp) (by simp) he, hb2⟩
          · have hz : ((s[1].toNat : Int) == 0) = false := beq_eq_false_iff_ne.2 (by omega)
            have hv := (vt_last (f := 2) (n := n) (b := 128) hlt' hc (by omega)).symm.trans HV.out
            have HV2 := Lib.hid hv
            clear hv h0 HV
            go_wp2
            exact bodyPost_ret (v := .tuple #[.int .i64 ((n + s[1].toNat % 128 * 128 : Nat) : Int), .int .i64 2, .nilIface]) (by simp [results, Tryz.results194, go_sem]) rfl ⟨.nilIface, by rw [← HV2.out]; rfl, by rw [← HV2.out]; exact ErrOf.none, Below.refl _ _⟩
        · have hv := (vt_more (f := 2) (n := n) (b := 128) hlt' hc).symm.trans HV.out
          have HV2 := Lib.hid hv
          clear hv HV
          have hb := s[1].toNat_lt
          go_wp2
          go_roundg (s.size - 2)
          case rel => exact ⟨rfl, 2, n + s[1].toNat % 128 * 128, 16384, rfl, by go_num, rfl, rfl, by omega, ⟨by omega, by omega⟩, HV2.out⟩
          case measure => omega
      · have hv := (vt_short (f := 2) (n := n) (b := 128) hlt).symm.trans HV.out
        have HV2 := Lib.hid hv
        have hk := HE.out.kShort
        have h44 : (s.size : Int) < 4 := by omega
        clear hv HV
        go_wp2_with fail
        refine (vi_wrong S 0 _ _).mono ?_
        rintro x w2 ⟨e, rfl, he, hb2⟩
        clear hk
        go_wp2
        exact bodyPost_ret (v := .tuple #[.int .i64 0, .int .i64 0, e]) (by simp [results, Tryz.results194, go_sem]) rfl ⟨e, by rw [← HV2.out]; rfl, by rw [← HV2.out]; exact ErrOf.some (by simp) (by simp) he, hb2⟩
    · by_cases hlt : 2 < s.size
      · have hlt' : 2 < s.size := by omega
        by_cases hc : s[2].toNat < 128
        · by_cases h0 : s[2].toNat = 0
          · have hz : ((s[2].toNat : Int) == 0) = true := beq_iff_eq.2 (by omega)
            have hv := (vt_zero (f := 1) (n := n) (b := 16384) hlt' h0 (by omega)).symm.trans HV.out
            have HV2 := Lib.hid hv
            have H0 := Lib.hid h0
            have hk := HE.out.kMalformed
            clear hv h0 HV
            go_wp2_with fail
            refine (vi_wrong S 1 2 _).mono ?_
            rintro x w2 ⟨e, rfl, he, hb2⟩
            clear hk
            go_wp2
            exact bodyPost_ret (v := .tuple #[.int .i64 0, .int .i64 0, e]) (by simp [results, Tryz.results194, go_sem]) rfl ⟨e, by rw [← HV2.out]; rfl, by rw [← HV2.out]; exact ErrOf.some (by simp) (by simp) he, hb2⟩
          · have hz : ((s[2].toNat : Int) == 0) = false := beq_eq_false_iff_ne.2 (by omega)
            have hv := (vt_last (f := 1) (n := n) (b := 16384) hlt' hc (by omega)).symm.trans HV.out
            have HV2 := Lib.hid hv
            clear hv h0 HV
            go_wp2
            exact bodyPost_ret (v := .tuple #[.int .i64 ((n + s[2].toNat % 128 * 16384 : Nat) : Int), .int .i64 3, .nilIface]) (by simp [results, Tryz.results194, go_sem]) rfl ⟨.nilIface, by rw [← HV2.out]; rfl, by rw [← HV2.out]; exact ErrOf.none, Below.refl _ _⟩
        · have hv := (vt_more (f := 1) (n := n) (b := 16384) hlt' hc).symm.trans HV.out
          have HV2 := Lib.hid hv
          clear hv HV
          have hb := s[2].toNat_lt
          go_wp2
          go_roundg (s.size - 3)
          case rel => exact ⟨rfl, 3, n + s[2].toNat % 128 * 16384, 2097152, rfl, by go_num, rfl, rfl, by omega, ⟨by omega, by omega⟩, HV2.out⟩
          case measure => omega
      · have hv := (vt_short (f := 1) (n := n) (b := 16384) hlt).symm.trans HV.out
        have HV2 := Lib.hid hv
        have hk := HE.out.kShort
        have h44 : (s.size : Int) < 4 := by omega
        clear hv HV
        go_wp2_with fail
        refine (vi_wrong S 0 _ _).mono ?_
        rintro x w2 ⟨e, rfl, he, hb2⟩
        clear hk
        go_wp2
        exact bodyPost_ret (v := .tuple #[.int .i64 0, .int .i64 0, e]) (by simp [results, Tryz.results194, go_sem]) rfl ⟨e, by rw [← HV2.out]; rfl, by rw [← HV2.out]; exact ErrOf.some (by simp) (by simp) he, hb2⟩
    · by_cases hlt : 3 < s.size
      · have hlt' : 3 < s.size := by omega
        by_cases hc : s[3].toNat < 128
        · by_cases h0 : s[3].toNat = 0
          · have hz : ((s[3].toNat : Int) == 0) = true := beq_iff_eq.2 (by omega)
            have hv := (vt_zero (f := 0) (n := n) (b := 2097152) hlt' h0 (by omega)).symm.trans HV.out
            have HV2 := Lib.hid hv
            have H0 := Lib.hid h0
            have hk := HE.out.kMalformed
            clear hv h0 HV
            go_wp2_with fail
            refine (vi_wrong S 1 3 _).mono ?_
            rintro x w2 ⟨e, rfl, he, hb2⟩
            clear hk
            go_wp2
            exact bodyPost_ret (v := .tuple #[.int .i64 0, .int .i64 0, e]) (by simp [results, Tryz.results194, go_sem]) rfl ⟨e, by rw [← HV2.out]; rfl, by rw [← HV2.out]; exact ErrOf.some (by simp) (by simp) he, hb2⟩
          · have hz : ((s[3].toNat : Int) == 0) = false := beq_eq_false_iff_ne.2 (by omega)
            have hv := (vt_last (f := 0) (n := n) (b := 2097152) hlt' hc (by omega)).symm.trans HV.out
            have HV2 := Lib.hid hv
            clear hv h0 HV
            go_wp2
            exact bodyPost_ret (v := .tuple #[.int .i64 ((n + s[3].toNat % 128 * 2097152 : Nat) : Int), .int .i64 4, .nilIface]) (by simp [results, Tryz.results194, go_sem]) rfl ⟨.nilIface, by rw [← HV2.out]; rfl, by rw [← HV2.out]; exact ErrOf.none, Below.refl _ _⟩
        · have hv := (vt_more (f := 0) (n := n) (b := 2097152) hlt' hc).symm.trans HV.out
          have HV2 := Lib.hid hv
          clear hv HV
          have hb := s[3].toNat_lt
          go_wp2
          go_roundg (s.size - 4)
          case rel => exact ⟨rfl, 4, n + s[3].toNat % 128 * 2097152, 268435456, rfl, by go_num, rfl, rfl, by omega, ⟨by omega, by omega⟩, HV2.out⟩
          case measure => omega
      · have hv := (vt_short (f := 0) (n := n) (b := 2097152) hlt).symm.trans HV.out
        have HV2 := Lib.hid hv
        have hk := HE.out.kShort
        have h44 : (s.size : Int) < 4 := by omega
        clear hv HV
        go_wp2_with fail
        refine (vi_wrong S 0 _ _).mono ?_
        rintro x w2 ⟨e, rfl, he, hb2⟩
        clear hk
        go_wp2
        exact bodyPost_ret (v := .tuple #[.int .i64 0, .int .i64 0, e]) (by simp [results, Tryz.results194, go_sem]) rfl ⟨e, by rw [← HV2.out]; rfl, by rw [← HV2.out]; exact ErrOf.some (by simp) (by simp) he, hb2⟩
    · have hv : (0, 0, 2, 3) = fin := HV.out
      have HV2 := Lib.hid hv
      have hk := HE.out.kMalformed
      have h44 : (4 : Int) ≤ (s.size : Int) := by omega
      clear hv HV
      go_wp2_with fail
      refine (vi_wrong S 1 3 _).mono ?_
      rintro x w2 ⟨e, rfl, he, hb2⟩
      clear hk
      go_wp2
      exact bodyPost_ret (v := .tuple #[.int .i64 0, .int .i64 0, e]) (by simp [results, Tryz.results194, go_sem]) rfl ⟨e, by rw [← HV2.out]; rfl, by rw [← HV2.out]; exact ErrOf.some (by simp) (by simp) he, hb2⟩

theorem vi_take (S : Nat → Addr) (s : ByteArray) (w : World) (h : Env w S) (hm : s.size ≤ 9223372036854775807) :
    Calls Tryz.prog 194 #[.string s] w (TookSays w S (vt s 4 0 0 1)) := by
  by_cases h4 : 4 < s.size
  · exact vi_take_long S s w h hm h4
  · exact vi_take_short S s w h hm (by omega)

end Go.Proofs.YtbfbmdjnobdjpaaGreatDoor
