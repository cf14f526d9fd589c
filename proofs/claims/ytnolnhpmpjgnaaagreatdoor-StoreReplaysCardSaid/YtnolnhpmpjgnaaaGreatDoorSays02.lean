/- What is proved here: what the package's functions Put, Size and Take answer, of the landed code. Conditions: what the rows list of the package's variables; the text's length. What is proved here: what the package's function Take answers, of the landed code. Conditions: what the rows list of the package's variables; the text's length. -/
import Derived.Test.YtnolnhpmpjgnaaaGreatDoorVtVb
namespace Go.Proofs.YtnolnhpmpjgnaaaGreatDoor
open Go.RowKit Go.Extern.Stop Go.Stop Go.Extern

theorem ret_i64 {a b : Int} (h : a = b) : Ending.returned (.int .i64 a) = .returned (.int .i64 b) := by rw [h]

/-- The package's faults. -/
theorem vi_wrong (S : Nat → Addr) (i : Nat) (a : Int) (w : World) :
    Calls Tryz.prog 113 #[.int .i64 a, .iface 188 (.pointer (some (S i)))] w fun x w' => ∃ e, x = .returned e ∧ ErrIs w' S i 129 a e ∧ Below w.heap.size w w' := by
  go_enter Tryz.func113, Tryz.ntmps113
  go_wp2_with fail
  refine (new_err S i 129 a).mono ?_
  rintro x w1 ⟨e, rfl, he, hb⟩
  go_wp2
  go_ret
  exact ⟨_, rfl, he, hb⟩

set_option maxHeartbeats 1000000 in
theorem vi_size_out (n : Int) (w : World) (hn : n < 0 ∨ 268435455 < n) :
    Calls Tryz.prog 130 #[.int .i64 n] w fun x w' => x = .returned (.int .i64 0) ∧ Below w.heap.size w w' := by
  rcases hn with h | h
  · go_enter Tryz.func130, Tryz.ntmps130
    go_wp2
    go_ret
    exact ⟨rfl, Below.refl _ _⟩
  · have h0 : 0 ≤ n := by omega
    go_enter Tryz.func130, Tryz.ntmps130
    go_wp2
    go_ret
    exact ⟨rfl, Below.refl _ _⟩

set_option maxRecDepth 100000 in
set_option maxHeartbeats 1000000 in
theorem vi_size_in (u : Nat) (w : World) (hu : u ≤ 268435455) :
    Calls Tryz.prog 130 #[.int .i64 u] w fun x w' => x = .returned (.int .i64 (vb u).length) ∧ Below w.heap.size w w' := by
  have h1 : (u : Int) ≤ 268435455 := by omega
  have h4 := vb_len u hu
  generalize hm : (vb u).length = m at *
  have HM := Lib.hid hm
  clear hm
  go_enter Tryz.func130, Tryz.ntmps130
  go_wp2
  go_loopg [0, 3] u (fun g x y wr => w = wr ∧ x = .int .i64 g ∧ g ≤ u ∧ ∃ k : Nat, y = .int .i64 k ∧ k + (vb g).length = m + 1)
  case atStart => exact ⟨rfl, rfl, Nat.le_refl _, 1, rfl, by rw [HM.out]; omega⟩
  case round =>
    obtain ⟨rfl, rfl, hg, k, rfl, hk⟩ := hrel
    by_cases hs : gk < 128
    · have e : (vb gk).length = 1 := by rw [vb_small hs]; rfl
      rw [e] at hk
      obtain rfl : k = m := by omega
      clear e hk
      go_wp2
      go_ret
      exact ⟨rfl, Below.refl _ _⟩
    · have e : (vb gk).length = (vb (gk / 128)).length + 1 := by rw [vb_big hs]; rfl
      rw [e] at hk
      have HK := Lib.hid hk
      have hk5 : k ≤ 5 := by omega
      clear e hk
      go_wp2
      go_roundg (gk / 128)
      case rel => exact ⟨rfl, by go_num, by omega, k + 1, by go_num, by have := HK.out; omega⟩
      case measure => omega

set_option maxHeartbeats 1000000 in
theorem vi_put_out (S : Nat → Addr) (n : Int) (w : World) (h : Env w S) (hn : n < 0 ∨ 268435455 < n) :
    Calls Tryz.prog 122 #[.int .i64 n] w fun x w' => ∃ e, x = .returned (.tuple #[.string ⟨#[]⟩, e]) ∧ ErrIs w' S 3 129 0 e ∧ Below w.heap.size w w' := by
  have HZ := Lib.hid (fun w => vi_size_out n w hn)
  clear hn
  go_enter Tryz.func122, Tryz.ntmps122
  go_wp2_with fail
  refine (HZ.out _).mono ?_
  rintro x w1 ⟨rfl, hb⟩
  have hk := (h.later hb).kTooLarge
  go_wp2_with fail
  refine (vi_wrong S 3 0 _).mono ?_
  rintro x w2 ⟨e, rfl, he, hb2⟩
  go_wp2
  go_ret2
  exact ⟨_, rfl, he, hb.trans (hb2.mono hb.size)⟩

set_option maxRecDepth 100000 in
set_option maxHeartbeats 4000000 in
theorem vi_put_in (u : Nat) (w : World) (hu : u ≤ 268435455) :
    Calls Tryz.prog 122 #[.int .i64 u] w fun x w' => x = .returned (.tuple #[.string ⟨(vb u).toArray⟩, .nilIface]) ∧ Below w.heap.size w w' := by
  obtain ⟨i0, hi0, hz0, hz1, hz2⟩ := info_parts Tryz.byteInfo
  have h1 : (u : Int) ≤ 268435455 := by omega
  have HZ := Lib.hid (fun w => vi_size_in u w hu)
  have h4 := vb_len u hu
  obtain ⟨m, hm⟩ : ∃ m, m = (vb u).length := ⟨_, rfl⟩
  rw [← hm] at h4 HZ
  have HM := Lib.hid hm
  have hm0 : ((m : Int) == 0) = false := beq_eq_false_iff_ne.2 (by omega)
  obtain ⟨hm1, hm4⟩ := h4
  clear hm
  go_enter Tryz.func122, Tryz.ntmps122
  go_wp2_with fail
  refine (HZ.out _).mono ?_
  rintro x w1 ⟨rfl, hb1⟩
  have HB1 := Lib.hid hb1
  clear hb1
  go_wp2_with (refine wpList_make_own _ rfl _ _ 80 rfl w.heap.size 5 i0 (.int .u8 0) 1 Tryz.underlying80 hi0 hz0 hz1 .i64 .i64 (m : Int) m rfl rfl rfl (by rw [hz2]; omega) (by unfold maxLen; omega) HB1.out.size ?_)
  intro w2 hown hgrow
  have HO2 := Lib.hid hown
  have hb2 : Below w.heap.size w w2 := HB1.out.grown hgrow HB1.out.size (fun g hg => by cases hg)
  have HB2 := Lib.hid hb2
  clear hown hgrow hb2
  generalize w1.heap.size = gb at *
  go_wp2
  go_loopg [0, 5, 17] m (fun g x v i wr => ∃ j n : Nat, g = m - j ∧ j ≤ m ∧ x = .int .i64 n ∧ n ≤ u ∧ i = .int .i64 j ∧ v = .slice (some ⟨gb, 0, none⟩) j m ∧ Below w.heap.size w wr ∧ ∃ l : List UInt8, wr.ownsRow w.heap.size 5 1 v j (l.map byteV) ∧ l.length = j ∧ (j < m ∧ l ++ vb n = vb u ∨ j = m ∧ l = vb u))
  case atStart => exact ⟨0, u, rfl, Nat.zero_le _, rfl, Nat.le_refl _, rfl, rfl, HB2.out, [], HO2.out, rfl, .inl ⟨by omega, rfl⟩⟩
  case round =>
    obtain ⟨j, n, rfl, hj, rfl, hn, rfl, rfl, hb, l, hown, hlen, hl⟩ := hrel
    have HO := Lib.hid hown
    have HL := Lib.hid hl
    have HB := Lib.hid hb
    have HE := Lib.hid hlen
    clear hown hl hb hlen
    by_cases hlt : j < m
    · have hl : l ++ vb n = vb u := by
        rcases HL.out with ⟨_, h⟩ | ⟨h, _⟩
        · exact h
        · omega
      have hln : j + (vb n).length = m := by
        have := congrArg List.length hl
        rw [List.length_append, HE.out, ← HM.out] at this
        exact this
      have hnn : (n : Int) ≤ 268435455 := by omega
      by_cases hlast : j + 1 = m
      · have hs : n < 128 := by
          by_cases hs : n < 128
          · exact hs
          · rw [vb_big hs] at hln
            have := vb_len (n / 128) (by omega)
            simp at hln
            omega
        rw [vb_small hs] at hl
        have HF := Lib.hid hl
        have hmod : (n : Int) % 128 = n := by omega
        have hq : (n : Int) / 128 = 0 := by omega
        have hge : (m : Int) - 1 ≤ (j : Int) := by omega
        have hlt' : (j : Int) < (m : Int) := by omega
        have hjm : decide ((j : Int) < (m : Int) - 1) = false := by simp; omega
        have hlast' := Lib.hid hlast
        clear hl hln hlast
        go_wp2_with (at_builtin; refine wpList_append_fits _ rfl _ _ 80 rfl w.heap.size 5 i0 1 Tryz.underlying80 hi0 hz1 gb j m _ rfl (HO.out.alloc _) ⟨wr.heap.size, 0, none⟩ 1 1 [.int .u8 (n : Int)] rfl rfl ?c1 ?c2 ?c3 ?_)
        case c1 => exact cell_one_new _ _ _
        case c2 => simp [Value.oneCell']
        case c3 => omega
        intro w3 hown3 hgrow
        have hsz : w.heap.size ≤ wr.heap.size := HB.out.size
        have hb3 : Below w.heap.size w w3 := (HB.out.alloc hsz _).grown hgrow (by rw [World.size_alloc]; omega) (fun k hk => by cases hk; exact (HO.out.lt gb rfl).1)
        have hown4 : w3.ownsRow w.heap.size 5 1 (.slice (some ⟨gb, 0, none⟩) (j + 1) m) (j + 1) ((l ++ [UInt8.ofNat n]).map byteV) := by
          rw [List.map_append, List.map_singleton, byteV_ofNat (by omega)]; exact hown3
        have HO3 := Lib.hid hown4
        have HB3 := Lib.hid hb3
        clear hown3 hown4 hb3 hgrow
        go_wp2
        go_roundg (m - (j + 1))
        case rel => exact ⟨j + 1, 0, rfl, hlt, by go_num, Nat.zero_le _, by go_num, rfl, HB3.out, _, HO3.out, by rw [List.length_append, HE.out]; rfl, .inr ⟨hlast'.out, HF.out⟩⟩
        case measure => omega
      · have hs : ¬ n < 128 := by
          intro hs
          rw [vb_small hs] at hln
          simp at hln
          omega
        rw [vb_big hs] at hl
        have hl2 : (l ++ [UInt8.ofNat (n % 128 + 128)]) ++ vb (n / 128) = vb u := by rw [← hl]; simp
        have HF := Lib.hid hl2
        have hlt' : (j : Int) < (m : Int) := by omega
        have hjm : decide ((j : Int) < (m : Int) - 1) = true := by simp; omega
        have hjm2 : (j : Int) < (m : Int) - 1 := by omega
        clear hl hln hl2
        go_wp2_with (at_builtin; refine wpList_append_fits _ rfl _ _ 80 rfl w.heap.size 5 i0 1 Tryz.underlying80 hi0 hz1 gb j m _ rfl (HO.out.alloc _) ⟨wr.heap.size, 0, none⟩ 1 1 [.int .u8 ((n : Int) % 128 + 128)] rfl rfl ?c1 ?c2 ?c3 ?_)
        case c1 => exact cell_one_new _ _ _
        case c2 => simp [Value.oneCell']
        case c3 => omega
        intro w3 hown3 hgrow
        have hsz : w.heap.size ≤ wr.heap.size := HB.out.size
        have hb3 : Below w.heap.size w w3 := (HB.out.alloc hsz _).grown hgrow (by rw [World.size_alloc]; omega) (fun k hk => by cases hk; exact (HO.out.lt gb rfl).1)
        have hown4 : w3.ownsRow w.heap.size 5 1 (.slice (some ⟨gb, 0, none⟩) (j + 1) m) (j + 1) ((l ++ [UInt8.ofNat (n % 128 + 128)]).map byteV) := by
          rw [List.map_append, List.map_singleton, byteV_ofNat (by omega)]
          have e : ((n % 128 + 128 : Nat) : Int) = (n : Int) % 128 + 128 := by omega
          rw [e]; exact hown3
        have HO3 := Lib.hid hown4
        have HB3 := Lib.hid hb3
        clear hown3 hown4 hb3 hgrow
        go_wp2
        go_roundg (m - (j + 1))
        case rel => exact ⟨j + 1, n / 128, rfl, hlt, by go_num, by omega, by go_num, rfl, HB3.out, _, HO3.out, by rw [List.length_append, HE.out]; rfl, .inl ⟨by omega, HF.out⟩⟩
        case measure => omega
    · obtain rfl : j = m := by omega
      have hl : l = vb u := by
        rcases HL.out with ⟨h, _⟩ | ⟨_, h⟩
        · omega
        · exact h
      have hlen := HE.out
      have hown := HO.out
      have hconv := own_string (P := Tryz.prog) (src := 80) (dst := 9) (e := 5) Tryz.underlying80 Tryz.underlying5 Tryz.underlying9 hown
      rw [hl] at hconv
      clear hl hlen hown
      go_wp2
      go_ret2
      exact ⟨rfl, HB.out⟩
end Go.Proofs.YtnolnhpmpjgnaaaGreatDoor
namespace Go.Proofs.YtnolnhpmpjgnaaaGreatDoor
open Go.RowKit Go.Extern.Stop Go.Stop Go.Extern

def TookSays (w : World) (S : Nat → Addr) (fin : Nat × Nat × Nat × Nat) (x : Ending) (w' : World) : Prop :=
  ∃ e, x = .returned (.tuple #[.int .i64 (fin.1 : Int), .int .i64 (fin.2.1 : Int), e]) ∧ ErrOf w' S 129 fin.2.2.1 fin.2.2.2 e ∧ Below w.heap.size w w'

set_option maxRecDepth 100000 in
set_option maxHeartbeats 4000000 in
theorem vi_take_long (S : Nat → Addr) (s : ByteArray) (w : World) (h : Env w S) (hm : s.size ≤ 9223372036854775807) (hs4 : 4 < s.size) :
    Calls Tryz.prog 95 #[.string s] w (TookSays w S (vt s 4 0 0 1)) := by
  obtain ⟨fin, hfin⟩ : ∃ fin, vt s 4 0 0 1 = fin := ⟨_, rfl⟩
  rw [hfin]
  have HF := Lib.hid hfin
  clear hfin
  have hi4 : (4 : Int) < (s.size : Int) := by omega
  have HE := Lib.hid h
  go_enter Tryz.func95, Tryz.ntmps95
  go_wp2
  go_loopg [5, 6, 12] 4 (fun f x y z wr => w = wr ∧ ∃ i n b : Nat, f = 4 - i ∧ x = .int .i64 n ∧ y = .int .i64 b ∧ z = .int .i64 i ∧ i ≤ 4 ∧ Weight i n b ∧ vt s (4 - i) i n b = fin)
  case atStart => exact ⟨rfl, 0, 0, 1, rfl, rfl, rfl, rfl, Nat.zero_le _, ⟨.inl ⟨rfl, rfl⟩, by omega⟩, HF.out⟩
  case round =>
    obtain ⟨rfl, i, n, b, rfl, rfl, rfl, rfl, hi, ⟨hw, hn⟩, hv⟩ := hrel
    clear HF
    have HV := Lib.hid hv
    clear hv
    rcases hw with ⟨rfl, rfl⟩ | ⟨rfl, rfl⟩ | ⟨rfl, rfl⟩ | ⟨rfl, rfl⟩ | ⟨rfl, rfl⟩
    · by_cases hlt : 0 < 4
      · have hlt' : 0 < s.size := by omega
        by_cases hc : s[0].toNat < 128
        · by_cases h0 : s[0].toNat = 0
          · have hz : ((s[0].toNat : Int) == 0) = true := beq_iff_eq.2 (by omega)
            have hv := (vt_last (f := 3) (n := n) (b := 1) hlt' hc (by omega)).symm.trans HV.out
            have HV2 := Lib.hid hv
            have H0 := Lib.hid h0
            clear hv h0 HV
            go_wp2
            exact bodyPost_ret (v := .tuple #[.int .i64 n, .int .i64 1, .nilIface]) (by simp [results, Tryz.results95, go_sem, H0.out]) rfl ⟨.nilIface, by rw [← HV2.out, H0.out]; simp, by rw [← HV2.out]; exact ErrOf.none, Below.refl _ _⟩
          · have hz : ((s[0].toNat : Int) == 0) = false := beq_eq_false_iff_ne.2 (by omega)
            have hv := (vt_last (f := 3) (n := n) (b := 1) hlt' hc (by omega)).symm.trans HV.out
            have HV2 := Lib.hid hv
            clear hv h0 HV
            go_wp2
            exact bodyPost_ret (v := .tuple #[.int .i64 ((n + s[0].toNat % 128 * 1 : Nat) : Int), .int .i64 1, .nilIface]) (by simp [results, Tryz.results95, go_sem]) rfl ⟨.nilIface, by rw [← HV2.out]; rfl, by rw [← HV2.out]; exact ErrOf.none, Below.refl _ _⟩
        · have hv := (vt_more (f := 3) (n := n) (b := 1) hlt' hc).symm.trans HV.out
          have HV2 := Lib.hid hv
          clear hv HV
          have hb := s[0].toNat_lt
          go_wp2
          go_roundg (4 - 1)
          case rel => exact ⟨rfl, 1, n + s[0].toNat % 128 * 1, 128, rfl, by go_num, rfl, rfl, by omega, ⟨by omega, by omega⟩, HV2.out⟩
          case measure => omega
      · exact absurd hlt (by omega)
    · by_cases hlt : 1 < 4
      · have hlt' : 1 < s.size := by omega
        by_cases hc : s[1].toNat < 128
        · by_cases h0 : s[1].toNat = 0
          · have hz : ((s[1].toNat : Int) == 0) = true := beq_iff_eq.2 (by omega)
            have hv := (vt_zero (f := 2) (n := n) (b := 128) hlt' h0 (by omega)).symm.trans HV.out
            have HV2 := Lib.hid hv
            have H0 := Lib.hid h0
            have hk := HE.out.kMalformed
            clear hv h0 HV
            go_wp2_with fail
            refine (vi_wrong S 1 1 _).mono ?_
            rintro x w2 ⟨e, rfl, he, hb2⟩
            clear hk
            go_wp2
            exact bodyPost_ret (v := .tuple #[.int .i64 0, .int .i64 0, e]) (by simp [results, Tryz.results95, go_sem]) rfl ⟨e, by rw [← HV2.out]; rfl, by rw [← HV2.out]; exact ErrOf.some (by simp) (by simp) he, hb2⟩
          · have hz : ((s[1].toNat : Int) == 0) = false := beq_eq_false_iff_ne.2 (by omega)
            have hv := (vt_last (f := 2) (n := n) (b := 128) hlt' hc (by omega)).symm.trans HV.out
            have HV2 := Lib.hid hv
            clear hv h0 HV
            go_wp2
            exact bodyPost_ret (v := .tuple #[.int .i64 ((n + s[1].toNat % 128 * 128 : Nat) : Int), .int .i64 2, .nilIface]) (by simp [results, Tryz.results95, go_sem]) rfl ⟨.nilIface, by rw [← HV2.out]; rfl, by rw [← HV2.out]; exact ErrOf.none, Below.refl _ _⟩
        · have hv := (vt_more (f := 2) (n := n) (b := 128) hlt' hc).symm.trans HV.out
          have HV2 := Lib.hid hv
          clear hv HV
          have hb := s[1].toNat_lt
          go_wp2
          go_roundg (4 - 2)
          case rel => exact ⟨rfl, 2, n + s[1].toNat % 128 * 128, 16384, rfl, by go_num, rfl, rfl, by omega, ⟨by omega, by omega⟩, HV2.out⟩
          case measure => omega
      · exact absurd hlt (by omega)
    · by_cases hlt : 2 < 4
      · have hlt' : 2 < s.size := by omega
        by_cases hc : s[2].toNat < 128
        · by_cases h0 : s[2].toNat = 0
          · have hz : ((s[2].toNat : Int) == 0) = true := beq_iff_eq.2 (by omega)
            have hv := (vt_zero (f := 1) (n := n) (b := 16384) hlt' h0 (by omega)).symm.trans HV.out
            have HV2 := Lib.hid hv
            have H0 := Lib.hid h0
            have hk := HE.out.kMalformed
            clear hv h0 HV
            go_wp2_with fail
            refine (vi_wrong S 1 2 _).mono ?_
            rintro x w2 ⟨e, rfl, he, hb2⟩
            clear hk
            go_wp2
            exact bodyPost_ret (v := .tuple #[.int .i64 0, .int .i64 0, e]) (by simp [results, Tryz.results95, go_sem]) rfl ⟨e, by rw [← HV2.out]; rfl, by rw [← HV2.out]; exact ErrOf.some (by simp) (by simp) he, hb2⟩
          · have hz : ((s[2].toNat : Int) == 0) = false := beq_eq_false_iff_ne.2 (by omega)
            have hv := (vt_last (f := 1) (n := n) (b := 16384) hlt' hc (by omega)).symm.trans HV.out
            have HV2 := Lib.hid hv
            clear hv h0 HV
            go_wp2
            exact bodyPost_ret (v := .tuple #[.int .i64 ((n + s[2].toNat % 128 * 16384 : Nat) : Int), .int .i64 3, .nilIface]) (by simp [results, Tryz.results95, go_sem]) rfl ⟨.nilIface, by rw [← HV2.out]; rfl, by rw [← HV2.out]; exact ErrOf.none, Below.refl _ _⟩
        · have hv := (vt_more (f := 1) (n := n) (b := 16384) hlt' hc).symm.trans HV.out
          have HV2 := Lib.hid hv
          clear hv HV
          have hb := s[2].toNat_lt
          go_wp2
          go_roundg (4 - 3)
          case rel => exact ⟨rfl, 3, n + s[2].toNat % 128 * 16384, 2097152, rfl, by go_num, rfl, rfl, by omega, ⟨by omega, by omega⟩, HV2.out⟩
          case measure => omega
      · exact absurd hlt (by omega)
    · by_cases hlt : 3 < 4
      · have hlt' : 3 < s.size := by omega
        by_cases hc : s[3].toNat < 128
        · by_cases h0 : s[3].toNat = 0
          · have hz : ((s[3].toNat : Int) == 0) = true := beq_iff_eq.2 (by omega)
            have hv := (vt_zero (f := 0) (n := n) (b := 2097152) hlt' h0 (by omega)).symm.trans HV.out
            have HV2 := Lib.hid hv
            have H0 := Lib.hid h0
            have hk := HE.out.kMalformed
            clear hv h0 HV
            go_wp2_with fail
            refine (vi_wrong S 1 3 _).mono ?_
            rintro x w2 ⟨e, rfl, he, hb2⟩
            clear hk
            go_wp2
            exact bodyPost_ret (v := .tuple #[.int .i64 0, .int .i64 0, e]) (by simp [results, Tryz.results95, go_sem]) rfl ⟨e, by rw [← HV2.out]; rfl, by rw [← HV2.out]; exact ErrOf.some (by simp) (by simp) he, hb2⟩
          · have hz : ((s[3].toNat : Int) == 0) = false := beq_eq_false_iff_ne.2 (by omega)
            have hv := (vt_last (f := 0) (n := n) (b := 2097152) hlt' hc (by omega)).symm.trans HV.out
            have HV2 := Lib.hid hv
            clear hv h0 HV
            go_wp2
            exact bodyPost_ret (v := .tuple #[.int .i64 ((n + s[3].toNat % 128 * 2097152 : Nat) : Int), .int .i64 4, .nilIface]) (by simp [results, Tryz.results95, go_sem]) rfl ⟨.nilIface, by rw [← HV2.out]; rfl, by rw [← HV2.out]; exact ErrOf.none, Below.refl _ _⟩
        · have hv := (vt_more (f := 0) (n := n) (b := 2097152) hlt' hc).symm.trans HV.out
          have HV2 := Lib.hid hv
          clear hv HV
          have hb := s[3].toNat_lt
          go_wp2
          go_roundg (4 - 4)
          case rel => exact ⟨rfl, 4, n + s[3].toNat % 128 * 2097152, 268435456, rfl, by go_num, rfl, rfl, by omega, ⟨by omega, by omega⟩, HV2.out⟩
          case measure => omega
      · exact absurd hlt (by omega)
    · have hv : (0, 0, 2, 3) = fin := HV.out
      have HV2 := Lib.hid hv
      have hk := HE.out.kMalformed
      clear hv HV
      go_wp2_with fail
      refine (vi_wrong S 1 3 _).mono ?_
      rintro x w2 ⟨e, rfl, he, hb2⟩
      clear hk
      go_wp2
      exact bodyPost_ret (v := .tuple #[.int .i64 0, .int .i64 0, e]) (by simp [results, Tryz.results95, go_sem]) rfl ⟨e, by rw [← HV2.out]; rfl, by rw [← HV2.out]; exact ErrOf.some (by simp) (by simp) he, hb2⟩

set_option maxRecDepth 100000 in
set_option maxHeartbeats 4000000 in
theorem vi_take_short (S : Nat → Addr) (s : ByteArray) (w : World) (h : Env w S) (hm : s.size ≤ 9223372036854775807) (hs4 : s.size ≤ 4) :
    Calls Tryz.prog 95 #[.string s] w (TookSays w S (vt s 4 0 0 1)) := by
  obtain ⟨fin, hfin⟩ : ∃ fin, vt s 4 0 0 1 = fin := ⟨_, rfl⟩
  rw [hfin]
  have HF := Lib.hid hfin
  clear hfin
  have hi4 : (s.size : Int) ≤ 4 := by omega
  have HE := Lib.hid h
  go_enter Tryz.func95, Tryz.ntmps95
  go_wp2
  go_loopg [5, 6, 12] s.size (fun f x y z wr => w = wr ∧ ∃ i n b : Nat, f = s.size - i ∧ x = .int .i64 n ∧ y = .int .i64 b ∧ z = .int .i64 i ∧ i ≤ s.size ∧ Weight i n b ∧ vt s (4 - i) i n b = fin)
  case atStart => exact ⟨rfl, 0, 0, 1, rfl, rfl, rfl, rfl, Nat.zero_le _, ⟨.inl ⟨rfl, rfl⟩, by omega⟩, HF.out⟩
  case round =>
    obtain ⟨rfl, i, n, b, rfl, rfl, rfl, rfl, hi, ⟨hw, hn⟩, hv⟩ := hrel
    clear HF
    have HV := Lib.hid hv
    clear hv
    rcases hw with ⟨rfl, rfl⟩ | ⟨rfl, rfl⟩ | ⟨rfl, rfl⟩ | ⟨rfl, rfl⟩ | ⟨rfl, rfl⟩
    · by_cases hlt : 0 < s.size
      · have hlt' : 0 < s.size := by omega
        by_cases hc : s[0].toNat < 128
        · by_cases h0 : s[0].toNat = 0
          · have hz : ((s[0].toNat : Int) == 0) = true := beq_iff_eq.2 (by omega)
            have hv := (vt_last (f := 3) (n := n) (b := 1) hlt' hc (by omega)).symm.trans HV.out
            have HV2 := Lib.hid hv
            have H0 := Lib.hid h0
            clear hv h0 HV
            go_wp2
            exact bodyPost_ret (v := .tuple #[.int .i64 n, .int .i64 1, .nilIface]) (by simp [results, Tryz.results95, go_sem, H0.out]) rfl ⟨.nilIface, by rw [← HV2.out, H0.out]; simp, by rw [← HV2.out]; exact ErrOf.none, Below.refl _ _⟩
          · have hz : ((s[0].toNat : Int) == 0) = false := beq_eq_false_iff_ne.2 (by omega)
            have hv := (vt_last (f := 3) (n := n) (b := 1) hlt' hc (by omega)).symm.trans HV.out
            have HV2 := Lib.hid hv
            clear hv h0 HV
            go_wp2
            exact bodyPost_ret (v := .tuple #[.int .i64 ((n + s[0].toNat % 128 * 1 : Nat) : Int), .int .i64 1, .nilIface]) (by simp [results, Tryz.results95, go_sem]) rfl ⟨.nilIface, by rw [← HV2.out]; rfl, by rw [← HV2.out]; exact ErrOf.none, Below.refl _ _⟩
        · have hv := (vt_more (f := 3) (n := n) (b := 1) hlt' hc).symm.trans HV.out
          have HV2 := Lib.hid hv
          clear hv HV
          have hb := s[0].toNat_lt
          go_wp2
          go_roundg (s.size - 1)
          case rel => exact ⟨rfl, 1, n + s[0].toNat % 128 * 1, 128, rfl, by go_num, rfl, rfl, by omega, ⟨by omega, by omega⟩, HV2.out⟩
          case measure => omega
      · have hv := (vt_short (f := 3) (n := n) (b := 1) hlt).symm.trans HV.out
        have HV2 := Lib.hid hv
        have hk := HE.out.kShort
        have h44 : (s.size : Int) < 4 := by omega
        clear hv HV
        go_wp2_with fail
        refine (vi_wrong S 0 _ _).mono ?_
        rintro x w2 ⟨e, rfl, he, hb2⟩
        clear hk
        go_wp2
        exact bodyPost_ret (v := .tuple #[.int .i64 0, .int .i64 0, e]) (by simp [results, Tryz.results95, go_sem]) rfl ⟨e, by rw [← HV2.out]; rfl, by rw [← HV2.out]; exact ErrOf.some (by simp) (by simp) he, hb2⟩
    · by_cases hlt : 1 < s.size
      · have hlt' : 1 < s.size := by omega
        by_cases hc : s[1].toNat < 128
        · by_cases h0 : s[1].toNat = 0
          · have hz : ((s[1].toNat : Int) == 0) = true := beq_iff_eq.2 (by omega)
            have hv := (vt_zero (f := 2) (n := n) (b := 128) hlt' h0 (by omega)).symm.trans HV.out
            have HV2 := Lib.hid hv
            have H0 := Lib.hid h0
            have hk := HE.out.kMalformed
            clear hv h0 HV
            go_wp2_with fail
            refine (vi_wrong S 1 1 _).mono ?_
            rintro x w2 ⟨e, rfl, he, hb2⟩
            clear hk
            go_wp2
            exact bodyPost_ret (v := .tuple #[.int .i64 0, .int .i64 0, e]) (by simp [results, Tryz.results95, go_sem]) rfl ⟨e, by rw [← HV2.out]; rfl, by rw [← HV2.out]; exact ErrOf.some (by simp) (by simp) he, hb2⟩
          · have hz : ((s[1].toNat : Int) == 0) = false := beq_eq_false_iff_ne.2 (by omega)
            have hv := (vt_last (f := 2) (n := n) (b := 128) hlt' hc (by omega)).symm.trans HV.out
            have HV2 := Lib.hid hv
            clear hv h0 HV
            go_wp2
            exact bodyPost_ret (v := .tuple #[.int .i64 ((n + s[1].toNat % 128 * 128 : Nat) : Int), .int .i64 2, .nilIface]) (by simp [results, Tryz.results95, go_sem]) rfl ⟨.nilIface, by rw [← HV2.out]; rfl, by rw [← HV2.out]; exact ErrOf.none, Below.refl _ _⟩
        · have hv := (vt_more (f := 2) (n := n) (b := 128) hlt' hc).symm.trans HV.out
          have HV2 := Lib.hid hv
          clear hv HV
          have hb := s[1].toNat_lt
          go_wp2
          go_roundg (s.size - 2)
          case rel => exact ⟨rfl, 2, n + s[1].toNat % 128 * 128, 16384, rfl, by go_num, rfl, rfl, by omega, ⟨by omega, by omega⟩, HV2.out⟩
          case measure => omega
      · have hv := (vt_short (f := 2) (n := n) (b := 128) hlt).symm.trans HV.out
        have HV2 := Lib.hid hv
        have hk := HE.out.kShort
        have h44 : (s.size : Int) < 4 := by omega
        clear hv HV
        go_wp2_with fail
        refine (vi_wrong S 0 _ _).mono ?_
        rintro x w2 ⟨e, rfl, he, hb2⟩
        clear hk
        go_wp2
        exact bodyPost_ret (v := .tuple #[.int .i64 0, .int .i64 0, e]) (by simp [results, Tryz.results95, go_sem]) rfl ⟨e, by rw [← HV2.out]; rfl, by rw [← HV2.out]; exact ErrOf.some (by simp) (by simp) he, hb2⟩
    · by_cases hlt : 2 < s.size
      · have hlt' : 2 < s.size := by omega
        by_cases hc : s[2].toNat < 128
        · by_cases h0 : s[2].toNat = 0
          · have hz : ((s[2].toNat : Int) == 0) = true := beq_iff_eq.2 (by omega)
            have hv := (vt_zero (f := 1) (n := n) (b := 16384) hlt' h0 (by omega)).symm.trans HV.out
            have HV2 := Lib.hid hv
            have H0 := Lib.hid h0
            have hk := HE.out.kMalformed
            clear hv h0 HV
            go_wp2_with fail
            refine (vi_wrong S 1 2 _).mono ?_
            rintro x w2 ⟨e, rfl, he, hb2⟩
            clear hk
            go_wp2
            exact bodyPost_ret (v := .tuple #[.int .i64 0, .int .i64 0, e]) (by simp [results, Tryz.results95, go_sem]) rfl ⟨e, by rw [← HV2.out]; rfl, by rw [← HV2.out]; exact ErrOf.some (by simp) (by simp) he, hb2⟩
          · have hz : ((s[2].toNat : Int) == 0) = false := beq_eq_false_iff_ne.2 (by omega)
            have hv := (vt_last (f := 1) (n := n) (b := 16384) hlt' hc (by omega)).symm.trans HV.out
            have HV2 := Lib.hid hv
            clear hv h0 HV
            go_wp2
            exact bodyPost_ret (v := .tuple #[.int .i64 ((n + s[2].toNat % 128 * 16384 : Nat) : Int), .int .i64 3, .nilIface]) (by simp [results, Tryz.results95, go_sem]) rfl ⟨.nilIface, by rw [← HV2.out]; rfl, by rw [← HV2.out]; exact ErrOf.none, Below.refl _ _⟩
        · have hv := (vt_more (f := 1) (n := n) (b := 16384) hlt' hc).symm.trans HV.out
          have HV2 := Lib.hid hv
          clear hv HV
          have hb := s[2].toNat_lt
          go_wp2
          go_roundg (s.size - 3)
          case rel => exact ⟨rfl, 3, n + s[2].toNat % 128 * 16384, 2097152, rfl, by go_num, rfl, rfl, by omega, ⟨by omega, by omega⟩, HV2.out⟩
          case measure => omega
      · have hv := (vt_short (f := 1) (n := n) (b := 16384) hlt).symm.trans HV.out
        have HV2 := Lib.hid hv
        have hk := HE.out.kShort
        have h44 : (s.size : Int) < 4 := by omega
        clear hv HV
        go_wp2_with fail
        refine (vi_wrong S 0 _ _).mono ?_
        rintro x w2 ⟨e, rfl, he, hb2⟩
        clear hk
        go_wp2
        exact bodyPost_ret (v := .tuple #[.int .i64 0, .int .i64 0, e]) (by simp [results, Tryz.results95, go_sem]) rfl ⟨e, by rw [← HV2.out]; rfl, by rw [← HV2.out]; exact ErrOf.some (by simp) (by simp) he, hb2⟩
    · by_cases hlt : 3 < s.size
      · have hlt' : 3 < s.size := by omega
        by_cases hc : s[3].toNat < 128
        · by_cases h0 : s[3].toNat = 0
          · have hz : ((s[3].toNat : Int) == 0) = true := beq_iff_eq.2 (by omega)
            have hv := (vt_zero (f := 0) (n := n) (b := 2097152) hlt' h0 (by omega)).symm.trans HV.out
            have HV2 := Lib.hid hv
            have H0 := Lib.hid h0
            have hk := HE.out.kMalformed
            clear hv h0 HV
            go_wp2_with fail
            refine (vi_wrong S 1 3 _).mono ?_
            rintro x w2 ⟨e, rfl, he, hb2⟩
            clear hk
            go_wp2
            exact bodyPost_ret (v := .tuple #[.int .i64 0, .int .i64 0, e]) (by simp [results, Tryz.results95, go_sem]) rfl ⟨e, by rw [← HV2.out]; rfl, by rw [← HV2.out]; exact ErrOf.some (by simp) (by simp) he, hb2⟩
          · have hz : ((s[3].toNat : Int) == 0) = false := beq_eq_false_iff_ne.2 (by omega)
            have hv := (vt_last (f := 0) (n := n) (b := 2097152) hlt' hc (by omega)).symm.trans HV.out
            have HV2 := Lib.hid hv
            clear hv h0 HV
            go_wp2
            exact bodyPost_ret (v := .tuple #[.int .i64 ((n + s[3].toNat % 128 * 2097152 : Nat) : Int), .int .i64 4, .nilIface]) (by simp [results, Tryz.results95, go_sem]) rfl ⟨.nilIface, by rw [← HV2.out]; rfl, by rw [← HV2.out]; exact ErrOf.none, Below.refl _ _⟩
        · have hv := (vt_more (f := 0) (n := n) (b := 2097152) hlt' hc).symm.trans HV.out
          have HV2 := Lib.hid hv
          clear hv HV
          have hb := s[3].toNat_lt
          go_wp2
          go_roundg (s.size - 4)
          case rel => exact ⟨rfl, 4, n + s[3].toNat % 128 * 2097152, 268435456, rfl, by go_num, rfl, rfl, by omega, ⟨by omega, by omega⟩, HV2.out⟩
          case measure => omega
      · have hv := (vt_short (f := 0) (n := n) (b := 2097152) hlt).symm.trans HV.out
        have HV2 := Lib.hid hv
        have hk := HE.out.kShort
        have h44 : (s.size : Int) < 4 := by omega
        clear hv HV
        go_wp2_with fail
        refine (vi_wrong S 0 _ _).mono ?_
        rintro x w2 ⟨e, rfl, he, hb2⟩
        clear hk
        go_wp2
        exact bodyPost_ret (v := .tuple #[.int .i64 0, .int .i64 0, e]) (by simp [results, Tryz.results95, go_sem]) rfl ⟨e, by rw [← HV2.out]; rfl, by rw [← HV2.out]; exact ErrOf.some (by simp) (by simp) he, hb2⟩
    · have hv : (0, 0, 2, 3) = fin := HV.out
      have HV2 := Lib.hid hv
      have hk := HE.out.kMalformed
      have h44 : (4 : Int) ≤ (s.size : Int) := by omega
      clear hv HV
      go_wp2_with fail
      refine (vi_wrong S 1 3 _).mono ?_
      rintro x w2 ⟨e, rfl, he, hb2⟩
      clear hk
      go_wp2
      exact bodyPost_ret (v := .tuple #[.int .i64 0, .int .i64 0, e]) (by simp [results, Tryz.results95, go_sem]) rfl ⟨e, by rw [← HV2.out]; rfl, by rw [← HV2.out]; exact ErrOf.some (by simp) (by simp) he, hb2⟩

theorem vi_take (S : Nat → Addr) (s : ByteArray) (w : World) (h : Env w S) (hm : s.size ≤ 9223372036854775807) :
    Calls Tryz.prog 95 #[.string s] w (TookSays w S (vt s 4 0 0 1)) := by
  by_cases h4 : 4 < s.size
  · exact vi_take_long S s w h hm h4
  · exact vi_take_short S s w h hm (by omega)

end Go.Proofs.YtnolnhpmpjgnaaaGreatDoor
