/- What is proved here: what the package's functions Put, Size and Take answer, of the landed code. Conditions: what the rows list of the package's variables; the text's length. -/

import Derived.Test.YtbfbmdjnobdjpaaGreatDoorVtVb
namespace Go.Proofs.YtbfbmdjnobdjpaaGreatDoor
open Go.RowKit Go.Extern.Stop Go.Stop Go.Extern

theorem ret_i64 {a b : Int} (h : a = b) : Ending.returned (.int .i64 a) = .returned (.int .i64 b) := by rw [h]

/-- The package's faults. -/
theorem vi_wrong (S : Nat → Addr) (i : Nat) (a : Int) (w : World) :
    Calls Tryz.prog 207 #[.int .i64 a, .iface 235 (.pointer (some (S i)))] w fun x w' => ∃ e, x = .returned e ∧ ErrIs w' S i 129 a e ∧ Below w.heap.size w w' := by
  go_enter Tryz.func207, Tryz.ntmps207
  go_wp2_with fail
  refine (new_err S i 129 a).mono ?_
  rintro x w1 ⟨e, rfl, he, hb⟩
  go_wp2
  go_ret
  exact ⟨_, rfl, he, hb⟩

set_option maxHeartbeats 1000000 in
theorem vi_size_out (n : Int) (w : World) (hn : n < 0 ∨ 268435455 < n) :
    Calls Tryz.prog 206 #[.int .i64 n] w fun x w' => x = .returned (.int .i64 0) ∧ Below w.heap.size w w' := by
  rcases hn with h | h
  · go_enter Tryz.func206, Tryz.ntmps206
    go_wp2
    go_ret
    exact ⟨rfl, Below.refl _ _⟩
  · have h0 : 0 ≤ n := by omega
    go_enter Tryz.func206, Tryz.ntmps206
    go_wp2
    go_ret
    exact ⟨rfl, Below.refl _ _⟩

set_option maxRecDepth 100000 in
set_option maxHeartbeats 1000000 in
theorem vi_size_in (u : Nat) (w : World) (hu : u ≤ 268435455) :
    Calls Tryz.prog 206 #[.int .i64 u] w fun x w' => x = .returned (.int .i64 (vb u).length) ∧ Below w.heap.size w w' := by
  have h1 : (u : Int) ≤ 268435455 := by omega
  have h4 := vb_len u hu
  generalize hm : (vb u).length = m at *
  have HM := Lib.hid hm
  clear hm
  go_enter Tryz.func206, Tryz.ntmps206
  go_wp2
  go_loopg [0, 3] u (fun g x y wr => w = wr ∧ x = .int .i64 g ∧ g ≤ u ∧ ∃ k : Nat, y = .int .i64 k ∧ k + (vb g).length = m + 1)
  case atStart => exact ⟨rfl, rfl, Nat.le_refl _, 1, rfl, by rw [HM.out]; omega⟩
  case round =>
    obtain ⟨rfl, rfl, hg, k, rfl, hk⟩ := hrel
    by_cases hs : gk < 128
    · have e : (vb gk).length = 1 := by rw [vb_small hs]; rfl
      rw [e] at hk
      obtain rfl : k = m := by omega
      clear e hk
      go_wp2
      go_ret
      exact ⟨rfl, Below.refl _ _⟩
    · have e : (vb gk).length = (vb (gk / 128)).length + 1 := by rw [vb_big hs]; rfl
      rw [e] at hk
      have HK := Lib.hid hk
      have hk5 : k ≤ 5 := by omega
      clear e hk
      go_wp2
      go_roundg (gk / 128)
      case rel => exact ⟨rfl, by go_num, by omega, k + 1, by go_num, by have := HK.out; omega⟩
      case measure => omega

set_option maxHeartbeats 1000000 in
theorem vi_put_out (S : Nat → Addr) (n : Int) (w : World) (h : Env w S) (hn : n < 0 ∨ 268435455 < n) :
    Calls Tryz.prog 170 #[.int .i64 n] w fun x w' => ∃ e, x = .returned (.tuple #[.string ⟨#[]⟩, e]) ∧ ErrIs w' S 3 129 0 e ∧ Below w.heap.size w w' := by
  have HZ := Lib.hid (fun w => vi_size_out n w hn)
  clear hn
  go_enter Tryz.func170, Tryz.ntmps170
  go_wp2_with fail
  refine (HZ.out _).mono ?_
  rintro x w1 ⟨rfl, hb⟩
  have hk := (h.later hb).kTooLarge
  go_wp2_with fail
  refine (vi_wrong S 3 0 _).mono ?_
  rintro x w2 ⟨e, rfl, he, hb2⟩
  go_wp2
  go_ret2
  exact ⟨_, rfl, he, hb.trans (hb2.mono hb.size)⟩

set_option maxRecDepth 100000 in
set_option maxHeartbeats 4000000 in
theorem vi_put_in (u : Nat) (w : World) (hu : u ≤ 268435455) :
    Calls Tryz.prog 170 #[.int .i64 u] w fun x w' => x = .returned (.tuple #[.string ⟨(vb u).toArray⟩, .nilIface]) ∧ Below w.heap.size w w' := by
  obtain ⟨i0, hi0, hz0, hz1, hz2⟩ := info_parts Tryz.byteInfo
  have h1 : (u : Int) ≤ 268435455 := by omega
  have HZ := Lib.hid (fun w => vi_size_in u w hu)
  have h4 := vb_len u hu
  obtain ⟨m, hm⟩ : ∃ m, m = (vb u).length := ⟨_, rfl⟩
  rw [← hm] at h4 HZ
  have HM := Lib.hid hm
  have hm0 : ((m : Int) == 0) = false := beq_eq_false_iff_ne.2 (by omega)
  obtain ⟨hm1, hm4⟩ := h4
  clear hm
  go_enter Tryz.func170, Tryz.ntmps170
  go_wp2_with fail
  refine (HZ.out _).mono ?_
  rintro x w1 ⟨rfl, hb1⟩
  have HB1 := Lib.hid hb1
  clear hb1
  go_wp2_with (refine wpList_make_own _ rfl _ _ 63 rfl w.heap.size 5 i0 (.int .u8 0) 1 Tryz.underlying63 hi0 hz0 hz1 .i64 .i64 (m : Int) m rfl rfl rfl (by rw [hz2]; omega) (by unfold maxLen; omega) HB1.out.size ?_)
  intro w2 hown hgrow
  have HO2 := Lib.hid hown
  have hb2 : Below w.heap.size w w2 := HB1.out.grown hgrow HB1.out.size (fun g hg => by cases hg)
  have HB2 := Lib.hid hb2
  clear hown hgrow hb2
  generalize w1.heap.size = gb at *
  go_wp2
  go_loopg [0, 5, 17] m (fun g x v i wr => ∃ j n : Nat, g = m - j ∧ j ≤ m ∧ x = .int .i64 n ∧ n ≤ u ∧ i = .int .i64 j ∧ v = .slice (some ⟨gb, 0, none⟩) j m ∧ Below w.heap.size w wr ∧ ∃ l : List UInt8, wr.ownsRow w.heap.size 5 1 v j (l.map byteV) ∧ l.length = j ∧ (j < m ∧ l ++ vb n = vb u ∨ j = m ∧ l = vb u))
  case atStart => exact ⟨0, u, rfl, Nat.zero_le _, rfl, Nat.le_refl _, rfl, rfl, HB2.out, [], HO2.out, rfl, .inl ⟨by omega, rfl⟩⟩
  case round =>
    obtain ⟨j, n, rfl, hj, rfl, hn, rfl, rfl, hb, l, hown, hlen, hl⟩ := hrel
    have HO := Lib.hid hown
    have HL := Lib.hid hl
    have HB := Lib.hid hb
    have HE := Lib.hid hlen
    clear hown hl hb hlen
    by_cases hlt : j < m
    · have hl : l ++ vb n = vb u := by
        rcases HL.out with ⟨_, h⟩ | ⟨h, _⟩
        · exact h
        · omega
      have hln : j + (vb n).length = m := by
        have := congrArg List.length hl
        rw [List.length_append, HE.out, ← HM.out] at this
        exact this
      have hnn : (n : Int) ≤ 268435455 := by omega
      by_cases hlast : j + 1 = m
      · have hs : n < 128 := by
          by_cases hs : n < 128
          · exact hs
          · rw [vb_big hs] at hln
            have := vb_len (n / 128) (by omega)
            simp at hln
            omega
        rw [vb_small hs] at hl
        have HF := Lib.hid hl
        have hmod : (n : Int) % 128 = n := by omega
        have hq : (n : Int) / 128 = 0 := by omega
        have hge : (m : Int) - 1 ≤ (j : Int) := by omega
        have hlt' : (j : Int) < (m : Int) := by omega
        have hjm : decide ((j : Int) < (m : Int) - 1) = false := by simp; omega
        have hlast' := Lib.hid hlast
        clear hl hln hlast
        go_wp2_with (at_builtin; refine wpList_append_fits _ rfl _ _ 63 rfl w.heap.size 5 i0 1 Tryz.underlying63 hi0 hz1 gb j m _ rfl (HO.out.alloc _) ⟨wr.heap.size, 0, none⟩ 1 1 [.int .u8 (n : Int)] rfl rfl ?c1 ?c2 ?c3 ?_)
        case c1 => exact cell_one_new _ _ _
        case c2 => simp [Value.oneCell']
        case c3 => omega
        intro w3 hown3 hgrow
        have hsz : w.heap.size ≤ wr.heap.size := HB.out.size
        have hb3 : Below w.heap.size w w3 := (HB.out.alloc hsz _).grown hgrow (by rw [World.size_alloc]; omega) (fun k hk => by cases hk; exact (HO.out.lt gb rfl).1)
        have hown4 : w3.ownsRow w.heap.size 5 1 (.slice (some ⟨gb, 0, none⟩) (j + 1) m) (j + 1) ((l ++ [UInt8.ofNat n]).map byteV) := by
          rw [List.map_append, List.map_singleton, byteV_ofNat (by omega)]; exact hown3
        have HO3 := Lib.hid hown4
        have HB3 := Lib.hid hb3
        clear hown3 hown4 hb3 hgrow
        go_wp2
        go_roundg (m - (j + 1))
        case rel => exact ⟨j + 1, 0, rfl, hlt, by go_num, Nat.zero_le _, by go_num, rfl, HB3.out, _, HO3.out, by rw [List.length_append, HE.out]; rfl, .inr ⟨hlast'.out, HF.out⟩⟩
        case measure => omega
      · have hs : ¬ n < 128 := by
          intro hs
          rw [vb_small hs] at hln
          simp at hln
          omega
        rw [vb_big hs] at hl
        have hl2 : (l ++ [UInt8.ofNat (n % 128 + 128)]) ++ vb (n / 128) = vb u := by rw [← hl]; simp
        have HF := Lib.hid hl2
        have hlt' : (j : Int) < (m : Int) := by omega
        have hjm : decide ((j : Int) < (m : Int) - 1) = true := by simp; omega
        have hjm2 : (j : Int) < (m : Int) - 1 := by omega
        clear hl hln hl2
        go_wp2_with (at_builtin; refine wpList_append_fits _ rfl _ _ 63 rfl w.heap.size 5 i0 1 Tryz.underlying63 hi0 hz1 gb j m _ rfl (HO.out.alloc _) ⟨wr.heap.size, 0, none⟩ 1 1 [.int .u8 ((n : Int) % 128 + 128)] rfl rfl ?c1 ?c2 ?c3 ?_)
        case c1 => exact cell_one_new _ _ _
        case c2 => simp [Value.oneCell']
        case c3 => omega
        intro w3 hown3 hgrow
        have hsz : w.heap.size ≤ wr.heap.size := HB.out.size
        have hb3 : Below w.heap.size w w3 := (HB.out.alloc hsz _).grown hgrow (by rw [World.size_alloc]; omega) (fun k hk => by cases hk; exact (HO.out.lt gb rfl).1)
        have hown4 : w3.ownsRow w.heap.size 5 1 (.slice (some ⟨gb, 0, none⟩) (j + 1) m) (j + 1) ((l ++ [UInt8.ofNat (n % 128 + 128)]).map byteV) := by
          rw [List.map_append, List.map_singleton, byteV_ofNat (by omega)]
          have e : ((n % 128 + 128 : Nat) : Int) = (n : Int) % 128 + 128 := by omega
          rw [e]; exact hown3
        have HO3 := Lib.hid hown4
        have HB3 := Lib.hid hb3
        clear hown3 hown4 hb3 hgrow
        go_wp2
        go_roundg (m - (j + 1))
        case rel => exact ⟨j + 1, n / 128, rfl, hlt, by go_num, by omega, by go_num, rfl, HB3.out, _, HO3.out, by rw [List.length_append, HE.out]; rfl, .inl ⟨by omega, HF.out⟩⟩
        case measure => omega
    · obtain rfl : j = m := by omega
      have hl : l = vb u := by
        rcases HL.out with ⟨h, _⟩ | ⟨_, h⟩
        · omega
        · exact h
      have hlen := HE.out
      have hown := HO.out
      have hconv := own_string (P := Tryz.prog) (src := 63) (dst := 9) (e := 5) Tryz.underlying63 Tryz.underlying5 Tryz.underlying9 hown
      rw [hl] at hconv
      clear hl hlen hown
      go_wp2
      go_ret2
      exact ⟨rfl, HB.out⟩
end Go.Proofs.YtbfbmdjnobdjpaaGreatDoor
