/- What is proved here: the first statement of layer 22 answers true. Condition: what the rows list of the package's variables. -/
import Derived.Test.YthplhdepllloaaaDoorAwk22
import Derived.Test.YthplhdepllloaaaDoorRes22
namespace Go.Proofs.YthplhdepllloaaaDoor
set_option maxRecDepth 100000
open Go.RowKit Go.Extern.Stop Go.Stop Go.Extern
section
variable {w w' : World} {S : Nat → Addr}
set_option maxHeartbeats 8000000 in
theorem walScans_walk (S : Nat → Addr) (a b : ByteArray) (w : World) (h : EnvN w S) (wa : a.size ≤ maxLen) (wb : b.size ≤ maxLen) : Calls Tryd.prog 3 #[.string a, .string b] w fun x w' => x = .returned (.bool true) ∧ Below w.heap.size w w' := by
  unfold maxLen at wa wb
  by_cases ha : 200 < a.size
  · have HA := Lib.hid (awake22 h)
    clear h wb
    go_enter Tryd.func3, Tryd.ntmps3
    go_wp2_with fail
    refine HA.out.mono ?_
    rintro x w1 ⟨rfl, hb⟩
    have HX := Lib.hid hb
    clear hb HA
    go_wp2_with fail
    go_ret
    exact ⟨rfl, HX.out⟩
  · by_cases hb : 1024 < b.size
    · have HA := Lib.hid (awake22 h)
      clear h
      go_enter Tryd.func3, Tryd.ntmps3
      go_wp2_with fail
      refine HA.out.mono ?_
      rintro x w1 ⟨rfl, hb⟩
      have HX := Lib.hid hb
      clear hb HA
      go_wp2_with fail
      go_ret
      exact ⟨rfl, HX.out⟩
    · obtain ⟨L, n, hL⟩ := scR_ex b (b.size + 1) 0 (Nat.zero_le _) (by omega)
      have hl8 := scR_len8 hL (Nat.zero_le _)
      have HN := Lib.hid h
      have HS1 := Lib.hid (scan_any h.env (by omega) hL)
      have HS2 := Lib.hid (refscan_any (by omega) hL)
      have HAZ := Lib.hid (show a.size ≤ 9000 by omega)
      obtain ⟨k, hk⟩ : ∃ k, k = L.length := ⟨_, rfl⟩
      have HK := Lib.hid (show k = L.length ∧ k ≤ 10000 by omega)
      rw [← hk] at HS1 HS2
      clear h hL hl8 hk
      go_enter Tryd.func3, Tryd.ntmps3
      go_wp2_with fail
      refine HS1.out.mono ?_
      rintro x w1 ⟨a1, c1, rfl, hr1, hb1⟩
      have HR1 := Lib.hid hr1
      have HB1 := Lib.hid hb1
      have HS3 := Lib.hid (HS2.out w1)
      clear hr1 hb1 HS1 HS2
      go_wp2_with fail
      refine HS3.out.mono ?_
      rintro x w2 ⟨a2, c2, rfl, hr2, hb2⟩
      have HR1' := Lib.hid (HR1.out.below hb2)
      have HR2 := Lib.hid hr2
      have HB2 := Lib.hid (HB1.out.trans (hb2.mono HB1.out.size))
      have HP := Lib.hid (wput_any (HN.out.env.later HB2.out) a HAZ.out)
      obtain ⟨fb, hfb⟩ : ∃ t : ByteArray, t = ⟨(frW a).toArray⟩ := ⟨_, rfl⟩
      rw [← hfb] at HP
      have HFB := Lib.hid hfb
      clear hr2 hb2 HS3 HR1 HB1 hfb
      go_wp2_with fail
      refine HP.out.mono ?_
      rintro x w3 ⟨rfl, hb3⟩
      have HR3 := Lib.hid (HR1'.out.below hb3)
      have HR4 := Lib.hid (HR2.out.below hb3)
      have HB3 := Lib.hid (HB2.out.trans (hb3.mono HB2.out.size))
      have HP2 := Lib.hid (refput_any a HAZ.out w3)
      rw [← HFB.out] at HP2
      clear hb3 HP HR1' HR2 HB2
      go_wp2_with fail
      refine HP2.out.mono ?_
      rintro x w4 ⟨rfl, hb4⟩
      have HB4 := Lib.hid (HB3.out.trans (hb4.mono HB3.out.size))
      have hra := (HR3.out.below hb4)
      have hrb := (HR4.out.below hb4)
      have HTS := Lib.hid (tsame22 hra.rd hrb.rd k c1 c2 HK.out.1 HK.out.2)
      clear hb4 hra hrb HP2 HR3 HR4 HB3
      go_wp2_with fail
      refine HTS.out.mono ?_
      rintro x w5 ⟨rfl, d, rfl⟩
      have HB5 := Lib.hid (below_drewN HB4.out d)
      have HA := Lib.hid (awake22 (HN.out.later HB5.out))
      clear HTS HB4
      go_wp2_with fail
      refine HA.out.mono ?_
      rintro x w6 ⟨rfl, hb6⟩
      have HX := Lib.hid (HB5.out.trans (hb6.mono HB5.out.size))
      clear hb6 HA
      go_wp2_with fail
      go_ret
      exact ⟨rfl, HX.out⟩
end
end Go.Proofs.YthplhdepllloaaaDoor
