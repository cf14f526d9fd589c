/- What is proved here: the third statement of layer 22 answers true: where up to 32 bits of a record that follow one another differ, the scan ends ahead of it. Condition: what the rows list of the package's variables. -/
import Derived.Test.YthplhdepllloaaaDoorFnd22
import Derived.Test.YthplhdepllloaaaDoorArr22
import Derived.Deep.DeepCutAuto
namespace Go.Proofs.YthplhdepllloaaaDoor
set_option maxRecDepth 100000
open Go.RowKit Go.Extern.Stop Go.Stop Go.Extern
theorem SRd.far22 {w W : World} {A : Option Addr} {L : List ByteArray} (h : SRd w A L) (hb : Below w.heap.size w W) : SRd W A L := fun hp => by
  obtain ⟨g, off, h1, h2⟩ := h hp
  exact ⟨g, off, h1, fun k hk => (hb.cell (p := ⟨g, off + k, none⟩) (lt_of_cell (h2 k hk))).trans (h2 k hk)⟩
theorem SRd.take22 {w : World} {A : Option Addr} {L : List ByteArray} (h : SRd w A L) (k : Nat) : SRd w A (L.take k) := fun hp => by
  rw [List.length_take] at hp
  obtain ⟨g, off, h1, h2⟩ := h (by omega)
  refine ⟨g, off, h1, fun j hj => ?_⟩
  rw [List.length_take] at hj
  rw [h2 j (by omega), List.getD_eq_getElem?_getD, List.getD_eq_getElem?_getD, List.getElem?_take, if_pos (by omega)]
theorem frs_step {L : List ByteArray} {k : Nat} (hk : k < L.length) : frs (L.take (k + 1)) = frs (L.take k) ++ frW (L.getD k e0) := by
  rw [List.take_succ_eq_append_getElem hk, frs_app, List.getD_eq_getElem?_getD, List.getElem?_eq_getElem hk]
  show frs (L.take k) ++ (frW L[k] ++ []) = _
  rw [List.append_nil]
  rfl
theorem frs_le {L : List ByteArray} {k : Nat} : (frs (L.take k)).length ≤ (frs L).length := by
  have h := frs_app (L.take k) (L.drop k)
  rw [List.take_append_drop] at h
  rw [h, List.length_append]
  omega
section
variable {w w' : World} {S : Nat → Addr}
set_option maxHeartbeats 16000000 in
theorem finds22 (S : Nat → Addr) (A : Option Addr) (m c : Nat) (L : List ByteArray) (a0 a1 bt k : Nat) (w : World) (h : EnvN w S) (hm : m = L.length) (hmc : m ≤ c) (hr : SRd w A L) (h0 : a0 < 65536) (h1 : a1 < 65536) (hb : bt < 4294967296) (hb0 : bt ≠ 0) (hf : few22 L = true) (hp : 0 < m) (hk : k = a0 % m) (hx4 : 4 ≤ (L.getD k e0).size) :
    Calls Tryd.prog 5 #[.slice A m c, .agg #[.int .u16 a0, .int .u16 a1], .int .u32 bt] w fun x w' => x = .returned (.bool true) ∧ Below w.heap.size w w' := by
  obtain ⟨h20, h200⟩ := few22_ok hf
  have h64 : ∀ b ∈ L, b.size ≤ 65536 := fun b hb => by have := h200 b hb; omega
  have hfl := frs_len L h200
  have hkm : k < m := by rw [hk]; exact Nat.mod_lt _ hp
  obtain ⟨W1, hW1⟩ : ∃ W, W = w.alloc (.cells #[.int .u16 a0, .int .u16 a1] 42) := ⟨_, rfl⟩
  have b1 : Below w.heap.size w W1 := by rw [hW1]; exact (Below.refl _ _).alloc (Nat.le_refl _) _
  have kb : Blk W1 w.heap.size 42 #[.int .u16 a0, .int .u16 a1] := by rw [hW1]; exact Blk.made _ _ _
  have hr1 := hr.far22 b1
  have HFW := Lib.hid (few22_any hr1 m c hm (by omega))
  rw [hf] at HFW
  have hki : (a0 : Int) % (m : Int) = (k : Int) := by rw [hk]; rfl
  have hmz : ((m : Int) == 0) = false := by rw [beq_eq_false_iff_ne]; omega
  have hbz : ((bt : Int) == 0) = false := by rw [beq_eq_false_iff_ne]; omega
  obtain ⟨ga, off, rfl, hc⟩ := hr1 (by omega)
  obtain ⟨x, hx⟩ : ∃ x, x = L.getD k e0 := ⟨_, rfl⟩
  have hxk := hc k (by omega)
  rw [← hx] at hxk hx4
  have hxs : x.size ≤ 200 := by
    rw [hx, List.getD_eq_getElem?_getD, List.getElem?_eq_getElem (show k < L.length by omega)]
    exact h200 _ (List.getElem_mem _)
  obtain ⟨j, hj⟩ : ∃ j, j = a1 % (x.size - 3) := ⟨_, rfl⟩
  have hj3 : j < x.size - 3 := by rw [hj]; exact Nat.mod_lt _ (by omega)
  have hji : (a1 : Int) % ((x.size : Int) - 3) = (j : Int) := by
    rw [hj, show (x.size : Int) - 3 = ((x.size - 3 : Nat) : Int) by omega]
    rfl
  obtain ⟨pl, ql, xf, hpl, hsp, hsc⟩ := finds_plain (L := L) (k := k) (j := j) (by omega) h64 (by rw [← hx]; omega)
  obtain ⟨F, hF⟩ : ∃ F, F = (frs (L.take k)).length := ⟨_, rfl⟩
  have hFl : F ≤ (frs L).length := by rw [hF]; exact frs_le
  rw [← hF] at hpl
  have c0 : W1.cell? ⟨w.heap.size, 0, none⟩ = some (.int .u16 a0) := kb.cell 0
  have HN := Lib.hid h
  have HM := Lib.hid hm
  have HB1 := Lib.hid b1
  have HKB := Lib.hid kb
  have HR1 := Lib.hid hr1
  have HC := Lib.hid hc
  have H200 := Lib.hid h200
  have HX := Lib.hid hx
  have HSP := Lib.hid hsp
  have HSC := Lib.hid (hsc bt hb0 hb)
  have HF := Lib.hid hF
  have HJI := Lib.hid hji
  have HPL := Lib.hid hpl
  have HW1 := Lib.hid hW1
  have hlt4 : ¬ (x.size : Int) < 4 := by omega
  have hsl : (frs L).length ≤ 4160 := by omega
  have hm20 : m ≤ 20 := by omega
  have HFL := Lib.hid hFl
  have HJ3 := Lib.hid hj3
  clear h hr hb0 hf hk hW1 b1 kb hr1 hc h200 h64 hfl hx hj hsp hsc hF hji hpl hm hFl
  go_enter Tryd.func5, Tryd.ntmps5
  go_upto_region 1 with fail
  rw [← HW1.out]
  go_wp2_with fail
  refine HFW.out.mono ?_
  rintro x1 wf ⟨rfl, rfl⟩
  clear HFW
  go_wp2_with fail
  rw [hki]
  clear hki hmz hbz c0 hxk hlt4
  go_loopw [8, 9, 10] (fun u f iv wr => ∃ (i : Nat) (sv : ByteArray) (fv : Int), u = .string sv ∧ f = .int .i64 fv ∧ iv = .int .i64 i ∧ i ≤ m ∧ Hid (sv.data.toList = frs (L.take i) ∧ (k < i → fv = (F : Int) + 8) ∧ Below W1.heap.size W1 wr)) (fun _ _ iv _ => m - (intOf iv).toNat)
  case atStart => exact ⟨0, ⟨#[]⟩, 0, rfl, rfl, rfl, Nat.zero_le _, Lib.hid ⟨rfl, fun hh => absurd hh (Nat.not_lt_zero _), Below.refl _ _⟩⟩
  case round =>
    obtain ⟨i, sv, fv, rfl, rfl, rfl, him, HI⟩ := hrel
    by_cases hlt : i < m
    · obtain ⟨y, hy⟩ : ∃ y, y = L.getD i e0 := ⟨_, rfl⟩
      have hmL := HM.out
      have hys : y.size ≤ 200 := by
        rw [hy, List.getD_eq_getElem?_getD, List.getElem?_eq_getElem (show i < L.length by omega)]
        exact H200.out _ (List.getElem_mem _)
      have hyc := HC.out i (by omega)
      rw [← hy] at hyc
      have hyw := (HI.out.2.2.cell (p := ⟨ga, off + i, none⟩) (lt_of_cell hyc)).trans hyc
      have hst := frs_step (L := L) (k := i) (by omega)
      rw [← hy] at hst
      have hsz : sv.size ≤ 4160 := by
        have h1 := frs_le (L := L) (k := i)
        rw [← HI.out.1] at h1
        have h2 : sv.data.toList.length = sv.size := by rw [Array.length_toList]; rfl
        omega
      have HST := Lib.hid hst
      have HP := Lib.hid (wput_any (HN.out.env.later (HB1.out.trans (HI.out.2.2.mono HB1.out.size))) y (by omega))
      obtain ⟨t, ht⟩ : ∃ t : ByteArray, t = ⟨(frW y).toArray⟩ := ⟨_, rfl⟩
      rw [← ht] at HP
      have HT := Lib.hid ht
      have HTZ := Lib.hid (show t.size ≤ 208 by rw [ht, bsize, frW_len]; omega)
      clear hy hys hyc hst ht hmL
      by_cases hik : i = k
      case' pos =>
        have hfv : Hid (k < i + 1 → (sv.size : Int) + 8 = (F : Int) + 8) := Lib.hid fun _ => by
          have h1 := HI.out.1
          have h2 : sv.data.toList.length = sv.size := by rw [Array.length_toList]; rfl
          rw [hik, ] at h1
          rw [h1, ← HF.out] at h2
          omega
        have HIK := Lib.hid hik
        have hike : ((i : Int) == (k : Int)) = true := by rw [hik]; exact beq_self_eq_true _
        clear hik
      case' neg =>
        have hfv : Hid (k < i + 1 → fv = (F : Int) + 8) := Lib.hid fun hh => HI.out.2.1 (by omega)
        have hike : ((i : Int) == (k : Int)) = false := by rw [beq_eq_false_iff_ne]; omega
        clear hik
      all_goals
        go_wp2_with fail
        refine HP.out.mono ?_
        rintro x2 w2 ⟨rfl, hb2⟩
        have HX2 := Lib.hid (show (sv ++ t).data.toList = frs (L.take (i + 1)) from by
          rw [HST.out, HT.out, ← HI.out.1]
          simp)
        have HB2 := Lib.hid (HI.out.2.2.trans (hb2.mono HI.out.2.2.size))
        have hno : ¬ 9223372036854775807 < sv.size + t.size := by have := HTZ.out; omega
        clear hb2 HP hyw
        go_wp2_with fail
        go_roundw
        case rel => exact ⟨i + 1, sv ++ t, _, rfl, rfl, by go_num, by omega, Lib.hid ⟨HX2.out, hfv.out, HB2.out⟩⟩
        case measure => simp [intOf]; omega
    · obtain rfl : m = i := by omega
      have hI := HI.out
      rw [show L.take m = L from List.take_of_length_le (by have := HM.out; omega)] at hI
      obtain ⟨hsv, hfv, hbw⟩ := hI
      have hfv := hfv hkm
      have hsz : sv.size ≤ 4160 := by
        have h2 : sv.data.toList.length = sv.size := by rw [Array.length_toList]; rfl
        rw [hsv] at h2
        omega
      have hszp : sv.size = pl.length + ql.length + 4 := by
        have h2 : sv.data.toList.length = sv.size := by rw [Array.length_toList]; rfl
        rw [hsv, HSP.out] at h2
        rw [← h2]
        simp
        omega
      have hF2 : F ≤ 4160 := by have := HFL.out; omega
      obtain ⟨pp, hpp⟩ : ∃ pp, pp = pl.length := ⟨_, rfl⟩
      have hpj : (F : Int) + 8 + (j : Int) = (pp : Int) := by have := HPL.out; omega
      have c1 : wr.cell? ⟨w.heap.size, 1, none⟩ = some (.int .u16 a1) := (hbw.cell (p := ⟨w.heap.size, 1, none⟩) (lt_of_cell (HKB.out.cell 1))).trans (HKB.out.cell 1)
      have hxk := HC.out k (by have := HM.out; omega)
      rw [← HX.out] at hxk
      have hxw := (hbw.cell (p := ⟨ga, off + k, none⟩) (lt_of_cell hxk)).trans hxk
      have hji := HJI.out
      have hpp2 : pp + 4 ≤ sv.size := by omega
      subst hfv
      have HSV := Lib.hid hsv
      have HBW := Lib.hid hbw
      have HPP := Lib.hid hpp
      have HSZ := Lib.hid hszp
      have HPJ := Lib.hid hpj
      clear hlt HI hsv hbw hpp hxk hszp hpj
      go_upto_region 13 with fail
      go_region
      rw [HPJ.out]
      have hbd : Below W1.heap.size W1 wr.drew := HBW.out.drew
      clear HBW c1 hxw hji
      generalize wr.drew = wd at *
      have hconv := Lib.run_convert_string_bytes (P := Tryd.prog) wd 9 44 5 sv Tryd.underlying9 Tryd.underlying44 Tryd.underlying5
      have hrow := BR22.made wd sv
      rw [HSV.out, HSP.out] at hrow
      have hge := hbd.size
      have HRW := Lib.hid (show BR22 (Lib.bytesWorld wd 5 sv) wd.heap.size (modL pl ql xf (yOf bt xf) 0) from hrow)
      have HBD := Lib.hid (hbd.trans ((bytes_below22 wd sv).mono hge))
      have HGE := Lib.hid hge
      clear hrow hbd hge
      generalize Lib.bytesWorld wd 5 sv = w1 at *
      generalize grownCap wd sv.size 0 5 = cap at *
      obtain ⟨gb, hgb⟩ : ∃ gb, gb = wd.heap.size := ⟨_, rfl⟩
      rw [← hgb] at hconv HRW HGE
      clear hgb
      go_wp2_with fail
      clear hconv
      go_loopw [13] (fun iv wr => ∃ jj : Nat, jj ≤ 4 ∧ iv = .int .i64 jj ∧ Hid (BR22 wr gb (modL pl ql xf (yOf bt xf) jj) ∧ Below W1.heap.size W1 wr)) (fun iv _ => 4 - (intOf iv).toNat)
      case atStart => exact ⟨0, by omega, rfl, Lib.hid ⟨HRW.out, HBD.out⟩⟩
      case round =>
        obtain ⟨jj, hjj, rfl, HH⟩ := hrel
        by_cases hlt : jj < 4
        · obtain ⟨hrow, hb2⟩ := HH.out
          have hc := hrow.cell (pp + jj) (by rw [modL_len]; have := HPP.out; omega)
          have hfz := hrow.frozen (pp + jj) (by rw [modL_len]; have := HPP.out; omega)
          have hst := hrow.set (pp + jj) (by rw [modL_len]; have := HPP.out; omega) (yOf bt xf jj)
          have e : pp + jj = pl.length + jj := by rw [HPP.out]
          simp only [e] at hc hfz hst
          rw [modL_set pl ql xf _ jj hlt] at hst
          rw [modL_at pl ql xf _ jj hlt] at hc
          simp only [← e] at hc hfz hst
          have HR2 := Lib.hid hst
          have HB2 := Lib.hid hb2
          clear hrow hst hb2 e HH
          rcases (show jj = 0 ∨ jj = 1 ∨ jj = 2 ∨ jj = 3 by omega) with rfl | rfl | rfl | rfl
          · have HV := Lib.hid (xor8_0 bt xf)
            rw [Nat.add_zero] at hc hfz HR2
            go_wp2_with fail
            go_region
            rw [HV.out]
            go_wp2_with fail
            go_roundw
            case rel => exact ⟨1, by omega, by go_num, Lib.hid ⟨HR2.out, (HB2.out.setCell HGE.out _).drew⟩⟩
            case measure => simp [intOf]
          · have HV := Lib.hid (xor8_1 bt xf)
            go_wp2_with fail
            go_region
            rw [HV.out]
            go_wp2_with fail
            go_roundw
            case rel => exact ⟨2, by omega, by go_num, Lib.hid ⟨HR2.out, (HB2.out.setCell HGE.out _).drew⟩⟩
            case measure => simp [intOf]
          · have HV := Lib.hid (xor8_2 bt xf)
            go_wp2_with fail
            go_region
            rw [HV.out]
            go_wp2_with fail
            go_roundw
            case rel => exact ⟨3, by omega, by go_num, Lib.hid ⟨HR2.out, (HB2.out.setCell HGE.out _).drew⟩⟩
            case measure => simp [intOf]
          · have HV := Lib.hid (xor8_3 bt xf hb)
            go_wp2_with fail
            go_region
            rw [HV.out]
            go_wp2_with fail
            go_roundw
            case rel => exact ⟨4, by omega, by go_num, Lib.hid ⟨HR2.out, (HB2.out.setCell HGE.out _).drew⟩⟩
            case measure => simp [intOf]
        · obtain rfl : jj = 4 := by omega
          obtain ⟨hrow, hb2⟩ := HH.out
          have hlen : (modL pl ql xf (yOf bt xf) 4).length = sv.size := by rw [modL_len, HSZ.out]
          have hback := run_convert_bytes_back (P := Tryd.prog) wr 44 9 5 ⟨gb, 0, none⟩ cap (modL pl ql xf (yOf bt xf) 4) Tryd.underlying44 Tryd.underlying5 Tryd.underlying9 (fun j hj => by
            rw [Addr.add_lit, Nat.zero_add]
            exact hrow.cell j hj)
          rw [hlen] at hback
          have hsc := HSC.out
          rw [← HF.out] at hsc
          have hzt : (⟨(modL pl ql xf (yOf bt xf) 4).toArray⟩ : ByteArray).size ≤ 7900 := by rw [bsize, hlen]; omega
          have hlk : (L.take k).length = k := by rw [List.length_take]; have := HM.out; omega
          have hsn := scan_any (HN.out.env.later (HB1.out.trans (hb2.mono HB1.out.size))) hzt hsc
          rw [hlk] at hsn
          have HSN := Lib.hid hsn
          have HB2 := Lib.hid hb2
          have HLK := Lib.hid hlk
          have hkc : k ≤ c := by omega
          clear hrow hb2 hlen hsc hzt hlk hsn HH
          generalize (⟨(modL pl ql xf (yOf bt xf) 4).toArray⟩ : ByteArray) = t at *
          go_wp2_with fail
          refine HSN.out.mono ?_
          rintro x3 w3 ⟨a3, c3, rfl, hr3, hb3⟩
          have HB3 := Lib.hid (HB2.out.trans (hb3.mono HB2.out.size))
          have HTS := Lib.hid (tsame22 (A := a3) (A2 := some ⟨ga, off, none⟩) hr3.rd ((HR1.out.far22 HB3.out).take22 k) k c3 c HLK.out.symm (by omega))
          clear hback hr3 hb3 HSN
          go_wp2_with fail
          refine HTS.out.mono ?_
          rintro x4 w4 ⟨rfl, d4, rfl⟩
          have HB4 := Lib.hid (HB1.out.trans (((HB3.out).trans ((below_drewN (Below.refl _ _) d4).mono HB3.out.size)).mono HB1.out.size))
          have HAW := Lib.hid (awake22 (HN.out.later HB4.out))
          clear HTS
          go_wp2_with fail
          refine HAW.out.mono ?_
          rintro x5 w5 ⟨rfl, hb5⟩
          have HX5 := Lib.hid (HB4.out.trans (hb5.mono HB4.out.size))
          clear hb5 HAW
          go_wp2_with fail
          go_ret
          exact ⟨rfl, HX5.out⟩
set_option maxHeartbeats 8000000 in
theorem finds22_no (S : Nat → Addr) (A : Option Addr) (m c : Nat) (L : List ByteArray) (a0 a1 bt : Nat) (w : World) (h : EnvN w S) (hm : m = L.length) (hmx : m ≤ 9223372036854775807) (hr : SRd w A L) (h0 : a0 < 65536) (hb : bt < 4294967296)
    (hc : few22 L = false ∨ (few22 L = true ∧ m = 0) ∨ (few22 L = true ∧ 0 < m ∧ bt = 0) ∨ (few22 L = true ∧ 0 < m ∧ bt ≠ 0 ∧ (L.getD (a0 % m) e0).size < 4)) :
    Calls Tryd.prog 5 #[.slice A m c, .agg #[.int .u16 a0, .int .u16 a1], .int .u32 bt] w fun x w' => x = .returned (.bool true) ∧ Below w.heap.size w w' := by
  obtain ⟨W1, hW1⟩ : ∃ W, W = w.alloc (.cells #[.int .u16 a0, .int .u16 a1] 42) := ⟨_, rfl⟩
  have b1 : Below w.heap.size w W1 := by rw [hW1]; exact (Below.refl _ _).alloc (Nat.le_refl _) _
  have kb : Blk W1 w.heap.size 42 #[.int .u16 a0, .int .u16 a1] := by rw [hW1]; exact Blk.made _ _ _
  have HFW := Lib.hid (few22_any (hr.far22 b1) m c hm hmx)
  have HA := Lib.hid (awake22 (h.later b1))
  have HB1 := Lib.hid b1
  have HW1 := Lib.hid hW1
  have hr1 := hr.far22 b1
  rcases hc with hf | ⟨hf, rfl⟩ | ⟨hf, hp, rfl⟩ | ⟨hf, hp, hb0, hx4⟩
  · rw [hf] at HFW
    clear h hr b1 kb hW1 hm hr1 hf
    go_enter Tryd.func5, Tryd.ntmps5
    go_upto_region 1 with fail
    rw [← HW1.out]
    go_wp2_with fail
    refine HFW.out.mono ?_
    rintro x wf ⟨rfl, rfl⟩
    clear HFW
    go_wp2_with fail
    refine HA.out.mono ?_
    rintro x w1 ⟨rfl, hb⟩
    have HX := Lib.hid (HB1.out.trans (hb.mono HB1.out.size))
    clear hb HA
    go_wp2_with fail
    go_ret
    exact ⟨rfl, HX.out⟩
  · rw [hf] at HFW
    clear h hr b1 kb hW1 hm hr1 hf
    go_enter Tryd.func5, Tryd.ntmps5
    go_upto_region 1 with fail
    rw [← HW1.out]
    go_wp2_with fail
    refine HFW.out.mono ?_
    rintro x wf ⟨rfl, rfl⟩
    clear HFW
    go_wp2_with fail
    refine HA.out.mono ?_
    rintro x w1 ⟨rfl, hb⟩
    have HX := Lib.hid (HB1.out.trans (hb.mono HB1.out.size))
    clear hb HA
    go_wp2_with fail
    go_ret
    exact ⟨rfl, HX.out⟩
  · rw [hf] at HFW
    have hmz : ((m : Int) == 0) = false := by rw [beq_eq_false_iff_ne]; omega
    clear h hr b1 kb hW1 hm hr1 hf
    go_enter Tryd.func5, Tryd.ntmps5
    go_upto_region 1 with fail
    rw [← HW1.out]
    go_wp2_with fail
    refine HFW.out.mono ?_
    rintro x wf ⟨rfl, rfl⟩
    clear HFW
    go_wp2_with fail
    refine HA.out.mono ?_
    rintro x w1 ⟨rfl, hb⟩
    have HX := Lib.hid (HB1.out.trans (hb.mono HB1.out.size))
    clear hb HA
    go_wp2_with fail
    go_ret
    exact ⟨rfl, HX.out⟩
  · rw [hf] at HFW
    have hkm : a0 % m < m := Nat.mod_lt _ hp
    have hki : (a0 : Int) % (m : Int) = ((a0 % m : Nat) : Int) := rfl
    have hmz : ((m : Int) == 0) = false := by rw [beq_eq_false_iff_ne]; omega
    have hbz : ((bt : Int) == 0) = false := by rw [beq_eq_false_iff_ne]; omega
    obtain ⟨k, hk⟩ : ∃ k, k = a0 % m := ⟨_, rfl⟩
    rw [← hk] at hkm hki hx4
    obtain ⟨ga, off, rfl, hc⟩ := hr1 (by omega)
    obtain ⟨x, hx⟩ : ∃ x, x = L.getD k e0 := ⟨_, rfl⟩
    have hxk := hc k (by omega)
    rw [← hx] at hxk hx4
    have c0 : W1.cell? ⟨w.heap.size, 0, none⟩ = some (.int .u16 a0) := kb.cell 0
    have hlt4 : (x.size : Int) < 4 := by omega
    clear h hr b1 kb hW1 hm hr1 hf hc hx hk hb0
    go_enter Tryd.func5, Tryd.ntmps5
    go_upto_region 1 with fail
    rw [← HW1.out]
    go_wp2_with fail
    refine HFW.out.mono ?_
    rintro x wf ⟨rfl, rfl⟩
    clear HFW
    go_wp2_with fail
    refine HA.out.mono ?_
    rintro x w1 ⟨rfl, hb⟩
    have HX := Lib.hid (HB1.out.trans (hb.mono HB1.out.size))
    clear hb HA
    go_wp2_with fail
    go_ret
    exact ⟨rfl, HX.out⟩
set_option maxHeartbeats 4000000 in
theorem walFinds_walk (S : Nat → Addr) (A : Option Addr) (m c : Nat) (L : List ByteArray) (a0 a1 b : Int) (w : World) (h : EnvN w S) (wa : m ≤ maxLen) (xa : StrsOf w A m L ∧ m ≤ c) (wb0 : (Lit.int .u16 a0).wf = true) (wb1 : (Lit.int .u16 a1).wf = true) (wc : (Lit.int .u32 b).wf = true) :
    Calls Tryd.prog 5 #[.slice A m c, .agg #[.int .u16 a0, .int .u16 a1], .int .u32 b] w fun x w' => x = .returned (.bool true) ∧ Below w.heap.size w w' := by
  obtain ⟨⟨hm, hr⟩, hmc⟩ := xa
  have h0 : 0 ≤ a0 ∧ a0 ≤ 65535 := by simpa [Lit.wf, IntKind.min, IntKind.max, IntKind.signed, IntKind.bits] using wb0
  have h1 : 0 ≤ a1 ∧ a1 ≤ 65535 := by simpa [Lit.wf, IntKind.min, IntKind.max, IntKind.signed, IntKind.bits] using wb1
  have h2 : 0 ≤ b ∧ b ≤ 4294967295 := by simpa [Lit.wf, IntKind.min, IntKind.max, IntKind.signed, IntKind.bits] using wc
  obtain ⟨a0, rfl⟩ := Int.eq_ofNat_of_zero_le h0.1
  obtain ⟨a1, rfl⟩ := Int.eq_ofNat_of_zero_le h1.1
  obtain ⟨b, rfl⟩ := Int.eq_ofNat_of_zero_le h2.1
  unfold maxLen at wa
  rcases hf : few22 L with _ | _
  · exact finds22_no S A m c L a0 a1 b w h hm (by omega) hr (by omega) (by omega) (.inl hf)
  · by_cases hp : m = 0
    · exact finds22_no S A m c L a0 a1 b w h hm (by omega) hr (by omega) (by omega) (.inr (.inl ⟨hf, hp⟩))
    · by_cases hb : b = 0
      · exact finds22_no S A m c L a0 a1 b w h hm (by omega) hr (by omega) (by omega) (.inr (.inr (.inl ⟨hf, by omega, hb⟩)))
      · by_cases hx : (L.getD (a0 % m) e0).size < 4
        · exact finds22_no S A m c L a0 a1 b w h hm (by omega) hr (by omega) (by omega) (.inr (.inr (.inr ⟨hf, by omega, hb, hx⟩)))
        · exact finds22 S A m c L a0 a1 b _ w h hm hmc hr (by omega) (by omega) (by omega) hb hf (by omega) rfl (by omega)
end
end Go.Proofs.YthplhdepllloaaaDoor
