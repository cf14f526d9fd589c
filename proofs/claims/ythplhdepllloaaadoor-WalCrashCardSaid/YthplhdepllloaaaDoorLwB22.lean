/- What is proved here: the second statement of layer 22 answers true. Condition: what the rows list of the package's variables. -/
import Derived.Test.YthplhdepllloaaaDoorAwk22
namespace Go.Proofs.YthplhdepllloaaaDoor
set_option maxRecDepth 100000
open Go.RowKit Go.Extern.Stop Go.Stop Go.Extern
theorem SRd.below22 {w W : World} {A : Option Addr} {L : List ByteArray} (h : SRd w A L) (hb : Below w.heap.size w W) : SRd W A L := fun hp => by
  obtain ⟨g, off, h1, h2⟩ := h hp
  exact ⟨g, off, h1, fun k hk => (hb.cell (p := ⟨g, off + k, none⟩) (lt_of_cell (h2 k hk))).trans (h2 k hk)⟩
theorem frs_snoc {L : List ByteArray} {k : Nat} (hk : k < L.length) : frs (L.take (k + 1)) = frs (L.take k) ++ frW (L.getD k e0) := by
  rw [List.take_succ_eq_append_getElem hk, frs_app, List.getD_eq_getElem?_getD, List.getElem?_eq_getElem hk]
  show frs (L.take k) ++ (frW L[k] ++ []) = _
  rw [List.append_nil]
  rfl
theorem frs_mono {L : List ByteArray} {k : Nat} : (frs (L.take k)).length ≤ (frs L).length := by
  have h := frs_app (L.take k) (L.drop k)
  rw [List.take_append_drop] at h
  rw [h, List.length_append]
  omega
/-- How many bytes are sure behind so many records. -/
def suW (L : List ByteArray) (n k : Nat) : Nat := if n < k then (frs (L.take n)).length else 0
/-- What a crash leaves. -/
theorem crash_plain {L : List ByteArray} {n : Nat} {kp : Int} (hn : n ≤ L.length) (h64 : ∀ b ∈ L, b.size ≤ 65536) : ∃ (T : List ByteArray) (N kk : Nat) (lk : List UInt8), T = L.take T.length ∧ (∀ b ∈ T, b ∈ L) ∧ n ≤ T.length ∧ T.length ≤ L.length ∧ lk = (frs L).take kk ∧ kk = (frs (L.take n)).length + min kp.toNat ((frs L).length - (frs (L.take n)).length) ∧ ScR ⟨lk.toArray⟩ T 0 N ∧ lk.take N = frs T ∧ N = (frs T).length := by
  have hmo := frs_mono (L := L) (k := n)
  obtain ⟨m, tail, h1, h2, h3, h4⟩ := frs_cut L ((frs (L.take n)).length + min kp.toNat ((frs L).length - (frs (L.take n)).length)) h64 (by omega)
  have hlen : (L.take m).length = m := by rw [List.length_take]; omega
  refine ⟨L.take m, (frs (L.take m)).length, _, _, by rw [hlen], fun b hb => List.mem_of_mem_take hb, by rw [hlen]; exact h4 n hn (by omega), by rw [hlen]; exact h1, rfl, rfl, ?_, ?_, rfl⟩
  · exact scR_all h3 (fun b hb => h64 b (List.mem_of_mem_take hb)) h2
  · rw [h2]
    exact List.take_left
section
variable {w w' : World} {S : Nat → Addr}
set_option maxHeartbeats 16000000 in
theorem crash22 (S : Nat → Addr) (A : Option Addr) (m c : Nat) (L : List ByteArray) (sb : Nat) (kp : Int) (w : World) (h : EnvN w S) (hm : m = L.length) (hr : SRd w A L) (hs : sb < 256) (hk : -9223372036854775808 ≤ kp ∧ kp ≤ 9223372036854775807) (hf : few22 L = true) :
    Calls Tryd.prog 4 #[.slice A m c, .int .u8 sb, .int .i64 kp] w fun x w' => x = .returned (.bool true) ∧ Below w.heap.size w w' := by
  obtain ⟨h20, h200⟩ := few22_ok hf
  have h64 : ∀ b ∈ L, b.size ≤ 65536 := fun b hb => by have := h200 b hb; omega
  have hfl := frs_len L h200
  have hm20 : m ≤ 20 := by omega
  have HFW := Lib.hid (few22_any hr m c hm (by omega))
  rw [hf] at HFW
  obtain ⟨n, hn⟩ : ∃ n, n = sb % (m + 1) := ⟨_, rfl⟩
  have hnm : n ≤ m := by rw [hn]; have := Nat.mod_lt sb (show 0 < m + 1 by omega); omega
  have hni : (sb : Int) % ((m : Int) + 1) = (n : Int) := by rw [hn]; rfl
  have HN := Lib.hid h
  have HM := Lib.hid hm
  have HR := Lib.hid hr
  have HKP := Lib.hid hk
  have H200 := Lib.hid h200
  have H64 := Lib.hid h64
  have HFL := Lib.hid hfl
  have HNM := Lib.hid hnm
  have HMK := Lib.hid (DkZ.made w 1048576 (by decide))
  obtain ⟨g, hg⟩ : ∃ g, g = w.heap.size := ⟨_, rfl⟩
  obtain ⟨W1, hW1⟩ : ∃ W, W = w.alloc (.cells #[.slice none 0 0, .int .i64 0, .int .i64 (1048576 : Nat)] 79) := ⟨_, rfl⟩
  have HD := Lib.hid (disk_new (w := w) 1048576 (by decide))
  rw [show ((1048576 : Int).toNat : Nat) = 1048576 from rfl, ← hW1] at HD
  rw [← hW1] at HMK
  rw [← hg] at HD
  have h1 := HMK.out
  rw [← hg] at h1
  have HOP := Lib.hid (lopen_any h.env h1 (by decide) scR_nil)
  clear h hr hk h200 h64 hfl hf hn hg hW1 h1 HMK hm h20
  go_enter Tryd.func4, Tryd.ntmps4
  go_wp2_with fail
  refine HFW.out.mono ?_
  rintro x wf ⟨rfl, rfl⟩
  clear HFW
  go_wp2_with fail
  refine HD.out.mono ?_
  rintro x w1 ⟨rfl, rfl⟩
  clear HD
  go_wp2_with fail
  refine HOP.out.mono ?_
  rintro x w2 ⟨lg, rfl, h2⟩
  have HL2 := Lib.hid h2
  clear h2 HOP
  go_wp2_with fail
  rw [hni]
  clear hni
  go_loopw [10] (fun i wr => ∃ k : Nat, k ≤ m ∧ i = .int .i64 k ∧ LgZ w wr lg g (frs (L.take k)) (suW L n k) 1048576) (fun i _ => m - (intOf i).toNat)
  case atStart => exact ⟨0, Nat.zero_le _, rfl, HL2.out⟩
  case round =>
    obtain ⟨k, hk, rfl, hlg⟩ := hrel
    have HLG := Lib.hid hlg
    clear hlg HL2
    by_cases hlt : k < m
    · have hmL := HM.out
      obtain ⟨ga, off, rfl, hc⟩ := HR.out (by omega)
      obtain ⟨x, hx⟩ : ∃ x, x = L.getD k e0 := ⟨_, rfl⟩
      have hxs : x.size ≤ 200 := by
        rw [hx, List.getD_eq_getElem?_getD, List.getElem?_eq_getElem (show k < L.length by omega)]
        exact H200.out _ (List.getElem_mem _)
      have hc0 := hc k (by omega)
      rw [← hx] at hc0
      have HC := Lib.hid (fun (W : World) (hb : Below w.heap.size w W) => (hb.cell (p := ⟨ga, off + k, none⟩) (lt_of_cell hc0)).trans hc0)
      have hsn := frs_snoc (L := L) (k := k) (by omega)
      rw [← hx] at hsn
      have HSN := Lib.hid hsn
      have HXS := Lib.hid hxs
      have hll : (frs (L.take k)).length ≤ 4160 := by
        have h1 := frs_mono (L := L) (k := k)
        have h2 := HFL.out
        omega
      have HLL := Lib.hid hll
      clear hc hx hxs hc0 hsn hll hmL
      by_cases hkn : k = n
      case' pos =>
        subst hkn
        have HSY := Lib.hid (lsync_any HLG.out)
        go_wp2_with fail
        refine HSY.out.mono ?_
        rintro x2 w3 ⟨rfl, h3, _⟩
        have HL3 := Lib.hid (show LgZ w w3 lg g (frs (L.take k)) (suW L k (k + 1)) 1048576 from by
          rw [show suW L k (k + 1) = (frs (L.take k)).length from by unfold suW; rw [if_pos (by omega)]]
          exact h3)
        clear h3 HSY HLG
      case' neg =>
        obtain ⟨w3, hw3⟩ : ∃ X, X = wr := ⟨_, rfl⟩
        have HL3 := Lib.hid (show LgZ w w3 lg g (frs (L.take k)) (suW L n (k + 1)) 1048576 from by
          rw [hw3, show suW L n (k + 1) = suW L n k from by
            unfold suW
            by_cases h1 : n < k
            · rw [if_pos h1, if_pos (by omega)]
            · rw [if_neg h1, if_neg (by omega)]]
          exact HLG.out)
        rw [← hw3]
        have hki : ¬ (k : Int) = (n : Int) := by omega
        clear HLG hw3
      all_goals
        have e1 := HC.out w3 HL3.out.dk.bel
        have HAP := Lib.hid (lappend_ok HN.out.env HL3.out x (by have := HXS.out; omega) (by have := HXS.out; have := HLL.out; omega) (by have := HLL.out; omega))
        go_wp2_with fail
        refine HAP.out.mono ?_
        rintro x4 w4 ⟨rfl, h4⟩
        rw [← HSN.out] at h4
        have HL4 := Lib.hid h4
        clear h4 HAP HL3 e1
        go_wp2_with fail
        go_roundw
        case rel => exact ⟨k + 1, by omega, by go_num, HL4.out⟩
        case measure => simp [intOf]; omega
    · obtain rfl : m = k := by omega
      have HFN := Lib.hid (show L.take m = L from List.take_of_length_le (by have := HM.out; omega))
      have hlg := HLG.out
      rw [HFN.out] at hlg
      have HLG2 := Lib.hid hlg
      clear hlg hlt HLG
      by_cases hkn : n = m
      case' pos =>
        subst hkn
        have HSY := Lib.hid (lsync_any HLG2.out)
        go_wp2_with fail
        refine HSY.out.mono ?_
        rintro x2 w3 ⟨rfl, h3, _⟩
        have HL3 := Lib.hid (show LgZ w w3 lg g (frs L) (frs (L.take n)).length 1048576 from by
          rw [HFN.out]
          exact h3)
        clear h3 HSY HLG2
      case' neg =>
        obtain ⟨w3, hw3⟩ : ∃ X, X = wr := ⟨_, rfl⟩
        have HL3 := Lib.hid (show LgZ w w3 lg g (frs L) (frs (L.take n)).length 1048576 from by
          rw [hw3, show (frs (L.take n)).length = suW L n m from by
            unfold suW
            rw [if_pos (by have := HNM.out; omega)]]
          exact HLG2.out)
        rw [← hw3]
        have hki : ¬ (n : Int) = (m : Int) := by omega
        clear HLG2 hw3
      all_goals
        have HCR := Lib.hid (dcrash_in HL3.out.dk kp HKP.out (by have := HFL.out; have := HM.out; omega))
        go_wp2_with fail
        refine HCR.out.mono ?_
        rintro x4 w4 ⟨rfl, h4⟩
        obtain ⟨T, N, kk, lk, hT, hsub, hnT, hTm, hlk, hkk, hS, htk, hN⟩ := crash_plain (L := L) (n := n) (kp := kp) (by have := HM.out; have := HNM.out; omega) H64.out
        rw [← hkk, ← hlk] at h4
        have hlkl : lk.length ≤ 7800 := by
          rw [hlk, List.length_take]
          have := HFL.out
          have := HM.out
          omega
        have e2 : lk.length = kk := by
          rw [hlk, List.length_take, hkk]
          have := frs_mono (L := L) (k := n)
          omega
        rw [← e2] at h4
        have HOP := Lib.hid (lopen_any HN.out.env h4 (by omega) hS)
        rw [htk] at HOP
        have HT := Lib.hid hT
        have HNT := Lib.hid hnT
        have HNE := Lib.hid hN
        have HLKL := Lib.hid (show N ≤ 7800 by have := (scR_le hS (Nat.zero_le _)).2.1; rw [bsize] at this; omega)
        have HTM := Lib.hid hTm
        have HTS := Lib.hid (show ∀ b ∈ T, b.size ≤ 65536 from fun b hb => H64.out b (hsub b hb))
        clear h4 hT hsub hnT hTm hlk hkk hS htk hN hlkl e2 HCR HL3
        go_wp2_with fail
        refine HOP.out.mono ?_
        rintro x5 w5 ⟨l2, rfl, h5⟩
        have HL5 := Lib.hid h5
        have hall : ScR ⟨(frs T).toArray⟩ T 0 N := by
          rw [HNE.out]
          exact scR_all (tail := []) (fun t ht => nx_empty ht) HTS.out (by rw [List.append_nil])
        have HALL := Lib.hid hall
        have HRC := Lib.hid (lrecords_any HN.out.env h5 (by rw [← HNE.out]; have := HLKL.out; omega) hall)
        obtain ⟨mm, hmm⟩ : ∃ mm, mm = T.length := ⟨_, rfl⟩
        rw [← hmm] at HRC
        have HMM := Lib.hid hmm
        clear h5 hall hmm HOP
        go_wp2_with fail
        refine HRC.out.mono ?_
        rintro x6 w6 ⟨a6, c6, rfl, hr6, hb6⟩
        have HL6 := Lib.hid (HL5.out.below hb6)
        have hrd := hr6.rd
        have HBG := Lib.hid (begins22 (A := a6) (A2 := A) (L := L) mm c6 _ c (by rw [HMM.out, ← HT.out]; exact hrd) (HR.out.below22 HL6.out.dk.bel) (by have := HMM.out; have := HTM.out; have := HM.out; omega) HM.out (by omega))
        clear hr6 hb6 hrd HRC HL5
        go_wp2_with fail
        refine HBG.out.mono ?_
        rintro x7 w7 ⟨rfl, d7, rfl⟩
        have HL7 := Lib.hid (HL6.out.drewN d7)
        have hnm : ¬ (mm : Int) < (n : Int) := by have := HMM.out; have := HNT.out; omega
        have HSU := Lib.hid (lsure_any HN.out.env HL7.out (by rw [← HNE.out]; have := HLKL.out; omega) (L := T) (n := N) (by rw [List.take_of_length_le (by rw [← HNE.out]; exact Nat.le_refl _)]; exact HALL.out))
        rw [← HMM.out] at HSU
        clear HBG HL6
        go_wp2_with fail
        refine HSU.out.mono ?_
        rintro x8 w8 ⟨rfl, h8⟩
        have HL8 := Lib.hid h8
        have HWA := Lib.hid (lwaits_any h8 false (by rw [← HNE.out]; simp))
        clear h8 HSU HL7
        go_wp2_with fail
        refine HWA.out.mono ?_
        rintro x9 w9 ⟨rfl, h9⟩
        have HAP := Lib.hid (lappend_ok HN.out.env h9.is more22 (by decide) (by rw [← HNE.out]; have := HLKL.out; have : more22.size = 4 := rfl; omega) (by rw [← HNE.out]; have := HLKL.out; omega))
        clear h9 HWA HL8 hnm
        go_wp2_with fail
        refine HAP.out.mono ?_
        rintro xa wa ⟨rfl, ha⟩
        have hall2 : ScR ⟨(frs T ++ frW more22).toArray⟩ (T ++ [more22]) 0 (frs (T ++ [more22])).length := by
          refine scR_all (tail := []) (fun t ht => nx_empty ht) (fun b hb => ?_) ?_
          · rcases List.mem_append.1 hb with hb | hb
            · exact HTS.out b hb
            · rw [List.mem_singleton] at hb
              rw [hb]
              decide
          · rw [frs_app]
            show frs T ++ frW more22 = (frs T ++ (frW more22 ++ [])) ++ []
            rw [List.append_nil, List.append_nil]
        have HLA := Lib.hid ha
        have HRC := Lib.hid (lrecords_any HN.out.env ha (by rw [List.length_append, frW_len, ← HNE.out]; have h1 := HLKL.out; have h2 : more22.size = 4 := rfl; omega) hall2)
        have HML := Lib.hid (show (T ++ [more22]).length = mm + 1 by rw [List.length_append, HMM.out]; rfl)
        obtain ⟨m1, hm1⟩ : ∃ m1, m1 = mm + 1 := ⟨_, rfl⟩
        rw [HML.out, ← hm1] at HRC
        have HM1 := Lib.hid (show (m1 : Int) = (mm : Int) + 1 by omega)
        clear ha hall2 HAP hm1
        go_wp2_with fail
        refine HRC.out.mono ?_
        rintro xb wb ⟨ab, cb, rfl, _, hbb⟩
        have HLB := Lib.hid (HLA.out.below hbb).dk.bel
        have HAW := Lib.hid (awake22 (HN.out.later HLB.out))
        have e1 := HM1.out
        have hmb : mm ≤ 20 := by have := HMM.out; have := HTM.out; have := HM.out; omega
        clear hbb HRC HLA
        go_wp2_with fail
        refine HAW.out.mono ?_
        rintro xc wc ⟨rfl, hbc⟩
        have HX := Lib.hid (HLB.out.trans (hbc.mono HLB.out.size))
        clear hbc HAW
        go_wp2_with fail
        go_ret
        exact ⟨rfl, HX.out⟩
set_option maxHeartbeats 4000000 in
theorem walCrash_walk (S : Nat → Addr) (A : Option Addr) (m c : Nat) (L : List ByteArray) (b k : Int) (w : World) (h : EnvN w S) (wa : m ≤ maxLen) (xa : StrsOf w A m L) (wb : (Lit.int .u8 b).wf = true) (wc : (Lit.int .i64 k).wf = true) :
    Calls Tryd.prog 4 #[.slice A m c, .int .u8 b, .int .i64 k] w fun x w' => x = .returned (.bool true) ∧ Below w.heap.size w w' := by
  obtain ⟨hm, hr⟩ := xa
  have hb' : 0 ≤ b ∧ b ≤ 255 := by simpa [Lit.wf, IntKind.min, IntKind.max, IntKind.signed, IntKind.bits] using wb
  have hk' : -9223372036854775808 ≤ k ∧ k ≤ 9223372036854775807 := by simpa [Lit.wf, IntKind.min, IntKind.max, IntKind.signed, IntKind.bits] using wc
  obtain ⟨sb, rfl⟩ := Int.eq_ofNat_of_zero_le hb'.1
  unfold maxLen at wa
  rcases hf : few22 L with _ | _
  · have HFW := Lib.hid (few22_any hr m c hm (by omega))
    rw [hf] at HFW
    have HA := Lib.hid (awake22 h)
    clear h hr hm hf wb wc hk' hb'
    go_enter Tryd.func4, Tryd.ntmps4
    go_wp2_with fail
    refine HFW.out.mono ?_
    rintro x wf ⟨rfl, rfl⟩
    clear HFW
    go_wp2_with fail
    refine HA.out.mono ?_
    rintro x w1 ⟨rfl, hb⟩
    have HX := Lib.hid hb
    clear hb HA
    go_wp2_with fail
    go_ret
    exact ⟨rfl, HX.out⟩
  · exact crash22 S A m c L sb k w h hm hr (by omega) hk' hf
end
end Go.Proofs.YthplhdepllloaaaDoor
