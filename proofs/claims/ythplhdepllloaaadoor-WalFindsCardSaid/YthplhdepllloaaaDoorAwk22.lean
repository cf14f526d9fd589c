/- What is proved here: what the statements of layer 22 hold awake. Condition: what the rows list of the package's variables. -/
import Derived.Test.YthplhdepllloaaaDoorLoj22
import Derived.Test.YthplhdepllloaaaDoorTsm22
namespace Go.Proofs.YthplhdepllloaaaDoor
set_option maxRecDepth 100000
open Go.RowKit Go.Extern.Stop Go.Stop Go.Extern
def abc22 : ByteArray := ⟨#[97, 98, 99]⟩
def more22 : ByteArray := ⟨#[109, 111, 114, 101]⟩
theorem new_disk (w : World) (B n : Nat) (hn : (n : Int) ≤ 9223372036854775807) : IsDisk (w.alloc (.cells #[.slice none 0 0, .int .i64 0, .int .i64 n] 79)) B w.heap.size none [] 0 n :=
  ⟨⟨_, Blk.made w 79 _, .inl ⟨rfl, rfl⟩, rfl⟩, Nat.le_refl _, Nat.zero_le _, hn⟩
theorem DkZ.made (w : World) (n : Nat) (hn : (n : Int) ≤ 9223372036854775807) : DkZ w (w.alloc (.cells #[.slice none 0 0, .int .i64 0, .int .i64 n] 79)) w.heap.size [] 0 n :=
  ⟨⟨none, new_disk w _ n hn⟩, (Below.refl _ _).alloc (Nat.le_refl _) _, Nat.le_refl _⟩
theorem scR_nil : ScR ⟨([] : List UInt8).toArray⟩ [] 0 0 := ⟨rfl, nx_empty rfl⟩
theorem scR_one (b : ByteArray) (hb : b.size ≤ 65536) {s : ByteArray} (hs : s.data.toList = frW b) : ScR s [b] 0 (8 + b.size) := by
  have h := scR_all (s := s) (L := [b]) (tail := []) (fun t ht => nx_empty ht) (fun c hc => by rw [List.mem_singleton] at hc; rw [hc]; exact hb) (by rw [hs]; simp [frs])
  have e : (frs [b]).length = 8 + b.size := by
    show (frW b ++ []).length = _
    rw [List.append_nil, frW_len]
  rw [e] at h
  exact h
theorem nx_tiny {t : ByteArray} (h : t.size < 8) : nxW t = none := by
  have hne : ¬ ((nxB t).2.no = 0 ∧ (nxS t).1 = crcW (nxB t).1) := by
    rintro ⟨hh, _⟩
    obtain ⟨k1, k2, k3, _⟩ := take_no hh
    obtain ⟨k5, k6, k7, _⟩ := take_no (t := t) (n := 4) (R := (nxN t).2) k1
    obtain ⟨_, k8, k9, _⟩ := take_no (t := t) (n := 4) (R := r00) k5
    have e1 : (nxN t).2 = ⟨4, 0, 0⟩ := k9
    rw [e1] at k6
    have : (4 : Nat) + 4 ≤ t.size := k6
    omega
  unfold nxW
  rw [if_neg hne]
  split <;> rfl
theorem scR_tail (b : ByteArray) (hb : b.size ≤ 65536) {s : ByteArray} {tail : List UInt8} (ht : tail.length < 8) (hs : s.data.toList = frW b ++ tail) : ScR s [b] 0 (8 + b.size) := by
  have h := scR_all (s := s) (L := [b]) (tail := tail) (fun t h => nx_tiny (by rw [slen h]; exact ht)) (fun c hc => by rw [List.mem_singleton] at hc; rw [hc]; exact hb) (by rw [hs]; simp [frs])
  have e : (frs [b]).length = 8 + b.size := by
    show (frW b ++ []).length = _
    rw [List.append_nil, frW_len]
  rw [e] at h
  exact h
section
variable {z w w' : World} {S : Nat → Addr}
theorem wput_len (hE : Env w S) (b : ByteArray) (hb : b.size ≤ 9000) : Calls Tryd.prog 11 #[.string b] w fun x w' => ∃ t : ByteArray, (x = .returned (.string t) ∧ t.size = 8 + b.size) ∧ Below w.heap.size w w' :=
  (wput_any hE b hb).mono fun x w' hx => ⟨_, ⟨hx.1, by rw [bsize, frW_len]⟩, hx.2⟩
theorem full22 (hN : EnvN w S) {e : Value} (he : ErrOf w S 151 5 0 e) : Calls Tryd.prog 31 #[e] w fun x w' => x = .returned (.bool true) ∧ Below w.heap.size w w' := by
  have HNU := Lib.hid (number_of hN he)
  have HRE := Lib.hid (fun (W1 : World) (hb : Below w.heap.size w W1) => reason_err (hN.env.later hb) ((he.later hb).is (by decide)))
  have HAT := Lib.hid (fun (W1 : World) (hb : Below w.heap.size w W1) => at_err (hN.env.later hb) ((he.later hb).is (by decide)))
  clear hN he
  go_enter Tryd.func31, Tryd.ntmps31
  go_wp2_with fail
  refine HNU.out.mono ?_
  rintro x w1 ⟨rfl, hb1⟩
  have HB1 := Lib.hid hb1
  have HRE1 := Lib.hid (HRE.out w1 hb1)
  clear hb1 HNU HRE
  go_wp2_with fail
  refine HRE1.out.mono ?_
  rintro x w2 ⟨rfl, hb2⟩
  have hb2' := HB1.out.trans (hb2.mono HB1.out.size)
  have HB2 := Lib.hid hb2'
  have HAT1 := Lib.hid (HAT.out w2 hb2')
  clear hb2 hb2' HRE1 HAT
  go_wp2_with fail
  refine HAT1.out.mono ?_
  rintro x w3 ⟨rfl, hb3⟩
  have HB3 := Lib.hid (HB2.out.trans (hb3.mono HB2.out.size))
  clear hb3 HAT1
  go_wp2_with fail
  go_ret
  exact ⟨rfl, HB3.out⟩
set_option maxHeartbeats 16000000 in
theorem awake22 (hN : EnvN w S) : Calls Tryd.prog 8 #[] w fun x w' => x = .returned (.bool true) ∧ Below w.heap.size w w' := by
  have HN := Lib.hid hN
  have HM := Lib.hid (DkZ.made w 20 (by decide))
  obtain ⟨g, hg⟩ : ∃ g, g = w.heap.size := ⟨_, rfl⟩
  obtain ⟨W1, hW1⟩ : ∃ W, W = w.alloc (.cells #[.slice none 0 0, .int .i64 0, .int .i64 (20 : Nat)] 79) := ⟨_, rfl⟩
  have HD := Lib.hid (disk_new (w := w) 20 (by decide))
  rw [show ((20 : Int).toNat : Nat) = 20 from rfl, ← hW1] at HD
  rw [← hW1] at HM
  rw [← hg] at HD
  have h1 := HM.out
  rw [← hg] at h1
  have HOP := Lib.hid (lopen_any hN.env h1 (by decide) scR_nil)
  clear hN hg hW1 h1 HM
  go_enter Tryd.func8, Tryd.ntmps8
  go_wp2_with fail
  refine HD.out.mono ?_
  rintro x w1 ⟨rfl, rfl⟩
  clear HD
  go_wp2_with fail
  refine HOP.out.mono ?_
  rintro x w2 ⟨lg, rfl, h2⟩
  have HA := Lib.hid (lappend_ok HN.out.env h2 abc22 (by decide) (by decide) (by decide))
  clear h2 HOP
  go_wp2_with fail
  refine HA.out.mono ?_
  rintro x w3 ⟨rfl, h3⟩
  rw [show ([] : List UInt8).take 0 ++ frW abc22 = frW abc22 from rfl] at h3
  have hf : (frW abc22).length = 11 := by rw [frW_len]; rfl
  have HA2 := Lib.hid (lappend_no HN.out h3 more22 (by decide) (by rw [hf]; decide) (by rw [hf]; decide))
  have HFL := Lib.hid hf
  clear h3 hf HA
  go_wp2_with fail
  refine HA2.out.mono ?_
  rintro x w4 ⟨e4, rfl, he4, h4⟩
  have HE4 := Lib.hid he4
  have HL4 := Lib.hid h4
  have HWA := Lib.hid (lwaits_any h4 true (by rw [HFL.out]; rfl))
  obtain ⟨te, ue, rfl⟩ := err_iface he4 (by decide)
  clear he4 h4 HA2
  go_wp2_with fail
  refine HWA.out.mono ?_
  rintro x w5 ⟨rfl, h5⟩
  have HE5 := Lib.hid (HE4.out.later h5.bel0)
  have HL5 := Lib.hid h5.is
  have HSY := Lib.hid (lsync_any h5.is)
  clear h5 HWA HE4 HL4
  go_wp2_with fail
  refine HSY.out.mono ?_
  rintro x w6 ⟨rfl, h6, he6⟩
  rw [HFL.out] at h6
  have HE6 := Lib.hid (he6 _ _ _ _ _ HE5.out)
  have HL6 := Lib.hid h6
  have HPU := Lib.hid (wput_any (HN.out.env.later h6.dk.bel) abc22 (by decide))
  clear h6 he6 HSY HE5 HL5
  obtain ⟨fb, hfb⟩ : ∃ t : ByteArray, t = ⟨(frW abc22).toArray⟩ := ⟨_, rfl⟩
  rw [← hfb] at HPU
  obtain ⟨c1, hc1, ec1, zc1⟩ := cat_run fb ⟨#[120]⟩ (by rw [hfb, bsize, HFL.out]; decide)
  have hsc : ScR c1 [abc22] 0 11 := scR_tail abc22 (by decide) (tail := [120]) (by decide) (by rw [ec1, hfb]; simp)
  have HSC := Lib.hid (fun (W : World) (hE : Env W S) => scan_any hE (show c1.size ≤ 7900 by rw [zc1, hfb, bsize, HFL.out]; decide) hsc)
  clear hfb ec1 zc1 hsc
  go_wp2_with fail
  refine HPU.out.mono ?_
  rintro x w7 ⟨rfl, hb7⟩
  have HE7 := Lib.hid (HE6.out.later hb7)
  have HL7 := Lib.hid (HL6.out.below hb7)
  have HS7 := Lib.hid (HSC.out w7 (HN.out.env.later HL7.out.dk.bel))
  clear hb7 HPU HE6 HL6 HSC
  go_wp2_with fail
  refine HS7.out.mono ?_
  rintro x w8 ⟨a8, c8, rfl, hr8, hb8⟩
  simp only [List.length_singleton]
  have HE8 := Lib.hid (HE7.out.later hb8)
  have HL8 := Lib.hid (HL7.out.below hb8)
  have HFU := Lib.hid (full22 (HN.out.later HL8.out.dk.bel) HE8.out)
  clear hb8 hr8 HE7 HL7 HS7 hc1
  go_wp2_with fail
  refine HFU.out.mono ?_
  rintro x w9 ⟨rfl, hb9⟩
  have HL9 := Lib.hid (HL8.out.below hb9)
  have HWA := Lib.hid (lwaits_any HL9.out false (by rw [HFL.out]; rfl))
  clear hb9 HE8 HL8 HFU
  go_wp2_with fail
  refine HWA.out.mono ?_
  rintro x wA ⟨rfl, hA⟩
  have HLA := Lib.hid hA.is
  have hone : ScR ⟨((frW abc22).take 11).toArray⟩ [abc22] 0 11 := scR_one abc22 (by decide) (by
    show (frW abc22).take 11 = _
    rw [List.take_of_length_le (by rw [HFL.out]; decide)])
  have HSU := Lib.hid (lsure_any HN.out.env HLA.out (by rw [HFL.out]; decide) hone)
  clear hA HL9 HWA hone
  go_wp2_with fail
  refine HSU.out.mono ?_
  rintro x wB ⟨rfl, hB⟩
  have HLB := Lib.hid hB
  have HRC := Lib.hid (lrecords_any HN.out.env hB (by rw [HFL.out]; decide) (scR_one abc22 (by decide) (s := ⟨(frW abc22).toArray⟩) rfl))
  clear hB HLA HSU
  simp only [List.length_singleton]
  go_wp2_with fail
  refine HRC.out.mono ?_
  rintro x wC ⟨aC, cC, rfl, hrC, hbC⟩
  simp only [List.length_singleton] at hrC ⊢
  have HLC := Lib.hid (HLB.out.below hbC)
  have hbD : Below wC.heap.size wC (wC.alloc (.cells #[.string ⟨#[97, 98, 99]⟩] 9)) := (Below.refl _ _).alloc (Nat.le_refl _) _
  have HLD := Lib.hid (HLC.out.below hbD)
  have hr1 : SRd (wC.alloc (.cells #[.string ⟨#[97, 98, 99]⟩] 9)) aC [abc22] := (hrC.below hbD).rd
  have hr2 : SRd (wC.alloc (.cells #[.string ⟨#[97, 98, 99]⟩] 9)) (some ⟨wC.heap.size, 0, none⟩) [abc22] := fun _ => ⟨_, 0, rfl, fun k hk => by
    have : k = 0 := by simpa using hk
    subst this
    exact (Blk.made wC 9 #[.string ⟨#[97, 98, 99]⟩]).cell 0⟩
  have HTS := Lib.hid (tsame22 hr1 hr2 1 cC 1 rfl (by decide))
  clear hrC hbC hbD hr1 hr2 HRC HLB HLC
  go_wp2_with fail
  refine HTS.out.mono ?_
  rintro x wD ⟨rfl, d, rfl⟩
  have HLE := Lib.hid (HLD.out.drewN d)
  have HPE := Lib.hid (wput_len (HN.out.env.later HLE.out.dk.bel) ⟨#[]⟩ (by decide))
  clear HTS HLD
  go_wp2_with fail
  refine HPE.out.mono ?_
  rintro x wE ⟨t, ⟨rfl, ht⟩, hbE⟩
  have HBE := Lib.hid (HLE.out.below hbE).dk.bel
  replace ht : t.size = 8 := ht
  clear hbE HPE HLE
  go_wp2_with fail
  go_ret
  exact ⟨rfl, HBE.out⟩
end
end Go.Proofs.YthplhdepllloaaaDoor
