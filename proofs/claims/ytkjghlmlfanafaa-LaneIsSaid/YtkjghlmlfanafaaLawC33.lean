/- What is proved here: LaneIs answers true for every items, place and client. Condition: the argument is what a row says of it. -/
import Derived.Test.YtkjghlmlfanafaaRLan33
namespace Go.Proofs.Ytkjghlmlfanafaa
open Go.RowKit Go.Extern.Stop Go.Stop Go.Extern Go.Maps
section
variable {w : World} {A : Option Addr} {L : IL}
set_option maxHeartbeats 4000000 in
set_option maxRecDepth 100000 in
theorem laneIs_walk (A : Option Addr) (n c : Nat) (L : IL) (at_ : Int) (client : ByteArray) (w : World) (hnz : n ≤ maxLen) (ha : ItemsN w A n L) (_ : -9223372036854775808 ≤ at_ ∧ at_ ≤ 9223372036854775807) (_ : client.size ≤ maxLen) : Calls Try.prog 10 #[.slice A n c, .int .i64 at_, .string client] w fun x w' => x = .returned (.bool true) ∧ Below w.heap.size w w' := by
  unfold maxLen at hnz
  obtain ⟨hn, ha⟩ := ha
  have W1 := Lib.hid (few33_any n c ha hn hnz)
  have HA := Lib.hid ha
  have HN := Lib.hid hn
  have hend := fun (W : World) (hl : Ltr w W) => (awake33 W).mono fun x w' hx => show x = .returned (.bool true) ∧ Ltr w w' from ⟨hx.1, hl.next hx.2⟩
  have HEND := Lib.hid hend
  clear ha hn hend
  go_enter Try.func10, Try.ntmps10
  go_wp2_with fail
  refine W1.out.mono ?_
  rintro x w1 ⟨b, rfl, hb2, hb1⟩
  have HB1 := Lib.hid (show Ltr w w1 from hb1)
  clear W1 hb1
  cases b with
  | false =>
    clear hb2
    go_wp2_with fail
    refine (HEND.out _ HB1.out).mono ?_
    rintro x w9 ⟨rfl, hl9⟩
    have HL9 := Lib.hid hl9
    clear hl9
    go_wp2_with fail
    go_ret
    exact ⟨rfl, HL9.out⟩
  | true =>
    obtain ⟨hn20, hz⟩ := hb2 rfl
    have hn20' : n ≤ 20 := by have := HN.out; omega
    have HZ := Lib.hid (fun m hm => Nat.le_trans (hz m hm) (by omega : 200 ≤ 1000))
    clear hb2 hn20 hz
    by_cases hcl : 100 < client.size
    · go_wp2_with fail
      refine (HEND.out _ HB1.out).mono ?_
      rintro x w9 ⟨rfl, hl9⟩
      have HL9 := Lib.hid hl9
      clear hl9
      go_wp2_with fail
      go_ret
      exact ⟨rfl, HL9.out⟩
    · have hcl' : client.size ≤ 100 := by omega
      clear hcl
      go_wp2_with fail
      go_loopw [7] (fun i wr => ∃ k : Nat, k ≤ n ∧ i = .int .i64 k ∧ Ltr w wr) (fun i _ => n - (intOf i).toNat)
      case atStart => exact ⟨0, by omega, rfl, HB1.out⟩
      case round =>
        obtain ⟨k, hk, rfl, hbw⟩ := hrel
        have HBW := Lib.hid hbw
        clear hbw
        by_cases hlt : k < n
        · have hkL : k < L.length := by have := HN.out; omega
          obtain ⟨g1, off, rfl, hcc⟩ := HA.out.1 (by omega)
          have HCC := Lib.hid (fun W (hl : Ltr w W) => (hcc k hkL).at (Below.block hl g1 (lt_of_cell (hcc k hkL).c0)))
          have hsz : (L.getD k i0).topic.size ≤ 1000 := by
            refine HZ.out _ ?_
            rw [List.getD_eq_getElem?_getD, List.getElem?_eq_getElem hkL]
            exact List.getElem_mem _
          obtain ⟨m, hm'⟩ : ∃ m, m = L.getD k i0 := ⟨_, rfl⟩
          rw [← hm'] at HCC hsz
          have CO := Lib.hid (owner_lane (c := c) (HA.out.below HBW.out).1 n HN.out (by omega) HZ.out m.topic hsz)
          have CR := Lib.hid (fun W (hl : Ltr w W) => (rowner_lane (c := c) (HA.out.below hl).1 n HN.out (by omega) m.topic).mono fun x w' hx => show x = .returned (.tuple #[.string (ownS L m.topic).1, .bool (ownS L m.topic).2]) ∧ Ltr w w' from ⟨hx.1, by
            obtain ⟨d, e⟩ := hx.2
            rw [e]; exact below_drewN hl d⟩)
          have KS := Lib.hid (fun W (h : Ltr w W) => show W.cell? ⟨g1, off + k * 12, none⟩ = some (.string m.topic) ∧ W.cell? ⟨g1, off + k * 12 + 1, none⟩ = some (.string m.payload) ∧ W.cell? ⟨g1, off + k * 12 + 2, none⟩ = some (.int .i64 m.qos) ∧ W.cell? ⟨g1, off + k * 12 + 3, none⟩ = some (.bool m.retain) ∧ W.cell? ⟨g1, off + k * 12 + 4, none⟩ = some (.slice m.pa m.pn m.pc) ∧ W.cell? ⟨g1, off + k * 12 + 5, none⟩ = some (.string m.frm) ∧ W.cell? ⟨g1, off + k * 12 + 6, none⟩ = some (.int .i64 m.til) ∧ W.cell? ⟨g1, off + k * 12 + 7, none⟩ = some (.int .i64 m.seq) ∧ W.cell? ⟨g1, off + k * 12 + 8, none⟩ = some (.string m.grp) from by
            have h := HCC.out W h
            exact ⟨h.c0, h.c1, h.c2, h.c3, h.c4, h.c5, h.c6, h.c7, h.c8⟩)
          have DK := Lib.hid (fun W (h : Ltr w W) => (key_any m W).mono fun x w' hx => show x = .returned (.string m.topic) ∧ Ltr w w' from ⟨hx.1, h.next hx.2⟩)
          unfold IV.msg at DK
          clear hm' hcc hkL hsz HCC
          generalize ownS L m.topic = ow at *
          obtain ⟨os, ob⟩ := ow
          dsimp only at CO CR
          obtain ⟨s0, s1, s2, s3, s4, s5, s6, s7, s8⟩ := KS.out _ HBW.out
          go_wp2_with fail
          refine CO.out.mono ?_
          rintro x w2 ⟨rfl, hb2⟩
          have HB2 := Lib.hid (show Ltr w w2 from HBW.out.next hb2)
          clear hb2 CO s0 s1 s2 s3 s4 s5 s6 s7 s8
          obtain ⟨s0, s1, s2, s3, s4, s5, s6, s7, s8⟩ := KS.out _ HB2.out
          go_wp2_with fail
          refine (CR.out _ HB2.out).mono ?_
          rintro x w3 ⟨rfl, hl3⟩
          have HB3 := Lib.hid hl3
          clear hl3 CR s0 s1 s2 s3 s4 s5 s6 s7 s8
          go_upto_region 8 with fail
          have hJ : Ltr w w3 := HB3.out
          obtain ⟨s0, s1, s2, s3, s4, s5, s6, s7, s8⟩ := KS.out _ hJ
          have he1 : (os.toList == os.toList) = true := by rw [eq_text]; exact decide_eq_true rfl
          have he2 : (m.topic.toList == m.topic.toList) = true := by rw [eq_text]; exact decide_eq_true rfl
          go_region_held3 (fun W => W.cell? ⟨g1, off + k * 12, none⟩ = some (.string m.topic) ∧ W.cell? ⟨g1, off + k * 12 + 1, none⟩ = some (.string m.payload) ∧ W.cell? ⟨g1, off + k * 12 + 2, none⟩ = some (.int .i64 m.qos) ∧ W.cell? ⟨g1, off + k * 12 + 3, none⟩ = some (.bool m.retain) ∧ W.cell? ⟨g1, off + k * 12 + 4, none⟩ = some (.slice m.pa m.pn m.pc) ∧ W.cell? ⟨g1, off + k * 12 + 5, none⟩ = some (.string m.frm) ∧ W.cell? ⟨g1, off + k * 12 + 6, none⟩ = some (.int .i64 m.til) ∧ W.cell? ⟨g1, off + k * 12 + 7, none⟩ = some (.int .i64 m.seq) ∧ W.cell? ⟨g1, off + k * 12 + 8, none⟩ = some (.string m.grp))
            (first | assumption | (exact KS.out _ (by assumption)) | (exact KS.out _ (Ltr.drew (by assumption))))
            (first
              | (go_at_call 45; (with_reducible refine (DK.out _ ?_).mono ?_); (first | assumption | exact Ltr.drew (by assumption)); rintro x w6 ⟨rfl, hd6⟩))
          have HD := Lib.hid hd6
          clear hd6 hJ s0 s1 s2 s3 s4 s5 s6 s7 s8 he1 he2 KS DK
          go_wp2_with fail
          go_roundw
          case rel => exact ⟨k + 1, by omega, by go_num, HD.out⟩
          case measure => simp [intOf]; omega
        · have CH := Lib.hid (head_lane (c := c) (HA.out.below HBW.out).1 n HN.out (by omega) HZ.out)
          go_wp2_with fail
          refine CH.out.mono ?_
          rintro x w2 ⟨v2, rfl, hk2, hb2⟩
          obtain ⟨a2, c2, rfl⟩ := hk2.form
          have HB2 := Lib.hid (show Ltr w w2 from HBW.out.next hb2)
          have HK2 := Lib.hid hk2.rd
          have CRH := Lib.hid (rhead_lane (c := c) (HA.out.below HB2.out).1 n HN.out (by omega))
          have htl := headN_len L L.length
          have hT : (headN L L.length).length ≤ 900 := by have := HN.out; omega
          obtain ⟨nt, hnt⟩ : ∃ nt, nt = (headN L L.length).length := ⟨_, rfl⟩
          rw [← hnt]
          have HNT := Lib.hid hnt
          clear hk2 hb2 CH htl hnt
          go_wp2_with fail
          refine CRH.out.mono ?_
          rintro x w3 ⟨v3, rfl, hk3, hb3⟩
          obtain ⟨a3, c3, rfl⟩ := hk3.form
          have HB3 := Lib.hid (show Ltr w w3 from HB2.out.next hb3)
          have CSI := Lib.hid (sameints_any (HK2.out.below hb3) hk3.rd nt c2 c3 HNT.out (by have := HNT.out; omega))
          rw [← HNT.out]
          clear hk3 hb3 CRH hT
          go_wp2_with fail
          refine CSI.out.mono ?_
          rintro x w4 ⟨rfl, d4, rfl⟩
          have hb4 : Ltr w (w3.drewN d4) := below_drewN HB3.out d4
          generalize w3.drewN d4 = w4 at *
          have HB4 := Lib.hid hb4
          have CM := Lib.hid (may_lane (c := c) (HA.out.below HB4.out).1 n HN.out (by omega) at_ client)
          clear hb4 CSI
          go_wp2_with fail
          refine CM.out.mono ?_
          rintro x w5 ⟨rfl, hb5⟩
          have HB5 := Lib.hid (show Ltr w w5 from HB4.out.next hb5)
          have CRM := Lib.hid (rmay_lane (c := c) (HA.out.below HB5.out).1 n HN.out (by omega) at_ client)
          clear hb5 CM
          generalize mayB L at_ client = mb at *
          go_wp2_with fail
          refine CRM.out.mono ?_
          rintro x w6 ⟨rfl, d6, rfl⟩
          have hb6 : Ltr w (w5.drewN d6) := below_drewN HB5.out d6
          generalize w5.drewN d6 = w6 at *
          have HB6 := Lib.hid hb6
          have CS := Lib.hid (sound_lane (c := c) (HA.out.below HB6.out).1 n HN.out (by omega) HZ.out)
          clear hb6 CRM
          go_wp2_with fail
          refine CS.out.mono ?_
          rintro x w7 ⟨rfl, hb7⟩
          have HB7 := Lib.hid (show Ltr w w7 from HB6.out.next hb7)
          have CRS := Lib.hid (rsound_lane (c := c) (HA.out.below HB7.out).1 n HN.out (by omega))
          clear hb7 CS
          generalize sndB L = sb at *
          go_wp2_with fail
          refine CRS.out.mono ?_
          rintro x w8 ⟨rfl, d8, rfl⟩
          have HB8 := Lib.hid (show Ltr w (w7.drewN d8) from below_drewN HB7.out d8)
          generalize w7.drewN d8 = w8 at *
          clear CRS
          go_wp2_with fail
          refine (HEND.out _ HB8.out).mono ?_
          rintro x w9 ⟨rfl, hl9⟩
          have HL9 := Lib.hid hl9
          clear hl9
          go_wp2_with fail
          go_ret
          exact ⟨rfl, HL9.out⟩
end
end Go.Proofs.Ytkjghlmlfanafaa
