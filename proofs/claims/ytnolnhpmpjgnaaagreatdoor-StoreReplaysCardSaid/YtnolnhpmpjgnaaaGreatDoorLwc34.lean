/- What is proved here: what any records come to, and what is rewritten, is the document's (StoreReplays' walk). Conditions: what the rows list of the package's variables. -/
import Derived.Test.YtnolnhpmpjgnaaaGreatDoorAwk34
import Derived.Test.YtnolnhpmpjgnaaaGreatDoorRrp34
import Derived.Test.YtnolnhpmpjgnaaaGreatDoorRwr34
import Derived.Test.YtnolnhpmpjgnaaaGreatDoorTsm22
namespace Go.Proofs.YtnolnhpmpjgnaaaGreatDoor
set_option maxRecDepth 100000
open Go.RowKit Go.Extern.Stop Go.Stop Go.Extern
def MsS (m : MV) : Prop := m.topic.size ≤ 200 ∧ m.payload.size ≤ 200 ∧ m.frm.size ≤ 100 ∧ m.grp.size ≤ 200 ∧ SmallP m.props
theorem MsS.op {m : MV} (h : MsS m) : SmallO (opG m) := ⟨Nat.le_trans h.2.2.2.1 (by decide), Nat.le_trans h.1 (by decide), Nat.le_trans h.2.1 (by decide), Nat.le_trans h.2.2.1 (by decide), h.2.2.2.2⟩
set_option maxHeartbeats 16000000 in
theorem storeReplays_walk (S : Nat → Addr) (A : Option Addr) (m c : Nat) (L : List ByteArray) (A2 : Option Addr) (m2 c2 : Nat) (Q : QL) (last : Int) (w : World) (h : Env w S) (wa : m ≤ maxLen) (xa : StrsOf w A m L) (wb : m2 ≤ maxLen) (xb : MsgsN w A2 m2 Q) (_wc : (Lit.int .i64 last).wf = true) :
    Calls Tryz.prog 4 #[.slice A m c, .slice A2 m2 c2, .int .i64 last] w fun x w' => x = .returned (.bool true) ∧ Below w.heap.size w w' := by
  obtain ⟨hm, hr⟩ := xa
  obtain ⟨hm2, hr2, hq2⟩ := xb
  unfold maxLen at wa wb
  have HE := Lib.hid h
  have HS := Lib.hid hr
  have HN := Lib.hid hm
  have HS2 := Lib.hid hr2
  have HN2 := Lib.hid hm2
  have HQ2 := Lib.hid hq2
  have HA := Lib.hid (awake34 h)
  clear h hr hm hr2 hm2 hq2
  by_cases h20 : 20 < m
  · go_enter Tryz.func4, Tryz.ntmps4
    go_wp2_with fail
    refine HA.out.mono ?_
    rintro x wz ⟨rfl, hb⟩
    have HX := Lib.hid hb
    clear hb HA
    go_wp2_with fail
    go_ret
    exact ⟨rfl, HX.out⟩
  by_cases h12 : 12 < m2
  · go_enter Tryz.func4, Tryz.ntmps4
    go_wp2_with fail
    refine HA.out.mono ?_
    rintro x wz ⟨rfl, hb⟩
    have HX := Lib.hid hb
    clear hb HA
    go_wp2_with fail
    go_ret
    exact ⟨rfl, HX.out⟩
  have hm20 : m ≤ 20 := by omega
  have hm12 : m2 ≤ 12 := by omega
  clear wa wb h20 h12
  go_enter Tryz.func4, Tryz.ntmps4
  go_wp2_with fail
  go_loop [7] (fun i => ∃ k : Nat, k ≤ m ∧ i = .int .i64 k ∧ Hid (∀ j, j < k → (L.getD j e0).size ≤ 512)) (fun i => m - (intOf i).toNat)
  case atStart => exact ⟨0, Nat.zero_le _, rfl, Lib.hid (fun j hj => absurd hj (by omega))⟩
  case round =>
    obtain ⟨k, hk, rfl, HZ⟩ := hrel
    by_cases hlt : k < m
    · obtain ⟨g, off, rfl, hc⟩ := HS.out (by have := HN.out; omega)
      have e1 := hc k (by have := HN.out; omega)
      obtain ⟨x, hx⟩ : ∃ x, x = L.getD k e0 := ⟨_, rfl⟩
      rw [← hx] at e1
      have HX := Lib.hid hx
      have hlt' : (k : Int) < (m : Int) := by omega
      clear hc hx
      by_cases hz : 512 < x.size
      · clear HX
        go_wp2_with fail
        refine HA.out.mono ?_
        rintro x wz ⟨rfl, hb⟩
        have HX := Lib.hid hb
        clear hb HA
        go_wp2_with fail
        go_ret
        exact ⟨rfl, HX.out⟩
      · go_wp2_with fail
        go_round
        case rel => exact ⟨k + 1, by omega, by go_num, Lib.hid (fun j hj => by
          by_cases hjk : j < k
          · exact HZ.out j hjk
          · obtain rfl : j = k := by omega
            rw [← HX.out]; omega)⟩
        case measure => simp [intOf]; omega
    · obtain rfl : k = m := by omega
      clear hlt hk HA
      go_wp2_with fail
      go_loopw [8] (fun i wr => ∃ k2 : Nat, k2 ≤ m2 ∧ i = .int .i64 k2 ∧ Below w.heap.size w wr ∧ Hid (∀ j, j < k2 → MsS (Q.getD j q0).m)) (fun i _ => m2 - (intOf i).toNat)
      case atStart => exact ⟨0, Nat.zero_le _, rfl, Below.refl _ _, Lib.hid (fun j hj => absurd hj (by omega))⟩
      case round =>
        obtain ⟨k2, hk2, rfl, hbel, HM⟩ := hrel
        by_cases hlt : k2 < m2
        · have hkQ : k2 < Q.length := by have := HN2.out; omega
          obtain ⟨g2, off2, rfl, hc⟩ := HS2.out (by omega)
          have hcq := (hc k2 hkQ).at (hbel.block g2 (lt_of_cell' (hc k2 hkQ).c0))
          have hmo := HQ2.out k2 hkQ
          obtain ⟨y, hy⟩ : ∃ y, y = Q.getD k2 q0 := ⟨_, rfl⟩
          rw [← hy] at hcq hmo
          have hsm := small34_any y (hmo.1.below hbel) hmo.2.1
          have HY := Lib.hid hy
          have HBE := Lib.hid hbel
          have HSM := Lib.hid hsm
          unfold QV.agg at HSM
          have c0 := hcq.c0
          have c1 := hcq.c1
          have c2' := hcq.c2
          have c3 := hcq.c3
          have c4 := hcq.c4
          have c5 := hcq.c5
          have c6 := hcq.c6
          have c7 := hcq.c7
          have c8 := hcq.c8
          have hlt' : (k2 : Int) < (m2 : Int) := by omega
          clear hc hcq hmo hy hsm hbel hkQ
          go_wp2_with fail
          refine HSM.out.mono ?_
          rintro x W1 ⟨b, rfl, hbt, hb⟩
          have hb2 := HBE.out.trans (hb.mono HBE.out.size)
          clear c0 c1 c2' c3 c4 c5 c6 c7 c8 HSM HBE hb
          cases b
          case false =>
            have HA := Lib.hid (awake34 (HE.out.later hb2))
            have HB2 := Lib.hid hb2
            clear hb2 hbt HY
            go_wp2_with fail
            refine HA.out.mono ?_
            rintro x wz ⟨rfl, hb⟩
            have HX := Lib.hid (HB2.out.trans (hb.mono HB2.out.size))
            clear hb HA HB2
            go_wp2_with fail
            go_ret
            exact ⟨rfl, HX.out⟩
          case true =>
            have HBT := Lib.hid (hbt rfl)
            have HB2 := Lib.hid hb2
            clear hb2 hbt
            go_wp2_with fail
            go_roundw
            case rel => exact ⟨k2 + 1, hlt, by go_num, HB2.out, Lib.hid (fun j hj => by
              by_cases hjk : j < k2
              · exact HM.out j hjk
              · obtain rfl : j = k2 := by omega
                rw [← HY.out]; exact HBT.out)⟩
            case measure => simp [intOf]; omega
        · have hkk : m2 = k2 := by omega
          subst hkk
          have HB := Lib.hid hbel
          have hsr := srd_below HS.out hbel
          have HR1 := Lib.hid (replay_any (HE.out.later hbel) L A k c HN.out hsr (fun i hi => Nat.le_trans (HZ.out i (by have := HN.out; omega)) (by decide)) (by omega))
          have HR2 := Lib.hid (fun (W : World) (hb : Below wr.heap.size wr W) => rreplay_any (w := W) L A k c HN.out (srd_below hsr hb) (fun i hi => Nat.le_trans (HZ.out i (by have := HN.out; omega)) (by decide)) (by omega))
          have hinv := rp_inv L
          rw [← hinv.out, ← hinv.last] at HR1
          have hlen := rd_len L
          generalize rdF L = D at HR1 HR2 hlen
          have HLN := Lib.hid (show D.out.length ≤ 20 by have := HN.out; omega)
          clear hbel hsr hinv hlen hk2 hlt
          go_wp2_with fail
          refine HR1.out.mono ?_
          rintro x W1 ⟨A3, c3, Q3, rfl, hQ3, hrow3, hqk3, hb1⟩
          go_wp2_with fail
          refine (HR2.out W1 (hb1.mono (Nat.le_refl _))).mono ?_
          rintro x W2 ⟨A4, c4, Q4, rfl, hQ4, hrow4, hqk4, hb2⟩
          have hlq : Q4.length = Q3.length := by rw [← List.length_map (f := QV.m), hQ4, ← hQ3, List.length_map]
          have hl3 : Q3.length ≤ 20 := by
            have h1 := congrArg List.length hQ3
            rw [List.length_map] at h1
            have := HLN.out
            omega
          rw [hlq]
          have HSA := Lib.hid (msame_any (L := Q3) (L2 := Q4) (B := 0) (B2 := 0) ((own_qrow (hrow3.below hb2)).mrd) ((own_qrow hrow4).mrd) (fun q hq => ⟨(hqk3 q hq).1.below hb2, Nat.le_trans (hqk3 q hq).2.2.1 (by decide)⟩) (fun q hq => (hqk4 q hq).1) (hQ3.trans hQ4.symm) Q3.length c3 c4 rfl (by omega))
          have hb12 := hb1.trans (hb2.mono hb1.size)
          have hbw2 := HB.out.trans (hb12.mono HB.out.size)
          have HB2 := Lib.hid hbw2
          have HML := Lib.hid (fun q (hq : q ∈ Q) => show MsS q.m ∧ MsgOf w q by
            obtain ⟨j, hj, rfl⟩ := List.mem_iff_getElem.1 hq
            have e : Q.getD j q0 = Q[j] := by rw [List.getD_eq_getElem?_getD, List.getElem?_eq_getElem hj]; rfl
            have h1 := HM.out j (by have := HN2.out; omega)
            have h2 := HQ2.out j hj
            rw [e] at h1 h2
            exact ⟨h1, h2⟩)
          have HQS := Lib.hid (fun (W : World) (hb : Below w.heap.size w W) (q : QV) (hq : q ∈ Q) => show QSm W q from ⟨((HML.out q hq).2.1.below hb).mono hb.size, (HML.out q hq).2.2.2, (HML.out q hq).1.op⟩)
          clear hlq hl3 hrow3 hqk3 hrow4 hqk4 hQ3 hQ4 hb1 hb2 hb12 hbw2 HR1 HR2 HB HML HM HQ2 HZ HS HLN
          go_wp2_with fail
          refine HSA.out.mono ?_
          rintro x W3 ⟨rfl, hb⟩
          have hb3 := HB2.out.trans (hb.mono HB2.out.size)
          have HR1 := Lib.hid (rewrite_any (HE.out.later hb3) Q A2 m2 c2 last HN2.out (mrd_below HS2.out hb3) (HQS.out W3 hb3) (by omega))
          have hrl := rwF_len (Q.map QV.m) last
          rw [List.length_map] at hrl
          have HB3 := Lib.hid hb3
          clear HSA HB2 hb hb3
          go_wp2_with fail
          refine HR1.out.mono ?_
          rintro x W4 ⟨A5, c5, rfl, hrow5, hb⟩
          have hb4 := HB3.out.trans (hb.mono HB3.out.size)
          have HR2 := Lib.hid (rrewrite_any (w := W4) Q A2 m2 c2 last HN2.out (mrd_below HS2.out hb4) (HQS.out W4 hb4) (by omega))
          have HB4 := Lib.hid hb4
          have HW5 := Lib.hid hrow5
          clear HR1 HB3 hb hb4 hrow5
          generalize rwF (Q.map QV.m) last = R at hrl HR2 HW5 ⊢
          go_wp2_with fail
          refine HR2.out.mono ?_
          rintro x W5 ⟨A6, c6, rfl, hrow6, hb⟩
          have HTS := Lib.hid (tsame22 (L := R) (n := R.length) (c := c5) (c2 := c6) ((HW5.out.below hb).rd) hrow6.rd rfl (by have := HN2.out; omega))
          have hb5 := HB4.out.trans (hb.mono HB4.out.size)
          have HB5 := Lib.hid hb5
          clear HR2 HW5 HB4 hb hb5 hrow6
          go_wp2_with fail
          refine HTS.out.mono ?_
          rintro x W6 ⟨rfl, d, hd⟩
          have hb6 : Below w.heap.size w W6 := by rw [hd]; exact below_drewN HB5.out d
          have HA := Lib.hid (awake34 (HE.out.later hb6))
          have HB6 := Lib.hid hb6
          clear HTS HB5 hd hb6 hrl
          go_wp2_with fail
          refine HA.out.mono ?_
          rintro x wz ⟨rfl, hb⟩
          have HX := Lib.hid (HB6.out.trans (hb.mono HB6.out.size))
          clear hb HA HB6
          go_wp2_with fail
          go_ret
          exact ⟨rfl, HX.out⟩
end Go.Proofs.YtnolnhpmpjgnaaaGreatDoor
