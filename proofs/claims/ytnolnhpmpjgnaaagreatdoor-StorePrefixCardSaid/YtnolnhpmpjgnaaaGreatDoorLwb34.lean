/- What is proved here: behind any first records what was added is there, unless it was done or gone (StorePrefix' walk). Conditions: what the rows list of the package's variables. -/
import Derived.Test.YtnolnhpmpjgnaaaGreatDoorAwk34
import Derived.Test.YtnolnhpmpjgnaaaGreatDoorPfy34
import Derived.Test.YtnolnhpmpjgnaaaGreatDoorTsm22
namespace Go.Proofs.YtnolnhpmpjgnaaaGreatDoor
set_option maxRecDepth 100000
open Go.RowKit Go.Extern.Stop Go.Stop Go.Extern
section
open Go.ChangeShapes Go.WideShapes Go.RowKit Go.Deep
variable {H : Type} {enc : TypeId × Value → H} {w : World}
set_option maxRecDepth 100000 in
theorem strs_openc {r : Reach} {b0 b1 : Nat} {sp : Nat → Bool} {held : Bool} {v : Value} {d : DataW H} {ps : List MemPlace} (hval : Value.okWide Tryz.prog w r b0 40 v) (hd : DataW.Trod enc Tryz.prog w b1 sp held 40 v d ps) :
    ∃ a len cap xs, v = .slice a len cap ∧ len ≤ maxLen ∧ StrsOf w a len xs ∧ len ≤ cap := by
  obtain ⟨a, len, cap, xs, rfl, h1, h2⟩ := strs_open hval hd
  refine ⟨a, len, cap, xs, rfl, h1, h2, ?_⟩
  obtain ⟨fuel, hf⟩ := hd
  rcases ChangeShapes.open_strings Tryz.underlying40 Tryz.underlying9 (by kernel_rfl) hf with ⟨hcs, _⟩ | ⟨_, _, _, _, hcs, _, hl, _, _, _, _, _⟩
  · simp [Value.cells] at hcs
    obtain ⟨rfl, rfl, rfl⟩ := hcs
    exact Nat.le_refl _
  · simp [Value.cells] at hcs
    obtain ⟨rfl, rfl, rfl⟩ := hcs
    exact hl
end
set_option maxHeartbeats 16000000 in
theorem storePrefix_walk (S : Nat → Addr) (A : Option Addr) (m c : Nat) (L : List ByteArray) (b : Int) (w : World) (h : Env w S) (wa : m ≤ maxLen) (xa : StrsOf w A m L ∧ m ≤ c) (wb : (Lit.int .u8 b).wf = true) :
    Calls Tryz.prog 5 #[.slice A m c, .int .u8 b] w fun x w' => x = .returned (.bool true) ∧ Below w.heap.size w w' := by
  obtain ⟨⟨hm, hr⟩, hmc⟩ := xa
  have hb' : 0 ≤ b ∧ b ≤ 255 := by simpa [Lit.wf, IntKind.min, IntKind.max, IntKind.signed, IntKind.bits] using wb
  obtain ⟨sb, rfl⟩ := Int.eq_ofNat_of_zero_le hb'.1
  unfold maxLen at wa
  have HE := Lib.hid h
  have HS := Lib.hid hr
  have HN := Lib.hid hm
  have HA := Lib.hid (awake34 h)
  clear wb h hr hm
  by_cases h20 : 20 < m
  · clear hb' hmc
    go_enter Tryz.func5, Tryz.ntmps5
    go_wp2_with fail
    refine HA.out.mono ?_
    rintro x w1 ⟨rfl, hb⟩
    have HX := Lib.hid hb
    clear hb HA
    go_wp2_with fail
    go_ret
    exact ⟨rfl, HX.out⟩
  have hm20 : m ≤ 20 := by omega
  have HB := Lib.hid hb'
  clear wa h20 hb'
  go_enter Tryz.func5, Tryz.ntmps5
  go_wp2_with fail
  go_loop [5] (fun i => ∃ k : Nat, k ≤ m ∧ i = .int .i64 k ∧ Hid (∀ j, j < k → (L.getD j e0).size ≤ 512)) (fun i => m - (intOf i).toNat)
  case atStart => exact ⟨0, Nat.zero_le _, rfl, Lib.hid (fun j hj => absurd hj (by omega))⟩
  case round =>
    obtain ⟨k, hk, rfl, HZ⟩ := hrel
    by_cases hlt : k < m
    · obtain ⟨g, off, rfl, hc⟩ := HS.out (by have := HN.out; omega)
      have e1 := hc k (by have := HN.out; omega)
      obtain ⟨x, hx⟩ : ∃ x, x = L.getD k e0 := ⟨_, rfl⟩
      rw [← hx] at e1
      have HX := Lib.hid hx
      have hlt' : (k : Int) < (m : Int) := by omega
      clear hc hx
      by_cases hz : 512 < x.size
      · go_wp2_with fail
        refine HA.out.mono ?_
        rintro x w1 ⟨rfl, hb⟩
        have HX := Lib.hid hb
        clear hb HA
        go_wp2_with fail
        go_ret
        exact ⟨rfl, HX.out⟩
      · go_wp2_with fail
        go_round
        case rel => exact ⟨k + 1, by omega, by go_num, Lib.hid (fun j hj => by
          by_cases hjk : j < k
          · exact HZ.out j hjk
          · obtain rfl : j = k := by omega
            rw [← HX.out]; omega)⟩
        case measure => simp [intOf]; omega
    · obtain rfl : k = m := by omega
      clear hlt hk
      obtain ⟨n, hn⟩ : ∃ n, n = sb % (k + 1) := ⟨_, rfl⟩
      have hnk : n ≤ k := by rw [hn]; have := Nat.mod_lt sb (show 0 < k + 1 by omega); omega
      have hmod : (sb : Int) % ((k : Int) + 1) = (n : Int) := by rw [hn]; first | exact (Int.natCast_emod sb (k + 1)).symm | norm_cast
      have hsb : sb ≤ 255 := by have := HB.out; omega
      go_upto_region 9 with fail
      rw [hmod]
      have hnL : n ≤ L.length := by have := HN.out; omega
      have hrt : SRd w A (L.take n) := fun hp => by
        obtain ⟨g, off, e, hc⟩ := HS.out (by rw [List.length_take] at hp; omega)
        refine ⟨g, off, e, fun i hi => ?_⟩
        have hi2 : i < n := by rw [List.length_take] at hi; omega
        rw [show (L.take n).getD i e0 = L.getD i e0 by rw [List.getD_eq_getElem?_getD, List.getD_eq_getElem?_getD, List.getElem?_take_of_lt hi2]]
        exact hc i (by omega)
      have HRP := Lib.hid (replay_any HE.out (L.take n) A n c (by rw [List.length_take]; omega) hrt (fun i hi => by
        have hi2 : i < n := by rw [List.length_take] at hi; omega
        rw [show (L.take n).getD i e0 = L.getD i e0 by rw [List.getD_eq_getElem?_getD, List.getD_eq_getElem?_getD, List.getElem?_take_of_lt hi2]]
        exact Nat.le_trans (HZ.out i (by omega)) (by decide)) (by omega))
      have HKY := Lib.hid (got_keys (L.take n))
      have HRT := Lib.hid hrt
      have HNL := Lib.hid hnL
      have hni : (n : Int) ≤ (k : Int) := by omega
      have hnc : (n : Int) ≤ (c : Int) := by omega
      have hnc2 : n ≤ c := by omega
      clear hmod hn hrt hnL hsb
      generalize (rpF (L.take n)).last = lst at HRP
      go_wp2_with fail
      refine HRP.out.mono ?_
      rintro x W1 ⟨Ag, cg, Q, rfl, hQ, hrow, hqk, hb⟩
      have HBG := Lib.hid (begins22 n c k c (srd_below HRT.out hb) (srd_below HS.out hb) HNL.out HN.out (by omega))
      have hkq : (Q.map QV.m).map kyM = ouF ((L.take n).map evF) := by rw [hQ]; exact HKY.out
      have HBW := Lib.hid hb
      have HROW := Lib.hid hrow
      have HKQ := Lib.hid hkq
      have HQK := Lib.hid hqk
      clear hQ hrow hqk hb hkq HRP HKY HRT
      go_wp2_with fail
      refine HBG.out.mono ?_
      rintro x W2 ⟨rfl, d, hd⟩
      have hb12 : Below W1.heap.size W1 W2 := by rw [hd]; exact below_drewN (Below.refl _ _) d
      have hbw := HBW.out.trans (hb12.mono HBW.out.size)
      have HBB := Lib.hid hbw
      have HSS := Lib.hid (srd_below HS.out hbw)
      have HEE := Lib.hid (HE.out.later hbw)
      have HMR := Lib.hid ((own_qrow (HROW.out.below hb12)).mrd)
      have HQS := Lib.hid (fun q hq => (HQK.out q hq).2.2.2)
      clear hd hb12 hbw HBG HBW HS HE HA HROW HQK HB
      have HZN := Lib.hid (fun i (hi : i < n) => show (L.getD i e0).size ≤ 900 from Nat.le_trans (HZ.out i (by omega)) (by decide))
      clear HZ
      obtain ⟨E, hE⟩ : ∃ E, E = (L.take n).map evF := ⟨_, rfl⟩
      have HEL := Lib.hid (show E.length = n by rw [hE, List.length_map, List.length_take]; have := HNL.out; omega)
      have HEV := Lib.hid (fun i (hi : i < n) => show E[i]? = some (evF (L.getD i e0)) by rw [hE]; exact ev_at hi HNL.out)
      rw [← hE] at HKQ
      clear hE
      have HQL := Lib.hid (show Q.length = (ouF E).length ∧ Q.length ≤ n by
        have h1 := congrArg List.length HKQ.out
        rw [List.length_map, List.length_map] at h1
        have h2 := gkF_le E E.length
        rw [gk_all, HEL.out] at h2
        exact ⟨h1, by omega⟩)
      have HKL := Lib.hid (show k = L.length from HN.out)
      clear HN
      go_wp2_with fail
      go_loopw [9, 10] (fun x y wr => ∃ i : Nat, i ≤ n ∧ y = .int .i64 i ∧ x = .int .i64 ((gkF E i).length : Nat) ∧ Below W2.heap.size W2 wr) (fun _ y _ => n - (intOf y).toNat)
      case atStart => exact ⟨0, Nat.zero_le _, rfl, rfl, Below.refl _ _⟩
      case round =>
        obtain ⟨i, hi, rfl, rfl, hbel⟩ := hrel
        have hgl := gkF_le E i
        by_cases hlt : i < n
        · obtain ⟨g, off, rfl, hc⟩ := HSS.out (by have := HNL.out; omega)
          have HC := Lib.hid hc
          have hlt' : (i : Int) < (n : Int) := by omega
          have hik : (i : Int) < (k : Int) := by omega
          clear hc
          have hsz := HZN.out i hlt
          have hev := HEV.out i hlt
          have hcell := (hbel.cell (p := ⟨g, off + i, none⟩) (lt_of_cell (HC.out i (by have := HNL.out; omega)))).trans (HC.out i (by have := HNL.out; omega))
          generalize L.getD i e0 = s at hsz hev hcell
          have htk := take34_any (s := s) (HEE.out.later hbel) (by omega)
          have hsm := tk_small (s := s)
          unfold evF at hev
          generalize tkF s = T at htk hsm hev
          obtain ⟨no, r, at_, o⟩ := T
          simp only at htk hsm hev
          have HTK := Lib.hid htk
          have HSM1 := Lib.hid hsm
          have HEV1 := Lib.hid hev
          have HBE1 := Lib.hid hbel
          clear htk hsm hev hsz hbel
          have HGN := Lib.hid (gkF_next E i)
          generalize hgn : (gkF E i).length = gn at *
          go_upto_region 16 with fail
          go_wp2_with fail
          refine HTK.out.mono ?_
          rintro x W3 ⟨Ap, cp, e, rfl, hP, hcap, he, hb⟩
          obtain ⟨C1, hC1, z1, n1, f0, f1, f2⟩ := ov_three o Ap cp
          rw [hC1]
          have HC1 := Lib.hid (And.intro z1 (And.intro n1 (And.intro f0 (And.intro f1 f2))))
          have HB3 := Lib.hid (HBE1.out.trans (hb.mono HBE1.out.size))
          have HO := Lib.hid (Own.start [] W3)
          clear hC1 z1 n1 f0 f1 f2 hP hcap hb HTK hcell HBE1
          by_cases h0 : no = 0
          case neg =>
            obtain ⟨te, ue, rfl⟩ := err_iface he h0
            have hev := HEV1.out
            rw [if_neg h0] at hev
            have HX := Lib.hid (show gkF E (i + 1) = gkF E i by rw [HGN.out]; unfold gdE; rw [hev]; simp)
            clear h0 he hev HEV1 HSM1 HGN
            go_wp2_with (first
          | (refine wpo_alloc tyO HO.out rfl rfl ?_; clear HO; rintro k11 Wb hO; have HO := Lib.hid hO; clear hO; simp only [Act.put, List.setIfInBounds_toArray, List.set_cons_zero, List.set_cons_succ])
          | (refine wpo_store (k := k11) HO.out 0 tyO rfl _ _ rfl rfl rfl rfl rfl HC1.out.1 HC1.out.2.1 ?_; clear HO; rintro Wc hO; have HO := Lib.hid hO; clear hO; simp only [Act.put]))
            have HB4 := Lib.hid (HB3.out.trans (HO.out.bel.mono HB3.out.size))
            clear HO HB3
            go_roundw
            case rel => exact ⟨i + 1, hlt, by go_num, by rw [HX.out, hgn], HB4.out⟩
            case measure => simp [intOf]; omega
          case pos =>
          unfold ErrOf at he
          rw [if_pos h0] at he
          subst he
          have hev := HEV1.out
          rw [if_pos h0] at hev
          obtain ⟨s1, s2, s3, s4⟩ := HSM1.out h0
          have HSQ := Lib.hid (show 0 ≤ o.seq ∧ o.seq < 4294967296 by omega)
          clear s1 s2 s3 s4 HSM1 HEV1 h0
          go_upto_region 17 with (first
          | (refine wpo_alloc tyO HO.out rfl rfl ?_; clear HO; rintro k11 Wb hO; have HO := Lib.hid hO; clear hO; simp only [Act.put, List.setIfInBounds_toArray, List.set_cons_zero, List.set_cons_succ])
          | (refine wpo_store (k := k11) HO.out 0 tyO rfl _ _ rfl rfl rfl rfl rfl HC1.out.1 HC1.out.2.1 ?_; clear HO; rintro Wc hO; have HO := Lib.hid hO; clear hO; simp only [Act.put]))
          have qk0 : Wc.cell? ⟨k11, 0, none⟩ = some (.int .i64 o.kind) := ((HO.out.get 0 rfl).cell 0).trans HC1.out.2.2.1
          by_cases hkd : o.kind = 1
          case neg =>
            rw [decide_eq_false hkd] at hev
            have HX := Lib.hid (show gkF E (i + 1) = gkF E i by rw [HGN.out]; unfold gdE; rw [hev]; simp)
            have hk2 : (o.kind == 1) = false := by simpa using hkd
            clear hev HGN HSQ
            go_wp2_with fail
            have HB4 := Lib.hid (HB3.out.trans (HO.out.bel.mono HB3.out.size))
            clear HO HB3 qk0 hkd hk2
            go_roundw
            case rel => exact ⟨i + 1, hlt, by go_num, by rw [HX.out, hgn], HB4.out⟩
            case measure => simp [intOf]; omega
          case pos =>
          rw [decide_eq_true hkd] at hev
          have hk2 : (o.kind == 1) = true := by simpa using hkd
          have HEI := Lib.hid hev
          obtain ⟨key, hkey⟩ : ∃ key, key = kyO o := ⟨_, rfl⟩
          rw [← hkey] at HEI
          have HKEY := Lib.hid hkey
          have HB4 := Lib.hid (HB3.out.trans (HO.out.bel.mono HB3.out.size))
          have HB11 := Lib.hid (HO.out.get 0 rfl)
          clear hev hkey HB3 HO
          go_wp2_with fail
          rename World => W5
          have HB4 : Hid (Below W2.heap.size W2 W5) := HB4
          go_loopw [13, 14, 15] (fun x y z wr => ∃ j : Nat, j ≤ n ∧ z = .int .i64 j ∧ x = .bool (lvl E i key j) ∧ y = .bool (!fsl E i key j) ∧ Below W5.heap.size W5 wr) (fun _ _ z _ => n - (intOf z).toNat)
          case atStart => exact ⟨0, Nat.zero_le _, rfl, by rw [lvl_zero], by rw [fsl_zero]; rfl, Below.refl _ _⟩
          case round =>
            obtain ⟨j, hj, rfl, rfl, rfl, hbel⟩ := hrel
            by_cases hlj : j < n
            · have hlj' : (j : Int) < (n : Int) := by omega
              have hjk : (j : Int) < (k : Int) := by omega
              have HBL := Lib.hid hbel
              have hbel2 := HB4.out.trans (hbel.mono HB4.out.size)
              clear hbel
              have hsz := HZN.out j hlj
              have hev := HEV.out j hlj
              have hcell := (hbel2.cell (p := ⟨g, off + j, none⟩) (lt_of_cell (HC.out j (by have := HNL.out; omega)))).trans (HC.out j (by have := HNL.out; omega))
              generalize L.getD j e0 = s at hsz hev hcell
              have htk := take34_any (s := s) (HEE.out.later hbel2) (by omega)
              have hsm := tk_small (s := s)
              unfold evF at hev
              generalize tkF s = T at htk hsm hev
              obtain ⟨no2, r, at_, o2⟩ := T
              simp only at htk hsm hev
              have HTK := Lib.hid htk
              have HSM2 := Lib.hid hsm
              have HEV2 := Lib.hid hev
              have HBE2 := Lib.hid hbel2
              clear htk hsm hev hsz hbel2
              obtain ⟨lj, hlv⟩ : ∃ b, b = lvl E i key j := ⟨_, rfl⟩
              obtain ⟨fj, hfs⟩ : ∃ b, b = fsl E i key j := ⟨_, rfl⟩
              rw [← hlv, ← hfs]
              have HLV := Lib.hid hlv
              have HFS := Lib.hid hfs
              clear hlv hfs
              go_upto_region 22 with fail
              go_wp2_with fail
              refine HTK.out.mono ?_
              rintro x W6 ⟨Ap2, cp2, e, rfl, hP, hcap, he, hb⟩
              obtain ⟨C2, hC2, z1, n1, f0, f1, f2⟩ := ov_three o2 Ap2 cp2
              rw [hC2]
              have HC2 := Lib.hid (And.intro z1 (And.intro n1 (And.intro f0 (And.intro f1 f2))))
              have hbl := HBL.out.trans (hb.mono HBL.out.size)
              clear HBL
              have HBL := Lib.hid hbl
              have HO2 := Lib.hid (Own.start [] W6)
              clear hC2 z1 n1 f0 f1 f2 hP hcap hb HTK hcell HBE2 hbl
              by_cases h0 : no2 = 0
              case neg =>
                obtain ⟨te, ue, rfl⟩ := err_iface he h0
                have hev := HEV2.out
                rw [if_neg h0] at hev
                have HX := Lib.hid (show lvl E i key (j + 1) = lj ∧ fsl E i key (j + 1) = fj by rw [HLV.out, HFS.out]; exact ev_other hev (fun b h => by cases h))
                clear h0 he hev HEV2 HSM2
                go_wp2_with (first
          | (refine wpo_alloc tyO HO2.out rfl rfl ?_; clear HO2; rintro k16 Wd hO; have HO2 := Lib.hid hO; clear hO; simp only [Act.put, List.setIfInBounds_toArray, List.set_cons_zero, List.set_cons_succ])
          | (refine wpo_store (k := k16) HO2.out 0 tyO rfl _ _ rfl rfl rfl rfl rfl HC2.out.1 HC2.out.2.1 ?_; clear HO2; rintro Wf hO; have HO2 := Lib.hid hO; clear hO; simp only [Act.put]))
                have HB5 := Lib.hid (HBL.out.trans (HO2.out.bel.mono HBL.out.size))
                clear HO2 HBL 
                go_roundw
                case rel => exact ⟨j + 1, hlj, by go_num, by rw [HX.out.1], by rw [HX.out.2], HB5.out⟩
                case measure => simp [intOf]; omega
              case pos =>
              unfold ErrOf at he
              rw [if_pos h0] at he
              subst he
              have hev := HEV2.out
              rw [if_pos h0] at hev
              obtain ⟨s1, s2, s3, s4⟩ := HSM2.out h0
              have HSQ2 := Lib.hid (show 0 ≤ o2.seq ∧ o2.seq < 4294967296 by omega)
              clear s1 s2 s3 s4 HSM2 HEV2 h0
              go_upto_region 23 with (first
          | (refine wpo_alloc tyO HO2.out rfl rfl ?_; clear HO2; rintro k16 Wd hO; have HO2 := Lib.hid hO; clear hO; simp only [Act.put, List.setIfInBounds_toArray, List.set_cons_zero, List.set_cons_succ])
          | (refine wpo_store (k := k16) HO2.out 0 tyO rfl _ _ rfl rfl rfl rfl rfl HC2.out.1 HC2.out.2.1 ?_; clear HO2; rintro Wf hO; have HO2 := Lib.hid hO; clear hO; simp only [Act.put]))
              have hb5f : Below W5.heap.size W5 Wf := HBL.out.trans (HO2.out.bel.mono HBL.out.size)
              have r0 : Wf.cell? ⟨k16, 0, none⟩ = some (.int .i64 o2.kind) := ((HO2.out.get 0 rfl).cell 0).trans HC2.out.2.2.1
              have r1 : Wf.cell? ⟨k16, 1, none⟩ = some (.string o2.grp) := ((HO2.out.get 0 rfl).cell 1).trans HC2.out.2.2.2.1
              have r2 : Wf.cell? ⟨k16, 2, none⟩ = some (.int .i64 o2.seq) := ((HO2.out.get 0 rfl).cell 2).trans HC2.out.2.2.2.2
              have q1 : Wf.cell? ⟨k11, 1, none⟩ = some (.string o.grp) := ((HB11.out.below hb5f HB11.out.lt).cell 1).trans HC1.out.2.2.2.1
              have q2 : Wf.cell? ⟨k11, 2, none⟩ = some (.int .i64 o.seq) := ((HB11.out.below hb5f HB11.out.lt).cell 2).trans HC1.out.2.2.2.2
              have hkq := ky_eq o2 o HSQ2.out HSQ.out
              rw [← HKEY.out] at hkq
              clear hb5f
              by_cases hg : o2.grp = o.grp
              case neg =>
                have hgb : (o2.grp.toList == o.grp.toList) = false := by rw [bytes_key]; exact decide_eq_false hg
                have HX := Lib.hid (show lvl E i key (j + 1) = lj ∧ fsl E i key (j + 1) = fj by rw [HLV.out, HFS.out]; exact ev_other hev (fun b h => hg (hkq.1 (by injection h with h; injection h)).1))
                clear hg hkq hev
                go_wp2_with fail
                have HB5 := Lib.hid (HBL.out.trans (HO2.out.bel.mono HBL.out.size))
                clear HO2 HBL r0 r1 r2 q1 q2 hgb
                go_roundw
                case rel => exact ⟨j + 1, hlj, by go_num, by rw [HX.out.1], by rw [HX.out.2], HB5.out⟩
                case measure => simp [intOf]; omega
              case pos =>
              have hgb : (o2.grp.toList == o.grp.toList) = true := by rw [bytes_key]; exact decide_eq_true hg
              by_cases hs : o2.seq = o.seq
              case neg =>
                have hsb2 : (o2.seq == o.seq) = false := by simpa using hs
                have HX := Lib.hid (show lvl E i key (j + 1) = lj ∧ fsl E i key (j + 1) = fj by rw [HLV.out, HFS.out]; exact ev_other hev (fun b h => hs (hkq.1 (by injection h with h; injection h)).2))
                clear hg hkq hev
                go_wp2_with fail
                have HB5 := Lib.hid (HBL.out.trans (HO2.out.bel.mono HBL.out.size))
                clear HO2 HBL r0 r1 r2 q1 q2 hgb hs hsb2
                go_roundw
                case rel => exact ⟨j + 1, hlj, by go_num, by rw [HX.out.1], by rw [HX.out.2], HB5.out⟩
                case measure => simp [intOf]; omega
              case pos =>
              rw [hkq.2 ⟨hg, hs⟩] at hev
              have hsb2 : (o2.seq != o.seq) = false := by simpa using hs
              clear hg hkq
              by_cases hji : j = i
              case pos =>
                have hjb : ((j : Int) == (i : Int)) = true := by simp [hji]
                have HX := Lib.hid (show lvl E i key (j + 1) = lj ∧ fsl E i key (j + 1) = fj by rw [HLV.out, HFS.out, hji]; exact ev_self (hji ▸ hev))
                clear hev hji
                go_wp2_with fail
                have HB5 := Lib.hid (HBL.out.trans (HO2.out.bel.mono HBL.out.size))
                clear HO2 HBL r0 r1 r2 q1 q2 hgb hsb2 hs hjb
                go_roundw
                case rel => exact ⟨j + 1, hlj, by go_num, by rw [HX.out.1] <;> rfl, by rw [HX.out.2] <;> rfl, HB5.out⟩
                case measure => simp [intOf]; omega
              case neg =>
              have hjb : ((j : Int) == (i : Int)) = false := by simp; omega
              have hji2 : ¬ (j : Int) = (i : Int) := by omega
              by_cases hk3 : o2.kind = 1
              case pos =>
                have hk4 : (o2.kind != 1) = false := by simpa using hk3
                rw [decide_eq_true hk3] at hev
                by_cases hij : i < j
                case pos =>
                  have hij2 : (i : Int) < (j : Int) := by omega
                  have hij3 : ¬ (j : Int) < (i : Int) := by omega
                  have HX := Lib.hid (show lvl E i key (j + 1) = lj ∧ fsl E i key (j + 1) = fj by rw [HLV.out, HFS.out]; have h := ev_late hev hij; simpa using h)
                  clear hev hij hji
                  go_wp2_with fail
                  have HB5 := Lib.hid (HBL.out.trans (HO2.out.bel.mono HBL.out.size))
                  clear HO2 HBL r0 r1 r2 q1 q2 hgb hsb2 hs hjb hji2 hk4 hij2 hij3 hk3
                  go_roundw
                  case rel => exact ⟨j + 1, hlj, by go_num, by rw [HX.out.1] <;> rfl, by rw [HX.out.2] <;> rfl, HB5.out⟩
                  case measure => simp [intOf]; omega
                case neg =>
                  have hij2 : ¬ (i : Int) < (j : Int) := by omega
                  have hij3 : (j : Int) < (i : Int) := by omega
                  have HX := Lib.hid (show lvl E i key (j + 1) = lj ∧ fsl E i key (j + 1) = true by rw [HLV.out]; exact ev_soon hev (by omega))
                  clear hev hij hji
                  go_wp2_with fail
                  have HB5 := Lib.hid (HBL.out.trans (HO2.out.bel.mono HBL.out.size))
                  clear HO2 HBL r0 r1 r2 q1 q2 hgb hsb2 hs hjb hji2 hk4 hij2 hij3 hk3
                  go_roundw
                  case rel => exact ⟨j + 1, hlj, by go_num, by rw [HX.out.1] <;> rfl, by rw [HX.out.2] <;> rfl, HB5.out⟩
                  case measure => simp [intOf]; omega
              case neg =>
                have hk4 : (o2.kind != 1) = true := by simpa using hk3
                rw [decide_eq_false hk3] at hev
                by_cases hij : i < j
                case pos =>
                  have hij2 : (i : Int) < (j : Int) := by omega
                  have hij3 : ¬ (j : Int) < (i : Int) := by omega
                  have HX := Lib.hid (show lvl E i key (j + 1) = false ∧ fsl E i key (j + 1) = fj by rw [HFS.out]; have h := ev_late hev hij; simpa using h)
                  clear hev hij hji
                  go_wp2_with fail
                  have HB5 := Lib.hid (HBL.out.trans (HO2.out.bel.mono HBL.out.size))
                  clear HO2 HBL r0 r1 r2 q1 q2 hgb hsb2 hs hjb hji2 hk4 hij2 hij3 hk3
                  go_roundw
                  case rel => exact ⟨j + 1, hlj, by go_num, by rw [HX.out.1] <;> rfl, by rw [HX.out.2] <;> rfl, HB5.out⟩
                  case measure => simp [intOf]; omega
                case neg =>
                  have hij2 : ¬ (i : Int) < (j : Int) := by omega
                  have hij3 : (j : Int) < (i : Int) := by omega
                  have HX := Lib.hid (show lvl E i key (j + 1) = lj ∧ fsl E i key (j + 1) = false by rw [HLV.out]; exact ev_soon hev (by omega))
                  clear hev hij hji
                  go_wp2_with fail
                  have HB5 := Lib.hid (HBL.out.trans (HO2.out.bel.mono HBL.out.size))
                  clear HO2 HBL r0 r1 r2 q1 q2 hgb hsb2 hs hjb hji2 hk4 hij2 hij3 hk3
                  go_roundw
                  case rel => exact ⟨j + 1, hlj, by go_num, by rw [HX.out.1] <;> rfl, by rw [HX.out.2] <;> rfl, HB5.out⟩
                  case measure => simp [intOf]; omega
            · have hjn : n = j := by omega
              subst hjn
              obtain ⟨lv, hlv⟩ : ∃ x, x = lvl E i key n := ⟨_, rfl⟩
              obtain ⟨fs, hfs⟩ : ∃ x, x = fsl E i key n := ⟨_, rfl⟩
              rw [← hlv, ← hfs]
              have hlv2 : lv = alF key (E.drop (i + 1)) := by rw [hlv, ← HEL.out]; exact lvl_end _ _ _
              have hfs2 : fs = laF key (E.take i) := by rw [hfs, ← HEL.out]; exact fsl_end _ _ _ (by rw [HEL.out]; exact hlt)
              have HX := Lib.hid (show gkF E (i + 1) = gkF E i ++ (if (!fs && lv) = true then [key] else []) by
                rw [HGN.out]
                unfold gdE
                rw [HEI.out]
                simp only
                rw [← hlv2, ← hfs2]
                split <;> rfl)
              have HLI := Lib.hid (show lv = true → key ∈ ouF E by
                intro h
                exact ou_live HEI.out (by rw [← hlv2]; exact h))
              have HB7 := Lib.hid (HB4.out.trans (hbel.mono HB4.out.size))
              have HB8 := Lib.hid (HB11.out.below hbel HB11.out.lt)
              clear hlv hfs hlv2 hfs2 hlj hj HB4 HB11 hbel HGN HEI
              rename World => W7
              go_wp2_with fail
              go_loopw [18, 19] (fun x y wr => ∃ t : Nat, t ≤ Q.length ∧ y = .int .i64 t ∧ x = .int .i64 (cntQ Q key t : Nat) ∧ Below W7.heap.size W7 wr) (fun _ y _ => Q.length - (intOf y).toNat)
              case atStart => exact ⟨0, Nat.zero_le _, rfl, rfl, Below.refl _ _⟩
              case round =>
                obtain ⟨t, ht, rfl, rfl, hbel⟩ := hrel
                by_cases htq : t < Q.length
                · obtain ⟨gq, oq, rfl, hcq⟩ := HMR.out (by omega)
                  have hb27 := HB7.out.trans (hbel.mono HB7.out.size)
                  have hq := (hcq t htq).at (hb27.block gq (lt_of_cell' (hcq t htq).c0))
                  have hnx := cntQ_next Q key htq
                  have hqs := HQS.out _ (getD_memQ htq)
                  generalize Q.getD t q0 = q at hq hnx hqs
                  have c7 := hq.c7
                  have c8 := hq.c8
                  have q1 : wr.cell? ⟨k11, 1, none⟩ = some (.string o.grp) := ((HB8.out.below hbel HB8.out.lt).cell 1).trans HC1.out.2.2.2.1
                  have q2 : wr.cell? ⟨k11, 2, none⟩ = some (.int .i64 o.seq) := ((HB8.out.below hbel HB8.out.lt).cell 2).trans HC1.out.2.2.2.2
                  have hkm := kym_eq q.m o ⟨hqs.1, hqs.2.1⟩ HSQ.out
                  rw [← HKEY.out] at hkm
                  have hct := cntQ_le Q key t
                  have hql : Q.length ≤ 20 := by have := HQL.out.2; omega
                  have htq' : (t : Int) < (Q.length : Int) := by omega
                  have ht0 : (0 : Int) ≤ (t : Int) := by omega
                  generalize cntQ Q key t = cn at *
                  clear hcq hb27 hq hqs
                  by_cases hg : q.m.grp = o.grp
                  case neg =>
                    have hgb : (q.m.grp.toList == o.grp.toList) = false := by rw [bytes_key]; exact decide_eq_false hg
                    rw [if_neg (fun h => hg (hkm.1 h).1)] at hnx
                    clear hg hkm
                    go_wp2_with fail
                    go_quiet (fail)
                    have hbq := fun d => below_drewN hbel d
                    go_wp2_with fail
                    clear c7 c8 q1 q2 hgb 
                    go_roundw
                    case rel => exact ⟨t + 1, htq, by go_num, by rw [hnx]; rfl, hbq _⟩
                    case measure => simp [intOf]; omega
                  case pos =>
                  have hgb : (q.m.grp.toList == o.grp.toList) = true := by rw [bytes_key]; exact decide_eq_true hg
                  by_cases hs : q.m.seq = o.seq
                  case neg =>
                    have hsb2 : (q.m.seq == o.seq) = false := by simpa using hs
                    rw [if_neg (fun h => hs (hkm.1 h).2)] at hnx
                    clear hg hkm
                    go_wp2_with fail
                    go_quiet (fail)
                    have hbq := fun d => below_drewN hbel d
                    go_wp2_with fail
                    clear c7 c8 q1 q2 hgb hs hsb2
                    go_roundw
                    case rel => exact ⟨t + 1, htq, by go_num, by rw [hnx]; rfl, hbq _⟩
                    case measure => simp [intOf]; omega
                  case pos =>
                    have hsb2 : (q.m.seq == o.seq) = true := by simpa using hs
                    rw [if_pos (hkm.2 ⟨hg, hs⟩)] at hnx
                    clear hg hkm
                    go_wp2_with fail
                    go_quiet (fail)
                    have hbq := fun d => below_drewN hbel d
                    go_wp2_with fail
                    clear c7 c8 q1 q2 hgb hs hsb2
                    go_roundw
                    case rel => exact ⟨t + 1, htq, by go_num, by rw [hnx]; go_num, hbq _⟩
                    case measure => simp [intOf]; omega
                · have htn : Q.length = t := by omega
                  subst htn
                  have hc1 : cntQ Q key Q.length ≤ 1 := by
                    rw [cntQ_all, HKQ.out]
                    exact cnt_le (ou_nodup E) key
                  have hc2 : lv = true → 1 ≤ cntQ Q key Q.length := by
                    intro h
                    rw [cntQ_all, HKQ.out]
                    exact cnt_mem (HLI.out h)
                  generalize cntQ Q key Q.length = cn at *
                  have HB9 := Lib.hid (HB7.out.trans (hbel.mono HB7.out.size))
                  clear HB7 HB8 hbel ht htq HLI
                  cases lv
                  case false =>
                    have hcn : ¬ (1 : Int) < (cn : Int) := by omega
                    cases fs
                    case false =>
                      go_wp2_with fail
                      go_roundw
                      case rel => exact ⟨i + 1, hlt, by go_num, by rw [HX.out]; simp [hgn], HB9.out⟩
                      case measure => simp [intOf]; omega
                    case true =>
                      go_wp2_with fail
                      go_roundw
                      case rel => exact ⟨i + 1, hlt, by go_num, by rw [HX.out]; simp [hgn], HB9.out⟩
                      case measure => simp [intOf]; omega
                  case true =>
                    obtain rfl : cn = 1 := by have := hc2 rfl; omega
                    cases fs
                    case false =>
                      go_wp2_with fail
                      go_roundw
                      case rel => exact ⟨i + 1, hlt, by go_num, by rw [HX.out]; simp [hgn], HB9.out⟩
                      case measure => simp [intOf]; omega
                    case true =>
                      go_wp2_with fail
                      go_roundw
                      case rel => exact ⟨i + 1, hlt, by go_num, by rw [HX.out]; simp [hgn], HB9.out⟩
                      case measure => simp [intOf]; omega
        · have hin : n = i := by omega
          subst hin
          have hsn : (gkF E n).length = Q.length := by
            have h2 := gk_all E
            rw [HEL.out] at h2
            rw [h2, HQL.out.1]
          rw [hsn]
          have HB9 := Lib.hid (HBB.out.trans (hbel.mono HBB.out.size))
          have HAW := Lib.hid (awake34 (HEE.out.later hbel))
          clear hbel hlt hi hgl hsn
          go_wp2_with fail
          refine HAW.out.mono ?_
          rintro x wz ⟨rfl, hb⟩
          have HBZ := Lib.hid (HB9.out.trans (hb.mono HB9.out.size))
          clear hb HAW HB9
          go_wp2_with fail
          go_ret
          exact ⟨rfl, HBZ.out⟩
end Go.Proofs.YtnolnhpmpjgnaaaGreatDoor
