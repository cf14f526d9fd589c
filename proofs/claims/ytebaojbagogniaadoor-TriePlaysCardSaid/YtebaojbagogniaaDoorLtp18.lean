/- What is proved here: whatever is added, dropped and asked, the subscriptions are the document's: the statement's walk. Conditions: the two errors that a check names; acts that came in. -/
import Derived.Test.YtebaojbagogniaaDoorTpj18
namespace Go.Proofs.YtebaojbagogniaaDoor
open Go.RowKit Go.Extern.Stop Go.Stop Go.Extern Go.Maps Go.Deep
set_option maxRecDepth 100000
set_option maxHeartbeats 16000000 in
theorem triePlays_walk (S : Nat → Addr) (A : Option Addr) (n c : Nat) (xs : AL) (w : World) (he : EnvT w S) (hn : n ≤ maxLen) (h : ActsN w A n xs) :
    Calls Tryd.prog 3 #[.slice A n c] w fun x w' => x = .returned (.bool true) ∧ Below w.heap.size w w' := by
  have HAW := Lib.hid (fun W (hb : Below w.heap.size w W) => (awake18 W (he.later hb)).mono fun x w' hx => show x = .returned (.bool true) ∧ Below w.heap.size w w' from ⟨hx.1, hb.trans (hx.2.mono hb.size)⟩)
  have HE := Lib.hid he
  have HX := Lib.hid h
  have HFW := Lib.hid (few18_any (c := c) h hn)
  have hnm : n ≤ 9223372036854775807 := by unfold maxLen at hn; omega
  clear h he hn
  go_enter Tryd.func3, Tryd.ntmps3
  go_wp2_with fail
  refine HFW.out.mono ?_
  rintro x W ⟨b, rfl, hfew, hb⟩
  have HB := Lib.hid hb
  clear hb HFW
  cases b with
  | false =>
    have HA := Lib.hid (HAW.out W HB.out)
    clear HAW hfew
    go_wp2_with fail
    refine HA.out.mono ?_
    rintro x W2 ⟨rfl, hb⟩
    have HB2 := Lib.hid hb
    clear hb
    go_wp2_with fail
    go_ret
    exact ⟨rfl, HB2.out⟩
  | true =>
    have HF := Lib.hid (hfew rfl)
    have hn40 : n ≤ 40 := by have h1 := HX.out.1; have h2 := HF.out.1; omega
    have HN := Lib.hid (te_new W)
    clear hfew hnm
    go_wp2_with fail
    refine HN.out.mono ?_
    rintro x W1 ⟨g, T1, r, rfl, h, hl⟩
    have HP0 : Hid (PlJ w (((W1.alloc (.cells #[.slice none 0 0] 30)).alloc (.cells #[.pointer none, .int .i64 0] 33)).alloc (.cells #[.pointer none, .pointer (some ⟨W1.heap.size + 1, 0, none⟩)] 25)) g T1 r W1.heap.size (.slice none 0 0) [] (W1.heap.size + 1) (W1.heap.size + 1 + 1) 0) := Lib.hid (by
      have hbw := HB.out.trans (h.bel.mono HB.out.size)
      have hte : TE w W1 g T1 r [] := ⟨h.st, hbw, ⟨Nat.le_trans HB.out.size h.ge.1, fun m hm => ⟨Nat.le_trans HB.out.size (h.ge.2 m hm).1, Nat.le_trans HB.out.size (h.ge.2 m hm).2.1, Nat.le_trans HB.out.size (h.ge.2 m hm).2.2⟩⟩, h.mem⟩
      have b1 := Blk.made W1 30 #[.slice none 0 0]
      have b2 := Blk.made (W1.alloc (.cells #[.slice none 0 0] 30)) 33 #[.pointer none, .int .i64 0]
      have b3 := Blk.made ((W1.alloc (.cells #[.slice none 0 0] 30)).alloc (.cells #[.pointer none, .int .i64 0] 33)) 25 #[.pointer none, .pointer (some ⟨W1.heap.size + 1, 0, none⟩)]
      rw [World.size_alloc] at b2
      rw [World.size_alloc, World.size_alloc] at b3
      have hb1 : Below W1.heap.size W1 (((W1.alloc (.cells #[.slice none 0 0] 30)).alloc (.cells #[.pointer none, .int .i64 0] 33)).alloc (.cells #[.pointer none, .pointer (some ⟨W1.heap.size + 1, 0, none⟩)] 25)) := (((Below.refl _ W1).alloc (Nat.le_refl _) _).alloc (by simp) _).alloc (by simp; omega) _
      refine ⟨⟨hte.below hb1, ⟨(b1.alloc _).alloc _, World.ownsRow_nil _ _ _ _, hbw.size, Nat.le_trans hbw.size hb1.size, Nat.zero_le _⟩, b2.alloc _, ?_, b3⟩, by omega, Nat.le_refl _, fun e he => (by cases he), List.Pairwise.nil⟩
      have := h.st.i.blk.lt
      omega)
    clear h hl HN
    go_wp2_with fail
    generalize HWZ : ((W1.alloc (.cells #[.slice none 0 0] 30)).alloc (.cells #[.pointer none, .int .i64 0] 33)).alloc (.cells #[.pointer none, .pointer (some ⟨W1.heap.size + 1, 0, none⟩)] 25) = W0 at *
    clear HWZ
    generalize W1.heap.size + 1 + 1 = kb at *
    generalize W1.heap.size + 1 = z at *
    generalize W1.heap.size = xb at *
    go_loopw [6] (fun i wr => ∃ (k : Nat) (T : NL) (D : List EV) (v : Value), k ≤ n ∧ i = .int .i64 k ∧ Hid (PlJ w wr g T r xb v D z kb k)) (fun i _ => n - (intOf i).toNat)
    case atStart => exact ⟨0, T1, [], _, Nat.zero_le _, rfl, HP0⟩
    case round =>
      obtain ⟨k, T, D, v, hk, rfl, HJ⟩ := hrel
      clear HP0
      by_cases hlt : k < n
      · have hkL : k < xs.length := by have := HX.out.1; omega
        obtain ⟨g1, off, rfl, hcc⟩ := HX.out.2 (by omega)
        have hcw := hcc k hkL
        obtain ⟨a, ha⟩ : ∃ a, a = xs.getD k a0 := ⟨_, rfl⟩
        rw [← ha] at hcw
        have HSZ := Lib.hid (show a.filter.size ≤ 200 ∧ a.who.size ≤ 200 from by
          have := HF.out.2 k hkL
          rw [← ha] at this
          exact ⟨this.1, by omega⟩)
        have HCL := Lib.hid (fun (V : World) (hb : Below w.heap.size w V) => show V.cell? ⟨g1, off + k * 3, none⟩ = some (.int .i64 a.kind) ∧ V.cell? ⟨g1, off + k * 3 + 1, none⟩ = some (.string a.filter) ∧ V.cell? ⟨g1, off + k * 3 + 2, none⟩ = some (.string a.who) from by
          have h1 := hcw.at (hb.block g1 (lt_of_cell' hcw.c0))
          exact ⟨h1.c0, h1.c1, h1.c2⟩)
        have HDO := Lib.hid (pl_do HJ.out (by omega) a.kind HSZ.out.1 HSZ.out.2 HE.out)
        obtain ⟨d0, d1, d2⟩ := HCL.out wr HJ.out.pk.te.bel
        have HFL := Lib.hid (And.intro HJ.out.few (And.intro HJ.out.fl HJ.out.srt))
        have HDZ := Lib.hid (show ∀ e ∈ D, e.2.size ≤ 200 from fun e he => (HJ.out.pk.te.st.sz e ((HJ.out.pk.te.mem e).2 he)).2)
        clear hcc hcw ha hkL HJ
        go_wp2_with fail
        refine HDO.out.mono ?_
        rintro x2 W2 ⟨b, A8, c8, T2, E2, R, rfl, hp, hl2, ⟨B8, hr8⟩, r1, r2, r3⟩
        have HP2 := Lib.hid hp
        have HL2 := Lib.hid hl2
        have HR8 := Lib.hid hr8
        have HRR := Lib.hid (And.intro r1 (And.intro r2 r3))
        obtain ⟨d0, d1, d2⟩ := HCL.out W2 HP2.out.te.bel
        clear hp hl2 hr8 r1 r2 r3 HDO
        generalize hkd : a.kind = kd at *
        obtain ⟨nr, hnr⟩ : ∃ nr, nr = R.length := ⟨_, rfl⟩
        have HNR := Lib.hid hnr
        rw [← hnr] at HR8 ⊢
        clear hnr
        go_upto_block 2 with fail
        go_cut [9, 10] from 44 to 78 (fun v9 v10 wx => ∃ A10 c10, v9 = .bool b ∧ v10 = .slice A10 nr c10 ∧ Hid (PlX w wx g T2 r xb z kb (k + 1) A8 c8 A10 c10 nr R))
        case first =>
          by_cases k1 : kd = 1
          · obtain ⟨e1, e2, e3⟩ := HRR.out.1 k1
            have b1 : (kd == 1) = true := beq_iff_eq.2 k1
            have hnz : nr = 0 := by rw [HNR.out, e3]; rfl
            subst e3 hnz
            have HDA := Lib.hid (pl_add (HP2.out.below (show Below W2.heap.size W2 W2.drew from bvn18 W2 1)) HL2.out HFL.out.1 (by omega) HFL.out.2.1 HFL.out.2.2 HSZ.out.1 e1 e2 ⟨B8, HR8.out.below (show Below W2.heap.size W2 W2.drew from bvn18 W2 1)⟩)
            have HCD := Lib.hid (HCL.out W2.drew (HP2.out.below (show Below W2.heap.size W2 W2.drew from bvn18 W2 1)).te.bel).2
            clear e1 e2 k1 HRR d0
            go_upto_region 14 with fail
            go_region_held3 (fun V => V.cell? ⟨g1, off + k * 3 + 1, none⟩ = some (.string a.filter) ∧ V.cell? ⟨g1, off + k * 3 + 2, none⟩ = some (.string a.who))
              (first | done | with_reducible assumption | exact HCD.out | exact (HCL.out _ hb8).2)
              (first
                | (go_at_call 10; (refine HDA.out.mono ?_); rintro e w8 ⟨rfl, hb8, hj8⟩))
            have HJ8 := Lib.hid hj8
            clear hj8 hb8
            go_wp2_with fail
            go_meet
            case rel => exact ⟨_, _, rfl, rfl, HJ8⟩
          · have n1 : (kd == 1) = false := beq_eq_false_iff_ne.2 k1
            by_cases k2 : kd = 2
            · obtain ⟨e1, e2, e3⟩ := HRR.out.2.1 k2
              have b2 : (kd == 2) = true := beq_iff_eq.2 k2
              have hnz : nr = 0 := by rw [HNR.out, e3]; rfl
              subst e3 hnz
              have HDA := Lib.hid (pl_drop (HP2.out.below (show Below W2.heap.size W2 W2.drew from bvn18 W2 1)) HL2.out HFL.out.1 HFL.out.2.1 HFL.out.2.2 e1 e2 ⟨B8, HR8.out.below (show Below W2.heap.size W2 W2.drew from bvn18 W2 1)⟩)
              have HCD := Lib.hid (HCL.out W2.drew (HP2.out.below (show Below W2.heap.size W2 W2.drew from bvn18 W2 1)).te.bel).2
              clear e1 e2 k1 k2 HRR d0
              go_upto_region 16 with fail
              go_region_held3 (fun V => V.cell? ⟨g1, off + k * 3 + 1, none⟩ = some (.string a.filter) ∧ V.cell? ⟨g1, off + k * 3 + 2, none⟩ = some (.string a.who))
                (first | done | with_reducible assumption | exact HCD.out | exact (HCL.out _ hb8).2)
                (first
                  | (go_at_call 11; (refine HDA.out.mono ?_); rintro e w8 ⟨rfl, hb8, hj8⟩))
              have HJ8 := Lib.hid hj8
              clear hj8 hb8
              go_wp2_with fail
              go_meet
              case rel => exact ⟨_, _, rfl, rfl, HJ8⟩
            · obtain ⟨e1, e2, e3⟩ := HRR.out.2.2 k1 k2
              have n2 : (kd == 2) = false := beq_eq_false_iff_ne.2 k2
              have HDA := Lib.hid (pl_match (A8 := A8) (c8 := c8) (nr := nr) (by rw [← e2]; rw [e2]; exact e2 ▸ HP2.out) HL2.out HFL.out.1 (by omega) HFL.out.2.1 HFL.out.2.2 HSZ.out.1 HDZ.out (by rw [HNR.out, e3]) ⟨B8, by rw [← e3]; exact HR8.out⟩)
              rw [← e3] at HDA
              subst e1
              clear e2 e3 k1 k2 HRR
              go_wp2_with fail
              refine HDA.out.mono ?_
              rintro x8 w8 ⟨A10, c10, rfl, hj8⟩
              have HJ8 := Lib.hid hj8
              clear hj8 HDA
              go_wp2_with fail
              go_meet
              case rel => exact ⟨_, _, rfl, rfl, HJ8⟩
        case rest =>
          obtain ⟨A10, c10, rfl, rfl, HJX⟩ := hcut
          obtain ⟨v2, D2, hj, ⟨B1, hr1⟩, ⟨B2, hr2⟩, hn1, hn2⟩ := HJX.out
          have HJ := Lib.hid hj
          obtain ⟨Av, cv, hvf⟩ := hj.pk.rt.row.form
          subst hvf
          obtain ⟨nd, hnd⟩ : ∃ nd, nd = D2.length := ⟨_, rfl⟩
          have hnd9 : nd ≤ 900 := by rw [hnd]; have := hj.few; omega
          have hrd := hj.pk.rt.row
          rw [← hnd] at hrd
          have HRD := Lib.hid hrd
          have S1 : Hid (∀ V, Below wc.heap.size wc V → Calls Tryd.prog 13 #[.slice A8 nr c8, .slice A10 nr c10] V fun e V' => e = .returned (.bool true) ∧ Below wc.heap.size wc V') := Lib.hid fun V hb =>
            (esame18_any (hr1.below hb) (hr2.below hb) hn1 hn2).mono fun e V' ⟨h1, h2⟩ => ⟨h1, hb.trans (h2.mono hb.size)⟩
          have S2 : Hid (∀ V, Below wc.heap.size wc V → Calls Tryd.prog 14 #[.pointer (some ⟨g, 0, none⟩)] V fun e V' => ∃ A c, e = .returned (.slice A nd c) ∧ Below wc.heap.size wc V' ∧ Hid (∀ V2, Below V'.heap.size V' V2 → Calls Tryd.prog 13 #[.slice A nd c, .slice Av nd cv] V2 fun e V3 => e = .returned (.bool true) ∧ Below wc.heap.size wc V3)) := Lib.hid fun V hb =>
            (te_all (hj.pk.te.below hb) (by rw [← hnd]; exact hnd9)).mono fun e V' ⟨u, d, h1, h2, h3, h4, h5⟩ => by
              obtain ⟨A, c, rfl⟩ := h2.form
              have hd : d = D2 := one_srtG (r := lessE) hj.srt (h3.trans (nodup_perm (dd_nodup D2) (srt_nodup hj.srt) fun e => mem_dd)) h4
              subst hd
              rw [← hnd] at h1 h2
              have hbv := hb.trans (h5.mono hb.size)
              refine ⟨A, c, h1, hbv, Lib.hid fun V2 hb2 => ?_⟩
              have hbw := hbv.trans (hb2.mono hbv.size)
              exact (esame18_any (h2.below hb2) (hrd.below hbw) hnd hnd9).mono fun e V3 ⟨g1, g2⟩ => ⟨g1, hbw.trans (g2.mono hbw.size)⟩
          have S3 : Hid (∀ V, Below wc.heap.size wc V → Calls Tryd.prog 15 #[.pointer (some ⟨g, 0, none⟩)] V fun e V' => e = .returned (.int .i64 (nodesE D2 : Nat)) ∧ Below wc.heap.size wc V') := Lib.hid fun V hb =>
            (te_nodes (hj.pk.te.below hb)).mono fun e V' ⟨h1, h2⟩ => ⟨h1, h2 ▸ hb⟩
          have S4 : Hid (∀ V, Below wc.heap.size wc V → Calls Tryd.prog 16 #[.pointer (some ⟨xb, 0, none⟩)] V fun e V' => e = .returned (.int .i64 (nodesE D2 : Nat)) ∧ Below wc.heap.size wc V') := Lib.hid fun V hb =>
            (rnodes_any (hj.pk.rt.below hb) (fun e he => (hj.pk.te.st.sz e ((hj.pk.te.mem e).2 he)).2) (by have := hj.few; omega)).mono fun e V' ⟨h1, h2⟩ => ⟨h1, hb.trans (h2.mono hb.size)⟩
          have KS : Hid (∀ V, Below wc.heap.size wc V → V.cell? ⟨xb, 0, none⟩ = some (.slice Av nd cv)) := Lib.hid fun V hb => by
            have := (hj.pk.rt.below hb).blk.cell 0
            rw [← hnd] at this
            exact this
          have HB0 := Lib.hid (show Below wc.heap.size wc wc.drew from bvn18 wc 1)
          have c0 := KS.out wc (Below.refl _ _)
          have hbb : (b != b) = false := by simp
          have hnn : (((nodesE D2 : Nat) : Int) != ((nodesE D2 : Nat) : Int)) = false := by simp
          clear hr1 hr2 hrd hj hn1 hn2 hnd HJX HDZ HFL HRR HR8 HP2 HL2
          generalize nodesE D2 = nn at *
          go_upto_region 17 with fail
          go_region_held3 (fun V => V.cell? ⟨xb, 0, none⟩ = some (.slice Av nd cv))
            (first | done | with_reducible assumption | exact KS.out _ (by with_reducible assumption) | exact KS.out _ HB0.out)
            (first
              | (go_at_call 13; (with_reducible refine (S1.out _ ?_).mono ?_); (first | with_reducible assumption | exact HB0.out); rintro e5 w5 ⟨rfl, hb5⟩)
              | (go_at_call 14; (with_reducible refine (S2.out _ ?_).mono ?_); (first | with_reducible assumption | exact HB0.out); rintro e6 w6 ⟨A6, c6, rfl, hb6, S6⟩)
              | (go_at_call 13; (with_reducible refine (S6.out _ (Below.refl _ _)).mono ?_); rintro e7 w7 ⟨rfl, hb7⟩)
              | (go_at_call 15; (with_reducible refine (S3.out _ ?_).mono ?_); (first | with_reducible assumption | exact HB0.out); rintro e8 w8 ⟨rfl, hb8⟩)
              | (go_at_call 16; (with_reducible refine (S4.out _ ?_).mono ?_); (first | with_reducible assumption | exact HB0.out); rintro e9 w9 ⟨rfl, hb9⟩))
          have HJ9 := Lib.hid (HJ.out.below hb9)
          clear hb5 hb6 hb7 hb8 hb9 S1 S2 S3 S4 S6 KS HB0 c0 HJ
          go_wp2_with fail
          go_loopw [11] (fun i wr => ∃ q : Nat, q ≤ 2 ∧ i = .int .i64 q ∧ Hid (PlJ w wr g T2 r xb (.slice Av D2.length cv) D2 z kb (k + 1))) (fun i _ => 2 - (intOf i).toNat)
          case atStart => exact ⟨0, by omega, rfl, HJ9⟩
          case round =>
            obtain ⟨q, hq, rfl, HQ⟩ := hrel
            clear HJ9
            by_cases hlt3 : q < 2
            · obtain ⟨o, ho⟩ : ∃ o, ∀ V, PlJ w V g T2 r xb (.slice Av D2.length cv) D2 z kb (k + 1) → V.cell? ⟨kb, q, none⟩ = some o ∧ NoT V o := by
                rcases (show q = 0 ∨ q = 1 by omega) with rfl | rfl
                · exact ⟨_, fun V hV => ⟨hV.pk.nb.cell 0, .inl rfl⟩⟩
                · exact ⟨_, fun V hV => ⟨hV.pk.nb.cell 1, .inr ⟨z, rfl, hV.pk.zb⟩⟩⟩
              have HO := Lib.hid ho
              have HBD := Lib.hid (show Below wr.heap.size wr wr.drew from bvn18 wr 1)
              have HQD := Lib.hid (HQ.out.below HBD.out)
              have HKC := Lib.hid (fun (V : World) (hb : Below wr.heap.size wr V) => show V.cell? ⟨kb, q, none⟩ = some o ∧ V.cell? ⟨g1, off + k * 3, none⟩ = some (.int .i64 kd) ∧ V.cell? ⟨g1, off + k * 3 + 1, none⟩ = some (.string a.filter) ∧ V.cell? ⟨g1, off + k * 3 + 2, none⟩ = some (.string a.who) from
                ⟨(HO.out V (HQ.out.below hb)).1, HCL.out V (HQ.out.below hb).pk.te.bel⟩)
              have HDN := Lib.hid (not_do (HO.out _ HQD.out).2 kd a.filter a.who)
              obtain ⟨c0, d0, d1, d2⟩ := HKC.out wr (Below.refl _ _)
              have HCD := Lib.hid (HKC.out wr.drew HBD.out)
              clear ho
              go_upto_region 22 with fail
              go_region_held3 (fun V => V.cell? ⟨kb, q, none⟩ = some o ∧ V.cell? ⟨g1, off + k * 3, none⟩ = some (.int .i64 kd) ∧ V.cell? ⟨g1, off + k * 3 + 1, none⟩ = some (.string a.filter) ∧ V.cell? ⟨g1, off + k * 3 + 2, none⟩ = some (.string a.who))
                (first | done | with_reducible assumption | exact HCD.out | exact HKC.out _ hb8)
                (first
                  | (go_at_call 9; (refine HDN.out.mono ?_); rintro e w8 ⟨rfl, hb7⟩; have hb8 := HBD.out.trans (hb7.mono HBD.out.size)))
              have HQ8 := Lib.hid (HQ.out.below hb8)
              have e0 := (HO.out w8 HQ8.out).1
              have HAL := Lib.hid (not_all (HO.out w8 HQ8.out).2)
              have HND := Lib.hid (not_nodes (HO.out w8 HQ8.out).2)
              clear hb7 hb8 c0 d0 d1 d2 HDN HKC HCD HQD HBD HQ
              go_wp2_with fail
              refine HAL.out.mono ?_
              rintro x9 w9 ⟨rfl, rfl⟩
              go_wp2_with fail
              refine HND.out.mono ?_
              rintro x9 w9 ⟨rfl, rfl⟩
              go_wp2_with fail
              go_roundw
              case rel => exact ⟨q + 1, by omega, by go_num, HQ8⟩
              case measure => simp [intOf]; omega
            · have HQ9 := Lib.hid HQ.out
              clear HQ
              go_wp2_with fail
              go_roundw
              case rel => exact ⟨k + 1, T2, D2, _, by omega, by go_num, HQ9⟩
              case measure => simp [intOf]; omega
      · have HA := Lib.hid (HAW.out wr HJ.out.pk.te.bel)
        clear HJ
        go_wp2_with fail
        refine HA.out.mono ?_
        rintro x9 w9 ⟨rfl, hb⟩
        have HB9 := Lib.hid hb
        clear hb HA
        go_wp2_with fail
        go_ret
        exact ⟨rfl, HB9.out⟩
end Go.Proofs.YtebaojbagogniaaDoor
