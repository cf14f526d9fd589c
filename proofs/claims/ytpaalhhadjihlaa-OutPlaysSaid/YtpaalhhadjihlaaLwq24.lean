/- What is proved here: OutPlays answers true for every list of acts. Conditions: the acts are some that came in. -/
import Derived.Test.YtpaalhhadjihlaaLws24
namespace Go.Proofs.Ytpaalhhadjihlaa
open Go.RowKit Go.Extern.Stop Go.Stop Go.Extern Go.Maps Go.Deep
set_option maxRecDepth 100000
set_option maxRecDepth 1000000 in
set_option maxHeartbeats 16000000 in
theorem outPlays_walk (a : Option Addr) (n c : Nat) (xs : AL) (w : World) (hn : n ≤ maxLen) (h : ActsN w a n xs) :
    Calls Try.prog 3 #[.slice a n c] w fun x w' => x = .returned (.bool true) ∧ Below w.heap.size w w' := by
  have HFW := Lib.hid (few24_any (c := c) h hn)
  have HAW := Lib.hid (fun W (hb : Below w.heap.size w W) => (awake24 W).mono fun x w' hx => show x = .returned (.bool true) ∧ Below w.heap.size w w' from ⟨hx.1, hb.trans (hx.2.mono hb.size)⟩)
  have HX := Lib.hid h
  have HNM := Lib.hid hn
  clear h hn
  go_enter Try.func3, Try.ntmps3
  go_wp2_with fail
  refine HFW.out.mono ?_
  rintro x w1 ⟨b, rfl, hb, hb1⟩
  have HB1 := Lib.hid hb1
  clear hb1 HFW
  cases b with
  | false =>
    have HA := Lib.hid (HAW.out _ HB1.out)
    clear hb
    go_wp2_with fail
    refine HA.out.mono ?_
    rintro x w2 ⟨rfl, hb2⟩
    have HB2 := Lib.hid hb2
    clear hb2
    go_wp2_with fail
    go_ret
    exact ⟨rfl, HB2.out⟩
  | true =>
    have HF := Lib.hid (hb rfl)
    have hn40 : n ≤ 40 := by have := HF.out.1; have := HX.out.1; omega
    have HNW := Lib.hid (on_new w1)
    clear hb
    go_wp2_with fail
    refine HNW.out.mono ?_
    rintro x w2 ⟨g, gp, bp, bm, rfl, ho⟩
    have HO := Lib.hid ho.aw
    have HRN := Lib.hid (rnew_low (B := w1.heap.size) w2 ho.aw.bel.size)
    clear ho HNW
    go_wp2_with fail
    refine HRN.out.mono ?_
    rintro x w3 ⟨xb, xp, v, rfl, hr, hb3⟩
    have HST := Lib.hid (pl_start (HO.out.below hb3) hr)
    unfold zcells ncells at HST
    clear hr hb3 HRN HO
    go_wp2_with fail
    generalize ((w3.alloc (.cells #[.pointer none, .int .i64 0, .map none] 32)).alloc (.cells #[.pointer none, .pointer (some ⟨w3.heap.size, 0, none⟩)] 25)) = W0 at *
    generalize w3.heap.size + 1 = nb at *
    generalize w3.heap.size = z at *
    go_loopw [6] (fun i wr => ∃ (k sent : Nat), k ≤ n ∧ i = .int .i64 k ∧ sent ≤ k ∧ Hid (PlX w1 wr g gp bp bm xb xp sent (KZ z nb))) (fun i _ => n - (intOf i).toNat)
    case atStart => exact ⟨0, 0, Nat.zero_le _, rfl, Nat.le_refl _, HST⟩
    case round =>
      obtain ⟨k, sent, hk, rfl, hsk, HP⟩ := hrel
      by_cases hlt : k < n
      · have HKL := Lib.hid (show k < xs.length by have := HX.out.1; omega)
        obtain ⟨ga, off, rfl, hac⟩ := HX.out.2.1.pos (by have := HKL.out; omega)
        have hbe : Below w.heap.size w wr := HB1.out.trans (HP.out.bel.mono HB1.out.size)
        have hcc := (hac k HKL.out).at (hbe.block ga (lt_of_cell' (hac k HKL.out).c0))
        have hms := HX.out.2.2 k HKL.out
        have hfp := HF.out.2 k HKL.out
        obtain ⟨y, hy⟩ : ∃ y, y = xs.getD k a0 := ⟨_, rfl⟩
        rw [← hy] at hcc hms hfp
        have HM := Lib.hid (show PIn wr w1.heap.size y.q.pa y.q.m.props from (hms.1.1.below hbe).mono HB1.out.size)
        have HQL := Lib.hid (show y.q.m.props.length ≤ 1000 by omega)
        have HWF := Lib.hid hms.2
        have HSO := Lib.hid (show y.cells.toArray.toList.all (·.oneCell') = true by simp [AV.cells, Value.oneCell'])
        have HYQ := Lib.hid (aq_at y)
        have HO := Lib.hid (Own.start [] wr)
        obtain ⟨c0, c1, c2, c3, c4, c5, c6, c7, c8, c9, c10, c11, c12, c13⟩ := hcc
        clear hms hfp hac hy hbe
        go_upto_region 9 with (first
          | (refine wpo_alloc tyAc HO.out rfl rfl ?_; clear HO; rintro k7 W2 hO; have HO := Lib.hid hO; clear hO; simp only [Act.put, List.setIfInBounds_toArray, List.set_cons_zero, List.set_cons_succ])
          | (refine wpo_store (k := k7) (c := y.cells.toArray) HO.out 0 tyAc rfl _ _ rfl rfl rfl rfl rfl rfl HSO.out ?_; clear HO; rintro W3 hO; have HO := Lib.hid hO; clear hO; simp only [Act.put]))
        clear c0 c1 c2 c3 c4 c5 c6 c7 c8 c9 c10 c11 c12 c13
        have HP3 := Lib.hid ((HP.out.below HO.out.bel).add (y := (k7, 38, y.cells.toArray)) (HO.out.get 0 rfl) (HP.out.none (own_ge HO.out 0 rfl)) rfl)
        have HM3 := Lib.hid (show PIn W3 w1.heap.size y.q.pa y.q.m.props from HM.out.below HO.out.bel)
        clear HM HO HP
        have HB7 := Lib.hid (HP3.out.get 0 rfl)
        have d0 : W3.cell? ⟨k7, 0, none⟩ = some (.int .i64 y.kind) := HB7.out.cell 0
        go_upto_block 2 with fail
        clear d0
        have hs39 : sent < 100 := by omega
        refine sw24_walk (k := k) hsk hs39 HP3 HM3 HQL HYQ HWF HB7 _ _ _ _ _ _ _ _ _ _ _ _ _ _ _ _ _ _ _ _ _ _ _ _ _ _ _ _ _ _ _ _ _ _ _ _ _ _ _ _ _ _ _ _ _ _ _ _ _ _ _ _ _ _ _ _ _ _ _ _ _ _ _ _ _ _ _ _ _ _ _ _ _ _ _ _ _ _ _ _ _ _ _ _ _ _ _ _ _ _ _ _ _ _ _ _ _ _ _ _ _ _ _ _ _ _ _ _ _ _ _ _ _ _ _ _ _ _ _ _ _ _ _ _ _ _ _ _ _ _ _ _ _ _ _ _ _ _ _ _ _ _ _ _ _ _ _ _ _ _ _ _ _ _ _ _ _ _ _ _ _ _ _ _ _ _ _ _ _ _ _ _ _ _ _ _ _ _ _ _ _ _ _ _ _ _ _ _ _ _ _ _ _ _ ?_
        intro u2 u8 u9 u10 u11 u12 u13 u14 u15 u30 u31 u32 u33 u34 u35 u36 u37 u38 u39 u40 u41 u42 u43 u44 u45 u46 u47 u48 u49 u50 u51 u52 u53 u54 u55 u56 u57 u58 u59 u60 u61 u62 u63 u64 u65 u66 u67 u68 u69 u70 u71 u72 u73 u74 u75 u76 u77 u78 u79 u80 u81 u82 u83 u84 u85 u86 u87 u88 u89 u90 u91 u92 u93 u94 u95 u96 u97 u98 u99 u100 u101 u102 u103 u104 u105 u106 u107 u108 u109 u110 u111 u112 u113 u114 u115 u116 u117 u118 u119 u120 u121 u122 u123 u124 u125 u126 u127 u128 u129 u130 u131 u132 u133 u134 u135 u136 u137 u138 u139 u140 u141 u142 u143 u144 u145 u146 u147 u148 u149 u150 u151 u152 u153 u154 u155 u156 u157 u158 u159 u160 u161 u162 u163 u164 u165 u166 u167 u168 u169 u170 u171 u172 u173 u174 u175 u176 u177 u178 u179 u180 u181 u182 u183 u184 u185 u186 u187 u188 u189 u190 u191 u192 u193 u194 wc hcut
        clear HB7 HP3 HM3 hs39
        obtain ⟨s', hs', HXC⟩ := hcut
        obtain ⟨L, last, vx, D, LP, hS⟩ := HXC.out
        obtain ⟨Ax, cx, hv⟩ := hS.m.rf.form
        rw [says_len hS.eq] at hv
        have hs100 : s' ≤ 100 := by omega
        have D19 := Lib.hid (pl_len hS)
        have D18 := Lib.hid (pl_all hS hs100)
        have D21 := Lib.hid (pl_again hS hs100)
        have hxb := hS.m.rf.blk
        rw [hv] at D18 hxb
        have KS := Lib.hid (fun W (hb : Below wc.heap.size wc W) => show W.cell? ⟨xb, 1, none⟩ = some (.slice Ax L.length cx) from (hxb.below hb hxb.lt).cell 1)
        generalize L.length = nl at *
        clear hS hv hxb hs100
        have hb0 : Below wc.heap.size wc wc := Below.refl _ _
        go_upto_region 23 with fail
        have k1 := KS.out _ hb0
        go_region_held3 (fun W => W.cell? ⟨xb, 1, none⟩ = some (.slice Ax nl cx))
          (first | assumption | exact KS.out _ (by assumption) | exact KS.out _ (bvn (by assumption) 1))
          (first
            | (go_at_call 18; (with_reducible refine (D18.out _ ?_).mono ?_); (first | assumption | exact bvn (by assumption) 1); rintro x w6 ⟨A6, c6, rfl, hb6, S6⟩)
            | (go_at_call 17; (with_reducible refine (S6.out _ ?_).mono ?_); (first | exact Below.refl _ _ | exact bvn (Below.refl _ _) 1); rintro x w7 ⟨rfl, hb7⟩)
            | (go_at_call 19; (with_reducible refine (D19.out _ ?_).mono ?_); (first | assumption | exact bvn (by assumption) 1); rintro x w8 ⟨rfl, hb8⟩)
            | (go_at_call 21; (with_reducible refine (D21.out _ ?_).mono ?_); (first | assumption | exact bvn (by assumption) 1); rintro x w9 ⟨A9, c9, rfl, hb9, S9⟩)
            | (go_at_call 22; (with_reducible refine (S9.out _ ?_).mono ?_); (first | exact Below.refl _ _ | exact bvn (Below.refl _ _) 1); rintro x w10 ⟨A10, c10, rfl, hb10, S10⟩)
            | (go_at_call 20; (with_reducible refine (S10.out _ ?_).mono ?_); (first | exact Below.refl _ _ | exact bvn (Below.refl _ _) 1); rintro x w11 ⟨rfl, hb11⟩))
        have HXD := Lib.hid (HXC.out.below hb11)
        clear hb0 hb6 hb7 hb8 hb9 hb10 hb11 S6 S9 S10 k1 D18 D19 D21 KS HXC
        go_wp2_with fail
        go_loopw [16] (fun i wr => ∃ j : Nat, j ≤ 2 ∧ i = .int .i64 j ∧ Hid (PlX w1 wr g gp bp bm xb xp s' ((k7, 38, y.cells.toArray) :: KZ z nb))) (fun i _ => 2 - (intOf i).toNat)
        case atStart => exact ⟨0, by omega, rfl, HXD⟩
        case round =>
          obtain ⟨j, hj, rfl, HXR⟩ := hrel
          by_cases hj2 : j < 2
          · have hno := nob_no (z := z) (HXR.out.get 2 rfl) j
            have hcb := HXR.out.get 1 rfl
            have hab := HXR.out.get 0 rfl
            have D8 := Lib.hid (fun W (hb : Below wr.heap.size wr W) => no_send hno y.q y.qos hb)
            have D10 := Lib.hid (fun W (hb : Below wr.heap.size wr W) => no_ack2 hno y.of y.id y.rs hb)
            have D15 := Lib.hid (fun W (hb : Below wr.heap.size wr W) => no_group hno hb)
            have D18 := Lib.hid (fun W (hb : Below wr.heap.size wr W) => no_all hno hb)
            have D21 := Lib.hid (fun W (hb : Below wr.heap.size wr W) => no_again hno hb)
            have D19 := Lib.hid (fun W (hb : Below wr.heap.size wr W) => no_len hno hb)
            have D11 := Lib.hid (fun W (hb : Below wr.heap.size wr W) => packet13_wr y hb)
            have KN := Lib.hid (fun W (hb : Below wr.heap.size wr W) => And.intro (nb_cell (hcb.below hb hcb.lt) hj2) (act14 (hab.below hb hab.lt)))
            unfold QV.agg at D8
            have DZ10 := Lib.hid (fun (W : World) (r : Nat) (hb : Below wr.heap.size wr W) (hz : Blk W r 36 zq) => no_ackz hno y.of y.id y.rs hb hz)
            have DZ11 := Lib.hid (fun (W : World) (r : Nat) (hb : Below wr.heap.size wr W) (hz : Blk W r 36 zq) => packet13_wz y hb hz)
            generalize nobP z j = P at *
            generalize (ackQ y.of y.id y.rs).cells pa0 = pkc at *
            have hj1 : (j : Int) < 2 := by omega
            have hj0 : (0 : Int) ≤ (j : Int) := by omega
            have hb0 : Below wr.heap.size wr wr := Below.refl _ _
            clear hno hcb hab
            go_upto_region 28 with fail
            have KN28 := Lib.hid (fun W (hb : Below wr.heap.size wr W) => show W.cell? ⟨nb, j, none⟩ = some (.pointer P) ∧ W.cell? ⟨k7, 1, none⟩ = some (.string y.q.m.topic) ∧ W.cell? ⟨k7, 2, none⟩ = some (.string y.q.m.payload) ∧ W.cell? ⟨k7, 3, none⟩ = some (.int .i64 y.q.m.qos) ∧ W.cell? ⟨k7, 4, none⟩ = some (.bool y.q.m.retain) ∧ W.cell? ⟨k7, 5, none⟩ = some (.slice y.q.pa y.q.m.props.length y.q.pc) ∧ W.cell? ⟨k7, 6, none⟩ = some (.string y.q.m.frm) ∧ W.cell? ⟨k7, 7, none⟩ = some (.int .i64 y.q.m.til) ∧ W.cell? ⟨k7, 8, none⟩ = some (.int .i64 y.q.m.seq) ∧ W.cell? ⟨k7, 9, none⟩ = some (.string y.q.m.grp) ∧ W.cell? ⟨k7, 10, none⟩ = some (.int .i64 y.qos) from by
              obtain ⟨h0, _, h1, h2, h3, h4, h5, h6, h7, h8, h9, h10, _, _, _⟩ := KN.out W hb
              exact ⟨h0, h1, h2, h3, h4, h5, h6, h7, h8, h9, h10⟩)
            obtain ⟨p0, p1, p2, p3, p4, p5, p6, p7, p8, p9, p10⟩ := KN28.out _ hb0
            go_region_held3 (fun W => W.cell? ⟨nb, j, none⟩ = some (.pointer P) ∧ W.cell? ⟨k7, 1, none⟩ = some (.string y.q.m.topic) ∧ W.cell? ⟨k7, 2, none⟩ = some (.string y.q.m.payload) ∧ W.cell? ⟨k7, 3, none⟩ = some (.int .i64 y.q.m.qos) ∧ W.cell? ⟨k7, 4, none⟩ = some (.bool y.q.m.retain) ∧ W.cell? ⟨k7, 5, none⟩ = some (.slice y.q.pa y.q.m.props.length y.q.pc) ∧ W.cell? ⟨k7, 6, none⟩ = some (.string y.q.m.frm) ∧ W.cell? ⟨k7, 7, none⟩ = some (.int .i64 y.q.m.til) ∧ W.cell? ⟨k7, 8, none⟩ = some (.int .i64 y.q.m.seq) ∧ W.cell? ⟨k7, 9, none⟩ = some (.string y.q.m.grp) ∧ W.cell? ⟨k7, 10, none⟩ = some (.int .i64 y.qos))
              (first | with_reducible assumption | ((refine KN28.out _ ?_); (first | with_reducible assumption | exact bvn (by assumption) 1)))
              (first
                | (go_at_call 8; (with_reducible refine (D8.out _ ?_).mono ?_); (first | with_reducible assumption | exact bvn (by assumption) 1); rintro x w12 ⟨rfl, hb12⟩))
            clear hb0 p0 p1 p2 p3 p4 p5 p6 p7 p8 p9 p10 D8 KN28
            have hzz := Lib.hid (fun (W : World) => Blk.made W 36 zq)
            unfold zq at hzz DZ11 DZ10
            unfold AV.cells at D11 DZ11
            go_upto_region 29 with fail
            go_cut [19] (fun s19 wx => ∃ n9 : Int, s19 = .int .i64 n9 ∧ (n9 = 0 ∨ n9 = 5) ∧ Below wr.heap.size wr wx)
            case first =>
              obtain ⟨p, pk, p1, p2, p3, p4, p5, p6, p7, p8, p9, p10, p11, p12, p13⟩ := KN.out _ hb12
              go_region_held3 (fun W => W.cell? ⟨nb, j, none⟩ = some (.pointer P) ∧ W.cell? ⟨k7, 0, none⟩ = some (.int .i64 y.kind) ∧ W.cell? ⟨k7, 1, none⟩ = some (.string y.q.m.topic) ∧ W.cell? ⟨k7, 2, none⟩ = some (.string y.q.m.payload) ∧ W.cell? ⟨k7, 3, none⟩ = some (.int .i64 y.q.m.qos) ∧ W.cell? ⟨k7, 4, none⟩ = some (.bool y.q.m.retain) ∧ W.cell? ⟨k7, 5, none⟩ = some (.slice y.q.pa y.q.m.props.length y.q.pc) ∧ W.cell? ⟨k7, 6, none⟩ = some (.string y.q.m.frm) ∧ W.cell? ⟨k7, 7, none⟩ = some (.int .i64 y.q.m.til) ∧ W.cell? ⟨k7, 8, none⟩ = some (.int .i64 y.q.m.seq) ∧ W.cell? ⟨k7, 9, none⟩ = some (.string y.q.m.grp) ∧ W.cell? ⟨k7, 10, none⟩ = some (.int .i64 y.qos) ∧ W.cell? ⟨k7, 11, none⟩ = some (.int .i64 y.of) ∧ W.cell? ⟨k7, 12, none⟩ = some (.int .i64 y.id) ∧ W.cell? ⟨k7, 13, none⟩ = some (.int .i64 y.rs))
                (first | with_reducible assumption | ((refine KN.out _ ?_); (repeat (first | with_reducible assumption | (with_reducible refine bvs ?_ ?_ _) | (with_reducible refine bva ?_ _) | (with_reducible refine bvd ?_) | (with_reducible refine bvn ?_ _) | (with_reducible exact Below.size (by assumption)) | (refine bva ?_ _) | (refine bvd ?_) | exact Below.size (by assumption)))))
                (first
                  | (go_at_call 11; (with_reducible refine (D11.out _ ?_).mono ?_); (first | with_reducible assumption | exact bvn (by assumption) 1); rintro x w13 ⟨rfl, hb13⟩)
                  | (go_at_call 11; (with_reducible refine (DZ11.out _ w12.heap.size ?_ ?_).mono ?_); (repeat (first | with_reducible assumption | (with_reducible refine bvs ?_ ?_ _) | (with_reducible refine bva ?_ _) | (with_reducible refine bvd ?_) | (with_reducible refine bvn ?_ _) | (with_reducible exact Below.size (by assumption)) | (refine bva ?_ _) | (refine bvd ?_) | exact Below.size (by assumption))); (exact hzz.out w12); rintro x w13 ⟨rfl, hb13, hz13⟩)
                  | (go_at_call 10; (with_reducible refine (DZ10.out _ w12.heap.size ?_ ?_).mono ?_); (first | with_reducible assumption | exact bvn (by assumption) 1); (exact hz13); rintro x w14 ⟨n9, pa9, pc9, rfl, hn9, hb14, hz14⟩; obtain ⟨z0, z1, z2, z3, z4, z5, z6, z7, z8⟩ := cells9 hz14; have zf0 := hz14.frozen 0; have zf1 := hz14.frozen 1; have zf2 := hz14.frozen 2; have zf3 := hz14.frozen 3; have zf4 := hz14.frozen 4; have zf5 := hz14.frozen 5; have zf6 := hz14.frozen 6; have zf7 := hz14.frozen 7; have zf8 := hz14.frozen 8)
                  | (go_at_call 10; (with_reducible refine (D10.out _ ?_).mono ?_); (first | with_reducible assumption | exact bvn (by assumption) 1); rintro x w14 ⟨n9, pa9, pc9, rfl, hn9, hb14⟩)
                  | (go_at_call 10; (with_reducible refine (DZ10.out _ w13.heap.size ?_ ?_).mono ?_); (repeat (first | with_reducible assumption | (with_reducible refine bvs ?_ ?_ _) | (with_reducible refine bva ?_ _) | (with_reducible refine bvd ?_) | (with_reducible refine bvn ?_ _) | (with_reducible exact Below.size (by assumption)) | (refine bva ?_ _) | (refine bvd ?_) | exact Below.size (by assumption))); (exact hzz.out w13); rintro x w14 ⟨n9, pa9, pc9, rfl, hn9, hb14, hz14⟩; obtain ⟨z0, z1, z2, z3, z4, z5, z6, z7, z8⟩ := cells9 hz14; have zf0 := hz14.frozen 0; have zf1 := hz14.frozen 1; have zf2 := hz14.frozen 2; have zf3 := hz14.frozen 3; have zf4 := hz14.frozen 4; have zf5 := hz14.frozen 5; have zf6 := hz14.frozen 6; have zf7 := hz14.frozen 7; have zf8 := hz14.frozen 8))
              all_goals
                have HB14 := Lib.hid hb14
                have HB13 := Lib.hid hb13
                have HB12 := Lib.hid hb12
                have HN9 := Lib.hid hn9
                clear hb14 hb13 hb12 hn9 p pk p1 p2 p3 p4 p5 p6 p7 p8 p9 p10 p11 p12 p13 KN D10 D11 DZ10 DZ11
                go_wp2_with fail
                go_meet
                case rel =>
                  have hb12 := HB12.out
                  have hb13 := HB13.out
                  have hb14 := HB14.out
                  exact ⟨_, rfl, HN9.out, by (repeat (first | with_reducible assumption | (with_reducible refine bvs ?_ ?_ _) | (with_reducible refine bva ?_ _) | (with_reducible refine bvd ?_) | (with_reducible refine bvn ?_ _) | (with_reducible exact Below.size (by assumption)) | (refine bva ?_ _) | (refine bvd ?_) | exact Below.size (by assumption)))⟩
            case rest =>
              obtain ⟨n9, rfl, hn9, hb13⟩ := hcut
              have KN30 := Lib.hid (fun W (hb : Below wr.heap.size wr W) => show W.cell? ⟨nb, j, none⟩ = some (.pointer P) from (KN.out W hb).1)
              clear hb12 KN D10 D11 DZ10 DZ11
              rcases hn9 with rfl | rfl
              · go_upto_region 30 with fail
                have p := KN30.out _ hb13
                refine wp_region_held_drew (S := (fun W => W.cell? ⟨nb, j, none⟩ = some (.pointer P))) (by kernel_rfl) ?_ (fun hHeld => ?_)
                · (first | with_reducible assumption | ((refine KN30.out _ ?_); (first | with_reducible assumption | exact bvn (by assumption) 1)))
                refine wpAnyH_take (i := 0) (oi := { dst := some 157, op := Op.move (Operand.tmp 18), type := 4, pos := _, after := _, guard := none }) (v := (.bool false)) rfl (by kernel_rfl) (by kernel_rfl) (by kernel_rfl) (fun _ _ _ h => h) (Or.inl ⟨by rfl, fun w' _ => ?_⟩) (by assumption) ?_
                · go_simp
                simp only [Act.put, List.setIfInBounds_toArray, List.set_cons_zero, List.set_cons_succ]
                refine wpAnyH_take (i := 1) (oi := { dst := some 158, op := Op.move (Operand.tmp 157), type := 4, pos := _, after := _, guard := none }) (v := (.bool false)) rfl (by kernel_rfl) (by kernel_rfl) (by kernel_rfl) (fun _ _ _ h => h) (Or.inl ⟨by rfl, fun w' _ => ?_⟩) (by assumption) ?_
                · go_simp
                simp only [Act.put, List.setIfInBounds_toArray, List.set_cons_zero, List.set_cons_succ]
                refine wpAnyH_take (i := 2) (oi := { dst := some 159, op := Op.move (Operand.tmp 19), type := 3, pos := _, after := _, guard := some (1, false) }) (v := (.int .i64 0)) rfl (by kernel_rfl) (by kernel_rfl) (by kernel_rfl) (fun _ _ _ h => h) (Or.inl ⟨by rfl, fun w' _ => ?_⟩) (by assumption) ?_
                · go_simp
                simp only [Act.put, List.setIfInBounds_toArray, List.set_cons_zero, List.set_cons_succ]
                refine wpAnyH_take (i := 3) (oi := { dst := some 160, op := Op.binOp BinOp.neq 3 (Operand.tmp 159) (Operand.const (Value.int IntKind.i64 0)) 3, type := 4, pos := _, after := _, guard := some (1, false) }) (v := (.bool false)) rfl (by kernel_rfl) (by kernel_rfl) (by kernel_rfl) (fun _ _ _ h => h) (Or.inl ⟨by rfl, fun w' _ => ?_⟩) (by assumption) ?_
                · go_simp
                simp only [Act.put, List.setIfInBounds_toArray, List.set_cons_zero, List.set_cons_succ]
                refine wpAnyH_take (i := 4) (oi := { dst := some 161, op := Op.move (Operand.tmp 160), type := 4, pos := _, after := _, guard := some (1, false) }) (v := (.bool false)) rfl (by kernel_rfl) (by kernel_rfl) (by kernel_rfl) (fun _ _ _ h => h) (Or.inl ⟨by rfl, fun w' _ => ?_⟩) (by assumption) ?_
                · go_simp
                simp only [Act.put, List.setIfInBounds_toArray, List.set_cons_zero, List.set_cons_succ]
                refine wpAnyH_take (i := 5) (oi := { dst := some 162, op := Op.move (Operand.tmp 19), type := 3, pos := _, after := _, guard := some (4, true) }) (v := undef) rfl (by kernel_rfl) (by kernel_rfl) (by kernel_rfl) (fun _ _ _ h => h) (Or.inr ⟨by rfl, rfl⟩) (by assumption) ?_
                simp only [Act.put, List.setIfInBounds_toArray, List.set_cons_zero, List.set_cons_succ]
                refine wpAnyH_take (i := 6) (oi := { dst := some 163, op := Op.binOp BinOp.neq 3 (Operand.tmp 162) (Operand.const (Value.int IntKind.i64 5)) 3, type := 4, pos := _, after := _, guard := some (4, true) }) (v := undef) rfl (by kernel_rfl) (by kernel_rfl) (by kernel_rfl) (fun _ _ _ h => h) (Or.inr ⟨by rfl, rfl⟩) (by assumption) ?_
                simp only [Act.put, List.setIfInBounds_toArray, List.set_cons_zero, List.set_cons_succ]
                refine wpAnyH_take (i := 7) (oi := { dst := some 164, op := Op.pick (Operand.tmp 161) (Operand.tmp 163) (Operand.const (Value.bool false)), type := 4, pos := _, after := _, guard := some (1, false) }) (v := (.bool false)) rfl (by kernel_rfl) (by kernel_rfl) (by kernel_rfl) (fun _ _ _ h => h) (Or.inl ⟨by rfl, fun w' _ => ?_⟩) (by assumption) ?_
                · go_simp
                simp only [Act.put, List.setIfInBounds_toArray, List.set_cons_zero, List.set_cons_succ]
                refine wpAnyH_take (i := 8) (oi := { dst := some 165, op := Op.pick (Operand.tmp 158) (Operand.const (Value.bool true)) (Operand.tmp 164), type := 4, pos := _, after := _, guard := none }) (v := (.bool false)) rfl (by kernel_rfl) (by kernel_rfl) (by kernel_rfl) (fun _ _ _ h => h) (Or.inl ⟨by rfl, fun w' _ => ?_⟩) (by assumption) ?_
                · go_simp
                simp only [Act.put, List.setIfInBounds_toArray, List.set_cons_zero, List.set_cons_succ]
                refine wpAnyH_take (i := 9) (oi := { dst := some 166, op := Op.move (Operand.tmp 165), type := 4, pos := _, after := _, guard := none }) (v := (.bool false)) rfl (by kernel_rfl) (by kernel_rfl) (by kernel_rfl) (fun _ _ _ h => h) (Or.inl ⟨by rfl, fun w' _ => ?_⟩) (by assumption) ?_
                · go_simp
                simp only [Act.put, List.setIfInBounds_toArray, List.set_cons_zero, List.set_cons_succ]
                refine wpAnyH_take (i := 10) (oi := { dst := some 167, op := Op.move (Operand.tmp 5), type := 33, pos := _, after := _, guard := some (9, false) }) (v := (.slice (some ⟨nb, 0, none⟩) 2 2)) rfl (by kernel_rfl) (by kernel_rfl) (by kernel_rfl) (fun _ _ _ h => h) (Or.inl ⟨by rfl, fun w' _ => ?_⟩) (by assumption) ?_
                · go_simp
                simp only [Act.put, List.setIfInBounds_toArray, List.set_cons_zero, List.set_cons_succ]
                refine wpAnyH_take (i := 11) (oi := { dst := some 168, op := Op.move (Operand.tmp 16), type := 3, pos := _, after := _, guard := some (9, false) }) (v := (.int .i64 j)) rfl (by kernel_rfl) (by kernel_rfl) (by kernel_rfl) (fun _ _ _ h => h) (Or.inl ⟨by rfl, fun w' _ => ?_⟩) (by assumption) ?_
                · go_simp
                simp only [Act.put, List.setIfInBounds_toArray, List.set_cons_zero, List.set_cons_succ]
                refine wpAnyH_take (i := 12) (oi := { dst := some 169, op := Op.indexAddr 33 (Operand.tmp 167) (Operand.tmp 168), type := 0, pos := _, after := _, guard := some (9, false) }) (v := (.pointer (some ⟨nb, j, none⟩))) rfl (by kernel_rfl) (by kernel_rfl) (by kernel_rfl) (fun _ _ _ h => h) (Or.inl ⟨by rfl, fun w' _ => ?_⟩) (by assumption) ?_
                · go_simp
                simp only [Act.put, List.setIfInBounds_toArray, List.set_cons_zero, List.set_cons_succ]
                refine wpAnyH_take (i := 13) (oi := { dst := some 170, op := Op.load 25 (Operand.tmp 169), type := 25, pos := _, after := _, guard := some (9, false) }) (v := (.pointer P)) rfl (by kernel_rfl) (by kernel_rfl) (by kernel_rfl) (fun _ _ _ h => h) (Or.inl ⟨by rfl, fun w' _ => ?_⟩) (by assumption) ?_
                · go_simp
                simp only [Act.put, List.setIfInBounds_toArray, List.set_cons_zero, List.set_cons_succ]
                refine wpAnyH_take (i := 16) (oi := { dst := some 173, op := Op.move (Operand.tmp 5), type := 33, pos := _, after := _, guard := some (9, false) }) (v := (.slice (some ⟨nb, 0, none⟩) 2 2)) rfl (by kernel_rfl) (by kernel_rfl) (by kernel_rfl) (fun _ _ _ h => h) (Or.inl ⟨by rfl, fun w' _ => ?_⟩) (by assumption) ?_
                · go_simp
                simp only [Act.put, List.setIfInBounds_toArray, List.set_cons_zero, List.set_cons_succ]
                refine wpAnyH_take (i := 17) (oi := { dst := some 174, op := Op.move (Operand.tmp 16), type := 3, pos := _, after := _, guard := some (9, false) }) (v := (.int .i64 j)) rfl (by kernel_rfl) (by kernel_rfl) (by kernel_rfl) (fun _ _ _ h => h) (Or.inl ⟨by rfl, fun w' _ => ?_⟩) (by assumption) ?_
                · go_simp
                simp only [Act.put, List.setIfInBounds_toArray, List.set_cons_zero, List.set_cons_succ]
                refine wpAnyH_take (i := 18) (oi := { dst := some 175, op := Op.indexAddr 33 (Operand.tmp 173) (Operand.tmp 174), type := 0, pos := _, after := _, guard := some (9, false) }) (v := (.pointer (some ⟨nb, j, none⟩))) rfl (by kernel_rfl) (by kernel_rfl) (by kernel_rfl) (fun _ _ _ h => h) (Or.inl ⟨by rfl, fun w' _ => ?_⟩) (by assumption) ?_
                · go_simp
                simp only [Act.put, List.setIfInBounds_toArray, List.set_cons_zero, List.set_cons_succ]
                refine wpAnyH_take (i := 19) (oi := { dst := some 176, op := Op.load 25 (Operand.tmp 175), type := 25, pos := _, after := _, guard := some (9, false) }) (v := (.pointer P)) rfl (by kernel_rfl) (by kernel_rfl) (by kernel_rfl) (fun _ _ _ h => h) (Or.inl ⟨by rfl, fun w' _ => ?_⟩) (by assumption) ?_
                · go_simp
                simp only [Act.put, List.setIfInBounds_toArray, List.set_cons_zero, List.set_cons_succ]
                refine wpAnyH_take (i := 23) (oi := { dst := some 180, op := Op.move (Operand.tmp 5), type := 33, pos := _, after := _, guard := some (9, false) }) (v := (.slice (some ⟨nb, 0, none⟩) 2 2)) rfl (by kernel_rfl) (by kernel_rfl) (by kernel_rfl) (fun _ _ _ h => h) (Or.inl ⟨by rfl, fun w' _ => ?_⟩) (by assumption) ?_
                · go_simp
                simp only [Act.put, List.setIfInBounds_toArray, List.set_cons_zero, List.set_cons_succ]
                refine wpAnyH_take (i := 24) (oi := { dst := some 181, op := Op.move (Operand.tmp 16), type := 3, pos := _, after := _, guard := some (9, false) }) (v := (.int .i64 j)) rfl (by kernel_rfl) (by kernel_rfl) (by kernel_rfl) (fun _ _ _ h => h) (Or.inl ⟨by rfl, fun w' _ => ?_⟩) (by assumption) ?_
                · go_simp
                simp only [Act.put, List.setIfInBounds_toArray, List.set_cons_zero, List.set_cons_succ]
                refine wpAnyH_take (i := 25) (oi := { dst := some 182, op := Op.indexAddr 33 (Operand.tmp 180) (Operand.tmp 181), type := 0, pos := _, after := _, guard := some (9, false) }) (v := (.pointer (some ⟨nb, j, none⟩))) rfl (by kernel_rfl) (by kernel_rfl) (by kernel_rfl) (fun _ _ _ h => h) (Or.inl ⟨by rfl, fun w' _ => ?_⟩) (by assumption) ?_
                · go_simp
                simp only [Act.put, List.setIfInBounds_toArray, List.set_cons_zero, List.set_cons_succ]
                refine wpAnyH_take (i := 26) (oi := { dst := some 183, op := Op.load 25 (Operand.tmp 182), type := 25, pos := _, after := _, guard := some (9, false) }) (v := (.pointer P)) rfl (by kernel_rfl) (by kernel_rfl) (by kernel_rfl) (fun _ _ _ h => h) (Or.inl ⟨by rfl, fun w' _ => ?_⟩) (by assumption) ?_
                · go_simp
                simp only [Act.put, List.setIfInBounds_toArray, List.set_cons_zero, List.set_cons_succ]
                refine wpAnyH_take (i := 30) (oi := { dst := some 187, op := Op.move (Operand.tmp 5), type := 33, pos := _, after := _, guard := some (9, false) }) (v := (.slice (some ⟨nb, 0, none⟩) 2 2)) rfl (by kernel_rfl) (by kernel_rfl) (by kernel_rfl) (fun _ _ _ h => h) (Or.inl ⟨by rfl, fun w' _ => ?_⟩) (by assumption) ?_
                · go_simp
                simp only [Act.put, List.setIfInBounds_toArray, List.set_cons_zero, List.set_cons_succ]
                refine wpAnyH_take (i := 31) (oi := { dst := some 188, op := Op.move (Operand.tmp 16), type := 3, pos := _, after := _, guard := some (9, false) }) (v := (.int .i64 j)) rfl (by kernel_rfl) (by kernel_rfl) (by kernel_rfl) (fun _ _ _ h => h) (Or.inl ⟨by rfl, fun w' _ => ?_⟩) (by assumption) ?_
                · go_simp
                simp only [Act.put, List.setIfInBounds_toArray, List.set_cons_zero, List.set_cons_succ]
                refine wpAnyH_take (i := 32) (oi := { dst := some 189, op := Op.indexAddr 33 (Operand.tmp 187) (Operand.tmp 188), type := 0, pos := _, after := _, guard := some (9, false) }) (v := (.pointer (some ⟨nb, j, none⟩))) rfl (by kernel_rfl) (by kernel_rfl) (by kernel_rfl) (fun _ _ _ h => h) (Or.inl ⟨by rfl, fun w' _ => ?_⟩) (by assumption) ?_
                · go_simp
                simp only [Act.put, List.setIfInBounds_toArray, List.set_cons_zero, List.set_cons_succ]
                refine wpAnyH_take (i := 33) (oi := { dst := some 190, op := Op.load 25 (Operand.tmp 189), type := 25, pos := _, after := _, guard := some (9, false) }) (v := (.pointer P)) rfl (by kernel_rfl) (by kernel_rfl) (by kernel_rfl) (fun _ _ _ h => h) (Or.inl ⟨by rfl, fun w' _ => ?_⟩) (by assumption) ?_
                · go_simp
                simp only [Act.put, List.setIfInBounds_toArray, List.set_cons_zero, List.set_cons_succ]
                refine wpAnyH_ready (rs := [14]) (by kernel_rfl) (by simp) ?_
                refine AllReadyH.cons (o := { dst := some 171, op := Op.call { callee := Callee.value (Operand.func 15), args := #[Operand.tmp 170], argTypes := #[25] }, type := 53, pos := _, after := _, guard := some (9, false) }) rfl (fun K hK => ?_) AllReadyH.nil
                go_simp
                refine (D15.out _ (by first | exact hb13 | exact bvn hb13 1 | exact bvd hb13)).mono ?_
                rintro x w14 ⟨rfl, hb14⟩
                go_wp2_with fail
                refine hK.out _ _ ?_ (fun hHeld14 => ?_)
                · (first | with_reducible assumption | ((refine KN30.out _ ?_); (first | with_reducible assumption | exact bvn (by assumption) 1)))
                clear hK K
                try simp only [Act.put, List.setIfInBounds_toArray, List.set_cons_zero, List.set_cons_succ]
                refine wpAnyH_take (i := 15) (oi := { dst := some 172, op := Op.call { callee := Callee.builtin Builtin.len, args := #[Operand.tmp 171], argTypes := #[53] }, type := 3, pos := _, after := _, guard := some (9, false) }) (v := (.int .i64 0)) rfl (by kernel_rfl) (by kernel_rfl) (by kernel_rfl) (fun _ _ _ h => h) (Or.inl ⟨by rfl, fun w' _ => ?_⟩) (by assumption) ?_
                · go_simp
                simp only [Act.put, List.setIfInBounds_toArray, List.set_cons_zero, List.set_cons_succ]
                refine wpAnyH_ready (rs := [20]) (by kernel_rfl) (by simp) ?_
                refine AllReadyH.cons (o := { dst := some 177, op := Op.call { callee := Callee.value (Operand.func 18), args := #[Operand.tmp 176], argTypes := #[25] }, type := 56, pos := _, after := _, guard := some (9, false) }) rfl (fun K hK => ?_) AllReadyH.nil
                go_simp
                refine (D18.out _ (by first | exact hb14 | exact bvn hb14 1 | exact bvd hb14)).mono ?_
                rintro x w15 ⟨rfl, hb15⟩
                go_wp2_with fail
                refine hK.out _ _ ?_ (fun hHeld20 => ?_)
                · (first | with_reducible assumption | ((refine KN30.out _ ?_); (first | with_reducible assumption | exact bvn (by assumption) 1)))
                clear hK K
                try simp only [Act.put, List.setIfInBounds_toArray, List.set_cons_zero, List.set_cons_succ]
                refine wpAnyH_take (i := 21) (oi := { dst := some 178, op := Op.call { callee := Callee.builtin Builtin.len, args := #[Operand.tmp 177], argTypes := #[56] }, type := 3, pos := _, after := _, guard := some (9, false) }) (v := (.int .i64 0)) rfl (by kernel_rfl) (by kernel_rfl) (by kernel_rfl) (fun _ _ _ h => h) (Or.inl ⟨by rfl, fun w' _ => ?_⟩) (by assumption) ?_
                · go_simp
                simp only [Act.put, List.setIfInBounds_toArray, List.set_cons_zero, List.set_cons_succ]
                refine wpAnyH_take (i := 22) (oi := { dst := some 179, op := Op.binOp BinOp.add 3 (Operand.tmp 172) (Operand.tmp 178) 3, type := 3, pos := _, after := _, guard := some (9, false) }) (v := (.int .i64 0)) rfl (by kernel_rfl) (by kernel_rfl) (by kernel_rfl) (fun _ _ _ h => h) (Or.inl ⟨by rfl, fun w' _ => ?_⟩) (by assumption) ?_
                · (go_simp; rfl)
                simp only [Act.put, List.setIfInBounds_toArray, List.set_cons_zero, List.set_cons_succ]
                refine wpAnyH_ready (rs := [27]) (by kernel_rfl) (by simp) ?_
                refine AllReadyH.cons (o := { dst := some 184, op := Op.call { callee := Callee.value (Operand.func 21), args := #[Operand.tmp 183], argTypes := #[25] }, type := 63, pos := _, after := _, guard := some (9, false) }) rfl (fun K hK => ?_) AllReadyH.nil
                go_simp
                refine (D21.out _ (by first | exact hb15 | exact bvn hb15 1 | exact bvd hb15)).mono ?_
                rintro x w16 ⟨rfl, hb16⟩
                go_wp2_with fail
                refine hK.out _ _ ?_ (fun hHeld27 => ?_)
                · (first | with_reducible assumption | ((refine KN30.out _ ?_); (first | with_reducible assumption | exact bvn (by assumption) 1)))
                clear hK K
                try simp only [Act.put, List.setIfInBounds_toArray, List.set_cons_zero, List.set_cons_succ]
                refine wpAnyH_take (i := 28) (oi := { dst := some 185, op := Op.call { callee := Callee.builtin Builtin.len, args := #[Operand.tmp 184], argTypes := #[63] }, type := 3, pos := _, after := _, guard := some (9, false) }) (v := (.int .i64 0)) rfl (by kernel_rfl) (by kernel_rfl) (by kernel_rfl) (fun _ _ _ h => h) (Or.inl ⟨by rfl, fun w' _ => ?_⟩) (by assumption) ?_
                · go_simp
                simp only [Act.put, List.setIfInBounds_toArray, List.set_cons_zero, List.set_cons_succ]
                refine wpAnyH_take (i := 29) (oi := { dst := some 186, op := Op.binOp BinOp.add 3 (Operand.tmp 179) (Operand.tmp 185) 3, type := 3, pos := _, after := _, guard := some (9, false) }) (v := (.int .i64 0)) rfl (by kernel_rfl) (by kernel_rfl) (by kernel_rfl) (fun _ _ _ h => h) (Or.inl ⟨by rfl, fun w' _ => ?_⟩) (by assumption) ?_
                · (go_simp; rfl)
                simp only [Act.put, List.setIfInBounds_toArray, List.set_cons_zero, List.set_cons_succ]
                refine wpAnyH_ready (rs := [34]) (by kernel_rfl) (by simp) ?_
                refine AllReadyH.cons (o := { dst := some 191, op := Op.call { callee := Callee.value (Operand.func 19), args := #[Operand.tmp 190], argTypes := #[25] }, type := 3, pos := _, after := _, guard := some (9, false) }) rfl (fun K hK => ?_) AllReadyH.nil
                go_simp
                refine (D19.out _ (by first | exact hb16 | exact bvn hb16 1 | exact bvd hb16)).mono ?_
                rintro x w17 ⟨rfl, hb17⟩
                go_wp2_with fail
                refine hK.out _ _ ?_ (fun hHeld34 => ?_)
                · (first | with_reducible assumption | ((refine KN30.out _ ?_); (first | with_reducible assumption | exact bvn (by assumption) 1)))
                clear hK K
                try simp only [Act.put, List.setIfInBounds_toArray, List.set_cons_zero, List.set_cons_succ]
                refine wpAnyH_take (i := 35) (oi := { dst := some 192, op := Op.binOp BinOp.add 3 (Operand.tmp 186) (Operand.tmp 191) 3, type := 3, pos := _, after := _, guard := some (9, false) }) (v := (.int .i64 0)) rfl (by kernel_rfl) (by kernel_rfl) (by kernel_rfl) (fun _ _ _ h => h) (Or.inl ⟨by rfl, fun w' _ => ?_⟩) (by assumption) ?_
                · (go_simp; rfl)
                simp only [Act.put, List.setIfInBounds_toArray, List.set_cons_zero, List.set_cons_succ]
                refine wpAnyH_take (i := 36) (oi := { dst := some 193, op := Op.binOp BinOp.neq 3 (Operand.tmp 192) (Operand.const (Value.int IntKind.i64 0)) 3, type := 4, pos := _, after := _, guard := some (9, false) }) (v := (.bool false)) rfl (by kernel_rfl) (by kernel_rfl) (by kernel_rfl) (fun _ _ _ h => h) (Or.inl ⟨by rfl, fun w' _ => ?_⟩) (by assumption) ?_
                · go_simp
                simp only [Act.put, List.setIfInBounds_toArray, List.set_cons_zero, List.set_cons_succ]
                refine wpAnyH_take (i := 37) (oi := { dst := some 194, op := Op.pick (Operand.tmp 166) (Operand.const (Value.bool true)) (Operand.tmp 193), type := 4, pos := _, after := _, guard := none }) (v := (.bool false)) rfl (by kernel_rfl) (by kernel_rfl) (by kernel_rfl) (fun _ _ _ h => h) (Or.inl ⟨by rfl, fun w' _ => ?_⟩) (by assumption) ?_
                · go_simp
                simp only [Act.put, List.setIfInBounds_toArray, List.set_cons_zero, List.set_cons_succ]
                refine wpAnyH_done (by kernel_rfl) ?_ _
                have HX17 := Lib.hid (HXR.out.below hb17)
                clear hb13 hb14 hb15 hb16 hb17 p KN30 D15 D18 D21 D19
                go_wp2_with fail
                go_roundw
                case rel => exact ⟨j + 1, by omega, by go_num, HX17⟩
                case measure => simp [intOf]; omega
              · go_upto_region 30 with fail
                have p := KN30.out _ hb13
                go_region_held3 (fun W => W.cell? ⟨nb, j, none⟩ = some (.pointer P))
                  (first | with_reducible assumption | ((refine KN30.out _ ?_); (first | with_reducible assumption | exact bvn (by assumption) 1)))
                  (first
                    | (go_at_call 15; (with_reducible refine (D15.out _ ?_).mono ?_); (first | with_reducible assumption | exact bvn (by assumption) 1); rintro x w14 ⟨rfl, hb14⟩)
                    | (go_at_call 18; (with_reducible refine (D18.out _ ?_).mono ?_); (first | with_reducible assumption | exact bvn (by assumption) 1); rintro x w15 ⟨rfl, hb15⟩)
                    | (go_at_call 21; (with_reducible refine (D21.out _ ?_).mono ?_); (first | with_reducible assumption | exact bvn (by assumption) 1); rintro x w16 ⟨rfl, hb16⟩)
                    | (go_at_call 19; (with_reducible refine (D19.out _ ?_).mono ?_); (first | with_reducible assumption | exact bvn (by assumption) 1); rintro x w17 ⟨rfl, hb17⟩))
                have HX17 := Lib.hid (HXR.out.below hb17)
                clear hb13 hb14 hb15 hb16 hb17 p KN30 D15 D18 D21 D19
                go_wp2_with fail
                go_roundw
                case rel => exact ⟨j + 1, by omega, by go_num, HX17⟩
                case measure => simp [intOf]; omega
          · have hje : j = 2 := by omega
            subst hje
            have HXE := Lib.hid (HXR.out.less (K' := KZ z nb) (fun y hy => List.mem_cons_of_mem _ hy))
            go_wp2_with fail
            go_roundw
            case rel => exact ⟨k + 1, s', by omega, by go_num, hs', HXE⟩
            case measure => simp [intOf]; omega
      · have HA := Lib.hid (HAW.out wr (HB1.out.trans (HP.out.bel.mono HB1.out.size)))
        clear hsk
        go_wp2_with fail
        refine HA.out.mono ?_
        rintro x w9 ⟨rfl, hb9⟩
        have HB9 := Lib.hid hb9
        clear hb9
        go_wp2_with fail
        go_ret
        exact ⟨rfl, HB9.out⟩
end Go.Proofs.Ytpaalhhadjihlaa
