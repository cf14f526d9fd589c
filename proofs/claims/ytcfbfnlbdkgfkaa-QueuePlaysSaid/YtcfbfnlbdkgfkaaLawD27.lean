/- What is proved here: QueuePlays answers true for every room and acts. Conditions: the acts are some that came in. -/
import Derived.Test.YtcfbfnlbdkgfkaaSw27
namespace Go.Proofs.Ytcfbfnlbdkgfkaa
open Go.RowKit Go.Extern.Stop Go.Stop Go.Extern
set_option maxRecDepth 100000
set_option maxHeartbeats 4000000 in
theorem queuePlays_walk (most : Int) (A : Option Addr) (n c : Nat) (L : AL) (w : World) (_ : -9223372036854775808 ≤ most ∧ most ≤ 9223372036854775807) (hnz : n ≤ maxLen) (ha : ActsN w A n L) : Calls Try.prog 6 #[.int .i64 most, .slice A n c] w fun x w' => x = .returned (.bool true) ∧ Below w.heap.size w w' := by
  have HFW := Lib.hid (few27_any (c := c) ha hnz)
  unfold maxLen at hnz
  obtain ⟨hn, hrd, hms⟩ := ha
  have HAW := Lib.hid (fun W (hb : Below w.heap.size w W) => (awake27 W).mono fun x w' hx => show x = .returned (.bool true) ∧ Below w.heap.size w w' from ⟨hx.1, hb.trans (hx.2.mono hb.size)⟩)
  have HN := Lib.hid hn
  have HRD := Lib.hid (fun (hp : 0 < n) => hrd (by omega))
  have HMS := Lib.hid hms
  have HNEW := Lib.hid (fun W => qnew_any most W)
  clear hn hrd hms
  go_enter Try.func6, Try.ntmps6
  go_wp2_with fail
  refine HFW.out.mono ?_
  rintro x w1 ⟨b, rfl, hb, hb1⟩
  have HB1 := Lib.hid hb1
  clear hb1 HFW
  cases b with
  | false =>
    clear hb
    go_wp2_with fail
    refine (HAW.out _ HB1.out).mono ?_
    rintro x w2 ⟨rfl, hb2⟩
    have HB2 := Lib.hid hb2
    clear hb2
    go_wp2_with fail
    go_ret
    exact ⟨rfl, HB2.out⟩
  | true =>
    have HFEW := Lib.hid (hb rfl)
    clear hb
    go_wp2_with fail
    refine (HNEW.out _).mono ?_
    rintro x w2 ⟨rfl, rfl⟩
    clear HNEW
    have HST := Lib.hid (PlS.start (most := most) HB1.out)
    go_wp2_with fail
    generalize ((((w1.alloc (.cells #[.int .i64 most, .slice none 0 0] 80)).alloc (.cells #[.int .i64 most, .slice none 0 0] 78)).alloc (.cells #[.int .i64 0, .slice none 0 0] 80)).alloc (.cells #[.pointer none, .pointer (some ⟨w1.heap.size + 1 + 1, 0, none⟩)] 74)) = W0 at *
    generalize w1.heap.size + 1 + 1 + 1 = nb at *
    generalize w1.heap.size + 1 + 1 = gz at *
    generalize w1.heap.size + 1 = gx at *
    generalize w1.heap.size = gq at *
    go_loopw [8] (fun i wr => ∃ (k : Nat) (M : List MV), k ≤ n ∧ i = .int .i64 k ∧ PlS w wr gq gx gz nb most M M ∧ Hid (FewM M) ∧ M.length ≤ k) (fun i _ => n - (intOf i).toNat)
    case atStart => exact ⟨0, [], by omega, rfl, HST.out, Lib.hid (fun m hm => by cases hm), by simp⟩
    case round =>
      obtain ⟨k, M, hk, rfl, hq, HF, hlM⟩ := hrel
      have HQ := Lib.hid hq
      by_cases hlt : k < n
      · have hkL : k < L.length := by have := HN.out; omega
        obtain ⟨g1, off, rfl, hcc⟩ := HRD.out (by omega)
        have HPIN := Lib.hid (HMS.out k hkL)
        have HAF := Lib.hid (HFEW.out.2 k hkL)
        have hn40 : n ≤ 40 := by have := HFEW.out.1; have := HN.out; omega
        have hca := (hcc k hkL).at (hq.bel.block g1 (lt_of_cell' (hcc k hkL).c0))
        obtain ⟨a, ha⟩ : ∃ a, a = L.getD k a0 := ⟨_, rfl⟩
        rw [← ha] at HPIN HAF hca
        have hbm : Below wr.heap.size wr (wr.alloc (.cells a.cells.toArray 83)) := (Below.refl _ _).alloc (Nat.le_refl _) _
        have hPB : PlB w (wr.alloc (.cells a.cells.toArray 83)) gq gx gz nb wr.heap.size most a M M := ⟨hq.below hbm, Blk.made _ _ _⟩
        have HPB := Lib.hid hPB
        obtain ⟨d0, d1, d2, d3, d4, d5, d6, d7, d8, d9, d10⟩ := hca
        clear hcc hkL ha hbm hPB hq
        unfold AV.cells at HPB
        go_upto_region 9 with fail
        generalize hbw : wr.heap.size = ba at *
        generalize wr.alloc (.cells [.int .i64 a.kind, .string a.q.m.topic, .string a.q.m.payload, .int .i64 a.q.m.qos, .bool a.q.m.retain, .slice a.q.pa a.q.m.props.length a.q.pc, .string a.q.m.frm, .int .i64 a.q.m.til, .int .i64 a.q.m.seq, .string a.q.m.grp, .int .i64 a.now].toArray 83) = W1 at *
        have k0 := (act_cells HPB.out.2).1
        have hl40 : M.length ≤ 900 := by omega
        go_upto_block 2 with fail
        refine sw6_walk (k := k) hl40 hlM HF HPIN HAF HPB _ _ _ _ _ _ _ _ _ _ _ _ _ _ _ _ _ _ _ _ _ _ _ _ _ _ _ _ _ _ _ _ _ _ _ _ _ _ _ _ _ _ _ _ _ _ _ _ _ _ _ _ _ _ _ _ _ _ _ _ _ _ _ _ _ _ _ _ _ _ _ _ _ _ _ _ _ _ _ _ _ _ _ _ _ _ _ _ _ _ _ _ _ _ _ _ _ _ _ _ _ _ _ _ _ _ _ _ _ _ _ _ _ _ _ _ _ _ _ _ _ _ _ _ _ _ _ _ _ _ _ _ _ _ _ _ _ _ _ _ _ _ _ _ _ _ _ _ _ _ _ _ _ _ _ _ _ _ _ _ _ _ _ _ _ _ _ _ _ _ _ _ _ _ _ _ _ _ _ _ _ _ _ _ _ _ _ _ _ _ _ _ _ _ _ _ _ _ _ _ _ _ ?_
        intro u4 u10 u11 u12 u13 u14 u15 u16 u17 u35 u36 u37 u38 u39 u40 u41 u42 u43 u44 u45 u46 u47 u48 u49 u50 u51 u52 u53 u54 u55 u56 u57 u58 u59 u60 u61 u62 u63 u64 u65 u66 u67 u68 u69 u70 u71 u72 u73 u74 u75 u76 u77 u78 u79 u80 u81 u82 u83 u84 u85 u86 u87 u88 u89 u90 u91 u92 u93 u94 u95 u96 u97 u98 u99 u100 u101 u102 u103 u104 u105 u106 u107 u108 u109 u110 u111 u112 u113 u114 u115 u116 u117 u118 u119 u120 u121 u122 u123 u124 u125 u126 u127 u128 u129 u130 u131 u132 u133 u134 u135 u136 u137 u138 u139 u140 u141 u142 u143 u144 u145 u146 u147 u148 u149 u150 u151 u152 u153 u154 u155 u156 u157 u158 u159 u160 u161 u162 u163 u164 u165 u166 u167 u168 u169 u170 u171 u172 u173 u174 u175 u176 u177 u178 u179 u180 u181 u182 u183 u184 u185 u186 u187 u188 u189 u190 u191 u192 u193 u194 u195 u196 u197 u198 u199 u200 u201 u202 wc hcut
        clear k0
        obtain ⟨M2, ⟨⟨vq, Lq, vx, Lx, hN, eq, ex⟩, hbx⟩, HF2, hl2⟩ := hcut
        have hi0 : PlE w wc gq gx gz nb ba most a vq vx Lq Lx := ⟨hN, hbx⟩
        have hlq : Lq.length = M2.length := by rw [← eq, List.length_map]
        have hlx : Lx.length = Lq.length := by rw [hlq, ← ex, List.length_map]
        have hfq : FewM (Lq.map QV.m) := by rw [eq]; exact HF2.out
        have hmm : Lq.map QV.m = Lx.map QV.m := eq.trans ex.symm
        obtain ⟨ax, cx, hvx⟩ := hN.x.form
        rw [hlx] at hvx
        have hl9 : Lq.length ≤ 900 := by omega
        obtain ⟨nn, hnn⟩ : ∃ nn, nn = Lq.length := ⟨_, rfl⟩
        have D44 := Lib.hid (fun W (hi : PlE w W gq gx gz nb ba most a vq vx Lq Lx) => e44 hi)
        have D45 := Lib.hid (fun W (hi : PlE w W gq gx gz nb ba most a vq vx Lq Lx) => e45 hi hl9 hfq)
        have D20 := Lib.hid (fun W A c L' (hi : PlF w W gq gx gz nb ba most a vq vx Lq Lx A c L') => e20 hi hl9 hfq hmm hvx)
        have KS := Lib.hid (fun W (hi : PlE w W gq gx gz nb ba most a vq vx Lq Lx) => show W.cell? ⟨gx, 1, none⟩ = some (.slice ax Lq.length cx) from by
          have := hi.n.x.blk.cell 1
          rw [hvx] at this
          exact this)
        have HBK := Lib.hid (fun W (hi : PlE w W gq gx gz nb ba most a vq vx Lq Lx) => show PlB w W gq gx gz nb ba most a M2 M2 from ⟨⟨vq, Lq, vx, Lx, hi.n, eq, ex⟩, hi.box⟩)
        rw [← hnn] at D44 D45 D20 KS
        clear hN hbx eq ex hlq hlx hfq hmm hvx hl9 hnn
        go_upto_region 26 with fail
        have k1 := KS.out _ hi0
        go_region_held3 (fun W => W.cell? ⟨gx, 1, none⟩ = some (.slice ax nn cx))
          (first | assumption | exact KS.out _ (by assumption) | exact KS.out _ (PlE.drewN (by assumption) 1) | exact KS.out _ (PlF.e (by assumption)) | exact KS.out _ (PlF.e (PlF.drewN (by assumption) 1)))
          (first
            | (go_at_call 44; (with_reducible refine (D44.out _ ?_).mono ?_); (first | assumption | exact PlE.drewN (by assumption) 1); rintro x w6 ⟨rfl, hi6⟩)
            | (go_at_call 45; (with_reducible refine (D45.out _ ?_).mono ?_); (first | assumption | exact PlE.drewN (by assumption) 1); rintro x w7 ⟨a7, c7, l7, rfl, hi7⟩)
            | (go_at_call 20; (with_reducible refine (D20.out _ a7 c7 l7 ?_).mono ?_); (first | assumption | exact PlF.drewN (by assumption) 1); rintro x w8 ⟨rfl, hi8⟩))
        have HB8 := Lib.hid (HBK.out _ hi8)
        clear hi0 hi6 hi7 hi8 k1 D44 D45 D20 KS HBK
        go_wp2_with fail
        generalize w8 = w9 at *
        go_loopw [18] (fun i wr2 => ∃ j : Nat, j ≤ 2 ∧ i = .int .i64 j ∧ PlB w wr2 gq gx gz nb ba most a M2 M2) (fun i _ => 2 - (intOf i).toNat)
        case atStart => exact ⟨0, by omega, rfl, HB8.out⟩
        case round =>
          obtain ⟨j, hj, rfl, hi0⟩ := hrel
          by_cases hj2 : j < 2
          · have HKC := Lib.hid (fun (N : Nat) W (h : KNb N W nb ba gz a) => KNb.cells h hj2)
            have D38 := Lib.hid (fun W (hi : PlB w W gq gx gz nb ba most a M2 M2) => z38 hi j a.now)
            have R38 := Lib.hid (fun W r (hi : PlR w W gq gx gz nb ba most a M2 M2 r) => r38 hi j a.now)
            have D40 := Lib.hid (fun W (hi : PlB w W gq gx gz nb ba most a M2 M2) => z40 hi j a.now)
            have R40 := Lib.hid (fun W r (hi : PlR w W gq gx gz nb ba most a M2 M2 r) => r40 hi j a.now)
            have D36 := Lib.hid (fun W (hi : PlB w W gq gx gz nb ba most a M2 M2) => z36 hi j)
            have D42 := Lib.hid (fun W (hi : PlB w W gq gx gz nb ba most a M2 M2) => z42 hi j a.now)
            have D44 := Lib.hid (fun W (hi : PlB w W gq gx gz nb ba most a M2 M2) => z44 hi j)
            have D45 := Lib.hid (fun W (hi : PlB w W gq gx gz nb ba most a M2 M2) => z45 hi j)
            generalize nobP gz j = P at *
            have hj1 : (j : Int) < 2 := by omega
            have hj0 : (0 : Int) ≤ (j : Int) := by omega
            obtain ⟨hlt1, hlt2⟩ := hi0.lts
            have KN := Lib.hid (fun W (h : KNb wr.heap.size W nb ba gz a) => show W.cell? ⟨nb, j, none⟩ = some (.pointer P) ∧ W.cell? ⟨ba, 10, none⟩ = some (.int .i64 a.now) from HKC.out _ W h)
            have hk0 := hi0.kn hlt1 hlt2 (Nat.le_refl _)
            have DB := Lib.hid (fun W (h : PlB w W gq gx gz nb ba most a M2 M2) (hs : wr.heap.size ≤ W.heap.size) => (D38.out W h).mono fun x W' ⟨h1, h2, h3⟩ => And.intro h1 (And.intro h2 (h2.kn hlt1 hlt2 (Nat.le_trans hs h3))))
            have DR := Lib.hid (fun W (hb : Below (wr.alloc (.cells #[.string ⟨#[]⟩, .string ⟨#[]⟩, .int .i64 0, .bool false, .slice none 0 0, .string ⟨#[]⟩, .int .i64 0, .int .i64 0, .string ⟨#[]⟩] 36)).heap.size (wr.alloc (.cells #[.string ⟨#[]⟩, .string ⟨#[]⟩, .int .i64 0, .bool false, .slice none 0 0, .string ⟨#[]⟩, .int .i64 0, .int .i64 0, .string ⟨#[]⟩] 36)) W) => (R38.out W wr.heap.size ((PlR.make' hi0).below hb)).mono fun x W' ⟨h1, h2, h3⟩ => And.intro h1 (And.intro h2 (h2.pb.kn hlt1 hlt2 (Nat.le_trans (Nat.le_trans (by simp) hb.size) h3))))
            unfold QV.agg q0 m0 e0 at DB DR
            go_upto_region 31 with fail
            go_cut [20] (fun s2 wx => s2 = .bool false ∧ PlB w wx gq gx gz nb ba most a M2 M2)
            case first =>
              obtain ⟨p0, p1⟩ := KN.out _ hk0
              go_region_held3 (fun W => W.cell? ⟨nb, j, none⟩ = some (.pointer P) ∧ W.cell? ⟨ba, 10, none⟩ = some (.int .i64 a.now))
                (first | with_reducible assumption | ((refine KN.out _ ?_); repeat (first | with_reducible assumption | (with_reducible refine kns ?_ ?_) | with_reducible apply kna | with_reducible apply knd | (with_reducible exact KNb.size (by assumption)) | (with_reducible exact Nat.le_refl _) | apply kna | apply knd | exact KNb.size (by assumption))))
                (first
                  | (go_at_call 38; (with_reducible refine (DB.out _ ?_ ?_).mono ?_); (first | assumption | exact PlB.drewN (by assumption) 1); (exact Nat.le_refl _); rintro x w10 ⟨rfl, hi6, hk6⟩)
                  | (go_at_call 38; (with_reducible refine (DR.out _ ?_).mono ?_); (exact bdr27 (Below.refl _ _)); rintro x w10 ⟨rfl, hr6, hk6⟩; obtain ⟨⟨z0, z1, z2, z3, z4, z5, z6, z7, z8⟩, zf⟩ := zq_cells hr6.blk; have zf0 := zf 0; have zf1 := zf 1; have zf2 := zf 2; have zf3 := zf 3; have zf4 := zf 4; have zf5 := zf 5; have zf6 := zf 6; have zf7 := zf 7; have zf8 := zf 8; clear zf))
              · have HX := Lib.hid (hi6.alloc (.cells #[.string ⟨#[]⟩, .string ⟨#[]⟩, .int .i64 0, .bool false, .slice none 0 0, .string ⟨#[]⟩, .int .i64 0, .int .i64 0, .string ⟨#[]⟩] 36))
                clear hi6 hk6 hk0 p0 p1 hi0 DB DR
                go_wp2_with fail
                go_meet
                exact ⟨rfl, HX.out⟩
              · have HX := Lib.hid (PlR.put' hr6 (.string ⟨#[]⟩) (.string ⟨#[]⟩) (.int .i64 0) (.bool false) (.slice none 0 0) (.string ⟨#[]⟩) (.int .i64 0) (.int .i64 0) (.string ⟨#[]⟩))
                clear hr6 hk6 hk0 p0 p1 hi0 DB DR z0 z1 z2 z3 z4 z5 z6 z7 z8 zf0 zf1 zf2 zf3 zf4 zf5 zf6 zf7 zf8
                go_wp2_with fail
                go_meet
                exact ⟨rfl, HX.out⟩
            case rest =>
              obtain ⟨rfl, hi1⟩ := hcut
              clear hlt1 hlt2 KN hk0 DB DR hi0
              obtain ⟨hlt1, hlt2⟩ := hi1.lts
              have KN := Lib.hid (fun W (h : KNb wc.heap.size W nb ba gz a) => show W.cell? ⟨nb, j, none⟩ = some (.pointer P) ∧ W.cell? ⟨ba, 10, none⟩ = some (.int .i64 a.now) from HKC.out _ W h)
              have hk0 := hi1.kn hlt1 hlt2 (Nat.le_refl _)
              have DB := Lib.hid (fun W (h : PlB w W gq gx gz nb ba most a M2 M2) (hs : wc.heap.size ≤ W.heap.size) => (D40.out W h).mono fun x W' ⟨h1, h2, h3⟩ => And.intro h1 (And.intro h2 (h2.kn hlt1 hlt2 (Nat.le_trans hs h3))))
              have DR := Lib.hid (fun W (hb : Below (wc.alloc (.cells #[.string ⟨#[]⟩, .string ⟨#[]⟩, .int .i64 0, .bool false, .slice none 0 0, .string ⟨#[]⟩, .int .i64 0, .int .i64 0, .string ⟨#[]⟩] 36)).heap.size (wc.alloc (.cells #[.string ⟨#[]⟩, .string ⟨#[]⟩, .int .i64 0, .bool false, .slice none 0 0, .string ⟨#[]⟩, .int .i64 0, .int .i64 0, .string ⟨#[]⟩] 36)) W) => (R40.out W wc.heap.size ((PlR.make' hi1).below hb)).mono fun x W' ⟨h1, h2, h3⟩ => And.intro h1 (And.intro h2 (h2.pb.kn hlt1 hlt2 (Nat.le_trans (Nat.le_trans (by simp) hb.size) h3))))
              unfold QV.agg q0 m0 e0 at DB DR
              go_upto_region 32 with fail
              go_cut [22] (fun s2 wx => s2 = .bool false ∧ PlB w wx gq gx gz nb ba most a M2 M2)
              case first =>
                obtain ⟨p0, p1⟩ := KN.out _ hk0
                go_region_held3 (fun W => W.cell? ⟨nb, j, none⟩ = some (.pointer P) ∧ W.cell? ⟨ba, 10, none⟩ = some (.int .i64 a.now))
                  (first | with_reducible assumption | ((refine KN.out _ ?_); repeat (first | with_reducible assumption | (with_reducible refine kns ?_ ?_) | with_reducible apply kna | with_reducible apply knd | (with_reducible exact KNb.size (by assumption)) | (with_reducible exact Nat.le_refl _) | apply kna | apply knd | exact KNb.size (by assumption))))
                  (first
                    | (go_at_call 40; (with_reducible refine (DB.out _ ?_ ?_).mono ?_); (first | assumption | exact PlB.drewN (by assumption) 1); (exact Nat.le_refl _); rintro x w11 ⟨rfl, hi6, hk6⟩)
                    | (go_at_call 40; (with_reducible refine (DR.out _ ?_).mono ?_); (exact bdr27 (Below.refl _ _)); rintro x w11 ⟨rfl, hr6, hk6⟩; obtain ⟨⟨z0, z1, z2, z3, z4, z5, z6, z7, z8⟩, zf⟩ := zq_cells hr6.blk; have zf0 := zf 0; have zf1 := zf 1; have zf2 := zf 2; have zf3 := zf 3; have zf4 := zf 4; have zf5 := zf 5; have zf6 := zf 6; have zf7 := zf 7; have zf8 := zf 8; clear zf))
                · have HX := Lib.hid (hi6.alloc (.cells #[.string ⟨#[]⟩, .string ⟨#[]⟩, .int .i64 0, .bool false, .slice none 0 0, .string ⟨#[]⟩, .int .i64 0, .int .i64 0, .string ⟨#[]⟩] 36))
                  clear hi6 hk6 hk0 p0 p1 hi1 DB DR
                  go_wp2_with fail
                  go_meet
                  exact ⟨rfl, HX.out⟩
                · have HX := Lib.hid (PlR.put' hr6 (.string ⟨#[]⟩) (.string ⟨#[]⟩) (.int .i64 0) (.bool false) (.slice none 0 0) (.string ⟨#[]⟩) (.int .i64 0) (.int .i64 0) (.string ⟨#[]⟩))
                  clear hr6 hk6 hk0 p0 p1 hi1 DB DR z0 z1 z2 z3 z4 z5 z6 z7 z8 zf0 zf1 zf2 zf3 zf4 zf5 zf6 zf7 zf8
                  go_wp2_with fail
                  go_meet
                  exact ⟨rfl, HX.out⟩
              case rest =>
                obtain ⟨rfl, hi2⟩ := hcut
                clear hlt1 hlt2 KN hk0 DB DR hi1
                have KN := Lib.hid (fun W (m m' : List MV) (h : PlB w W gq gx gz nb ba most a m m') => show W.cell? ⟨nb, j, none⟩ = some (.pointer P) ∧ W.cell? ⟨ba, 1, none⟩ = some (.string a.q.m.topic) ∧ W.cell? ⟨ba, 2, none⟩ = some (.string a.q.m.payload) ∧ W.cell? ⟨ba, 3, none⟩ = some (.int .i64 a.q.m.qos) ∧ W.cell? ⟨ba, 4, none⟩ = some (.bool a.q.m.retain) ∧ W.cell? ⟨ba, 5, none⟩ = some (.slice a.q.pa a.q.m.props.length a.q.pc) ∧ W.cell? ⟨ba, 6, none⟩ = some (.string a.q.m.frm) ∧ W.cell? ⟨ba, 7, none⟩ = some (.int .i64 a.q.m.til) ∧ W.cell? ⟨ba, 8, none⟩ = some (.int .i64 a.q.m.seq) ∧ W.cell? ⟨ba, 9, none⟩ = some (.string a.q.m.grp) ∧ W.cell? ⟨ba, 10, none⟩ = some (.int .i64 a.now) from ⟨(HKC.out _ W (h.kn h.lts.1 h.lts.2 (Nat.le_refl _))).1, (act_cells h.2).2⟩)
                unfold QV.agg at D36
                go_upto_region 33 with fail
                obtain ⟨p0, p1, p2, p3, p4, p5, p6, p7, p8, p9, p10⟩ := KN.out _ _ _ hi2
                go_region_held3 (fun W => W.cell? ⟨nb, j, none⟩ = some (.pointer P) ∧ W.cell? ⟨ba, 1, none⟩ = some (.string a.q.m.topic) ∧ W.cell? ⟨ba, 2, none⟩ = some (.string a.q.m.payload) ∧ W.cell? ⟨ba, 3, none⟩ = some (.int .i64 a.q.m.qos) ∧ W.cell? ⟨ba, 4, none⟩ = some (.bool a.q.m.retain) ∧ W.cell? ⟨ba, 5, none⟩ = some (.slice a.q.pa a.q.m.props.length a.q.pc) ∧ W.cell? ⟨ba, 6, none⟩ = some (.string a.q.m.frm) ∧ W.cell? ⟨ba, 7, none⟩ = some (.int .i64 a.q.m.til) ∧ W.cell? ⟨ba, 8, none⟩ = some (.int .i64 a.q.m.seq) ∧ W.cell? ⟨ba, 9, none⟩ = some (.string a.q.m.grp) ∧ W.cell? ⟨ba, 10, none⟩ = some (.int .i64 a.now))
                  (first | with_reducible assumption | exact KN.out _ M2 M2 (by assumption) | exact KN.out _ M2 M2 (PlB.drewN (by assumption) 1))
                  (first
                    | (go_at_call 36; (with_reducible refine (D36.out _ ?_).mono ?_); (first | assumption | exact PlB.drewN (by assumption) 1); rintro x w12 ⟨rfl, hi3⟩)
                    | (go_at_call 42; (with_reducible refine (D42.out _ ?_).mono ?_); (first | assumption | exact PlB.drewN (by assumption) 1); rintro x w13 ⟨rfl, hi4⟩)
                    | (go_at_call 44; (with_reducible refine (D44.out _ ?_).mono ?_); (first | assumption | exact PlB.drewN (by assumption) 1); rintro x w14 ⟨rfl, hi5⟩)
                    | (go_at_call 45; (with_reducible refine (D45.out _ ?_).mono ?_); (first | assumption | exact PlB.drewN (by assumption) 1); rintro x w15 ⟨⟨A15, c15, rfl⟩, hi6⟩))
                have HI6 := Lib.hid hi6
                clear p0 p1 p2 p3 p4 p5 p6 p7 p8 p9 p10 hi2 hi3 hi4 hi5 hi6 KN
                go_wp2_with fail
                go_roundw
                case rel => exact ⟨j + 1, by omega, by go_num, HI6.out⟩
                case measure => simp [intOf]; omega
          · have hje : j = 2 := by omega
            have HI0 := Lib.hid hi0
            clear hi0
            subst hje
            go_wp2_with fail
            go_roundw
            case rel => exact ⟨k + 1, M2, by omega, by go_num, HI0.out.1, HF2, hl2⟩
            case measure => simp [intOf]; omega
      · have hkn : k = n := by omega
        clear hq
        subst hkn
        go_wp2_with fail
        refine (HAW.out _ HQ.out.bel).mono ?_
        rintro x w2 ⟨rfl, hb2⟩
        have HB2 := Lib.hid hb2
        clear hb2
        go_wp2_with fail
        go_ret
        exact ⟨rfl, HB2.out⟩
end Go.Proofs.Ytcfbfnlbdkgfkaa
