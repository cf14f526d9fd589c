/- What is proved here: what one act does to the program's messages under way and to the document's, as the law's switch has it. Conditions: both hold the same, and the act stands in a block. -/
import Derived.Test.YtpaalhhadjihlaaLwp24
namespace Go.Proofs.Ytpaalhhadjihlaa
open Go.RowKit Go.Extern.Stop Go.Stop Go.Extern Go.Maps Go.Deep
set_option maxRecDepth 100000
/-- The block of a number within a code. -/
def findBlock (n : Nat) : Code → Option Code
  | .block m c => if m = n then some (.block m c) else findBlock n c
  | .loop c => findBlock n c
  | .seq a b => match findBlock n a with
    | some c => some c
    | none => findBlock n b
  | .scope c => findBlock n c
  | .cond _ a b => match findBlock n a with
    | some c => some c
    | none => findBlock n b
  | _ => none
noncomputable def sw24 : Code := ((Try.f3.body.bind (findBlock 2)).getD .skip)
set_option maxRecDepth 1000000 in
set_option maxHeartbeats 16000000 in
theorem sw24_walk {w1 W3 : World} {g gp bp bm xb xp nb z k7 k sent : Nat} {y : AV} (hsk : sent ≤ k) (hs39 : sent < 100) (HP3 : Hid (PlX w1 W3 g gp bp bm xb xp sent ((k7, 38, y.cells.toArray) :: KZ z nb))) (HM3 : Hid (PIn W3 w1.heap.size y.q.pa y.q.m.props)) (HQL : Hid (y.q.m.props.length ≤ 1000)) (HYQ : Hid (∀ j u, y.q.cells[j]? = some u → y.cells.toArray[1 + j]? = some u)) (HWF : Hid ((Lit.int .i64 y.id).wf = true)) (HB7 : Hid (Blk W3 k7 38 y.cells.toArray))
    (sl0 sl1 sl2 sl5 sl6 sl8 sl9 sl10 sl11 sl12 sl13 sl14 sl15 sl16 sl17 sl18 sl19 sl20 sl21 sl22 sl23 sl24 sl25 sl26 sl27 sl28 sl29 sl30 sl31 sl32 sl33 sl34 sl35 sl36 sl37 sl38 sl39 sl40 sl42 sl43 sl44 sl45 sl46 sl47 sl48 sl49 sl50 sl51 sl52 sl53 sl54 sl55 sl56 sl57 sl58 sl59 sl60 sl61 sl62 sl63 sl64 sl65 sl66 sl67 sl68 sl69 sl70 sl71 sl72 sl73 sl74 sl75 sl76 sl77 sl78 sl79 sl80 sl81 sl82 sl83 sl84 sl85 sl86 sl87 sl88 sl89 sl90 sl91 sl92 sl93 sl94 sl95 sl96 sl97 sl98 sl99 sl100 sl101 sl102 sl103 sl104 sl105 sl106 sl107 sl108 sl109 sl110 sl111 sl112 sl113 sl114 sl115 sl116 sl117 sl118 sl119 sl120 sl121 sl122 sl123 sl124 sl125 sl126 sl127 sl128 sl129 sl130 sl131 sl132 sl133 sl134 sl135 sl136 sl137 sl138 sl139 sl140 sl141 sl142 sl143 sl144 sl145 sl146 sl147 sl148 sl149 sl150 sl151 sl152 sl153 sl154 sl155 sl156 sl157 sl158 sl159 sl160 sl161 sl162 sl163 sl164 sl165 sl166 sl167 sl168 sl169 sl170 sl171 sl172 sl173 sl174 sl175 sl176 sl177 sl178 sl179 sl180 sl181 sl182 sl183 sl184 sl185 sl186 sl187 sl188 sl189 sl190 sl191 sl192 sl193 sl194 sl195 : Value) (K : Act → World → Prop) (Q : Exit → Act → World → Prop)
    (hK : ∀ (u2 u8 u9 u10 u11 u12 u13 u14 u15 u30 u31 u32 u33 u34 u35 u36 u37 u38 u39 u40 u41 u42 u43 u44 u45 u46 u47 u48 u49 u50 u51 u52 u53 u54 u55 u56 u57 u58 u59 u60 u61 u62 u63 u64 u65 u66 u67 u68 u69 u70 u71 u72 u73 u74 u75 u76 u77 u78 u79 u80 u81 u82 u83 u84 u85 u86 u87 u88 u89 u90 u91 u92 u93 u94 u95 u96 u97 u98 u99 u100 u101 u102 u103 u104 u105 u106 u107 u108 u109 u110 u111 u112 u113 u114 u115 u116 u117 u118 u119 u120 u121 u122 u123 u124 u125 u126 u127 u128 u129 u130 u131 u132 u133 u134 u135 u136 u137 u138 u139 u140 u141 u142 u143 u144 u145 u146 u147 u148 u149 u150 u151 u152 u153 u154 u155 u156 u157 u158 u159 u160 u161 u162 u163 u164 u165 u166 u167 u168 u169 u170 u171 u172 u173 u174 u175 u176 u177 u178 u179 u180 u181 u182 u183 u184 u185 u186 u187 u188 u189 u190 u191 u192 u193 u194 : Value) (wx : World), (∃ s' : Nat, s' ≤ k + 1 ∧ Hid (PlX w1 wx g gp bp bm xb xp s' ((k7, 38, y.cells.toArray) :: KZ z nb))) → K ⟨List.toArray (sl0 :: sl1 :: u2 :: .pointer (some ⟨g, 0, none⟩) :: .pointer (some ⟨xb, 0, none⟩) :: sl5 :: sl6 :: .pointer (some ⟨k7, 0, none⟩) :: u8 :: u9 :: u10 :: u11 :: u12 :: u13 :: u14 :: u15 :: sl16 :: sl17 :: sl18 :: sl19 :: sl20 :: sl21 :: sl22 :: sl23 :: sl24 :: sl25 :: sl26 :: sl27 :: sl28 :: sl29 :: u30 :: u31 :: u32 :: u33 :: u34 :: u35 :: u36 :: u37 :: u38 :: u39 :: u40 :: u41 :: u42 :: u43 :: u44 :: u45 :: u46 :: u47 :: u48 :: u49 :: u50 :: u51 :: u52 :: u53 :: u54 :: u55 :: u56 :: u57 :: u58 :: u59 :: u60 :: u61 :: u62 :: u63 :: u64 :: u65 :: u66 :: u67 :: u68 :: u69 :: u70 :: u71 :: u72 :: u73 :: u74 :: u75 :: u76 :: u77 :: u78 :: u79 :: u80 :: u81 :: u82 :: u83 :: u84 :: u85 :: u86 :: u87 :: u88 :: u89 :: u90 :: u91 :: u92 :: u93 :: u94 :: u95 :: u96 :: u97 :: u98 :: u99 :: u100 :: u101 :: u102 :: u103 :: u104 :: u105 :: u106 :: u107 :: u108 :: u109 :: u110 :: u111 :: u112 :: u113 :: u114 :: u115 :: u116 :: u117 :: u118 :: u119 :: u120 :: u121 :: u122 :: u123 :: u124 :: u125 :: u126 :: u127 :: u128 :: u129 :: u130 :: u131 :: u132 :: u133 :: u134 :: u135 :: u136 :: u137 :: u138 :: u139 :: u140 :: u141 :: u142 :: u143 :: u144 :: u145 :: u146 :: u147 :: u148 :: u149 :: u150 :: u151 :: u152 :: u153 :: u154 :: u155 :: u156 :: u157 :: u158 :: u159 :: u160 :: u161 :: u162 :: u163 :: u164 :: u165 :: u166 :: u167 :: u168 :: u169 :: u170 :: u171 :: u172 :: u173 :: u174 :: u175 :: u176 :: u177 :: u178 :: u179 :: u180 :: u181 :: u182 :: u183 :: u184 :: u185 :: u186 :: u187 :: u188 :: u189 :: u190 :: u191 :: u192 :: u193 :: u194 :: sl195 :: []), []⟩ wx) :
    Code.wp Try.prog sw24 (Exit.then K Q) ⟨List.toArray (sl0 :: sl1 :: sl2 :: .pointer (some ⟨g, 0, none⟩) :: .pointer (some ⟨xb, 0, none⟩) :: sl5 :: sl6 :: .pointer (some ⟨k7, 0, none⟩) :: sl8 :: sl9 :: sl10 :: sl11 :: sl12 :: sl13 :: sl14 :: sl15 :: sl16 :: sl17 :: sl18 :: sl19 :: sl20 :: sl21 :: sl22 :: sl23 :: sl24 :: sl25 :: sl26 :: sl27 :: sl28 :: sl29 :: sl30 :: sl31 :: sl32 :: sl33 :: sl34 :: sl35 :: sl36 :: sl37 :: sl38 :: sl39 :: sl40 :: .int .i64 y.kind :: sl42 :: sl43 :: sl44 :: sl45 :: sl46 :: sl47 :: sl48 :: sl49 :: sl50 :: sl51 :: sl52 :: sl53 :: sl54 :: sl55 :: sl56 :: sl57 :: sl58 :: sl59 :: sl60 :: sl61 :: sl62 :: sl63 :: sl64 :: sl65 :: sl66 :: sl67 :: sl68 :: sl69 :: sl70 :: sl71 :: sl72 :: sl73 :: sl74 :: sl75 :: sl76 :: sl77 :: sl78 :: sl79 :: sl80 :: sl81 :: sl82 :: sl83 :: sl84 :: sl85 :: sl86 :: sl87 :: sl88 :: sl89 :: sl90 :: sl91 :: sl92 :: sl93 :: sl94 :: sl95 :: sl96 :: sl97 :: sl98 :: sl99 :: sl100 :: sl101 :: sl102 :: sl103 :: sl104 :: sl105 :: sl106 :: sl107 :: sl108 :: sl109 :: sl110 :: sl111 :: sl112 :: sl113 :: sl114 :: sl115 :: sl116 :: sl117 :: sl118 :: sl119 :: sl120 :: sl121 :: sl122 :: sl123 :: sl124 :: sl125 :: sl126 :: sl127 :: sl128 :: sl129 :: sl130 :: sl131 :: sl132 :: sl133 :: sl134 :: sl135 :: sl136 :: sl137 :: sl138 :: sl139 :: sl140 :: sl141 :: sl142 :: sl143 :: sl144 :: sl145 :: sl146 :: sl147 :: sl148 :: sl149 :: sl150 :: sl151 :: sl152 :: sl153 :: sl154 :: sl155 :: sl156 :: sl157 :: sl158 :: sl159 :: sl160 :: sl161 :: sl162 :: sl163 :: sl164 :: sl165 :: sl166 :: sl167 :: sl168 :: sl169 :: sl170 :: sl171 :: sl172 :: sl173 :: sl174 :: sl175 :: sl176 :: sl177 :: sl178 :: sl179 :: sl180 :: sl181 :: sl182 :: sl183 :: sl184 :: sl185 :: sl186 :: sl187 :: sl188 :: sl189 :: sl190 :: sl191 :: sl192 :: sl193 :: sl194 :: sl195 :: []), []⟩ W3 := by
  conv => arg 2; whnf
  go_cut [8] from 30 to 194 (fun _ wx => ∃ s' : Nat, s' ≤ k + 1 ∧ Hid (PlX w1 wx g gp bp bm xb xp s' ((k7, 38, y.cells.toArray) :: KZ z nb)))
  case rest => exact hK u2 u8 u9 u10 u11 u12 u13 u14 u15 u30 u31 u32 u33 u34 u35 u36 u37 u38 u39 u40 u41 u42 u43 u44 u45 u46 u47 u48 u49 u50 u51 u52 u53 u54 u55 u56 u57 u58 u59 u60 u61 u62 u63 u64 u65 u66 u67 u68 u69 u70 u71 u72 u73 u74 u75 u76 u77 u78 u79 u80 u81 u82 u83 u84 u85 u86 u87 u88 u89 u90 u91 u92 u93 u94 u95 u96 u97 u98 u99 u100 u101 u102 u103 u104 u105 u106 u107 u108 u109 u110 u111 u112 u113 u114 u115 u116 u117 u118 u119 u120 u121 u122 u123 u124 u125 u126 u127 u128 u129 u130 u131 u132 u133 u134 u135 u136 u137 u138 u139 u140 u141 u142 u143 u144 u145 u146 u147 u148 u149 u150 u151 u152 u153 u154 u155 u156 u157 u158 u159 u160 u161 u162 u163 u164 u165 u166 u167 u168 u169 u170 u171 u172 u173 u174 u175 u176 u177 u178 u179 u180 u181 u182 u183 u184 u185 u186 u187 u188 u189 u190 u191 u192 u193 u194 wc hcut
  clear hK
  case first =>
    by_cases k1 : y.kind = 1
    · have b1 : ((y.kind : Int) == 1) = true := beq_iff_eq.2 k1
      have d10 : W3.cell? ⟨k7, 10, none⟩ = some (.int .i64 y.qos) := HB7.out.cell 10
      have HS := Lib.hid (pl_send HP3.out y.q HM3.out HQL.out y.qos hs39)
      unfold QV.agg at HS
      clear k1
      go_wp2_with (refine wpb_ldq HB7.out y.q HYQ.out _ rfl rfl rfl ?_; unfold QV.agg; simp only [Act.put, List.setIfInBounds_toArray, List.set_cons_zero, List.set_cons_succ])
      refine HS.out.mono ?_
      rintro x w4 ⟨id, ok, L1, la1, v1, D1, ld1, LP1, rfl, hM4, hq4, HX4⟩
      have HS2 := Lib.hid (HX4.out w4 _ hM4 hq4)
      have HB8 := Lib.hid (show Blk w4 k7 38 y.cells.toArray from (hM4.ks _ (List.mem_cons_self ..)).1)
      clear hM4 hq4 HX4 HS d10
      have d10 : w4.cell? ⟨k7, 10, none⟩ = some (.int .i64 y.qos) := HB8.out.cell 10
      have hid : ((id : Int) != id) = false := by simp
      have hid2 : id = id := rfl
      cases ok
      all_goals
        go_wp2_with (refine wpb_ldq HB8.out y.q HYQ.out _ rfl rfl rfl ?_; unfold QV.agg; simp only [Act.put, List.setIfInBounds_toArray, List.set_cons_zero, List.set_cons_succ])
        refine HS2.out.mono ?_
        rintro x w5 ⟨rfl, hX5⟩
        have HX5 := Lib.hid hX5
        clear hX5 HS2 d10
        go_wp2_with fail
        go_meet
        case rel => exact ⟨_, by simp; omega, HX5⟩
    · have n1 : ((y.kind : Int) == 1) = false := beq_eq_false_iff_ne.2 k1
      by_cases k2 : y.kind = 2
      · have b2 : ((y.kind : Int) == 2) = true := beq_iff_eq.2 k2
        have HPK := Lib.hid (packet13_any y)
        have HSZ := Lib.hid (show y.cells.toArray.size = a0.cells.toArray.size from rfl)
        clear k1 k2
        generalize hyc : y.cells.toArray = yc at *
        have HPK3 := Lib.hid (HPK.out W3)
        go_wp2_with (refine wpb_load HB7.out tyAc HSZ.out _ rfl rfl rfl ?_; simp only [Act.put, List.setIfInBounds_toArray, List.set_cons_zero, List.set_cons_succ])
        refine HPK3.out.mono ?_
        rintro x w4 ⟨rfl, hb4⟩
        have HS := Lib.hid (pl_ack2 (HP3.out.below hb4) y.of y.id y.rs HWF.out)
        clear hb4 HPK3
        go_wp2_with fail
        refine HS.out.mono ?_
        rintro x w5 ⟨nn, qc, P5, pa5, L1, la1, v1, D1, ld1, LP1, rfl, hq5, hM5, hp5, HX5⟩
        have HM5 := Lib.hid (And.intro hM5 hp5)
        have HQ5 := Lib.hid hq5
        have HY := Lib.hid (Own.start [] w5)
        clear hq5 hM5 hp5 HS
        go_upto_region 17 with (first
          | (refine wpo_alloc tyMs HY.out rfl rfl ?_; clear HY; rintro k13 W6 hO; have HY := Lib.hid hO; clear hO; simp only [Act.put, List.setIfInBounds_toArray, List.set_cons_zero, List.set_cons_succ])
          | (refine wpo_store (k := k13) HY.out 0 tyMs rfl _ _ rfl rfl rfl rfl rfl HQ5.out.1 HQ5.out.2 ?_; clear HY; rintro W7 hO; have HY := Lib.hid hO; clear hO; simp only [Act.put]))
        have HM7 := Lib.hid ((HM5.out.1.below HY.out.bel).add (y := (k13, 36, qc)) (HY.out.get 0 rfl) (HM5.out.1.aw.out.none (own_ge HY.out 0 rfl)) rfl)
        have HP7 := Lib.hid (HM5.out.2.below HY.out.bel)
        have HB8 := Lib.hid (HM7.out.ks _ (List.mem_cons_of_mem _ (List.mem_cons_self ..))).1
        have HPK7 := Lib.hid (HPK.out W7)
        clear HY HM5
        go_wp2_with (refine wpb_load HB8.out tyAc HSZ.out _ rfl rfl rfl ?_; simp only [Act.put, List.setIfInBounds_toArray, List.set_cons_zero, List.set_cons_succ])
        refine HPK7.out.mono ?_
        rintro x w8 ⟨rfl, hb8⟩
        have HS2 := Lib.hid (HX5.out w8 _ (HM7.out.below hb8) (HP7.out.below hb8))
        clear hb8 HPK7 HX5 HM7 HP7
        go_wp2_with fail
        refine HS2.out.mono ?_
        rintro x w9 ⟨qd, rfl, hq9, hX9, HSM⟩
        have HX9 := Lib.hid hX9
        have HQ9 := Lib.hid hq9
        have HY := Lib.hid (Own.start [] w9)
        clear hq9 hX9 HS2
        go_upto_region 18 with (first
          | (refine wpo_alloc tyMs HY.out rfl rfl ?_; clear HY; rintro k15 W10 hO; have HY := Lib.hid hO; clear hO; simp only [Act.put, List.setIfInBounds_toArray, List.set_cons_zero, List.set_cons_succ])
          | (refine wpo_store (k := k15) HY.out 0 tyMs rfl _ _ rfl rfl rfl rfl rfl HQ9.out.1 HQ9.out.2 ?_; clear HY; rintro W11 hO; have HY := Lib.hid hO; clear hO; simp only [Act.put]))
        have HX11 := Lib.hid (HX9.out.below HY.out.bel)
        have HB13 := Lib.hid (HX11.out.get 0 rfl)
        have HB15 := Lib.hid (HY.out.get 0 rfl)
        have HSM2 := Lib.hid (HSM.out W11 HY.out.bel)
        have hnn : ((nn : Int) != nn) = false := by simp
        obtain ⟨s0, s1, s2, s3, s4, s5, s6, s7, s8, hqc⟩ := arr9 HQ5.out.1
        obtain ⟨r0, r1, r2, r3, r4, r5, r6, r7, r8, hqd⟩ := arr9 HQ9.out.1
        have hb13 := HB13.out
        have hb15 := HB15.out
        rw [hqc] at hb13 HSM2
        rw [hqd] at hb15 HSM2
        obtain ⟨p0, p1, p2, p3, p4, p5, p6, p7, p8⟩ := cells9 hb13
        obtain ⟨z0, z1, z2, z3, z4, z5, z6, z7, z8⟩ := cells9 hb15
        clear HY HX9 HSM hb13 hb15 hqc hqd
        go_wp2_with fail
        refine HSM2.out.mono ?_
        rintro x w12 ⟨rfl, hb12⟩
        have HX12 := Lib.hid ((HX11.out.below hb12).less (K' := (k7, 38, yc) :: KZ z nb) (fun y hy => List.mem_cons_of_mem _ hy))
        clear hb12 HSM2 p0 p1 p2 p3 p4 p5 p6 p7 p8 z0 z1 z2 z3 z4 z5 z6 z7 z8
        go_wp2_with fail
        go_meet
        case rel => exact ⟨sent, by omega, HX12⟩
      · have n2 : ((y.kind : Int) == 2) = false := beq_eq_false_iff_ne.2 k2
        by_cases k3 : y.kind = 3
        · have b3 : ((y.kind : Int) == 3) = true := beq_iff_eq.2 k3
          have HS := Lib.hid (pl_group HP3.out (Nat.le_of_lt hs39))
          clear k1 k2 k3
          go_wp2_with fail
          refine HS.out.mono ?_
          rintro x w4 ⟨a4, n4, c4, rfl, HX4⟩
          have HS2 := Lib.hid (HX4.out w4 (Below.refl _ _))
          clear HS HX4
          go_wp2_with fail
          refine HS2.out.mono ?_
          rintro x w5 ⟨a5, c5, rfl, hX5, HSM⟩
          have HX5 := Lib.hid hX5
          have HS3 := Lib.hid (HSM.out w5 (Below.refl _ _))
          clear HS2 HSM hX5
          go_wp2_with fail
          refine HS3.out.mono ?_
          rintro x w6 ⟨rfl, hb6⟩
          have HX6 := Lib.hid (HX5.out.below hb6)
          clear HS3 hb6 HX5
          go_wp2_with fail
          go_meet
          case rel => exact ⟨sent, by omega, HX6⟩
        · have n3 : ((y.kind : Int) == 3) = false := beq_eq_false_iff_ne.2 k3
          clear k1 k2 k3
          go_wp2_with fail
          go_meet
          case rel => exact ⟨sent, by omega, HP3⟩
end Go.Proofs.Ytpaalhhadjihlaa
