/- What is proved here: OutOnce answers true for every list of acts. Conditions: the acts are some that came in. -/
import Derived.Test.YtkbinmjbbmejpaaOnc24
import Derived.Deep.CutRange
namespace Go.Proofs.Ytkbinmjbbmejpaa
open Go.RowKit Go.Extern.Stop Go.Stop Go.Extern Go.Maps Go.Deep
set_option maxRecDepth 100000
theorem ARd.pos {w : World} {A : Option Addr} {L : AL} (h : ARd w A L) (hp : 0 < L.length) : ∃ g off, A = some ⟨g, off, none⟩ ∧ ∀ k, k < L.length → ACells w g (off + k * 14) (L.getD k a0) := h hp
theorem aq_at (y : AV) : ∀ j u, y.q.cells[j]? = some u → y.cells.toArray[1 + j]? = some u := by
  intro j u h
  have hj : j < 9 := (List.getElem?_eq_some_iff.1 h).1
  rw [List.getElem?_toArray, Nat.add_comm]
  show ((y.q.cells ++ [.int .i64 y.qos, .int .i64 y.of, .int .i64 y.id, .int .i64 y.rs]))[j]? = some u
  rw [List.getElem?_append_left (by exact hj)]
  exact h
set_option maxHeartbeats 16000000 in
theorem outOnce_walk (a : Option Addr) (n c : Nat) (xs : AL) (w : World) (hn : n ≤ maxLen) (h : ActsN w a n xs) :
    Calls Try.prog 4 #[.slice a n c] w fun x w' => x = .returned (.bool true) ∧ Below w.heap.size w w' := by
  have HFW := Lib.hid (few24_any (c := c) h hn)
  have HAW := Lib.hid (fun W (hb : Below w.heap.size w W) => (awake24 W).mono fun x w' hx => show x = .returned (.bool true) ∧ Below w.heap.size w w' from ⟨hx.1, hb.trans (hx.2.mono hb.size)⟩)
  have HX := Lib.hid h
  have HNM := Lib.hid hn
  clear h hn
  go_enter Try.func4, Try.ntmps4
  go_wp2_with fail
  refine HFW.out.mono ?_
  rintro x w1 ⟨b, rfl, hb, hb1⟩
  have HB1 := Lib.hid hb1
  clear hb1 HFW
  cases b with
  | false =>
    have HA := Lib.hid (HAW.out _ HB1.out)
    clear hb
    go_wp2_with fail
    refine HA.out.mono ?_
    rintro x w2 ⟨rfl, hb2⟩
    have HB2 := Lib.hid hb2
    clear hb2
    go_wp2_with fail
    go_ret
    exact ⟨rfl, HB2.out⟩
  | true =>
    have HF := Lib.hid (hb rfl)
    have hn40 : n ≤ 40 := by have := HF.out.1; have := HX.out.1; omega
    have HNW := Lib.hid (on_new w1)
    clear hb
    go_wp2_with fail
    refine HNW.out.mono ?_
    rintro x w2 ⟨g, gp, bp, bm, rfl, ho⟩
    have HO := Lib.hid ho
    clear ho HNW
    go_wp2_with fail
    go_loopw [4, 5, 6] (fun v4 v5 v6 wr => ∃ (k sent out : Nat) (L : FL) (last : Nat), k ≤ n ∧ v6 = .int .i64 k ∧ v4 = .int .i64 sent ∧ v5 = .int .i64 out ∧ sent ≤ k ∧ Hid (Oc24 w1 wr g gp bp bm L last sent out)) (fun _ _ i _ => n - (intOf i).toNat)
    case atStart => exact ⟨0, 0, 0, [], 0, Nat.zero_le _, rfl, rfl, rfl, Nat.le_refl _, HO⟩
    case round =>
      obtain ⟨k, sent, out, L, last, hk, rfl, rfl, rfl, hsk, HOS⟩ := hrel
      by_cases hlt : k < n
      · have HKL := Lib.hid (show k < xs.length by have := HX.out.1; omega)
        obtain ⟨ga, off, rfl, hac⟩ := HX.out.2.1.pos (by have := HKL.out; omega)
        have hbe : Below w.heap.size w wr := HB1.out.trans (HOS.out.aw.bel.mono HB1.out.size)
        have hcc := (hac k HKL.out).at (hbe.block ga (lt_of_cell' (hac k HKL.out).c0))
        have hms := HX.out.2.2 k HKL.out
        have hfp := HF.out.2 k HKL.out
        obtain ⟨y, hy⟩ : ∃ y, y = xs.getD k a0 := ⟨_, rfl⟩
        rw [← hy] at hcc hms hfp
        have HM := Lib.hid (show PIn wr w1.heap.size y.q.pa y.q.m.props from (hms.1.1.below hbe).mono HB1.out.size)
        have HQL := Lib.hid (show y.q.m.props.length ≤ 1000 by omega)
        have HWF := Lib.hid hms.2
        have HSO := Lib.hid (show y.cells.toArray.toList.all (·.oneCell') = true by simp [AV.cells, Value.oneCell'])
        have HYQ := Lib.hid (aq_at y)
        have HO := Lib.hid (Own.start [] wr)
        obtain ⟨c0, c1, c2, c3, c4, c5, c6, c7, c8, c9, c10, c11, c12, c13⟩ := hcc
        clear hms hfp hac hy hbe
        go_upto_region 9 with (first
          | (refine wpo_alloc tyAc HO.out rfl rfl ?_; clear HO; rintro k7 W2 hO; have HO := Lib.hid hO; clear hO; simp only [Act.put, List.setIfInBounds_toArray, List.set_cons_zero, List.set_cons_succ])
          | (refine wpo_store (k := k7) (c := y.cells.toArray) HO.out 0 tyAc rfl _ _ rfl rfl rfl rfl rfl rfl HSO.out ?_; clear HO; rintro W3 hO; have HO := Lib.hid hO; clear hO; simp only [Act.put]))
        clear c0 c1 c2 c3 c4 c5 c6 c7 c8 c9 c10 c11 c12 c13
        have HOS3 := Lib.hid (HOS.out.below HO.out.bel)
        have HN7 := Lib.hid (HOS.out.aw.out.none (own_ge HO.out 0 rfl))
        have d0 : W3.cell? ⟨k7, 0, none⟩ = some (.int .i64 y.kind) := (HO.out.get 0 rfl).cell 0
        go_upto_block 2 with fail
        clear d0
        go_cut [4, 5, 8, 9, 10, 11] from 20 to 125 (fun v4 v5 _ _ _ _ wx => ∃ (s' o' : Nat) (L' : FL) (last' : Nat), v4 = .int .i64 s' ∧ v5 = .int .i64 o' ∧ s' ≤ k + 1 ∧ Hid (Oc24 w1 wx g gp bp bm L' last' s' o'))
        case first =>
          by_cases k1 : y.kind = 1
          · have b1 : ((y.kind : Int) == 1) = true := beq_iff_eq.2 k1
            have d10 : W3.cell? ⟨k7, 10, none⟩ = some (.int .i64 y.qos) := (HO.out.get 0 rfl).cell 10
            have HM3 := Lib.hid (show PIn W3 w1.heap.size y.q.pa y.q.m.props from HM.out.below HO.out.bel)
            have HS := Lib.hid (on_send HOS3.out y.q HM3.out HQL.out y.qos (by omega))
            unfold QV.agg at HS
            clear k1
            go_wp2_with (refine wpo_ldq HO.out 0 rfl y.q HYQ.out _ rfl rfl rfl ?_; unfold QV.agg; simp only [Act.put, List.setIfInBounds_toArray, List.set_cons_zero, List.set_cons_succ])
            refine HS.out.mono ?_
            rintro x w4 ⟨id, ok, L', last', rfl, ho4⟩
            have HO4 := Lib.hid ho4
            clear ho4 HS d10
            cases ok with
            | false =>
              go_wp2_with fail
              go_meet
              case rel => exact ⟨sent, out, L', last', rfl, rfl, by omega, HO4⟩
            | true =>
              go_wp2_with fail
              go_meet
              case rel => exact ⟨sent + 1, out, L', last', by go_num, rfl, by omega, HO4⟩
          · have n1 : ((y.kind : Int) == 1) = false := beq_eq_false_iff_ne.2 k1
            by_cases k2 : y.kind = 2
            · have b2 : ((y.kind : Int) == 2) = true := beq_iff_eq.2 k2
              have HP := Lib.hid (packet13_any y W3)
              clear k1 k2
              go_wp2_with (refine wpo_load (k := k7) (c := y.cells.toArray) HO.out 0 tyAc rfl rfl _ rfl rfl rfl ?_; simp only [Act.put, List.setIfInBounds_toArray, List.set_cons_zero, List.set_cons_succ])
              refine HP.out.mono ?_
              rintro x w4 ⟨rfl, hb4⟩
              have HOS4 := Lib.hid (HOS3.out.below hb4)
              have HS := Lib.hid (on_ack HOS4.out y.of y.id y.rs HWF.out)
              clear HP hb4
              go_wp2_with fail
              refine HS.out.mono ?_
              rintro x w5 ⟨nn, qq, L', rfl, hnn, ho5⟩
              have HO5 := Lib.hid ho5
              have HY := Lib.hid (Own.start [] w5)
              have HAG := Lib.hid (show qq.agg = .agg qq.cells.toArray from rfl)
              have HQS : Hid (qq.cells.toArray.size = 9 ∧ qq.cells.toArray.toList.all (·.oneCell') = true) := Lib.hid ⟨rfl, by simp [QV.cells, Value.oneCell']⟩
              rw [HAG.out]
              clear ho5 HS HAG
              generalize qq.cells.toArray = qc at *
              go_upto_region 16 with (first
                | (refine wpo_alloc tyMs HY.out rfl rfl ?_; clear HY; rintro k11 W6 hO; have HY := Lib.hid hO; clear hO; simp only [Act.put, List.setIfInBounds_toArray, List.set_cons_zero, List.set_cons_succ])
                | (refine wpo_store (k := k11) HY.out 0 tyMs rfl _ _ rfl rfl rfl rfl rfl HQS.out.1 HQS.out.2 ?_; clear HY; rintro W7 hO; have HY := Lib.hid hO; clear hO; simp only [Act.put]))
              have HO7 := Lib.hid (HO5.out.below HY.out.bel)
              have hon : out ≤ 40 := by have := HOS4.out.num; omega
              rcases hnn with rfl | rfl | rfl | rfl | rfl | rfl
              · go_wp2_with fail
                go_meet
                case rel => exact ⟨sent, out, L', last, rfl, rfl, by omega, HO7⟩
              · go_wp2_with fail
                go_meet
                case rel => exact ⟨sent, out + 1, L', last, rfl, by go_num, by omega, HO7⟩
              · go_wp2_with fail
                go_meet
                case rel => exact ⟨sent, out + 1, L', last, rfl, by go_num, by omega, HO7⟩
              · go_wp2_with fail
                go_meet
                case rel => exact ⟨sent, out, L', last, rfl, rfl, by omega, HO7⟩
              · go_wp2_with fail
                go_meet
                case rel => exact ⟨sent, out + 1, L', last, rfl, by go_num, by omega, HO7⟩
              · go_wp2_with fail
                go_meet
                case rel => exact ⟨sent, out, L', last, rfl, rfl, by omega, HO7⟩
            · have n2 : ((y.kind : Int) == 2) = false := beq_eq_false_iff_ne.2 k2
              by_cases k3 : y.kind = 3
              · have b3 : ((y.kind : Int) == 3) = true := beq_iff_eq.2 k3
                have HS := Lib.hid (on_group HOS3.out)
                clear k1 k2 k3
                go_wp2_with fail
                refine HS.out.mono ?_
                rintro x w4 ⟨a5, n5, c5, L', rfl, ho4⟩
                have hn5 := ho4.num
                have HO4 := Lib.hid ho4
                have hon : out + n5 ≤ 40 := by omega
                clear ho4 HS hn5
                go_wp2_with fail
                go_meet
                case rel => exact ⟨sent, out + n5, L', last, rfl, by go_num, by omega, HO4⟩
              · have n3 : ((y.kind : Int) == 3) = false := beq_eq_false_iff_ne.2 k3
                clear k1 k2 k3
                go_wp2_with fail
                go_meet
                case rel => exact ⟨sent, out, L, last, rfl, rfl, by omega, HOS3⟩
        case rest =>
          obtain ⟨s', o', L', last', rfl, rfl, hs', HOS4⟩ := hcut
          have HAL := Lib.hid (on_all HOS4.out)
          go_wp2_with fail
          refine HAL.out.mono ?_
          rintro x w6 ⟨v, G, rfl, hrow, ho6⟩
          obtain ⟨av, cv, rfl⟩ := hrow.form
          have HRW := Lib.hid hrow
          have HO6 := Lib.hid ho6
          obtain ⟨m, hm⟩ : ∃ m, m = L'.length := ⟨_, rfl⟩
          have hnum := ho6.num
          rw [← hm] at hnum HRW ⊢
          obtain rfl : s' = m + o' := hnum.symm
          clear hm hnum hrow ho6 HAL HOS4
          have hm40 : m + o' ≤ 40 := by omega
          have hself : ((m : Int) != (m : Int)) = false := by simp
          go_wp2_with fail
          go_loopw [13] (fun i wr => ∃ j : Nat, j ≤ m ∧ i = .int .i64 j ∧ Hid (∃ d, wr = w6.drewN d)) (fun i _ => m - (intOf i).toNat)
          case atStart => exact ⟨0, Nat.zero_le _, rfl, Lib.hid ⟨0, rfl⟩⟩
          case round =>
            obtain ⟨j, hj, rfl, HW1⟩ := hrel
            by_cases hjm : j < m
            · obtain ⟨gr, cr, hv, hcell⟩ := HRW.out.cell (by omega)
              obtain rfl : av = some ⟨gr, 0, none⟩ := by injection hv
              have HCE := Lib.hid hcell
              clear hv hcell
              go_wp2_with fail
              go_loopw [14] (fun i wr2 => ∃ l : Nat, l ≤ j ∧ i = .int .i64 l ∧ Hid (∃ d, wr2 = w6.drewN d)) (fun i _ => j - (intOf i).toNat)
              case atStart => exact ⟨0, Nat.zero_le _, rfl, HW1⟩
              case round =>
                obtain ⟨l, hl, rfl, HW2⟩ := hrel
                have HAT := Lib.hid (fun b o => show _ from World.cell?_of_block (w := w6) (w' := wr) (a := ⟨b, o, none⟩) (by obtain ⟨d, hd⟩ := HW2.out; rw [hd]; rfl))
                by_cases hlj : l < j
                · have e1 := (HAT.out gr _).trans (HCE.out l (by omega)).1
                  have e2 := (HAT.out gr _).trans (HCE.out j hjm).1
                  have hne := HRW.out.ne l j hlj hjm
                  generalize (G.getD l f0).id = i1 at *
                  generalize (G.getD j f0).id = i2 at *
                  have hnb : ((i1 : Int) == i2) = false := beq_eq_false_iff_ne.2 hne
                  have hl0 : l < m := by omega
                  clear hne
                  go_wp2_with fail
                  go_quiet (fail)
                  go_wp2_with fail
                  have HDR := Lib.hid (fun (q : Nat) => show Hid (∃ d, wr.drewN q = w6.drewN d) from Lib.hid (by obtain ⟨d, hd⟩ := HW2.out; exact ⟨_, drew_on hd q⟩))
                  go_roundw
                  case rel => exact ⟨l + 1, by omega, by go_num, HDR.out _⟩
                  case measure => simp [intOf]; omega
                · have e1 := (HAT.out gr _).trans (HCE.out j hjm).2
                  have e2 := (HAT.out gr _).trans (HCE.out j hjm).1
                  obtain ⟨o1, o2, o3⟩ := HRW.out.ok j hjm
                  generalize (G.getD j f0).st = s1 at *
                  generalize (G.getD j f0).id = i2 at *
                  have q1 : ¬ s1 < 1 := by omega
                  have q2 : ¬ 3 < s1 := by omega
                  have q3 : ¬ i2 < 1 := by omega
                  clear o1 o2 o3
                  go_wp2_with fail
                  go_roundw
                  case rel => exact ⟨j + 1, by omega, by go_num, HW2⟩
                  case measure => simp [intOf]; omega
            · have HO7 := Lib.hid (show Oc24 w1 wr g gp bp bm L' last' (m + o') o' from HO6.out.below (by obtain ⟨d, hd⟩ := HW1.out; rw [hd]; exact ⟨rfl, rfl, rfl, Nat.le_refl _, fun _ _ => rfl⟩))
              go_wp2_with fail
              go_roundw
              case rel => exact ⟨k + 1, m + o', o', L', last', by omega, by go_num, by go_num, rfl, by omega, HO7⟩
              case measure => simp [intOf]; omega
      · clear hsk
        have HA := Lib.hid (HAW.out wr (HB1.out.trans (HOS.out.aw.bel.mono HB1.out.size)))
        go_wp2_with fail
        refine HA.out.mono ?_
        rintro x w9 ⟨rfl, hb9⟩
        have HB9 := Lib.hid hb9
        clear hb9
        go_wp2_with fail
        go_ret
        exact ⟨rfl, HB9.out⟩
end Go.Proofs.Ytkbinmjbbmejpaa
