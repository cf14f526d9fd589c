/- What is proved here: RetainLast answers true for every row of messages. Conditions: the messages are some that came in, and the two errors that a check names are there. -/
import Derived.Test.YtfmkeapbddhndaaDoorMso19
namespace Go.Proofs.YtfmkeapbddhndaaDoor
open Go.RowKit Go.Extern.Stop Go.Stop Go.Extern Go.Maps Go.Deep
set_option maxRecDepth 100000
section
variable {w W : World} {g bm : Nat} {L : QL}
theorem awd (h : AwS w W g bm 30 L) : AwS w (W.drewN 1) g bm 30 L := h.below ⟨rfl, rfl, rfl, Nat.le_refl _, fun _ _ => rfl⟩
theorem awdn (h : AwS w W g bm 30 L) (d : Nat) : AwS w (W.drewN d) g bm 30 L := h.below ⟨rfl, rfl, rfl, Nat.le_refl _, fun _ _ => rfl⟩
end
theorem beq_dec19 (a b : ByteArray) : (a.toList == b.toList) = decide (a = b) := by
  by_cases h : a = b
  · subst h
    rw [decide_eq_true rfl]
    exact beq_self_eq_true _
  · rw [decide_eq_false h]
    exact beq_eq_false_iff_ne.2 fun e => h (toList_inj e)
/-- The k-th message's contents. -/
def mAt (xs : QL) (k : Nat) : MV := (xs.getD k q0).m
set_option maxHeartbeats 16000000 in
theorem retainLast_walk (S : Nat → Addr) (a : Option Addr) (n c : Nat) (xs : QL) (w : World) (he : EnvT w S) (hn : n ≤ maxLen) (h : MsgsN w a n xs) :
    Calls Tryd.prog 7 #[.slice a n c] w fun x w' => x = .returned (.bool true) ∧ Below w.heap.size w w' := by
  have HAW := Lib.hid (fun W (hb : Below w.heap.size w W) => (awake19 W (he.later hb)).mono fun x w' hx => show x = .returned (.bool true) ∧ Below w.heap.size w w' from ⟨hx.1, hb.trans (hx.2.mono hb.size)⟩)
  have HE := Lib.hid he
  have HX := Lib.hid h
  have hnm : n ≤ 9223372036854775807 := by unfold maxLen at hn; omega
  have HNW := Lib.hid (snew_any 30 w)
  clear h he hn
  by_cases h30 : n ≤ 30
  · have hg30 : decide ((n : Int) > 30) = false := decide_eq_false (by omega)
    go_enter Tryd.func7, Tryd.ntmps7
    go_wp2_with fail
    refine HNW.out.mono ?_
    rintro x w2 ⟨g, bm, rfl, hs, hg, hb, hbel⟩
    have HST := Lib.hid (show AwS w w2 g bm 30 [] from ⟨hs, hbel, hg, hb⟩)
    clear hs hg hb hbel HNW hg30
    go_wp2_with fail
    go_loopw [4] (fun i wr => ∃ (k : Nat) (L : QL), k ≤ n ∧ i = .int .i64 k ∧ Hid (AwS w wr g bm 30 L ∧ L.map QV.m = foldF (mAt xs) k ∧ ∀ j, j < k → (xs.getD j q0).m.props.length ≤ 70 ∧ (xs.getD j q0).m.topic.size ≤ 200)) (fun i _ => n - (intOf i).toNat)
    case atStart => exact ⟨0, [], Nat.zero_le _, rfl, Lib.hid ⟨HST.out, rfl, fun j hj => by omega⟩⟩
    case round =>
      obtain ⟨k, L, hk, rfl, HP⟩ := hrel
      by_cases hlt : k < n
      · have hkL : k < xs.length := by have := HX.out.1; omega
        obtain ⟨ga, off, rfl, hac⟩ := HX.out.2.1 (by omega)
        have hms := HX.out.2.2 k hkL
        have hcel := hac k hkL
        have HMA := Lib.hid (show mAt xs k = (xs.getD k q0).m from rfl)
        obtain ⟨q, hq⟩ : ∃ q, q = xs.getD k q0 := ⟨_, rfl⟩
        rw [← hq] at hms hcel HMA
        have HQD := Lib.hid hq
        have KN := Lib.hid (fun W (L' : QL) (ha : AwS w W g bm 30 L') => show W.cell? ⟨ga, off + k * 9, none⟩ = some (.string q.m.topic) ∧ W.cell? ⟨ga, off + k * 9 + 1, none⟩ = some (.string q.m.payload) ∧ W.cell? ⟨ga, off + k * 9 + 2, none⟩ = some (.int .i64 q.m.qos) ∧ W.cell? ⟨ga, off + k * 9 + 3, none⟩ = some (.bool q.m.retain) ∧ W.cell? ⟨ga, off + k * 9 + 4, none⟩ = some (.slice q.pa q.m.props.length q.pc) ∧ W.cell? ⟨ga, off + k * 9 + 5, none⟩ = some (.string q.m.frm) ∧ W.cell? ⟨ga, off + k * 9 + 6, none⟩ = some (.int .i64 q.m.til) ∧ W.cell? ⟨ga, off + k * 9 + 7, none⟩ = some (.int .i64 q.m.seq) ∧ W.cell? ⟨ga, off + k * 9 + 8, none⟩ = some (.string q.m.grp) from by
          have hc := hcel.at (ha.bel.block ga (lt_of_cell' hcel.c0))
          exact ⟨hc.c0, hc.c1, hc.c2, hc.c3, hc.c4, hc.c5, hc.c6, hc.c7, hc.c8⟩)
        have HMS := Lib.hid hms
        have HSM := Lib.hid (small19_any q (hms.1.below HP.out.1.bel) hms.2.1)
        obtain ⟨t0, t1, t2, t3, t4, t5, t6, t7, t8⟩ := KN.out _ _ HP.out.1
        clear hms hcel hac hq hkL
        unfold QV.agg at HSM
        go_wp2_with fail
        refine HSM.out.mono ?_
        rintro x w3 ⟨b, rfl, hb, hb3⟩
        have HP3 := Lib.hid (And.intro (HP.out.1.below hb3) HP.out.2)
        clear t0 t1 t2 t3 t4 t5 t6 t7 t8 hb3 HSM HP
        cases b with
        | false =>
          have HA := Lib.hid (HAW.out _ HP3.out.1.bel)
          clear hb
          go_wp2_with fail
          refine HA.out.mono ?_
          rintro x w4 ⟨rfl, hb4⟩
          have HB4 := Lib.hid hb4
          clear hb4
          go_wp2_with fail
          go_ret
          exact ⟨rfl, HB4.out⟩
        | true =>
          have HQF := Lib.hid (hb rfl)
          clear hb
          have hl30 : L.length < 30 := by
            have h1 := congrArg List.length HP3.out.2.1
            rw [List.length_map] at h1
            have := fold_len (mAt xs) k
            omega
          have D26 := Lib.hid (fun W (ha : AwS w W g bm 30 L) => put_all ha HE.out q (HMS.out.1.below ha.bel) HQF.out.1 HQF.out.2 hl30)
          have D38 := Lib.hid (fun W (L' : QL) (ha : AwS w W g bm 30 L') => (rIsName_any (w := W) q.m.topic (by have := HQF.out.2; omega)).mono fun x w' hx => show x = .returned (.bool (nameB q.m.topic)) ∧ AwS w w' g bm 30 L' from ⟨hx.1, ha.below hx.2⟩)
          unfold QV.agg at D26
          have hl0 := HP3.out.1
          clear hl30
          go_upto_region 9 with fail
          go_cut [41] (fun v wx => v = .bool false ∧ ∃ L', Hid (AwS w wx g bm 30 L' ∧ L'.map QV.m = putF (L.map QV.m) q.m))
          case first =>
            obtain ⟨t0, t1, t2, t3, t4, t5, t6, t7, t8⟩ := KN.out _ _ hl0
            generalize nameB q.m.topic = nmb at D26 D38
            cases nmb
            all_goals
              go_region_held3 (fun W => W.cell? ⟨ga, off + k * 9, none⟩ = some (.string q.m.topic) ∧ W.cell? ⟨ga, off + k * 9 + 1, none⟩ = some (.string q.m.payload) ∧ W.cell? ⟨ga, off + k * 9 + 2, none⟩ = some (.int .i64 q.m.qos) ∧ W.cell? ⟨ga, off + k * 9 + 3, none⟩ = some (.bool q.m.retain) ∧ W.cell? ⟨ga, off + k * 9 + 4, none⟩ = some (.slice q.pa q.m.props.length q.pc) ∧ W.cell? ⟨ga, off + k * 9 + 5, none⟩ = some (.string q.m.frm) ∧ W.cell? ⟨ga, off + k * 9 + 6, none⟩ = some (.int .i64 q.m.til) ∧ W.cell? ⟨ga, off + k * 9 + 7, none⟩ = some (.int .i64 q.m.seq) ∧ W.cell? ⟨ga, off + k * 9 + 8, none⟩ = some (.string q.m.grp))
                (first | with_reducible assumption | exact KN.out _ _ (by assumption) | exact KN.out _ _ (awd (by assumption)))
                (first
                  | (go_at_call 26; (with_reducible refine (D26.out _ ?_).mono ?_); (first | with_reducible assumption | exact awd (by assumption)); rintro x w6 ⟨rfl, L6, ha6, he6⟩)
                  | (go_at_call 38; (with_reducible refine (D38.out _ L6 ?_).mono ?_); (first | with_reducible assumption | exact awd (by assumption)); rintro x w7 ⟨rfl, ha7⟩))
              have H7 := Lib.hid (And.intro ha7 he6)
              clear t0 t1 t2 t3 t4 t5 t6 t7 t8 ha6 ha7 he6 hl0 D26 D38 KN
              go_wp2_with fail
              go_meet
              case rel => exact ⟨rfl, L6, H7⟩
          case rest =>
            obtain ⟨rfl, L', H8⟩ := hcut
            have HP8 := Lib.hid (show AwS w wc g bm 30 L' ∧ L'.map QV.m = foldF (mAt xs) (k + 1) ∧ ∀ j, j < k + 1 → (xs.getD j q0).m.props.length ≤ 70 ∧ (xs.getD j q0).m.topic.size ≤ 200 from ⟨H8.out.1, by rw [H8.out.2, HP3.out.2.1]; show _ = putF (foldF (mAt xs) k) (mAt xs k); rw [HMA.out], fun j hj => by
              rcases Nat.lt_succ_iff_lt_or_eq.1 hj with hj | rfl
              · exact HP3.out.2.2 j hj
              · rw [← HQD.out]; exact HQF.out⟩)
            clear hl0 H8 D26 D38 KN
            go_wp2_with fail
            go_roundw
            case rel => exact ⟨k + 1, L', by omega, by go_num, HP8⟩
            case measure => simp [intOf]; omega
      · have hkn : k = n := by omega
        have HPN := Lib.hid (show L.map QV.m = foldF (mAt xs) n ∧ (∀ j, j < n → (xs.getD j q0).m.props.length ≤ 70 ∧ (xs.getD j q0).m.topic.size ≤ 200) from hkn ▸ HP.out.2)
        have HA1 := Lib.hid HP.out.1
        clear HP
        go_wp2_with fail
        clear hlt hkn hk
        go_loopw [5, 6] (fun v5 i wr2 => ∃ j : Nat, j ≤ n ∧ i = .int .i64 j ∧ v5 = .int .i64 (cntF (mAt xs) n j) ∧ Hid (AwS w wr2 g bm 30 L)) (fun _ i _ => n - (intOf i).toNat)
        case atStart => exact ⟨0, Nat.zero_le _, rfl, rfl, HA1⟩
        case round =>
          obtain ⟨j, hj, rfl, rfl, HP⟩ := hrel
          have hcj := cnt_le (mAt xs) n j
          by_cases hjl : j < n
          · have hjL : j < xs.length := by have := HX.out.1; omega
            obtain ⟨ga, off, rfl, hac⟩ := HX.out.2.1 (by omega)
            have hms := HX.out.2.2 j hjL
            have hcel := hac j hjL
            have HMA := Lib.hid (show mAt xs j = (xs.getD j q0).m from rfl)
            have HQF := Lib.hid (HPN.out.2 j hjl)
            have HAC := Lib.hid hac
            have HCS := Lib.hid (cnt_step (mAt xs) n j)
            have HFI := Lib.hid (And.intro (fold_in (f := mAt xs) hjl) (fold_out (f := mAt xs) hjl))
            have HLS := Lib.hid (lastB_start (f := mAt xs) (i := j))
            obtain ⟨q, hq⟩ : ∃ q, q = xs.getD j q0 := ⟨_, rfl⟩
            rw [← hq] at hms hcel HMA HQF
            rw [HMA.out] at HFI HLS
            have HMS := Lib.hid hms
            have HCL := Lib.hid hcel
            have t0 := (hcel.at (HP.out.bel.block ga (lt_of_cell' hcel.c0))).c0
            have HIN := Lib.hid (rIsName_any (w := wr) q.m.topic (by have := HQF.out.2; omega))
            clear hms hcel hac hq hjL
            go_wp2_with fail
            refine HIN.out.mono ?_
            rintro x w3 ⟨rfl, hb3⟩
            have HP3 := Lib.hid (HP.out.below hb3)
            clear t0 hb3 HIN HP
            rw [← HLS.out]
            generalize cntF (mAt xs) n j = cj at *
            go_wp2_with fail
            go_loopw [7, 8] (fun v7 v8 wr3 => ∃ m : Nat, j + 1 ≤ m ∧ m ≤ n ∧ v8 = .int .i64 m ∧ v7 = .bool (lastB (mAt xs) m j) ∧ Hid (AwS w wr3 g bm 30 L)) (fun _ v8 _ => n - (intOf v8).toNat)
            case atStart => exact ⟨j + 1, Nat.le_refl _, hjl, by go_num, rfl, HP3⟩
            case round =>
              obtain ⟨m, hm1, hm2, rfl, rfl, HP⟩ := hrel
              have HLT := Lib.hid (lastB_step (f := mAt xs) (k := m) (i := j) hm1)
              obtain ⟨lb, hlb⟩ : ∃ lb, lastB (mAt xs) m j = lb := ⟨_, rfl⟩
              rw [hlb] at HLT ⊢
              by_cases hmn : m < n
              · have hmL : m < xs.length := by have := HX.out.1; omega
                have hcm := (HAC.out m hmL).at (HP.out.bel.block ga (lt_of_cell' (HAC.out m hmL).c0))
                have hcj2 := (HCL.out).at (HP.out.bel.block ga (lt_of_cell' HCL.out.c0))
                have c1 := hcm.c0
                have c2 := hcj2.c0
                rw [HMA.out] at HLT
                have HTM := Lib.hid (show mAt xs m = (xs.getD m q0).m from rfl)
                rw [HTM.out, ← beq_dec19] at HLT
                generalize (xs.getD m q0).m.topic = tm at *
                obtain ⟨e, he⟩ : ∃ e, (tm.toList == q.m.topic.toList) = e := ⟨_, rfl⟩
                rw [he] at HLT
                have HPD := Lib.hid (fun d => Lib.hid (awdn HP.out d))
                clear hcm hcj2 HTM hlb hmL
                have hm0 : (m : Int) < 9223372036854775807 := by omega
                cases lb
                · clear c1 c2 he
                  go_wp2_with fail
                  go_quiet (fail)
                  go_wp2_with fail
                  go_roundw
                  case rel => exact ⟨m + 1, by omega, by omega, by go_num, by rw [HLT.out]; rfl, HPD.out _⟩
                  case measure => simp [intOf]; omega
                · cases e
                  all_goals
                    go_wp2_with fail
                    go_quiet (fail)
                    go_wp2_with fail
                    go_roundw
                    case rel => exact ⟨m + 1, by omega, by omega, by go_num, by rw [HLT.out]; rfl, HPD.out _⟩
                    case measure => simp [intOf]; omega
              · have hmn2 : m = n := by omega
                have HLB := Lib.hid (show lastB (mAt xs) n j = lb from hmn2 ▸ hlb)
                have HGD := Lib.hid (show goodB (mAt xs) n j = (lb && isPay (mAt xs j)) from by unfold goodB; rw [HLB.out])
                clear HLT hlb hmn2
                cases lb with
                | false =>
                  have HC2 := Lib.hid (show cntF (mAt xs) n (j + 1) = cj by rw [HCS.out, HGD.out]; rfl)
                  go_wp2_with fail
                  go_roundw
                  case rel => exact ⟨j + 1, by omega, by go_num, by rw [HC2.out], HP⟩
                  case measure => simp [intOf]; omega
                | true =>
                  have HSZ : q.m.topic.size ≤ maxLen := by have := HQF.out.2; unfold maxLen; omega
                  have HBJ := Lib.hid (HP.out.bel.block ga (lt_of_cell' HCL.out.c0))
                  have t0 := (HCL.out.at HBJ.out).c0
                  have hpl := text_dec19 q.m.payload
                  obtain ⟨pb, hpb⟩ : ∃ pb, decide (q.m.payload = ⟨#[]⟩) = pb := ⟨_, rfl⟩
                  have HPY := Lib.hid (show isPay (mAt xs j) = !pb by rw [HMA.out]; unfold isPay; rw [hpb])
                  rw [hpb] at hpl
                  have HC2 := Lib.hid (show cntF (mAt xs) n (j + 1) = cj + (!pb).toNat by rw [HCS.out, HGD.out, HPY.out]; rfl)
                  have HTL := Lib.hid (show tops L = (L.map QV.m).map MV.topic by unfold tops; rw [List.map_map]; rfl)
                  clear hpb HCS HGD
                  cases pb with
                  | true =>
                    have hv : At L q.m.topic q0 false := .inr ⟨rfl, rfl, by
                      rw [HTL.out, HPN.out.1]
                      exact HFI.out.2 HLB.out (by rw [← HMA.out, HPY.out]; rfl)⟩
                    have HG := Lib.hid (sget_any HP.out.st HSZ hv)
                    clear hv HSZ HFI HTL HPY
                    go_wp2_with fail
                    refine HG.out.mono ?_
                    rintro x w5 ⟨pa, pc, rfl, hpin, hb5⟩
                    have HB5 := Lib.hid (HP.out.below hb5)
                    have HAG := Lib.hid (show QV.agg ⟨q0.m, pa, pc⟩ = .agg (QV.cells ⟨q0.m, pa, pc⟩).toArray from rfl)
                    have HSQ := Lib.hid (hone19 ⟨q0.m, pa, pc⟩)
                    have HO := Lib.hid (Own.start [] w5)
                    rw [HAG.out]
                    clear hpin hb5 HG t0 HAG
                    generalize (QV.cells ⟨q0.m, pa, pc⟩).toArray = vc at *
                    go_upto_region 22 with (first
                      | (refine wpo_alloc tyMs HO.out rfl rfl ?_; clear HO; rintro k9 W6 hO; have HO := Lib.hid hO; clear hO; simp only [Act.put, List.setIfInBounds_toArray, List.set_cons_zero, List.set_cons_succ])
                      | (refine wpo_store (k := k9) HO.out 0 tyMs rfl _ _ rfl rfl rfl rfl rfl HSQ.out.1 HSQ.out.2 ?_; clear HO; rintro W7 hO; have HO := Lib.hid hO; clear hO; simp only [Act.put]))
                    have HA7 := Lib.hid (HB5.out.below HO.out.bel)
                    have t1 := (HCL.out.at (HA7.out.bel.block ga (lt_of_cell' HCL.out.c0))).c1
                    have HPD := Lib.hid (fun d => Lib.hid (awdn HA7.out d))
                    go_quiet (fail)
                    clear t1
                    go_wp2_with fail
                    go_roundw
                    case rel => exact ⟨j + 1, by omega, by go_num, by rw [HC2.out]; rfl, HPD.out _⟩
                    case measure => simp [intOf]; omega
                  | false =>
                    obtain ⟨q1, hq1, hq1m⟩ := List.mem_map.1 (show mAt xs j ∈ L.map QV.m by rw [HPN.out.1]; rw [HMA.out]; exact HFI.out.1 HLB.out (by rw [← HMA.out, HPY.out]; rfl))
                    have hv : At L q.m.topic q1 true := .inl ⟨rfl, hq1, by rw [hq1m, HMA.out]⟩
                    have hg := sget_any HP.out.st HSZ hv
                    rw [hq1m, HMA.out] at hg
                    have HG := Lib.hid hg
                    clear hv HSZ HFI HTL HPY hq1 hq1m hg
                    go_wp2_with fail
                    refine HG.out.mono ?_
                    rintro x w5 ⟨pa, pc, rfl, hpin, hb5⟩
                    have HB5 := Lib.hid (HP.out.below hb5)
                    have HP5 := Lib.hid hpin
                    have HAG := Lib.hid (show QV.agg ⟨q.m, pa, pc⟩ = .agg (QV.cells ⟨q.m, pa, pc⟩).toArray from rfl)
                    have HSQ := Lib.hid (hone19 ⟨q.m, pa, pc⟩)
                    have HO := Lib.hid (Own.start [] w5)
                    rw [HAG.out]
                    clear hpin hb5 HG t0 HAG
                    obtain ⟨vc, hvc⟩ : ∃ vc, (QV.cells ⟨q.m, pa, pc⟩).toArray = vc := ⟨_, rfl⟩
                    have HVC := Lib.hid hvc
                    rw [hvc] at HSQ ⊢
                    clear hvc
                    go_upto_region 22 with (first
                      | (refine wpo_alloc tyMs HO.out rfl rfl ?_; clear HO; rintro k9 W6 hO; have HO := Lib.hid hO; clear hO; simp only [Act.put, List.setIfInBounds_toArray, List.set_cons_zero, List.set_cons_succ])
                      | (refine wpo_store (k := k9) HO.out 0 tyMs rfl _ _ rfl rfl rfl rfl rfl HSQ.out.1 HSQ.out.2 ?_; clear HO; rintro W7 hO; have HO := Lib.hid hO; clear hO; simp only [Act.put]))
                    have HA7 := Lib.hid (HB5.out.below HO.out.bel)
                    have HP7 := Lib.hid (HP5.out.below HO.out.bel)
                    have HB9 := Lib.hid (show Blk W7 k9 57 (QV.cells ⟨q.m, pa, pc⟩).toArray from HVC.out ▸ HO.out.get 0 rfl)
                    have KN := Lib.hid (fun W (hb : Below W7.heap.size W7 W) => show (W.cell? ⟨ga, off + j * 9, none⟩ = some (.string q.m.topic) ∧ W.cell? ⟨ga, off + j * 9 + 1, none⟩ = some (.string q.m.payload) ∧ W.cell? ⟨ga, off + j * 9 + 2, none⟩ = some (.int .i64 q.m.qos) ∧ W.cell? ⟨ga, off + j * 9 + 3, none⟩ = some (.bool q.m.retain) ∧ W.cell? ⟨ga, off + j * 9 + 4, none⟩ = some (.slice q.pa q.m.props.length q.pc) ∧ W.cell? ⟨ga, off + j * 9 + 5, none⟩ = some (.string q.m.frm) ∧ W.cell? ⟨ga, off + j * 9 + 6, none⟩ = some (.int .i64 q.m.til) ∧ W.cell? ⟨ga, off + j * 9 + 7, none⟩ = some (.int .i64 q.m.seq) ∧ W.cell? ⟨ga, off + j * 9 + 8, none⟩ = some (.string q.m.grp)) ∧ (W.cell? ⟨k9, 0, none⟩ = some (.string q.m.topic) ∧ W.cell? ⟨k9, 1, none⟩ = some (.string q.m.payload) ∧ W.cell? ⟨k9, 2, none⟩ = some (.int .i64 q.m.qos) ∧ W.cell? ⟨k9, 3, none⟩ = some (.bool q.m.retain) ∧ W.cell? ⟨k9, 4, none⟩ = some (.slice pa q.m.props.length pc) ∧ W.cell? ⟨k9, 5, none⟩ = some (.string q.m.frm) ∧ W.cell? ⟨k9, 6, none⟩ = some (.int .i64 q.m.til) ∧ W.cell? ⟨k9, 7, none⟩ = some (.int .i64 q.m.seq) ∧ W.cell? ⟨k9, 8, none⟩ = some (.string q.m.grp)) from by
                      have hc := HCL.out.at ((HA7.out.below hb).bel.block ga (lt_of_cell' HCL.out.c0))
                      exact ⟨⟨hc.c0, hc.c1, hc.c2, hc.c3, hc.c4, hc.c5, hc.c6, hc.c7, hc.c8⟩, blk9 (HB9.out.below hb HB9.out.lt)⟩)
                    have D32 := Lib.hid (fun W (hb : Below W7.heap.size W7 W) => (samemsg_any ⟨q.m, pa, pc⟩ q rfl (HP7.out.below hb) (HMS.out.1.below (HA7.out.below hb).bel) (by have := HQF.out.1; show q.m.props.length ≤ 1000; omega)).mono fun x w' hx => show x = .returned (.bool true) ∧ Below W7.heap.size W7 w' from ⟨hx.1, hb.trans (hx.2.mono hb.size)⟩)
                    unfold QV.agg at D32
                    have hb0 : Below W7.heap.size W7 W7 := Below.refl _ _
                    clear HO HB5 HP5 HVC HSQ
                    obtain ⟨⟨t0, t1, t2, t3, t4, t5, t6, t7, t8⟩, z0, z1, z2, z3, z4, z5, z6, z7, z8⟩ := KN.out _ hb0
                    go_region_held3 (fun W => (W.cell? ⟨ga, off + j * 9, none⟩ = some (.string q.m.topic) ∧ W.cell? ⟨ga, off + j * 9 + 1, none⟩ = some (.string q.m.payload) ∧ W.cell? ⟨ga, off + j * 9 + 2, none⟩ = some (.int .i64 q.m.qos) ∧ W.cell? ⟨ga, off + j * 9 + 3, none⟩ = some (.bool q.m.retain) ∧ W.cell? ⟨ga, off + j * 9 + 4, none⟩ = some (.slice q.pa q.m.props.length q.pc) ∧ W.cell? ⟨ga, off + j * 9 + 5, none⟩ = some (.string q.m.frm) ∧ W.cell? ⟨ga, off + j * 9 + 6, none⟩ = some (.int .i64 q.m.til) ∧ W.cell? ⟨ga, off + j * 9 + 7, none⟩ = some (.int .i64 q.m.seq) ∧ W.cell? ⟨ga, off + j * 9 + 8, none⟩ = some (.string q.m.grp)) ∧ (W.cell? ⟨k9, 0, none⟩ = some (.string q.m.topic) ∧ W.cell? ⟨k9, 1, none⟩ = some (.string q.m.payload) ∧ W.cell? ⟨k9, 2, none⟩ = some (.int .i64 q.m.qos) ∧ W.cell? ⟨k9, 3, none⟩ = some (.bool q.m.retain) ∧ W.cell? ⟨k9, 4, none⟩ = some (.slice pa q.m.props.length pc) ∧ W.cell? ⟨k9, 5, none⟩ = some (.string q.m.frm) ∧ W.cell? ⟨k9, 6, none⟩ = some (.int .i64 q.m.til) ∧ W.cell? ⟨k9, 7, none⟩ = some (.int .i64 q.m.seq) ∧ W.cell? ⟨k9, 8, none⟩ = some (.string q.m.grp)))
                      (first | with_reducible assumption | ((refine KN.out _ ?_); (first | with_reducible assumption | exact bvn (by assumption) 1)))
                      (first
                        | (go_at_call 32; (with_reducible refine (D32.out _ ?_).mono ?_); (first | with_reducible assumption | exact bvn (by assumption) 1); rintro x w8 ⟨rfl, hb8⟩))
                    have HA8 := Lib.hid (HA7.out.below hb8)
                    clear hb0 hb8 t0 t1 t2 t3 t4 t5 t6 t7 t8 z0 z1 z2 z3 z4 z5 z6 z7 z8 KN D32
                    go_wp2_with fail
                    go_roundw
                    case rel => exact ⟨j + 1, by omega, by go_num, by rw [HC2.out]; simp, HA8⟩
                    case measure => simp [intOf]; omega
          · have hjn : j = n := by omega
            have hL := HP.out.st
            have HLN := Lib.hid (slen_any hL)
            have HEQ := Lib.hid (show L.length = cntF (mAt xs) n j by
              rw [hjn, cnt_all, ← HPN.out.1, List.length_map])
            have HA := Lib.hid (HAW.out wr HP.out.bel)
            clear hL hjn
            rw [HEQ.out] at HLN
            generalize cntF (mAt xs) n j = cj at *
            have hself : ((cj : Int) == cj) = true := by simp
            go_wp2_with fail
            refine HLN.out.mono ?_
            rintro x w5 ⟨rfl, rfl⟩
            go_wp2_with fail
            refine HA.out.mono ?_
            rintro x w6 ⟨rfl, hb6⟩
            have HB6 := Lib.hid hb6
            clear hb6
            go_wp2_with fail
            go_ret
            exact ⟨rfl, HB6.out⟩
  · have hg30 : decide ((n : Int) > 30) = true := decide_eq_true (by omega)
    have HA := Lib.hid (HAW.out w (Below.refl _ _))
    go_enter Tryd.func7, Tryd.ntmps7
    go_wp2_with fail
    refine HA.out.mono ?_
    rintro x w2 ⟨rfl, hb2⟩
    have HB2 := Lib.hid hb2
    clear hb2
    go_wp2_with fail
    go_ret
    exact ⟨rfl, HB2.out⟩
end Go.Proofs.YtfmkeapbddhndaaDoor
