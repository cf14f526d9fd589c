/- What is proved here: the document reads subscriptions that follow one another. Conditions: the reader is there, with few bytes. What is proved here: what the document's Decode of layer 12 tells as its fault. Conditions: few bytes. What is proved here: the document reads codes that follow one another. Conditions: the reader is there, with few bytes. What is proved here: what the document's Decode of layer 12 tells as its fault. Conditions: few bytes. -/
import Derived.Test.YtinhecggmakbnaaGreatDoorRdp12
import Derived.Test.YtinhecggmakbnaaGreatDoorRop12
import Derived.Deep.QuietTactic
import Derived.BigQuiet
import Derived.Deep.DeepMust
namespace Go.Proofs.YtinhecggmakbnaaGreatDoor
set_option maxRecDepth 100000
open Go.ChangeShapes Go.WideShapes Go.RowKit Go.Deep Go.Extern.Stop Go.Stop Go.Extern
set_option maxHeartbeats 8000000 in
theorem rsubs_any {w : World} {g : Nat} {s : ByteArray} {R : RV} (h : RRObj w g s R) (h0 : R.no = 0) (hs : s.size ≤ 900000) : Calls Tryz.prog 147 #[.pointer (some ⟨g, 0, none⟩)] w (PfSays w g s (ptL (rdS s) s 32 [] R).1) := by
  obtain ⟨q, hq⟩ : ∃ q, q = (ptL (rdS s) s 32 [] R).1 := ⟨_, rfl⟩
  rw [← hq]
  have HO := Lib.hid (own_rd1 h)
  have HLE := Lib.hid h.le
  have HSZ := Lib.hid hs
  have H00 := Lib.hid h0
  have HQ := Lib.hid hq
  clear h hs h0 hq
  go_enter Tryz.func147, Tryz.ntmps147
  go_wp2_with (refine wpo_alloc tyX HO.out rfl rfl ?_; clear HO; rintro k3 W1 hO; have HO := Lib.hid hO; clear hO; simp only [Act.put, List.setIfInBounds_toArray, List.set_cons_zero, List.set_cons_succ])
  go_loopg [4] 33 (fun f u wr => ∃ (L M : List SV) (Rt : RV), f + L.length = 33 ∧ 0 < f ∧ Rt.no = 0 ∧ Rt.p ≤ s.size ∧ M.length = L.length ∧ Hid (Own [g] w wr [(k3, 40, #[.int .i64 0, .int .i64 0, .int .i64 0]), (g, 136, #[.string s, .int .i64 Rt.p, .int .i64 Rt.no, .int .i64 Rt.ea])] ∧ V8Row wr w.heap.size u M ∧ q = (ptL (rdS s) s (f - 1) L Rt).1))
  case atStart => exact ⟨[], [], R, rfl, by decide, H00.out, HLE.out, rfl, Lib.hid ⟨HO.out, V8Row.nil _ _, HQ.out⟩⟩
  case round =>
    obtain ⟨L, M, Rt, hf, hf0, hno, hp, hML, HJ⟩ := hrel
    obtain ⟨ho, hr, hqq⟩ := HJ.out
    obtain ⟨av, nv, cv, rfl, hnv, hcap⟩ := hr.some_form
    rw [hML] at hnv
    subst hnv
    clear HO
    have HO := Lib.hid ho
    have HROW := Lib.hid hr
    have HNO := Lib.hid hno
    have HPL := Lib.hid hp
    obtain ⟨f, rfl⟩ : ∃ f, gk = f + 1 := ⟨gk - 1, by omega⟩
    rw [show f + 1 - 1 = f from rfl] at hqq
    have hL32 : L.length ≤ 32 := by omega
    have d0 : wr.cell? ⟨g, 0, none⟩ = some (.string s) := (ho.get 1 rfl).cell 0
    have d1 : wr.cell? ⟨g, 1, none⟩ = some (.int .i64 (Rt.p : Int)) := (ho.get 1 rfl).cell 1
    have d2 : wr.cell? ⟨g, 2, none⟩ = some (.int .i64 (Rt.no : Int)) := (ho.get 1 rfl).cell 2
    rw [hno] at d2
    clear ho hr HJ HQ
    by_cases hend : s.size ≤ Rt.p
    · have hq2 : q = (if L.length = 0 then (⟨3, 130, Rt.p⟩ : Er) else e00) := by
        cases f <;> (unfold ptL at hqq; rw [if_pos hend] at hqq; rw [hqq]; split <;> rfl)
      have hlt : decide ((Rt.p : Int) < (s.size : Int)) = false := by simp; omega
      have hlt2 : decide (Rt.p < s.size) = false := by simp; omega
      have HQ2 := Lib.hid hq2
      clear hqq hq2 hend
      go_wp2_with fail
      go_quiet (fail)
      clear d0 d1 d2 hlt hlt2
      have HB := Lib.hid (HO.out.drewN nq)
      have HR2 := Lib.hid (HROW.out.below (below_drewN (Below.refl _ _) nq))
      clear HO HROW
      have HO := HB
      have HROW := HR2
      clear HB HR2
      generalize wr.drewN nq = wq at *
      by_cases hl0 : L.length = 0
      · have hq2 := HQ2.out
        rw [if_pos hl0] at hq2
        have HQ3 := Lib.hid hq2
        rw [hl0]
        clear hq2 HQ2 hl0
        go_upto_region 17 with fail
        go_wp2_with (refine wpo_ldc (HO.out.get 1 rfl) tyI _ rfl rfl rfl rfl ?_)
        refine (ragainst_any (Rt.p : Int) _).mono ?_
        rintro x V3 ⟨rfl, hb⟩
        have HB := Lib.hid (HO.out.below hb)
        clear HO hb
        have HO := HB
        clear HB
        go_wp2_with (refine wpo_store (k := k3) HO.out 0 tyX rfl _ _ rfl rfl rfl rfl rfl rfl rfl ?_; clear HO; rintro W4 hO; have HO := Lib.hid hO; clear hO; simp only [Act.put])
        exact bodyPost_ret (v := .tuple #[.slice none 0 0, fltV (3, 130, Rt.p)]) (res_own01 0 HO.out tyX rfl rfl rfl rfl rfl) rfl ⟨none, 0, 0, Rt, by rw [HQ3.out] <;> rfl, own_rr HO.out 1 rfl HPL.out⟩
      · have hq2 := HQ2.out
        rw [if_neg hl0] at hq2
        have HQ3 := Lib.hid hq2
        have hl1 : ((L.length : Int) == 0) = false := by rw [beq_eq_false_iff_ne]; omega
        clear hq2 HQ2 hl0
        go_wp2_with (refine wpo_store (k := k3) HO.out 0 tyX rfl _ _ rfl rfl rfl rfl rfl rfl rfl ?_; clear HO; rintro W4 hO; have HO := Lib.hid hO; clear hO; simp only [Act.put])
        exact bodyPost_ret (v := .tuple #[.slice av L.length cv, fltV (0, 0, 0)]) (res_own01 0 HO.out tyX rfl rfl rfl rfl rfl) rfl ⟨av, L.length, cv, Rt, by rw [HQ3.out] <;> rfl, own_rr HO.out 1 rfl HPL.out⟩
    · have hlt : decide ((Rt.p : Int) < (s.size : Int)) = true := by simp; omega
      have hlt2 : decide (Rt.p < s.size) = true := by simp; omega
      have HEN := Lib.hid hend
      have HQQ := Lib.hid hqq
      clear hqq hend
      go_wp2_with fail
      go_quiet (fail)
      clear d0 d1 d2 hlt hlt2
      have HB := Lib.hid (HO.out.drewN nq)
      have HR2 := Lib.hid (HROW.out.below (below_drewN (Below.refl _ _) nq))
      clear HO HROW
      have HO := HB
      have HROW := HR2
      clear HB HR2
      generalize wr.drewN nq = wq at *
      by_cases hl3 : L.length = 32
      · obtain rfl : f = 0 := by omega
        have hq2 := HQQ.out
        unfold ptL at hq2
        rw [if_neg HEN.out] at hq2
        have HQ3 := Lib.hid (show q = ⟨4, 149, Rt.p⟩ from hq2)
        rw [hl3]
        clear hq2 HQQ hl3
        go_upto_region 5 with (refine wpo_ldc (HO.out.get 1 rfl) tyI _ rfl rfl rfl rfl ?_)
        go_wp2_with (refine wpo_store (k := k3) HO.out 0 tyX rfl _ _ rfl rfl rfl rfl rfl rfl rfl ?_; clear HO; rintro W4 hO; have HO := Lib.hid hO; clear hO; simp only [Act.put])
        exact bodyPost_ret (v := .tuple #[.slice none 0 0, fltV (4, 149, Rt.p)]) (res_own01 0 HO.out tyX rfl rfl rfl rfl rfl) rfl ⟨none, 0, 0, Rt, by rw [HQ3.out] <;> rfl, own_rr HO.out 1 rfl HPL.out⟩
      · have hl4 : ((L.length : Int) == 32) = false := by rw [beq_eq_false_iff_ne]; omega
        have hl5 : ¬ L.length = 32 := hl3
        obtain ⟨f', rfl⟩ : ∃ f', f = f' + 1 := ⟨f - 1, by omega⟩
        have hq2 := HQQ.out
        unfold ptL at hq2
        rw [if_neg HEN.out] at hq2
        have HQ3 := Lib.hid hq2
        clear hq2 HQQ hl3
        have HT := Lib.hid (rrtext_any (HO.out.rd 1 rfl (R := Rt) HPL.out) HSZ.out)
        have hRd : rdS s Rt = if (rNum s 1 (rText s Rt).2).2.no = 0 then (if 63 < (rNum s 1 (rText s Rt).2).1 then (⟨2, 129, (rText s Rt).2.p⟩, sv0, (rNum s 1 (rText s Rt).2).2) else if (rNum s 1 (rText s Rt).2).1 % 4 = 3 ∨ (rNum s 1 (rText s Rt).2).1 / 16 = 3 then (⟨3, 130, (rText s Rt).2.p⟩, sv0, (rNum s 1 (rText s Rt).2).2) else (e00, svO (rText s Rt).1 (rNum s 1 (rText s Rt).2).1, (rNum s 1 (rText s Rt).2).2)) else (⟨(rNum s 1 (rText s Rt).2).2.no, 129, (rNum s 1 (rText s Rt).2).2.ea⟩, sv0, (rNum s 1 (rText s Rt).2).2) := rfl
        obtain ⟨⟨t, R1⟩, hT⟩ : ∃ T, T = rText s Rt := ⟨_, rfl⟩
        rw [← hT] at HT hRd
        simp only at hRd
        obtain ⟨⟨n, R2⟩, hN⟩ : ∃ T, T = rNum s 1 R1 := ⟨_, rfl⟩
        rw [← hN] at hRd
        simp only at hRd
        have HRD := Lib.hid hRd
        have HNN := Lib.hid hN
        clear hT hRd hN hl4
        go_wp2_with (refine wpo_ldc (HO.out.get 1 rfl) tyI _ rfl rfl rfl rfl ?_)
        refine HT.out.mono ?_
        rintro x w5 ⟨rfl, hn⟩
        have HLR1 := Lib.hid hn.obj.le
        have HR2 := Lib.hid (v8_rstep HROW.out (HO.out.rd 1 rfl (R := Rt) HPL.out) hn.fr)
        have HB := Lib.hid (HO.out.rstep (R' := R1) 1 rfl hn)
        clear HO hn HT HROW
        have HO := HB
        have HROW := HR2
        clear HB HR2
        have HU := Lib.hid (rru8_any (HO.out.rd 1 rfl (R := R1) HLR1.out) (by have := HSZ.out; omega))
        rw [← HNN.out] at HU
        go_wp2_with (refine wpo_ldc (HO.out.get 1 rfl) tyI _ rfl rfl rfl rfl ?_)
        refine HU.out.mono ?_
        rintro x w6 ⟨rfl, hn⟩
        have HLR2 := Lib.hid hn.obj.le
        have HR2 := Lib.hid (v8_rstep HROW.out (HO.out.rd 1 rfl (R := R1) HLR1.out) hn.fr)
        have HB := Lib.hid (HO.out.rstep (R' := R2) 1 rfl hn)
        clear HO hn HU HROW
        have HO := HB
        have HROW := HR2
        clear HB HR2
        by_cases h2 : R2.no = 0
        · have hrd := HRD.out
          rw [if_pos h2] at hrd
          have HRE := Lib.hid (HO.out.get 1 rfl)
          rw [h2] at HRE
          have HN2 := Lib.hid h2
          clear HRD h2
          by_cases h63 : 63 < n
          · rw [if_pos h63] at hrd
            have hq2 := HQ3.out
            rw [hrd, if_neg (show ¬ ((2 : Nat) = 0) by decide)] at hq2
            have HQ4 := Lib.hid (show q = ⟨2, 129, R1.p⟩ from hq2)
            have hi : (63 : Int) < (n : Int) := by omega
            clear hrd hq2 HQ3 h63 HROW
            go_wp2_with (refine wpo_ldc HRE.out tyE _ rfl rfl rfl rfl ?_)
            clear HRE
            refine (rbad_any (R1.p : Int) _).mono ?_
            rintro x V8 ⟨rfl, hb⟩
            have HB := Lib.hid (HO.out.below hb)
            clear HO hb
            have HO := HB
            clear HB
            go_wp2_with (refine wpo_store (k := k3) HO.out 0 tyX rfl _ _ rfl rfl rfl rfl rfl rfl rfl ?_; clear HO; rintro W9 hO; have HO := Lib.hid hO; clear hO; simp only [Act.put])
            exact bodyPost_ret (v := .tuple #[.slice none 0 0, fltV (2, 129, R1.p)]) (res_own01 0 HO.out tyX rfl rfl rfl rfl rfl) rfl ⟨none, 0, 0, R2, by rw [HQ4.out] <;> rfl, own_rr HO.out 1 rfl HLR2.out⟩
          · rw [if_neg h63] at hrd
            have hi : ¬ (63 : Int) < (n : Int) := by omega
            have hm : ((n % 4 : Nat) : Int) = (n : Int) % 4 := by omega
            have hd : ((n / 16 : Nat) : Int) = (n : Int) / 16 := by omega
            have hn63 : n ≤ 63 := by omega
            clear hm hd h63
            by_cases h3 : n % 4 = 3 ∨ n / 16 = 3
            · rw [if_pos h3] at hrd
              have hq2 := HQ3.out
              rw [hrd, if_neg (show ¬ ((3 : Nat) = 0) by decide)] at hq2
              have HQ4 := Lib.hid (show q = ⟨3, 130, R1.p⟩ from hq2)
              clear hrd hq2 HQ3 HROW
              by_cases hx : n % 4 = 3
              · have hxb : ((n : Int) % 4 == 3) = true := by rw [beq_iff_eq]; omega
                clear h3 hx
                go_wp2_with (refine wpo_ldc HRE.out tyE _ rfl rfl rfl rfl ?_)
                clear HRE
                refine (ragainst_any (R1.p : Int) _).mono ?_
                rintro x V8 ⟨rfl, hb⟩
                have HB := Lib.hid (HO.out.below hb)
                clear HO hb
                have HO := HB
                clear HB
                go_wp2_with (refine wpo_store (k := k3) HO.out 0 tyX rfl _ _ rfl rfl rfl rfl rfl rfl rfl ?_; clear HO; rintro W9 hO; have HO := Lib.hid hO; clear hO; simp only [Act.put])
                exact bodyPost_ret (v := .tuple #[.slice none 0 0, fltV (3, 130, R1.p)]) (res_own01 0 HO.out tyX rfl rfl rfl rfl rfl) rfl ⟨none, 0, 0, R2, by rw [HQ4.out] <;> rfl, own_rr HO.out 1 rfl HLR2.out⟩
              · have hxb : ((n : Int) % 4 == 3) = false := by rw [beq_eq_false_iff_ne]; omega
                have hyb : ((n : Int) / 16 == 3) = true := by rw [beq_iff_eq]; omega
                clear h3 hx
                go_wp2_with (refine wpo_ldc HRE.out tyE _ rfl rfl rfl rfl ?_)
                clear HRE
                refine (ragainst_any (R1.p : Int) _).mono ?_
                rintro x V8 ⟨rfl, hb⟩
                have HB := Lib.hid (HO.out.below hb)
                clear HO hb
                have HO := HB
                clear HB
                go_wp2_with (refine wpo_store (k := k3) HO.out 0 tyX rfl _ _ rfl rfl rfl rfl rfl rfl rfl ?_; clear HO; rintro W9 hO; have HO := Lib.hid hO; clear hO; simp only [Act.put])
                exact bodyPost_ret (v := .tuple #[.slice none 0 0, fltV (3, 130, R1.p)]) (res_own01 0 HO.out tyX rfl rfl rfl rfl rfl) rfl ⟨none, 0, 0, R2, by rw [HQ4.out] <;> rfl, own_rr HO.out 1 rfl HLR2.out⟩
            · rw [if_neg h3] at hrd
              have hq2 := HQ3.out
              rw [hrd, if_pos (show e00.no = 0 from rfl)] at hq2
              have HQ4 := Lib.hid hq2
              have hxb : ((n : Int) % 4 == 3) = false := by rw [beq_eq_false_iff_ne]; omega
              have hyb : ((n : Int) / 16 == 3) = false := by rw [beq_eq_false_iff_ne]; omega
              have HS6 := Lib.hid HO.out.size
              have HDL := Lib.hid (show M.length ≤ 1000 by omega)
              clear hrd hq2 HQ3 h3
              go_wp2_with (first | (refine wpo_ldc HRE.out tyE _ rfl rfl rfl rfl ?_) | (at_builtin; go_must (refine V8_append ⟨_, _, _, _, _⟩ rfl _ _ rfl HROW.out HS6.out rfl w6.heap.size 1 rfl rfl HDL.out rfl ?_)))
              intro v7 w7 hn7
              have HO7 := Lib.hid (HO.out.grown (te := 55) hn7.grown (fun k hk => ⟨(HROW.out.lt k hk).1, (HROW.out.lt k hk).2.2⟩) (by simp))
              have HR7 := Lib.hid hn7.row
              clear hn7
              go_wp2_with fail
              go_roundg (f' + 1)
              case rel => exact ⟨L ++ [svO t n], _, R2, by rw [List.length_append, List.length_singleton]; omega, by omega, HN2.out, HLR2.out, by rw [List.length_append, List.length_append, hML]; rfl, Lib.hid ⟨HO7.out, HR7.out, HQ4.out⟩⟩
              case measure => omega
        · have hrd := HRD.out
          rw [if_neg h2] at hrd
          have hq2 := HQ3.out
          rw [hrd, if_neg (show ¬ R2.no = 0 from h2)] at hq2
          have HQ4 := Lib.hid (show q = ⟨R2.no, 129, R2.ea⟩ from hq2)
          have hi : ¬ (R2.no : Int) = 0 := by omega
          have HHO := Lib.hid (show ofR (dnR s R2) = (R2.no, 129, R2.ea) by unfold dnR; rw [if_neg h2]; unfold ofR; rw [if_neg h2])
          clear hrd hq2 HQ3 HRD h2 HROW
          have HOF := Lib.hid (rrof_any (HO.out.rd 1 rfl (R := R2) HLR2.out))
          rw [HHO.out, show fltV (R2.no, 129, R2.ea) = .agg #[.int .i64 (R2.no : Int), .int .i64 (129 : Int), .int .i64 (R2.ea : Int)] from rfl] at HOF
          go_wp2_with (refine wpo_ldc (HO.out.get 1 rfl) tyE _ rfl rfl rfl rfl ?_)
          refine HOF.out.mono ?_
          rintro x V8 ⟨rfl, hb⟩
          have HB := Lib.hid (HO.out.below hb)
          clear HO hb HOF
          have HO := HB
          clear HB
          go_wp2_with (refine wpo_store (k := k3) HO.out 0 tyX rfl _ _ rfl rfl rfl rfl rfl rfl rfl ?_; clear HO; rintro W9 hO; have HO := Lib.hid hO; clear hO; simp only [Act.put])
          exact bodyPost_ret (v := .tuple #[.slice none 0 0, fltV (R2.no, 129, R2.ea)]) (res_own01 0 HO.out tyX rfl rfl rfl rfl rfl) rfl ⟨none, 0, 0, R2, by rw [HQ4.out] <;> rfl, own_rr HO.out 1 rfl HLR2.out⟩
end Go.Proofs.YtinhecggmakbnaaGreatDoor
namespace Go.Proofs.YtinhecggmakbnaaGreatDoor
set_option maxRecDepth 100000
open Go.RowKit Go.Extern.Stop Go.Stop Go.Extern
theorem d12_a {s : ByteArray} : (dcS 130 s).1 = dQ 8 s (rdS s) := dQ_of (fun h => by
    unfold dcS
    rw [if_neg (by decide), show kS 130 = 8 from rfl, if_neg h]) (fun h => by
    unfold dcS
    rw [if_neg (by decide), show kS 130 = 8 from rfl, if_pos h, if_pos rfl]
    unfold dcS_a
    by_cases h2 : (ptL (rdS s) s 32 [] (thF 8 s).R).1.no = 0
    · rw [if_pos h2, ptL_e00 _ _ _ h2]
    · rw [if_neg h2])
theorem d12_b {s : ByteArray} : (dcS 144 s).1 = dQ 9 s (rdC 9 s) := dQ_of (fun h => by
    unfold dcS
    rw [if_neg (by decide), show kS 144 = 9 from rfl, if_neg h]) (fun h => by
    unfold dcS
    rw [if_neg (by decide), show kS 144 = 9 from rfl, if_pos h, if_neg (by decide)]
    unfold dcS_b
    by_cases h2 : (ptL (rdC 9 s) s 32 [] (thF 9 s).R).1.no = 0
    · rw [if_pos h2, ptL_e00 _ _ _ h2]
    · rw [if_neg h2])
set_option maxHeartbeats 8000000 in
theorem rdec12_8 {w : World} {s : ByteArray} (hs : s.size ≤ 900000) : Calls Tryz.prog 73 #[.agg #[.int .i64 130, .string s]] w (RDc w (dQ 8 s (rdS s))) := by
  obtain ⟨z, hT, hz26, hz⟩ := tyP_ex
  obtain ⟨q, hq⟩ : ∃ q, q = dQ 8 s (rdS s) := ⟨_, rfl⟩
  rw [← hq]
  unfold dQ at hq
  obtain ⟨⟨e, id, R1⟩, hi⟩ : ∃ i, i = idQ s ⟨0, 0, 0⟩ := ⟨_, rfl⟩
  rw [← hi] at hq
  simp only at hq
  obtain ⟨⟨⟨rn, rr, ra, rL⟩, R2⟩, hF⟩ : ∃ F, F = readF 8 s R1 := ⟨_, rfl⟩
  have hno := readF_no (k := 8) (s := s) (R := R1)
  rw [← hF] at hq hno
  simp only at hq hno
  have HT := Lib.hid hT
  have HZS := Lib.hid hz26
  have HZ := Lib.hid hz
  have HQ := Lib.hid hq
  have HI := Lib.hid hi
  have HFF := Lib.hid hF
  have HNO := Lib.hid hno
  have HSZ := Lib.hid hs
  have HO := Lib.hid (Own.start [] w)
  obtain ⟨y, hy⟩ : ∃ y, y = z.setIfInBounds 0 (.int .i64 8) := ⟨_, rfl⟩
  have HBY := Lib.hid (rbuilt1 HZ.out hy)
  have HYS := Lib.hid (show y.size = z.size by rw [hy]; simp)
  have HY1 := Lib.hid (show y.toList.all (·.oneCell') = true by rw [hy]; exact one_put HT.out.one _ _ rfl)
  have HY0 := Lib.hid (show y[0]? = some (.int .i64 8) by rw [hy, HZ.out]; rfl)
  clear hT hz26 hz hq hi hF hno hs hy
  go_enter Tryz.func73, Tryz.ntmps73
  go_upto_region 1 with (first | (refine wpo_box (t := 33) HO.out _ rfl rfl rfl ?_; clear HO; rintro k1 W1 hO; have HO := Lib.hid hO; clear hO; simp only [Act.put, List.setIfInBounds_toArray, List.set_cons_zero, List.set_cons_succ]) | (refine wpo_alloc HT.out HO.out rfl rfl ?_; clear HO; rintro k2 W2 hO; have HO := Lib.hid hO; clear hO; simp only [Act.put, List.setIfInBounds_toArray, List.set_cons_zero, List.set_cons_succ]) | (refine wpo_alloc tyX HO.out rfl rfl ?_; clear HO; rintro k3 W3 hO; have HO := Lib.hid hO; clear hO; simp only [Act.put, List.setIfInBounds_toArray, List.set_cons_zero, List.set_cons_succ]))
  go_upto_region 5 with (first | (refine wpo_ldc (HO.out.get 2 rfl) tyI _ rfl rfl rfl rfl ?_) | (refine wpo_box (t := 136) HO.out _ rfl rfl rfl ?_; clear HO; rintro k4 W4 hO; have HO := Lib.hid hO; clear hO; simp only [Act.put, List.setIfInBounds_toArray, List.set_cons_zero, List.set_cons_succ]) | (refine wpo_ldc (HO.out.get 2 rfl) tyS _ rfl rfl rfl rfl ?_) | (refine wpo_ldc (HO.out.get 3 rfl) tyI _ rfl rfl rfl rfl ?_) | (refine wpo_built HBY.out rfl rfl rfl ?_) | (refine wpo_store (k := k5) HO.out 0 HT.out rfl _ _ rfl rfl rfl rfl rfl HYS.out HY1.out ?_; clear HO; rintro W6 hO; have HO := Lib.hid hO; clear hO; simp only [Act.put]) | (refine wpo_alloc HT.out HO.out rfl rfl ?_; clear HO; rintro k5 W5 hO; have HO := Lib.hid hO; clear hO; simp only [Act.put, List.setIfInBounds_toArray, List.set_cons_zero, List.set_cons_succ]))
  have HID := Lib.hid (rid_any (HO.out.rd 1 rfl (R := ⟨0, 0, 0⟩) (Nat.zero_le _)) HSZ.out)
  rw [← HI.out] at HID
  go_wp2_with fail
  refine HID.out.mono ?_
  rintro x V5 ⟨rfl, hn⟩
  have HL1 := Lib.hid hn.obj.le
  have HB := Lib.hid (HO.out.rstep (R' := R1) 1 rfl hn)
  clear HO hn HID
  have HO := HB
  clear HB
  simp only
  obtain ⟨en, er, ea⟩ := e
  simp only at HQ
  by_cases he : en = 0
  · subst he
    rw [if_pos rfl] at HQ
    have HY1S := Lib.hid (show (y.setIfInBounds 1 (.int .i64 (id : Int))).size = z.size by simpa using HYS.out)
    have HY11 := Lib.hid (one_put HY1.out 1 (.int .i64 (id : Int)) rfl)
    have HYJ1 := Lib.hid (show 1 < y.size by rw [HYS.out, HZS.out]; omega)
    have HY10 := Lib.hid (show (y.setIfInBounds 1 (.int .i64 (id : Int)))[0]? = some (.int .i64 8) by rw [Array.getElem?_setIfInBounds_ne (by decide)]; exact HY0.out)
    go_upto_region 9 with (first | (refine wpo_alloc tyX HO.out rfl rfl ?_; clear HO; rintro k7 Wak7 hO; have HO := Lib.hid hO; clear hO; simp only [Act.put, List.setIfInBounds_toArray, List.set_cons_zero, List.set_cons_succ]) | (refine wpo_store (k := k7) HO.out 0 tyX rfl _ _ rfl rfl rfl rfl rfl rfl rfl ?_; clear HO; rintro Wbk7 hO; have HO := Lib.hid hO; clear hO; simp only [Act.put]) | (refine wpo_ldc (HO.out.get 0 rfl) tyE _ rfl rfl rfl rfl ?_) | (refine wpo_cell HO.out 1 1 tyI.ip rfl _ _ rfl rfl rfl rfl HYJ1.out rfl ?_; clear HO; rintro W8 hO; have HO := Lib.hid hO; clear hO; simp only [Act.put]))
    have HRD := Lib.hid (rread_any (HO.out.rd 2 rfl (R := R1) HL1.out) HSZ.out 8)
    rw [← HFF.out] at HRD
    go_wp2_with (refine wpo_ldc (HO.out.get 1 rfl) tyI _ rfl rfl rfl HY10.out ?_)
    refine HRD.out.mono ?_
    rintro x V9 ⟨v5, rfl, hv5, hn⟩
    have HL2 := Lib.hid hn.obj.le
    have HB := Lib.hid (HO.out.rstep (R' := R2) 2 rfl hn)
    clear HO hn HRD
    have HO := HB
    clear HB
    obtain ⟨a5, n5, c5, rfl, -, -⟩ := hv5.some_form
    clear hv5
    by_cases hr : rn = 0
    · subst hr
      rw [if_pos rfl] at HQ
      have hz2 := (by first | exact HNO.out rfl | exact HNO.out trivial : R2.no = 0)
      have HY2S := Lib.hid (show ((y.setIfInBounds 1 (.int .i64 (id : Int))).setIfInBounds 3 (.slice a5 n5 c5)).size = z.size by simpa using HYS.out)
      have HY21 := Lib.hid (one_put HY11.out 3 (.slice a5 n5 c5) rfl)
      have HYJ2 := Lib.hid (show 3 < (y.setIfInBounds 1 (.int .i64 (id : Int))).size by rw [HY1S.out, HZS.out]; omega)
      have HY20 := Lib.hid (show ((y.setIfInBounds 1 (.int .i64 (id : Int))).setIfInBounds 3 (.slice a5 n5 c5))[0]? = some (.int .i64 8) by rw [Array.getElem?_setIfInBounds_ne (by decide)]; exact HY10.out)
      have HZ2 := Lib.hid hz2
      clear hz2 HFF HNO
      go_upto_region 19 with (first | (refine wpo_alloc tyX HO.out rfl rfl ?_; clear HO; rintro k9 Wak9 hO; have HO := Lib.hid hO; clear hO; simp only [Act.put, List.setIfInBounds_toArray, List.set_cons_zero, List.set_cons_succ]) | (refine wpo_store (k := k9) HO.out 0 tyX rfl _ _ rfl rfl rfl rfl rfl rfl rfl ?_; clear HO; rintro Wbk9 hO; have HO := Lib.hid hO; clear hO; simp only [Act.put]) | (refine wpo_ldc (HO.out.get 0 rfl) tyE _ rfl rfl rfl rfl ?_) | (refine wpo_cell HO.out 2 3 tyL.ip rfl _ _ rfl rfl rfl rfl HYJ2.out rfl ?_; clear HO; rintro W12 hO; have HO := Lib.hid hO; clear hO; simp only [Act.put]) | (refine wpo_ldc (HO.out.get 2 rfl) tyI _ rfl rfl rfl HY20.out ?_))
      have HPA := Lib.hid (rsubs_any (HO.out.rd 3 rfl (R := R2) HL2.out) HZ2.out HSZ.out)
      have hpe := ptL_e00 (rd := rdS s) (s := s) 32 [] R2
      obtain ⟨P0, hP⟩ : ∃ P, P = (ptL (rdS s) s 32 [] R2).1 := ⟨_, rfl⟩
      rw [← hP] at HPA HQ hpe
      clear hP
      obtain ⟨pn, pr, pa⟩ := P0
      simp only at HPA hpe
      have HPE0 := Lib.hid hpe
      clear hpe
      go_wp2_with fail
      refine HPA.out.mono ?_
      rintro x V14 ⟨a6, n6, c6, R3, rfl, hn⟩
      have HB := Lib.hid (HO.out.rstep (R' := R3) 3 rfl hn)
      clear HO hn HPA
      have HO := HB
      clear HB
      have HY3S := Lib.hid (show (((y.setIfInBounds 1 (.int .i64 (id : Int))).setIfInBounds 3 (.slice a5 n5 c5)).setIfInBounds 23 (.slice a6 n6 c6)).size = z.size by simpa using HYS.out)
      have HY31 := Lib.hid (one_put HY21.out 23 (.slice a6 n6 c6) rfl)
      have HYJ3 := Lib.hid (show 23 < ((y.setIfInBounds 1 (.int .i64 (id : Int))).setIfInBounds 3 (.slice a5 n5 c5)).size by rw [HY2S.out, HZS.out]; omega)
      by_cases hp : pn = 0
      · subst hp
        have HPE := Lib.hid (by first | exact HPE0.out rfl | exact HPE0.out trivial : (⟨0, pr, pa⟩ : Er) = e00)
        have HQ2 := Lib.hid (show q = ⟨0, pr, pa⟩ from HQ.out)
        clear HQ HPE0
        go_wp2_with (first | (refine wpo_alloc tyX HO.out rfl rfl ?_; clear HO; rintro k11 Wak11 hO; have HO := Lib.hid hO; clear hO; simp only [Act.put, List.setIfInBounds_toArray, List.set_cons_zero, List.set_cons_succ]) | (refine wpo_store (k := k11) HO.out 0 tyX rfl _ _ rfl rfl rfl rfl rfl rfl rfl ?_; clear HO; rintro Wbk11 hO; have HO := Lib.hid hO; clear hO; simp only [Act.put]) | (refine wpo_ldc (HO.out.get 0 rfl) tyE _ rfl rfl rfl rfl ?_) | (refine wpo_cell HO.out 3 23 tySb.ip rfl _ _ rfl rfl rfl rfl HYJ3.out rfl ?_; clear HO; rintro W15 hO; have HO := Lib.hid hO; clear hO; simp only [Act.put]) | (refine wpo_load HO.out 3 HT.out rfl HY3S.out _ rfl rfl rfl ?_) | (refine wpo_store (k := k2) HO.out 6 HT.out rfl _ _ rfl rfl rfl rfl rfl HY3S.out HY31.out ?_; clear HO; rintro W16 hO; have HO := Lib.hid hO; clear hO; simp only [Act.put]) | (refine wpo_store (k := k3) HO.out 5 tyX rfl _ _ rfl rfl rfl rfl rfl rfl rfl ?_; clear HO; rintro W17 hO; have HO := Lib.hid hO; clear hO; simp only [Act.put]))
        exact bodyPost_ret (v := .tuple #[.agg (((y.setIfInBounds 1 (.int .i64 (id : Int))).setIfInBounds 3 (.slice a5 n5 c5)).setIfInBounds 23 (.slice a6 n6 c6)), fltV (0, 0, 0)]) (res_own2 6 5 HO.out HT.out tyX rfl rfl rfl rfl rfl HY3S.out rfl) rfl ⟨(((y.setIfInBounds 1 (.int .i64 (id : Int))).setIfInBounds 3 (.slice a5 n5 c5)).setIfInBounds 23 (.slice a6 n6 c6)), HY3S.out.trans HZS.out, HY31.out, by rw [HQ2.out, HPE.out] <;> rfl, HO.out.bel⟩
      · have HQ2 := Lib.hid (show q = ⟨pn, pr, pa⟩ from HQ.out)
        have hpi : ¬ (pn : Int) = 0 := by omega
        clear HQ HPE0
        go_upto_region 22 with (first | (refine wpo_alloc tyX HO.out rfl rfl ?_; clear HO; rintro k11 Wak11 hO; have HO := Lib.hid hO; clear hO; simp only [Act.put, List.setIfInBounds_toArray, List.set_cons_zero, List.set_cons_succ]) | (refine wpo_store (k := k11) HO.out 0 tyX rfl _ _ rfl rfl rfl rfl rfl rfl rfl ?_; clear HO; rintro Wbk11 hO; have HO := Lib.hid hO; clear hO; simp only [Act.put]) | (refine wpo_ldc (HO.out.get 0 rfl) tyE _ rfl rfl rfl rfl ?_) | (refine wpo_cell HO.out 3 23 tySb.ip rfl _ _ rfl rfl rfl rfl HYJ3.out rfl ?_; clear HO; rintro W15 hO; have HO := Lib.hid hO; clear hO; simp only [Act.put]))
        refine wpo_y2 (yA := (k2, 29, z)) (yB := (k3, 40, #[.int .i64 (pn : Int), .int .i64 (pr : Int), .int .i64 (pa : Int)])) [(85, .agg z), (86, .agg #[.int .i64 (pn : Int), .int .i64 (pr : Int), .int .i64 (pa : Int)])] 6 5 mixed (by kernel_rfl) HO.out rfl rfl (by decide) (fun _ _ _ _ _ h => h) ?_ rfl rfl ?_ ?_ ?_
        · refine ⟨⟨_, rfl, rfl, yo_zero rfl HT.out rfl⟩, ?_⟩
          simp only [Act.put, List.setIfInBounds_toArray, List.set_cons_zero, List.set_cons_succ]
          refine ⟨⟨_, rfl, rfl, yo_load rfl tyX (fun _ h => h.get 0 (by decide) (by decide) rfl) rfl _ rfl rfl⟩, ?_⟩
          exact trivial
        · simp only [putD, Act.put, List.setIfInBounds_toArray, List.set_cons_zero, List.set_cons_succ]
          exact sto_row HT.out _ _ rfl rfl rfl rfl rfl rfl rfl HT.out.one
        · simp only [putD, Act.put, List.setIfInBounds_toArray, List.set_cons_zero, List.set_cons_succ]
          exact sto_row tyX _ _ rfl rfl rfl rfl rfl rfl rfl rfl
        intro WjD hO
        clear HO
        have HO := Lib.hid hO
        clear hO
        simp only [putD, Act.put, List.setIfInBounds_toArray, List.set_cons_zero, List.set_cons_succ]
        go_wp2_with fail
        exact bodyPost_ret (v := .tuple #[.agg z, fltV (pn, pr, pa)]) (res_own2 6 5 HO.out HT.out tyX rfl rfl rfl rfl rfl rfl rfl) rfl ⟨z, HZS.out, HT.out.one, by rw [HQ2.out] <;> rfl, HO.out.bel⟩
    · have HQ2 := Lib.hid (show q = ⟨rn, rr, ra⟩ by rw [HQ.out, if_neg hr])
      have hri : ¬ (rn : Int) = 0 := by omega
      clear HQ HFF HNO
      go_upto_region 11 with (first | (refine wpo_alloc tyX HO.out rfl rfl ?_; clear HO; rintro k9 Wak9 hO; have HO := Lib.hid hO; clear hO; simp only [Act.put, List.setIfInBounds_toArray, List.set_cons_zero, List.set_cons_succ]) | (refine wpo_store (k := k9) HO.out 0 tyX rfl _ _ rfl rfl rfl rfl rfl rfl rfl ?_; clear HO; rintro Wbk9 hO; have HO := Lib.hid hO; clear hO; simp only [Act.put]) | (refine wpo_ldc (HO.out.get 0 rfl) tyE _ rfl rfl rfl rfl ?_))
      refine wpo_y2 (yA := (k2, 29, z)) (yB := (k3, 40, #[.int .i64 (rn : Int), .int .i64 (rr : Int), .int .i64 (ra : Int)])) [(54, .agg z), (55, .agg #[.int .i64 (rn : Int), .int .i64 (rr : Int), .int .i64 (ra : Int)])] 5 4 mixed (by kernel_rfl) HO.out rfl rfl (by decide) (fun _ _ _ _ _ h => h) ?_ rfl rfl ?_ ?_ ?_
      · refine ⟨⟨_, rfl, rfl, yo_zero rfl HT.out rfl⟩, ?_⟩
        simp only [Act.put, List.setIfInBounds_toArray, List.set_cons_zero, List.set_cons_succ]
        refine ⟨⟨_, rfl, rfl, yo_load rfl tyX (fun _ h => h.get 0 (by decide) (by decide) rfl) rfl _ rfl rfl⟩, ?_⟩
        exact trivial
      · simp only [putD, Act.put, List.setIfInBounds_toArray, List.set_cons_zero, List.set_cons_succ]
        exact sto_row HT.out _ _ rfl rfl rfl rfl rfl rfl rfl HT.out.one
      · simp only [putD, Act.put, List.setIfInBounds_toArray, List.set_cons_zero, List.set_cons_succ]
        exact sto_row tyX _ _ rfl rfl rfl rfl rfl rfl rfl rfl
      intro WjC hO
      clear HO
      have HO := Lib.hid hO
      clear hO
      simp only [putD, Act.put, List.setIfInBounds_toArray, List.set_cons_zero, List.set_cons_succ]
      go_wp2_with fail
      exact bodyPost_ret (v := .tuple #[.agg z, fltV (rn, rr, ra)]) (res_own2 5 4 HO.out HT.out tyX rfl rfl rfl rfl rfl rfl rfl) rfl ⟨z, HZS.out, HT.out.one, by rw [HQ2.out] <;> rfl, HO.out.bel⟩
  · have HQ2 := Lib.hid (show q = ⟨en, er, ea⟩ by rw [HQ.out, if_neg he])
    have hei : ¬ (en : Int) = 0 := by omega
    clear HQ HFF HNO he
    go_upto_region 7 with (first | (refine wpo_alloc tyX HO.out rfl rfl ?_; clear HO; rintro k7 Wak7 hO; have HO := Lib.hid hO; clear hO; simp only [Act.put, List.setIfInBounds_toArray, List.set_cons_zero, List.set_cons_succ]) | (refine wpo_store (k := k7) HO.out 0 tyX rfl _ _ rfl rfl rfl rfl rfl rfl rfl ?_; clear HO; rintro Wbk7 hO; have HO := Lib.hid hO; clear hO; simp only [Act.put]) | (refine wpo_ldc (HO.out.get 0 rfl) tyE _ rfl rfl rfl rfl ?_))
    refine wpo_y2 (yA := (k2, 29, z)) (yB := (k3, 40, #[.int .i64 (en : Int), .int .i64 (er : Int), .int .i64 (ea : Int)])) [(40, .agg z), (41, .agg #[.int .i64 (en : Int), .int .i64 (er : Int), .int .i64 (ea : Int)])] 4 3 mixed (by kernel_rfl) HO.out rfl rfl (by decide) (fun _ _ _ _ _ h => h) ?_ rfl rfl ?_ ?_ ?_
    · refine ⟨⟨_, rfl, rfl, yo_zero rfl HT.out rfl⟩, ?_⟩
      simp only [Act.put, List.setIfInBounds_toArray, List.set_cons_zero, List.set_cons_succ]
      refine ⟨⟨_, rfl, rfl, yo_load rfl tyX (fun _ h => h.get 0 (by decide) (by decide) rfl) rfl _ rfl rfl⟩, ?_⟩
      exact trivial
    · simp only [putD, Act.put, List.setIfInBounds_toArray, List.set_cons_zero, List.set_cons_succ]
      exact sto_row HT.out _ _ rfl rfl rfl rfl rfl rfl rfl HT.out.one
    · simp only [putD, Act.put, List.setIfInBounds_toArray, List.set_cons_zero, List.set_cons_succ]
      exact sto_row tyX _ _ rfl rfl rfl rfl rfl rfl rfl rfl
    intro WjB hO
    clear HO
    have HO := Lib.hid hO
    clear hO
    simp only [putD, Act.put, List.setIfInBounds_toArray, List.set_cons_zero, List.set_cons_succ]
    go_wp2_with fail
    exact bodyPost_ret (v := .tuple #[.agg z, fltV (en, er, ea)]) (res_own2 4 3 HO.out HT.out tyX rfl rfl rfl rfl rfl rfl rfl) rfl ⟨z, HZS.out, HT.out.one, by rw [HQ2.out] <;> rfl, HO.out.bel⟩
end Go.Proofs.YtinhecggmakbnaaGreatDoor
namespace Go.Proofs.YtinhecggmakbnaaGreatDoor
set_option maxRecDepth 100000
open Go.ChangeShapes Go.WideShapes Go.RowKit Go.Deep Go.Extern.Stop Go.Stop Go.Extern
set_option maxHeartbeats 8000000 in
theorem rcodes_any {w : World} {g : Nat} {s : ByteArray} {R : RV} {k : Int} (h : RRObj w g s R) (h0 : R.no = 0) (hs : s.size ≤ 900000) : Calls Tryz.prog 146 #[.pointer (some ⟨g, 0, none⟩), .int .i64 k] w (PfSays w g s (ptL (rdC k s) s 32 [] R).1) := by
  obtain ⟨q, hq⟩ : ∃ q, q = (ptL (rdC k s) s 32 [] R).1 := ⟨_, rfl⟩
  rw [← hq]
  have HO := Lib.hid (own_rd1 h)
  have HLE := Lib.hid h.le
  have HSZ := Lib.hid hs
  have H00 := Lib.hid h0
  have HQ := Lib.hid hq
  clear h hs h0 hq
  go_enter Tryz.func146, Tryz.ntmps146
  go_wp2_with (refine wpo_alloc tyX HO.out rfl rfl ?_; clear HO; rintro k3 W1 hO; have HO := Lib.hid hO; clear hO; simp only [Act.put, List.setIfInBounds_toArray, List.set_cons_zero, List.set_cons_succ])
  go_loopg [6] 33 (fun f u wr => ∃ (L : List Int) (Rt : RV), f + L.length = 33 ∧ 0 < f ∧ Rt.no = 0 ∧ Rt.p ≤ s.size ∧ Hid (Own [g] w wr [(k3, 40, #[.int .i64 0, .int .i64 0, .int .i64 0]), (g, 136, #[.string s, .int .i64 Rt.p, .int .i64 Rt.no, .int .i64 Rt.ea])] ∧ I8Row wr w.heap.size u L ∧ q = (ptL (rdC k s) s (f - 1) L Rt).1))
  case atStart => exact ⟨[], R, rfl, by decide, H00.out, HLE.out, Lib.hid ⟨HO.out, I8Row.nil _ _, HQ.out⟩⟩
  case round =>
    obtain ⟨L, Rt, hf, hf0, hno, hp, HJ⟩ := hrel
    obtain ⟨ho, hr, hqq⟩ := HJ.out
    obtain ⟨av, nv, cv, rfl, rfl, hcap⟩ := hr.some_form
    clear HO
    have HO := Lib.hid ho
    have HROW := Lib.hid hr
    have HNO := Lib.hid hno
    have HPL := Lib.hid hp
    obtain ⟨f, rfl⟩ : ∃ f, gk = f + 1 := ⟨gk - 1, by omega⟩
    rw [show f + 1 - 1 = f from rfl] at hqq
    have hL32 : L.length ≤ 32 := by omega
    have d0 : wr.cell? ⟨g, 0, none⟩ = some (.string s) := (ho.get 1 rfl).cell 0
    have d1 : wr.cell? ⟨g, 1, none⟩ = some (.int .i64 (Rt.p : Int)) := (ho.get 1 rfl).cell 1
    have d2 : wr.cell? ⟨g, 2, none⟩ = some (.int .i64 (Rt.no : Int)) := (ho.get 1 rfl).cell 2
    rw [hno] at d2
    clear ho hr HJ HQ
    by_cases hend : s.size ≤ Rt.p
    · have hq2 : q = (if L.length = 0 then (⟨3, 130, Rt.p⟩ : Er) else e00) := by
        cases f <;> (unfold ptL at hqq; rw [if_pos hend] at hqq; rw [hqq]; split <;> rfl)
      have hlt : decide ((Rt.p : Int) < (s.size : Int)) = false := by simp; omega
      have hlt2 : decide (Rt.p < s.size) = false := by simp; omega
      have HQ2 := Lib.hid hq2
      clear hqq hq2 hend
      go_wp2_with fail
      go_quiet (fail)
      clear d0 d1 d2 hlt hlt2
      have HB := Lib.hid (HO.out.drewN nq)
      have HR2 := Lib.hid (HROW.out.below (below_drewN (Below.refl _ _) nq))
      clear HO HROW
      have HO := HB
      have HROW := HR2
      clear HB HR2
      generalize wr.drewN nq = wq at *
      by_cases hl0 : L.length = 0
      · have hq2 := HQ2.out
        rw [if_pos hl0] at hq2
        have HQ3 := Lib.hid hq2
        rw [hl0]
        clear hq2 HQ2 hl0
        go_upto_region 11 with fail
        go_wp2_with (refine wpo_ldc (HO.out.get 1 rfl) tyI _ rfl rfl rfl rfl ?_)
        refine (ragainst_any (Rt.p : Int) _).mono ?_
        rintro x V3 ⟨rfl, hb⟩
        have HB := Lib.hid (HO.out.below hb)
        clear HO hb
        have HO := HB
        clear HB
        go_wp2_with (refine wpo_store (k := k3) HO.out 0 tyX rfl _ _ rfl rfl rfl rfl rfl rfl rfl ?_; clear HO; rintro W4 hO; have HO := Lib.hid hO; clear hO; simp only [Act.put])
        exact bodyPost_ret (v := .tuple #[.slice none 0 0, fltV (3, 130, Rt.p)]) (res_own01 0 HO.out tyX rfl rfl rfl rfl rfl) rfl ⟨none, 0, 0, Rt, by rw [HQ3.out] <;> rfl, own_rr HO.out 1 rfl HPL.out⟩
      · have hq2 := HQ2.out
        rw [if_neg hl0] at hq2
        have HQ3 := Lib.hid hq2
        have hl1 : ((L.length : Int) == 0) = false := by rw [beq_eq_false_iff_ne]; omega
        clear hq2 HQ2 hl0
        go_wp2_with (refine wpo_store (k := k3) HO.out 0 tyX rfl _ _ rfl rfl rfl rfl rfl rfl rfl ?_; clear HO; rintro W4 hO; have HO := Lib.hid hO; clear hO; simp only [Act.put])
        exact bodyPost_ret (v := .tuple #[.slice av L.length cv, fltV (0, 0, 0)]) (res_own01 0 HO.out tyX rfl rfl rfl rfl rfl) rfl ⟨av, L.length, cv, Rt, by rw [HQ3.out] <;> rfl, own_rr HO.out 1 rfl HPL.out⟩
    · have hlt : decide ((Rt.p : Int) < (s.size : Int)) = true := by simp; omega
      have hlt2 : decide (Rt.p < s.size) = true := by simp; omega
      have HEN := Lib.hid hend
      have HQQ := Lib.hid hqq
      clear hqq hend
      go_wp2_with fail
      go_quiet (fail)
      clear d0 d1 d2 hlt hlt2
      have HB := Lib.hid (HO.out.drewN nq)
      have HR2 := Lib.hid (HROW.out.below (below_drewN (Below.refl _ _) nq))
      clear HO HROW
      have HO := HB
      have HROW := HR2
      clear HB HR2
      generalize wr.drewN nq = wq at *
      by_cases hl3 : L.length = 32
      · obtain rfl : f = 0 := by omega
        have hq2 := HQQ.out
        unfold ptL at hq2
        rw [if_neg HEN.out] at hq2
        have HQ3 := Lib.hid (show q = ⟨4, 149, Rt.p⟩ from hq2)
        rw [hl3]
        clear hq2 HQQ hl3
        go_upto_region 5 with (refine wpo_ldc (HO.out.get 1 rfl) tyI _ rfl rfl rfl rfl ?_)
        go_wp2_with (refine wpo_store (k := k3) HO.out 0 tyX rfl _ _ rfl rfl rfl rfl rfl rfl rfl ?_; clear HO; rintro W4 hO; have HO := Lib.hid hO; clear hO; simp only [Act.put])
        exact bodyPost_ret (v := .tuple #[.slice none 0 0, fltV (4, 149, Rt.p)]) (res_own01 0 HO.out tyX rfl rfl rfl rfl rfl) rfl ⟨none, 0, 0, Rt, by rw [HQ3.out] <;> rfl, own_rr HO.out 1 rfl HPL.out⟩
      · have hl4 : ((L.length : Int) == 32) = false := by rw [beq_eq_false_iff_ne]; omega
        have hl5 : ¬ L.length = 32 := hl3
        obtain ⟨f', rfl⟩ : ∃ f', f = f' + 1 := ⟨f - 1, by omega⟩
        have hq2 := HQQ.out
        unfold ptL at hq2
        rw [if_neg HEN.out] at hq2
        have HQ3 := Lib.hid hq2
        clear hq2 HQQ hl3
        have hR1 := rNum_left (s := s) (R := Rt) HNO.out (by have := HEN.out; omega)
        have HU := Lib.hid (rru8_any (HO.out.rd 1 rfl (R := Rt) HPL.out) (by have := HSZ.out; omega))
        have hRd : rdC k s Rt = if allowedB k ((rNum s 1 Rt).1 : Int) = true then (e00, ((rNum s 1 Rt).1 : Int), (rNum s 1 Rt).2) else (⟨2, 129, Rt.p⟩, 0, (rNum s 1 Rt).2) := rfl
        obtain ⟨⟨c, R1⟩, hT⟩ : ∃ T, T = rNum s 1 Rt := ⟨_, rfl⟩
        rw [← hT] at HU hRd hR1
        simp only at hRd hR1
        have h1 : R1.no = 0 := by rw [hR1]
        have HRD := Lib.hid hRd
        have HN1 := Lib.hid h1
        clear hT hRd hR1 h1
        have HAL := Lib.hid (fun w => ref_allowed k (c : Int) w)
        go_wp2_with (refine wpo_ldc (HO.out.get 1 rfl) tyI _ rfl rfl rfl rfl ?_)
        refine HU.out.mono ?_
        rintro x w5 ⟨rfl, hn⟩
        have HL1 := Lib.hid hn.obj.le
        have HR2 := Lib.hid (i8_rstep HROW.out (HO.out.rd 1 rfl (R := Rt) HPL.out) hn.fr)
        have HB := Lib.hid (HO.out.rstep (R' := R1) 1 rfl hn)
        clear HO hn HU HROW
        have HO := HB
        have HROW := HR2
        clear HB HR2 hl4
        cases hal : allowedB k (c : Int) with
        | true =>
          have hq2 := HQ3.out
          rw [HRD.out, if_pos hal, if_pos (show e00.no = 0 from rfl)] at hq2
          have HQ4 := Lib.hid hq2
          have HS6 := Lib.hid HO.out.size
          have HDL := Lib.hid (show L.length ≤ 1000 by omega)
          clear hq2 HQ3 HRD
          rw [hal] at HAL
          go_wp2_with fail
          refine (HAL.out _).mono ?_
          rintro x w6 ⟨rfl, hb⟩
          have HR2 := Lib.hid (HROW.out.below hb)
          have HB := Lib.hid (HO.out.below hb)
          clear HO hb HAL HROW
          have HO := HB
          clear HB
          have HROW := HR2
          clear HR2
          go_wp2_with (at_builtin; go_must (refine I8_append (c : Int) rfl _ _ rfl HROW.out (HO.out.size) rfl w6.heap.size 1 rfl rfl HDL.out rfl ?_))
          intro v7 w7 hn7
          have HO7 := Lib.hid (HO.out.grown (te := 3) hn7.grown (fun k hk => ⟨(HROW.out.lt k hk).1, (HROW.out.lt k hk).2.2⟩) (by simp))
          have HR7 := Lib.hid hn7.row
          clear hn7 hal
          go_wp2_with fail
          go_roundg (f' + 1)
          case rel => exact ⟨L ++ [(c : Int)], R1, by rw [List.length_append, List.length_singleton]; omega, by omega, HN1.out, HL1.out, Lib.hid ⟨HO7.out, HR7.out, HQ4.out⟩⟩
          case measure => omega
        | false =>
          have hrd := HRD.out
          rw [if_neg (by rw [hal]; decide)] at hrd
          have hq2 := HQ3.out
          rw [hrd, if_neg (show ¬ ((2 : Nat) = 0) by decide)] at hq2
          clear hrd
          have HQ4 := Lib.hid (show q = ⟨2, 129, Rt.p⟩ from hq2)
          clear hq2 HQ3 HRD
          rw [hal] at HAL
          go_wp2_with fail
          refine (HAL.out _).mono ?_
          rintro x w6 ⟨rfl, hb⟩
          have HR2 := Lib.hid (HROW.out.below hb)
          have HB := Lib.hid (HO.out.below hb)
          clear HO hb HAL HROW
          have HO := HB
          clear HB
          have HROW := HR2
          clear HR2
          go_wp2_with fail
          refine (rbad_any (Rt.p : Int) _).mono ?_
          rintro x V8 ⟨rfl, hb⟩
          clear HROW
          have HB := Lib.hid (HO.out.below hb)
          clear HO hb
          have HO := HB
          clear HB
          go_wp2_with (refine wpo_store (k := k3) HO.out 0 tyX rfl _ _ rfl rfl rfl rfl rfl rfl rfl ?_; clear HO; rintro W9 hO; have HO := Lib.hid hO; clear hO; simp only [Act.put])
          exact bodyPost_ret (v := .tuple #[.slice none 0 0, fltV (2, 129, Rt.p)]) (res_own01 0 HO.out tyX rfl rfl rfl rfl rfl) rfl ⟨none, 0, 0, R1, by rw [HQ4.out] <;> rfl, own_rr HO.out 1 rfl HL1.out⟩
end Go.Proofs.YtinhecggmakbnaaGreatDoor
namespace Go.Proofs.YtinhecggmakbnaaGreatDoor
set_option maxRecDepth 100000
open Go.RowKit Go.Extern.Stop Go.Stop Go.Extern
set_option maxHeartbeats 8000000 in
theorem rdec12_9 {w : World} {s : ByteArray} (hs : s.size ≤ 900000) : Calls Tryz.prog 73 #[.agg #[.int .i64 144, .string s]] w (RDc w (dQ 9 s (rdC 9 s))) := by
  obtain ⟨z, hT, hz26, hz⟩ := tyP_ex
  obtain ⟨q, hq⟩ : ∃ q, q = dQ 9 s (rdC 9 s) := ⟨_, rfl⟩
  rw [← hq]
  unfold dQ at hq
  obtain ⟨⟨e, id, R1⟩, hi⟩ : ∃ i, i = idQ s ⟨0, 0, 0⟩ := ⟨_, rfl⟩
  rw [← hi] at hq
  simp only at hq
  obtain ⟨⟨⟨rn, rr, ra, rL⟩, R2⟩, hF⟩ : ∃ F, F = readF 9 s R1 := ⟨_, rfl⟩
  have hno := readF_no (k := 9) (s := s) (R := R1)
  rw [← hF] at hq hno
  simp only at hq hno
  have HT := Lib.hid hT
  have HZS := Lib.hid hz26
  have HZ := Lib.hid hz
  have HQ := Lib.hid hq
  have HI := Lib.hid hi
  have HFF := Lib.hid hF
  have HNO := Lib.hid hno
  have HSZ := Lib.hid hs
  have HO := Lib.hid (Own.start [] w)
  obtain ⟨y, hy⟩ : ∃ y, y = z.setIfInBounds 0 (.int .i64 9) := ⟨_, rfl⟩
  have HBY := Lib.hid (rbuilt1 HZ.out hy)
  have HYS := Lib.hid (show y.size = z.size by rw [hy]; simp)
  have HY1 := Lib.hid (show y.toList.all (·.oneCell') = true by rw [hy]; exact one_put HT.out.one _ _ rfl)
  have HY0 := Lib.hid (show y[0]? = some (.int .i64 9) by rw [hy, HZ.out]; rfl)
  clear hT hz26 hz hq hi hF hno hs hy
  go_enter Tryz.func73, Tryz.ntmps73
  go_upto_region 1 with (first | (refine wpo_box (t := 33) HO.out _ rfl rfl rfl ?_; clear HO; rintro k1 W1 hO; have HO := Lib.hid hO; clear hO; simp only [Act.put, List.setIfInBounds_toArray, List.set_cons_zero, List.set_cons_succ]) | (refine wpo_alloc HT.out HO.out rfl rfl ?_; clear HO; rintro k2 W2 hO; have HO := Lib.hid hO; clear hO; simp only [Act.put, List.setIfInBounds_toArray, List.set_cons_zero, List.set_cons_succ]) | (refine wpo_alloc tyX HO.out rfl rfl ?_; clear HO; rintro k3 W3 hO; have HO := Lib.hid hO; clear hO; simp only [Act.put, List.setIfInBounds_toArray, List.set_cons_zero, List.set_cons_succ]))
  have f0 : W3.cell? ⟨k1, 0, none⟩ = some (.int .i64 144) := (HO.out.get 2 rfl).cell 0
  go_upto_region 3 with (refine wpo_ldc (HO.out.get 2 rfl) tyI _ rfl rfl rfl rfl ?_)
  clear f0
  go_upto_region 5 with (first | (refine wpo_ldc (HO.out.get 2 rfl) tyI _ rfl rfl rfl rfl ?_) | (refine wpo_box (t := 136) HO.out _ rfl rfl rfl ?_; clear HO; rintro k4 W4 hO; have HO := Lib.hid hO; clear hO; simp only [Act.put, List.setIfInBounds_toArray, List.set_cons_zero, List.set_cons_succ]) | (refine wpo_ldc (HO.out.get 2 rfl) tyS _ rfl rfl rfl rfl ?_) | (refine wpo_ldc (HO.out.get 3 rfl) tyI _ rfl rfl rfl rfl ?_) | (refine wpo_built HBY.out rfl rfl rfl ?_) | (refine wpo_store (k := k5) HO.out 0 HT.out rfl _ _ rfl rfl rfl rfl rfl HYS.out HY1.out ?_; clear HO; rintro W6 hO; have HO := Lib.hid hO; clear hO; simp only [Act.put]) | (refine wpo_alloc HT.out HO.out rfl rfl ?_; clear HO; rintro k5 W5 hO; have HO := Lib.hid hO; clear hO; simp only [Act.put, List.setIfInBounds_toArray, List.set_cons_zero, List.set_cons_succ]))
  have HID := Lib.hid (rid_any (HO.out.rd 1 rfl (R := ⟨0, 0, 0⟩) (Nat.zero_le _)) HSZ.out)
  rw [← HI.out] at HID
  go_wp2_with fail
  refine HID.out.mono ?_
  rintro x V5 ⟨rfl, hn⟩
  have HL1 := Lib.hid hn.obj.le
  have HB := Lib.hid (HO.out.rstep (R' := R1) 1 rfl hn)
  clear HO hn HID
  have HO := HB
  clear HB
  simp only
  obtain ⟨en, er, ea⟩ := e
  simp only at HQ
  by_cases he : en = 0
  · subst he
    rw [if_pos rfl] at HQ
    have HY1S := Lib.hid (show (y.setIfInBounds 1 (.int .i64 (id : Int))).size = z.size by simpa using HYS.out)
    have HY11 := Lib.hid (one_put HY1.out 1 (.int .i64 (id : Int)) rfl)
    have HYJ1 := Lib.hid (show 1 < y.size by rw [HYS.out, HZS.out]; omega)
    have HY10 := Lib.hid (show (y.setIfInBounds 1 (.int .i64 (id : Int)))[0]? = some (.int .i64 9) by rw [Array.getElem?_setIfInBounds_ne (by decide)]; exact HY0.out)
    go_upto_region 9 with (first | (refine wpo_alloc tyX HO.out rfl rfl ?_; clear HO; rintro k7 Wak7 hO; have HO := Lib.hid hO; clear hO; simp only [Act.put, List.setIfInBounds_toArray, List.set_cons_zero, List.set_cons_succ]) | (refine wpo_store (k := k7) HO.out 0 tyX rfl _ _ rfl rfl rfl rfl rfl rfl rfl ?_; clear HO; rintro Wbk7 hO; have HO := Lib.hid hO; clear hO; simp only [Act.put]) | (refine wpo_ldc (HO.out.get 0 rfl) tyE _ rfl rfl rfl rfl ?_) | (refine wpo_cell HO.out 1 1 tyI.ip rfl _ _ rfl rfl rfl rfl HYJ1.out rfl ?_; clear HO; rintro W8 hO; have HO := Lib.hid hO; clear hO; simp only [Act.put]))
    have HRD := Lib.hid (rread_any (HO.out.rd 2 rfl (R := R1) HL1.out) HSZ.out 9)
    rw [← HFF.out] at HRD
    go_wp2_with (refine wpo_ldc (HO.out.get 1 rfl) tyI _ rfl rfl rfl HY10.out ?_)
    refine HRD.out.mono ?_
    rintro x V9 ⟨v5, rfl, hv5, hn⟩
    have HL2 := Lib.hid hn.obj.le
    have HB := Lib.hid (HO.out.rstep (R' := R2) 2 rfl hn)
    clear HO hn HRD
    have HO := HB
    clear HB
    obtain ⟨a5, n5, c5, rfl, -, -⟩ := hv5.some_form
    clear hv5
    by_cases hr : rn = 0
    · subst hr
      rw [if_pos rfl] at HQ
      have hz2 := (by first | exact HNO.out rfl | exact HNO.out trivial : R2.no = 0)
      have HY2S := Lib.hid (show ((y.setIfInBounds 1 (.int .i64 (id : Int))).setIfInBounds 3 (.slice a5 n5 c5)).size = z.size by simpa using HYS.out)
      have HY21 := Lib.hid (one_put HY11.out 3 (.slice a5 n5 c5) rfl)
      have HYJ2 := Lib.hid (show 3 < (y.setIfInBounds 1 (.int .i64 (id : Int))).size by rw [HY1S.out, HZS.out]; omega)
      have HY20 := Lib.hid (show ((y.setIfInBounds 1 (.int .i64 (id : Int))).setIfInBounds 3 (.slice a5 n5 c5))[0]? = some (.int .i64 9) by rw [Array.getElem?_setIfInBounds_ne (by decide)]; exact HY10.out)
      have HZ2 := Lib.hid hz2
      clear hz2 HFF HNO
      go_upto_region 14 with (first | (refine wpo_alloc tyX HO.out rfl rfl ?_; clear HO; rintro k9 Wak9 hO; have HO := Lib.hid hO; clear hO; simp only [Act.put, List.setIfInBounds_toArray, List.set_cons_zero, List.set_cons_succ]) | (refine wpo_store (k := k9) HO.out 0 tyX rfl _ _ rfl rfl rfl rfl rfl rfl rfl ?_; clear HO; rintro Wbk9 hO; have HO := Lib.hid hO; clear hO; simp only [Act.put]) | (refine wpo_ldc (HO.out.get 0 rfl) tyE _ rfl rfl rfl rfl ?_) | (refine wpo_cell HO.out 2 3 tyL.ip rfl _ _ rfl rfl rfl rfl HYJ2.out rfl ?_; clear HO; rintro W12 hO; have HO := Lib.hid hO; clear hO; simp only [Act.put]) | (refine wpo_ldc (HO.out.get 2 rfl) tyI _ rfl rfl rfl HY20.out ?_))
      have HPA := Lib.hid (rcodes_any (k := 9) (HO.out.rd 3 rfl (R := R2) HL2.out) HZ2.out HSZ.out)
      have hpe := ptL_e00 (rd := rdC 9 s) (s := s) 32 [] R2
      obtain ⟨P0, hP⟩ : ∃ P, P = (ptL (rdC 9 s) s 32 [] R2).1 := ⟨_, rfl⟩
      rw [← hP] at HPA HQ hpe
      clear hP
      obtain ⟨pn, pr, pa⟩ := P0
      simp only at HPA hpe
      have HPE0 := Lib.hid hpe
      clear hpe
      go_wp2_with fail
      refine HPA.out.mono ?_
      rintro x V14 ⟨a6, n6, c6, R3, rfl, hn⟩
      have HB := Lib.hid (HO.out.rstep (R' := R3) 3 rfl hn)
      clear HO hn HPA
      have HO := HB
      clear HB
      have HY3S := Lib.hid (show (((y.setIfInBounds 1 (.int .i64 (id : Int))).setIfInBounds 3 (.slice a5 n5 c5)).setIfInBounds 25 (.slice a6 n6 c6)).size = z.size by simpa using HYS.out)
      have HY31 := Lib.hid (one_put HY21.out 25 (.slice a6 n6 c6) rfl)
      have HYJ3 := Lib.hid (show 25 < ((y.setIfInBounds 1 (.int .i64 (id : Int))).setIfInBounds 3 (.slice a5 n5 c5)).size by rw [HY2S.out, HZS.out]; omega)
      by_cases hp : pn = 0
      · subst hp
        have HPE := Lib.hid (by first | exact HPE0.out rfl | exact HPE0.out trivial : (⟨0, pr, pa⟩ : Er) = e00)
        have HQ2 := Lib.hid (show q = ⟨0, pr, pa⟩ from HQ.out)
        clear HQ HPE0
        go_wp2_with (first | (refine wpo_alloc tyX HO.out rfl rfl ?_; clear HO; rintro k11 Wak11 hO; have HO := Lib.hid hO; clear hO; simp only [Act.put, List.setIfInBounds_toArray, List.set_cons_zero, List.set_cons_succ]) | (refine wpo_store (k := k11) HO.out 0 tyX rfl _ _ rfl rfl rfl rfl rfl rfl rfl ?_; clear HO; rintro Wbk11 hO; have HO := Lib.hid hO; clear hO; simp only [Act.put]) | (refine wpo_ldc (HO.out.get 0 rfl) tyE _ rfl rfl rfl rfl ?_) | (refine wpo_cell HO.out 3 25 tyIs.ip rfl _ _ rfl rfl rfl rfl HYJ3.out rfl ?_; clear HO; rintro W15 hO; have HO := Lib.hid hO; clear hO; simp only [Act.put]) | (refine wpo_load HO.out 3 HT.out rfl HY3S.out _ rfl rfl rfl ?_) | (refine wpo_store (k := k2) HO.out 6 HT.out rfl _ _ rfl rfl rfl rfl rfl HY3S.out HY31.out ?_; clear HO; rintro W16 hO; have HO := Lib.hid hO; clear hO; simp only [Act.put]) | (refine wpo_store (k := k3) HO.out 5 tyX rfl _ _ rfl rfl rfl rfl rfl rfl rfl ?_; clear HO; rintro W17 hO; have HO := Lib.hid hO; clear hO; simp only [Act.put]))
        exact bodyPost_ret (v := .tuple #[.agg (((y.setIfInBounds 1 (.int .i64 (id : Int))).setIfInBounds 3 (.slice a5 n5 c5)).setIfInBounds 25 (.slice a6 n6 c6)), fltV (0, 0, 0)]) (res_own2 6 5 HO.out HT.out tyX rfl rfl rfl rfl rfl HY3S.out rfl) rfl ⟨(((y.setIfInBounds 1 (.int .i64 (id : Int))).setIfInBounds 3 (.slice a5 n5 c5)).setIfInBounds 25 (.slice a6 n6 c6)), HY3S.out.trans HZS.out, HY31.out, by rw [HQ2.out, HPE.out] <;> rfl, HO.out.bel⟩
      · have HQ2 := Lib.hid (show q = ⟨pn, pr, pa⟩ from HQ.out)
        have hpi : ¬ (pn : Int) = 0 := by omega
        clear HQ HPE0
        go_upto_region 17 with (first | (refine wpo_alloc tyX HO.out rfl rfl ?_; clear HO; rintro k11 Wak11 hO; have HO := Lib.hid hO; clear hO; simp only [Act.put, List.setIfInBounds_toArray, List.set_cons_zero, List.set_cons_succ]) | (refine wpo_store (k := k11) HO.out 0 tyX rfl _ _ rfl rfl rfl rfl rfl rfl rfl ?_; clear HO; rintro Wbk11 hO; have HO := Lib.hid hO; clear hO; simp only [Act.put]) | (refine wpo_ldc (HO.out.get 0 rfl) tyE _ rfl rfl rfl rfl ?_) | (refine wpo_cell HO.out 3 25 tyIs.ip rfl _ _ rfl rfl rfl rfl HYJ3.out rfl ?_; clear HO; rintro W15 hO; have HO := Lib.hid hO; clear hO; simp only [Act.put]))
        refine wpo_y2 (yA := (k2, 29, z)) (yB := (k3, 40, #[.int .i64 (pn : Int), .int .i64 (pr : Int), .int .i64 (pa : Int)])) [(71, .agg z), (72, .agg #[.int .i64 (pn : Int), .int .i64 (pr : Int), .int .i64 (pa : Int)])] 6 5 mixed (by kernel_rfl) HO.out rfl rfl (by decide) (fun _ _ _ _ _ h => h) ?_ rfl rfl ?_ ?_ ?_
        · refine ⟨⟨_, rfl, rfl, yo_zero rfl HT.out rfl⟩, ?_⟩
          simp only [Act.put, List.setIfInBounds_toArray, List.set_cons_zero, List.set_cons_succ]
          refine ⟨⟨_, rfl, rfl, yo_load rfl tyX (fun _ h => h.get 0 (by decide) (by decide) rfl) rfl _ rfl rfl⟩, ?_⟩
          exact trivial
        · simp only [putD, Act.put, List.setIfInBounds_toArray, List.set_cons_zero, List.set_cons_succ]
          exact sto_row HT.out _ _ rfl rfl rfl rfl rfl rfl rfl HT.out.one
        · simp only [putD, Act.put, List.setIfInBounds_toArray, List.set_cons_zero, List.set_cons_succ]
          exact sto_row tyX _ _ rfl rfl rfl rfl rfl rfl rfl rfl
        intro WjD hO
        clear HO
        have HO := Lib.hid hO
        clear hO
        simp only [putD, Act.put, List.setIfInBounds_toArray, List.set_cons_zero, List.set_cons_succ]
        go_wp2_with fail
        exact bodyPost_ret (v := .tuple #[.agg z, fltV (pn, pr, pa)]) (res_own2 6 5 HO.out HT.out tyX rfl rfl rfl rfl rfl rfl rfl) rfl ⟨z, HZS.out, HT.out.one, by rw [HQ2.out] <;> rfl, HO.out.bel⟩
    · have HQ2 := Lib.hid (show q = ⟨rn, rr, ra⟩ by rw [HQ.out, if_neg hr])
      have hri : ¬ (rn : Int) = 0 := by omega
      clear HQ HFF HNO
      go_upto_region 11 with (first | (refine wpo_alloc tyX HO.out rfl rfl ?_; clear HO; rintro k9 Wak9 hO; have HO := Lib.hid hO; clear hO; simp only [Act.put, List.setIfInBounds_toArray, List.set_cons_zero, List.set_cons_succ]) | (refine wpo_store (k := k9) HO.out 0 tyX rfl _ _ rfl rfl rfl rfl rfl rfl rfl ?_; clear HO; rintro Wbk9 hO; have HO := Lib.hid hO; clear hO; simp only [Act.put]) | (refine wpo_ldc (HO.out.get 0 rfl) tyE _ rfl rfl rfl rfl ?_))
      refine wpo_y2 (yA := (k2, 29, z)) (yB := (k3, 40, #[.int .i64 (rn : Int), .int .i64 (rr : Int), .int .i64 (ra : Int)])) [(54, .agg z), (55, .agg #[.int .i64 (rn : Int), .int .i64 (rr : Int), .int .i64 (ra : Int)])] 5 4 mixed (by kernel_rfl) HO.out rfl rfl (by decide) (fun _ _ _ _ _ h => h) ?_ rfl rfl ?_ ?_ ?_
      · refine ⟨⟨_, rfl, rfl, yo_zero rfl HT.out rfl⟩, ?_⟩
        simp only [Act.put, List.setIfInBounds_toArray, List.set_cons_zero, List.set_cons_succ]
        refine ⟨⟨_, rfl, rfl, yo_load rfl tyX (fun _ h => h.get 0 (by decide) (by decide) rfl) rfl _ rfl rfl⟩, ?_⟩
        exact trivial
      · simp only [putD, Act.put, List.setIfInBounds_toArray, List.set_cons_zero, List.set_cons_succ]
        exact sto_row HT.out _ _ rfl rfl rfl rfl rfl rfl rfl HT.out.one
      · simp only [putD, Act.put, List.setIfInBounds_toArray, List.set_cons_zero, List.set_cons_succ]
        exact sto_row tyX _ _ rfl rfl rfl rfl rfl rfl rfl rfl
      intro WjC hO
      clear HO
      have HO := Lib.hid hO
      clear hO
      simp only [putD, Act.put, List.setIfInBounds_toArray, List.set_cons_zero, List.set_cons_succ]
      go_wp2_with fail
      exact bodyPost_ret (v := .tuple #[.agg z, fltV (rn, rr, ra)]) (res_own2 5 4 HO.out HT.out tyX rfl rfl rfl rfl rfl rfl rfl) rfl ⟨z, HZS.out, HT.out.one, by rw [HQ2.out] <;> rfl, HO.out.bel⟩
  · have HQ2 := Lib.hid (show q = ⟨en, er, ea⟩ by rw [HQ.out, if_neg he])
    have hei : ¬ (en : Int) = 0 := by omega
    clear HQ HFF HNO he
    go_upto_region 7 with (first | (refine wpo_alloc tyX HO.out rfl rfl ?_; clear HO; rintro k7 Wak7 hO; have HO := Lib.hid hO; clear hO; simp only [Act.put, List.setIfInBounds_toArray, List.set_cons_zero, List.set_cons_succ]) | (refine wpo_store (k := k7) HO.out 0 tyX rfl _ _ rfl rfl rfl rfl rfl rfl rfl ?_; clear HO; rintro Wbk7 hO; have HO := Lib.hid hO; clear hO; simp only [Act.put]) | (refine wpo_ldc (HO.out.get 0 rfl) tyE _ rfl rfl rfl rfl ?_))
    refine wpo_y2 (yA := (k2, 29, z)) (yB := (k3, 40, #[.int .i64 (en : Int), .int .i64 (er : Int), .int .i64 (ea : Int)])) [(40, .agg z), (41, .agg #[.int .i64 (en : Int), .int .i64 (er : Int), .int .i64 (ea : Int)])] 4 3 mixed (by kernel_rfl) HO.out rfl rfl (by decide) (fun _ _ _ _ _ h => h) ?_ rfl rfl ?_ ?_ ?_
    · refine ⟨⟨_, rfl, rfl, yo_zero rfl HT.out rfl⟩, ?_⟩
      simp only [Act.put, List.setIfInBounds_toArray, List.set_cons_zero, List.set_cons_succ]
      refine ⟨⟨_, rfl, rfl, yo_load rfl tyX (fun _ h => h.get 0 (by decide) (by decide) rfl) rfl _ rfl rfl⟩, ?_⟩
      exact trivial
    · simp only [putD, Act.put, List.setIfInBounds_toArray, List.set_cons_zero, List.set_cons_succ]
      exact sto_row HT.out _ _ rfl rfl rfl rfl rfl rfl rfl HT.out.one
    · simp only [putD, Act.put, List.setIfInBounds_toArray, List.set_cons_zero, List.set_cons_succ]
      exact sto_row tyX _ _ rfl rfl rfl rfl rfl rfl rfl rfl
    intro WjB hO
    clear HO
    have HO := Lib.hid hO
    clear hO
    simp only [putD, Act.put, List.setIfInBounds_toArray, List.set_cons_zero, List.set_cons_succ]
    go_wp2_with fail
    exact bodyPost_ret (v := .tuple #[.agg z, fltV (en, er, ea)]) (res_own2 4 3 HO.out HT.out tyX rfl rfl rfl rfl rfl rfl rfl) rfl ⟨z, HZS.out, HT.out.one, by rw [HQ2.out] <;> rfl, HO.out.bel⟩
end Go.Proofs.YtinhecggmakbnaaGreatDoor
