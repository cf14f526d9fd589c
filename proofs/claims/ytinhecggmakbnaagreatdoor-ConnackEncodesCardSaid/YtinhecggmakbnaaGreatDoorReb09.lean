/- What is proved here: what the document's Encode of layer 9 tells. Conditions: few bytes. What is proved here: what the document's Encode of layer 9 tells. Conditions: few bytes. -/
import Derived.Test.YtinhecggmakbnaaGreatDoorRdc09
import Derived.Test.YtinhecggmakbnaaGreatDoorWrt08
import Derived.Test.YtinhecggmakbnaaGreatDoorEnc09
import Derived.Deep.QuietTactic
import Derived.BigQuiet
namespace Go.Proofs.YtinhecggmakbnaaGreatDoor
set_option maxRecDepth 100000
open Go.RowKit Go.Extern.Stop Go.Stop Go.Extern
set_option maxHeartbeats 8000000 in
theorem renc09_true {w : World} {A : PkA} {p : Pk} (h : PkIn w w.heap.size A p) (hS : SmallP p.props) (hpr : p.present = true) (hE0 : (encR 2 p.props).no = 0) : Calls Tryz.prog 17 #[p.agg A] w (FrF w (enC p)) := by
  obtain ⟨z, hT, hz26, hz⟩ := tyP_ex
  obtain ⟨q, hq⟩ : ∃ q, q = enC p := ⟨_, rfl⟩
  rw [← hq]
  obtain ⟨c, hc⟩ : ∃ c, c = p.cells A := ⟨_, rfl⟩
  rw [show p.agg A = .agg c from by rw [hc]; rfl]
  have HG2 := Lib.hid (show c[2]? = some (.int .i64 p.reason) by rw [hc]; rfl)
  have HG3 := Lib.hid (show c[3]? = some (.slice A.pa p.props.length A.pc) by rw [hc]; rfl)
  have HG17 := Lib.hid (show c[17]? = some (.bool p.present) by rw [hc]; rfl)
  have HT := Lib.hid hT
  have HZS := Lib.hid hz26
  have HPR := Lib.hid h.pr
  have HPC := Lib.hid h.pc
  have HSM := Lib.hid hS
  unfold enC at hq
  have HQ0 := Lib.hid hq
  have HO := Lib.hid (Own.start [] w)
  clear hT hz26 hz hc h hS hq
  rw [hpr] at HG17
  go_enter Tryz.func17, Tryz.ntmps17
  go_upto_region 1 with (first | (refine wpo_box (t := 29) HO.out _ rfl rfl rfl ?_; clear HO; rintro k1 W1 hO; have HO := Lib.hid hO; clear hO; simp only [Act.put, List.setIfInBounds_toArray, List.set_cons_zero, List.set_cons_succ]) | (refine wpo_alloc tyF HO.out rfl rfl ?_; clear HO; rintro k2 W2 hO; have HO := Lib.hid hO; clear hO; simp only [Act.put, List.setIfInBounds_toArray, List.set_cons_zero, List.set_cons_succ]) | (refine wpo_alloc tyX HO.out rfl rfl ?_; clear HO; rintro k3 W3 hO; have HO := Lib.hid hO; clear hO; simp only [Act.put, List.setIfInBounds_toArray, List.set_cons_zero, List.set_cons_succ]))
  have HEN := Lib.hid (rencode_any 2 p.props.length A.pc rfl ((HPR.out.below HO.out.bel).mono HO.out.size) HSM.out HPC.out)
  have hEl : (encR 2 p.props).L.length ≤ 63844 := encR_len HSM.out
  obtain ⟨E, hE⟩ : ∃ E, E = encR 2 p.props := ⟨_, rfl⟩
  have HE0 := Lib.hid hE
  rw [← hE] at HEN hEl HQ0
  have HEL := Lib.hid hEl
  clear hE hEl
  go_wp2_with (refine wpo_ldc (HO.out.get 2 rfl) tyL _ rfl rfl rfl HG3.out ?_)
  refine HEN.out.mono ?_
  rintro x V4 ⟨no, er, ea, rfl, hno, hra, hb⟩
  have HB := Lib.hid (HO.out.below hb)
  clear HO hb HEN
  have HO := HB
  clear HB
  have HNO := Lib.hid hno
  have HRA := Lib.hid hra
  clear hno hra
  go_upto_region 2 with (first | (refine wpo_alloc tyX HO.out rfl rfl ?_; clear HO; rintro k5 W5 hO; have HO := Lib.hid hO; clear hO; simp only [Act.put, List.setIfInBounds_toArray, List.set_cons_zero, List.set_cons_succ]) | (refine wpo_store (k := k5) HO.out 0 tyX rfl _ _ rfl rfl rfl rfl rfl rfl rfl ?_; clear HO; rintro W6 hO; have HO := Lib.hid hO; clear hO; simp only [Act.put]))
  have HQ := HQ0
  rw [if_pos (show E.no = 0 by rw [HE0.out]; exact hE0), show wrC p = (stepW (stepW (stepW w0 (numE 1 1)) (numE 1 p.reason)) ⟨0, 0, E.L⟩) from by unfold wrC; rw [hpr, ← HE0.out]; rfl] at HQ
  obtain rfl : no = 0 := by rw [HNO.out, HE0.out]; exact hE0
  clear HQ0 hpr hE0 HNO HRA
  go_upto_region 8 with (first | (refine wpo_ldc (HO.out.get 0 rfl) tyE _ rfl rfl rfl rfl ?_) | (refine wpo_zero tyW rfl rfl ?_) | (refine wpo_box (t := 75) HO.out _ rfl rfl rfl ?_; clear HO; rintro k6 W7 hO; have HO := Lib.hid hO; clear hO; simp only [Act.put, List.setIfInBounds_toArray, List.set_cons_zero, List.set_cons_succ]) | (refine wpo_ldc (HO.out.get 4 rfl) tyB _ rfl rfl rfl HG17.out ?_))
  have HDO := Lib.hid (rwdo_num1 (w0_obj HO.out 0 rfl) (Nat.zero_le _) 1)
  go_wp2_with fail
  refine HDO.out.mono ?_
  rintro x V8 ⟨rfl, hn⟩
  obtain ⟨l8, a8, hO, e1, e2⟩ := HO.out.wstep 0 rfl hn
  clear HO hn
  have HO := Lib.hid hO
  have HE1 := Lib.hid e1
  have HE2 := Lib.hid e2
  clear hO e1 e2
  clear HDO
  have HDO := Lib.hid (rwdo_num1 (HO.out.wr 0 rfl HE1.out HE2.out) (by have := stepW_num_len w0 1; have h0 : w0.L.length = 0 := rfl; omega) p.reason)
  clear HE1 HE2
  go_wp2_with (refine wpo_ldc (HO.out.get 4 rfl) tyI _ rfl rfl rfl HG2.out ?_)
  refine HDO.out.mono ?_
  rintro x V9 ⟨rfl, hn⟩
  obtain ⟨l9, a9, hO, e1, e2⟩ := HO.out.wstep 0 rfl hn
  clear HO hn
  have HO := Lib.hid hO
  have HE1 := Lib.hid e1
  have HE2 := Lib.hid e2
  clear hO e1 e2
  clear HDO
  have HVL := Lib.hid (show (stepW (stepW w0 (numE 1 1)) (numE 1 p.reason)).L.length ≤ 2 by have h1 := stepW_num_len (stepW w0 (numE 1 1)) p.reason; have h2 := stepW_num_len w0 1; have h0 : w0.L.length = 0 := rfl; omega)
  have HDO := Lib.hid (rwdo_raw (HO.out.wr 0 rfl HE1.out HE2.out) (by have := HVL.out; omega) E.L (by have := HEL.out; omega))
  clear HE1 HE2
  go_wp2_with fail
  refine HDO.out.mono ?_
  rintro x V10 ⟨rfl, hn⟩
  obtain ⟨l10, a10, hO, e1, e2⟩ := HO.out.wstep 0 rfl hn
  clear HO hn
  have HO := Lib.hid hO
  have HE1 := Lib.hid e1
  have HE2 := Lib.hid e2
  clear hO e1 e2
  clear HDO
  go_upto_region 11 with fail
  have HMD := Lib.hid (rmade_any (HO.out.wr 0 rfl HE1.out HE2.out) 32)
  obtain ⟨V, hV⟩ : ∃ V, V = (stepW (stepW (stepW w0 (numE 1 1)) (numE 1 p.reason)) ⟨0, 0, E.L⟩) := ⟨_, rfl⟩
  have hVL : V.L.length ≤ 900000 := by rw [hV]; have h1 := stepW_len (stepW (stepW w0 (numE 1 1)) (numE 1 p.reason)) ⟨0, 0, E.L⟩; have h3 := HVL.out; have h4 := HEL.out; simp only at h1; omega
  rw [← hV] at HMD HQ
  clear hV
  obtain ⟨t, ht⟩ : ∃ t : ByteArray, t = ⟨V.L.toArray⟩ := ⟨_, rfl⟩
  have hts : t.size ≤ 900000 := by rw [ht, bsize]; exact hVL
  obtain ⟨e, he⟩ : ∃ e, e = (dcC 32 t).1 := ⟨_, rfl⟩
  have HDC := Lib.hid (fun W => rdec09 W hts)
  rw [← he] at HDC
  rw [← ht, ← he, frR_eq _ _ _ ht] at HQ
  have HTT := Lib.hid ht
  clear ht he hVL hts
  go_wp2_with fail
  by_cases hv : V.no = 0
  · have hq := HQ.out
    rw [if_pos hv] at hq
    have HQ2 := Lib.hid hq
    have HMD2 := Lib.hid (show frR V 32 e00 = ⟨e00, 32, t⟩ by unfold frR; rw [if_pos hv, if_pos (show e00.no = 0 from rfl), ← HTT.out])
    rw [HMD2.out] at HMD
    have HMD := Lib.hid (frf_ok HMD.out)
    clear hq HQ HMD2 hv HTT
    refine HMD.out.mono ?_
    rintro x V1 ⟨rfl, hb⟩
    have HB := Lib.hid (HO.out.below hb)
    clear HO hb HMD
    have HO := HB
    clear HB
    go_upto_region 14 with (first | (refine wpo_alloc tyF HO.out rfl rfl ?_; clear HO; rintro kfB WfB hO; have HO := Lib.hid hO; clear hO; simp only [Act.put, List.setIfInBounds_toArray, List.set_cons_zero, List.set_cons_succ]) | (refine wpo_alloc tyX HO.out rfl rfl ?_; clear HO; rintro kgB WgB hO; have HO := Lib.hid hO; clear hO; simp only [Act.put, List.setIfInBounds_toArray, List.set_cons_zero, List.set_cons_succ]) | (refine wpo_store (k := kfB) HO.out 1 tyF rfl _ _ rfl rfl rfl rfl rfl rfl rfl ?_; clear HO; rintro WhB hO; have HO := Lib.hid hO; clear hO; simp only [Act.put]) | (refine wpo_store (k := kgB) HO.out 0 tyX rfl _ _ rfl rfl rfl rfl rfl rfl rfl ?_; clear HO; rintro WiB hO; have HO := Lib.hid hO; clear hO; simp only [Act.put]) | (refine wpo_ldc (HO.out.get 0 rfl) tyE _ rfl rfl rfl rfl ?_))
    have HDD := Lib.hid (HDC.out WiB)
    clear HDC
    obtain ⟨en, er, ea⟩ := e
    simp only at HQ2 HDD
    go_wp2_with (refine wpo_load HO.out 1 tyF rfl rfl _ rfl rfl rfl ?_)
    refine HDD.out.mono ?_
    rintro x V2 ⟨c2, hc2, ho2, rfl, hb⟩
    have HC2 := Lib.hid (hc2.trans HZS.out.symm)
    have HC21 := Lib.hid ho2
    clear hc2 ho2
    have HB := Lib.hid (HO.out.below hb)
    clear HO hb HDD
    have HO := HB
    clear HB
    by_cases he : en = 0
    · have hq := HQ2.out
      rw [if_pos he] at hq
      have HQ3 := Lib.hid hq
      subst he
      clear hq HQ2
      go_wp2_with (first | (refine wpo_alloc HT.out HO.out rfl rfl ?_; clear HO; rintro kpC WpC hO; have HO := Lib.hid hO; clear hO; simp only [Act.put, List.setIfInBounds_toArray, List.set_cons_zero, List.set_cons_succ]) | (refine wpo_alloc tyX HO.out rfl rfl ?_; clear HO; rintro kxC WxC hO; have HO := Lib.hid hO; clear hO; simp only [Act.put, List.setIfInBounds_toArray, List.set_cons_zero, List.set_cons_succ]) | (refine wpo_store (k := kpC) HO.out 1 HT.out rfl _ _ rfl rfl rfl rfl rfl HC2.out HC21.out ?_; clear HO; rintro WyC hO; have HO := Lib.hid hO; clear hO; simp only [Act.put]) | (refine wpo_store (k := kxC) HO.out 0 tyX rfl _ _ rfl rfl rfl rfl rfl rfl rfl ?_; clear HO; rintro WzC hO; have HO := Lib.hid hO; clear hO; simp only [Act.put]) | (refine wpo_ldc (HO.out.get 0 rfl) tyE _ rfl rfl rfl rfl ?_) | (refine wpo_load HO.out 3 tyF rfl rfl _ rfl rfl rfl ?_) | (refine wpo_store (k := k2) HO.out 7 tyF rfl _ _ rfl rfl rfl rfl rfl rfl rfl ?_; clear HO; rintro WmC hO; have HO := Lib.hid hO; clear hO; simp only [Act.put]) | (refine wpo_store (k := k3) HO.out 6 tyX rfl _ _ rfl rfl rfl rfl rfl rfl rfl ?_; clear HO; rintro WnC hO; have HO := Lib.hid hO; clear hO; simp only [Act.put]))
      exact bodyPost_ret (v := .tuple #[.agg #[.int .i64 32, .string t], fltV (0, 0, 0)]) (res_own2 7 6 HO.out tyF tyX rfl rfl rfl rfl rfl rfl rfl) rfl ⟨by rw [HQ3.out] <;> rfl, HO.out.bel⟩
    · have hq := HQ2.out
      rw [if_neg he] at hq
      have HQ3 := Lib.hid hq
      have hei : ¬ (en : Int) = 0 := by omega
      clear hq HQ2 he
      go_upto_region 16 with (first | (refine wpo_alloc HT.out HO.out rfl rfl ?_; clear HO; rintro kpD WpD hO; have HO := Lib.hid hO; clear hO; simp only [Act.put, List.setIfInBounds_toArray, List.set_cons_zero, List.set_cons_succ]) | (refine wpo_alloc tyX HO.out rfl rfl ?_; clear HO; rintro kxD WxD hO; have HO := Lib.hid hO; clear hO; simp only [Act.put, List.setIfInBounds_toArray, List.set_cons_zero, List.set_cons_succ]) | (refine wpo_store (k := kpD) HO.out 1 HT.out rfl _ _ rfl rfl rfl rfl rfl HC2.out HC21.out ?_; clear HO; rintro WyD hO; have HO := Lib.hid hO; clear hO; simp only [Act.put]) | (refine wpo_store (k := kxD) HO.out 0 tyX rfl _ _ rfl rfl rfl rfl rfl rfl rfl ?_; clear HO; rintro WzD hO; have HO := Lib.hid hO; clear hO; simp only [Act.put]) | (refine wpo_ldc (HO.out.get 0 rfl) tyE _ rfl rfl rfl rfl ?_))
      refine wpo_y2 (yA := (k2, 33, #[.int .i64 0, .string ⟨#[]⟩])) (yB := (k3, 40, #[.int .i64 (en : Int), .int .i64 er, .int .i64 (ea : Int)])) [(58, .agg #[.int .i64 0, .string ⟨#[]⟩]), (59, .agg #[.int .i64 (en : Int), .int .i64 er, .int .i64 (ea : Int)])] 7 6 mixed (by kernel_rfl) HO.out rfl rfl (by decide) (fun _ _ _ _ _ h => h) ?_ rfl rfl ?_ ?_ ?_
      · refine ⟨⟨_, rfl, rfl, yo_zero rfl tyF rfl⟩, ?_⟩
        simp only [Act.put, List.setIfInBounds_toArray, List.set_cons_zero, List.set_cons_succ]
        refine ⟨⟨_, rfl, rfl, yo_load rfl tyX (fun _ h => h.get 0 (by decide) (by decide) rfl) rfl _ rfl rfl⟩, ?_⟩
        exact trivial
      · simp only [putD, Act.put, List.setIfInBounds_toArray, List.set_cons_zero, List.set_cons_succ]
        exact sto_row tyF _ _ rfl rfl rfl rfl rfl rfl rfl rfl
      · simp only [putD, Act.put, List.setIfInBounds_toArray, List.set_cons_zero, List.set_cons_succ]
        exact sto_row tyX _ _ rfl rfl rfl rfl rfl rfl rfl rfl
      intro WjD hO
      clear HO
      have HO := Lib.hid hO
      clear hO
      simp only [putD, Act.put, List.setIfInBounds_toArray, List.set_cons_zero, List.set_cons_succ]
      go_wp2_with fail
      exact bodyPost_ret (v := .tuple #[.agg #[.int .i64 0, .string ⟨#[]⟩], fltV (en, er, ea)]) (res_own2 7 6 HO.out tyF tyX rfl rfl rfl rfl rfl rfl rfl) rfl ⟨by rw [HQ3.out] <;> rfl, HO.out.bel⟩
  · have hq := HQ.out
    rw [if_neg hv] at hq
    have HQ2 := Lib.hid hq
    have hvi : ¬ (V.no : Int) = 0 := by omega
    have HMD2 := Lib.hid (show frR V 32 e00 = ⟨⟨V.no, 129, V.at_⟩, 0, ⟨#[]⟩⟩ by unfold frR; rw [if_neg hv])
    rw [HMD2.out] at HMD
    have HMD := Lib.hid (frf_bad HMD.out)
    clear hq HQ HMD2 hv
    refine HMD.out.mono ?_
    rintro x V1 ⟨rfl, hb⟩
    have HB := Lib.hid (HO.out.below hb)
    clear HO hb HMD
    have HO := HB
    clear HB
    go_upto_region 13 with (first | (refine wpo_alloc tyF HO.out rfl rfl ?_; clear HO; rintro kfA WfA hO; have HO := Lib.hid hO; clear hO; simp only [Act.put, List.setIfInBounds_toArray, List.set_cons_zero, List.set_cons_succ]) | (refine wpo_alloc tyX HO.out rfl rfl ?_; clear HO; rintro kgA WgA hO; have HO := Lib.hid hO; clear hO; simp only [Act.put, List.setIfInBounds_toArray, List.set_cons_zero, List.set_cons_succ]) | (refine wpo_store (k := kfA) HO.out 1 tyF rfl _ _ rfl rfl rfl rfl rfl rfl rfl ?_; clear HO; rintro WhA hO; have HO := Lib.hid hO; clear hO; simp only [Act.put]) | (refine wpo_store (k := kgA) HO.out 0 tyX rfl _ _ rfl rfl rfl rfl rfl rfl rfl ?_; clear HO; rintro WiA hO; have HO := Lib.hid hO; clear hO; simp only [Act.put]) | (refine wpo_ldc (HO.out.get 0 rfl) tyE _ rfl rfl rfl rfl ?_))
    refine wpo_y2 (yA := (k2, 33, #[.int .i64 0, .string ⟨#[]⟩])) (yB := (k3, 40, #[.int .i64 (V.no : Int), .int .i64 129, .int .i64 (V.at_ : Int)])) [(48, .agg #[.int .i64 0, .string ⟨#[]⟩]), (49, .agg #[.int .i64 (V.no : Int), .int .i64 129, .int .i64 (V.at_ : Int)])] 5 4 mixed (by kernel_rfl) HO.out rfl rfl (by decide) (fun _ _ _ _ _ h => h) ?_ rfl rfl ?_ ?_ ?_
    · refine ⟨⟨_, rfl, rfl, yo_load rfl tyF (fun _ h => h.get 1 (by decide) (by decide) rfl) rfl _ rfl rfl⟩, ?_⟩
      simp only [Act.put, List.setIfInBounds_toArray, List.set_cons_zero, List.set_cons_succ]
      refine ⟨⟨_, rfl, rfl, yo_load rfl tyX (fun _ h => h.get 0 (by decide) (by decide) rfl) rfl _ rfl rfl⟩, ?_⟩
      exact trivial
    · simp only [putD, Act.put, List.setIfInBounds_toArray, List.set_cons_zero, List.set_cons_succ]
      exact sto_row tyF _ _ rfl rfl rfl rfl rfl rfl rfl rfl
    · simp only [putD, Act.put, List.setIfInBounds_toArray, List.set_cons_zero, List.set_cons_succ]
      exact sto_row tyX _ _ rfl rfl rfl rfl rfl rfl rfl rfl
    intro WjA hO
    clear HO
    have HO := Lib.hid hO
    clear hO
    simp only [putD, Act.put, List.setIfInBounds_toArray, List.set_cons_zero, List.set_cons_succ]
    go_wp2_with fail
    exact bodyPost_ret (v := .tuple #[.agg #[.int .i64 0, .string ⟨#[]⟩], fltV (V.no, 129, V.at_)]) (res_own2 5 4 HO.out tyF tyX rfl rfl rfl rfl rfl rfl rfl) rfl ⟨by rw [HQ2.out] <;> rfl, HO.out.bel⟩
set_option maxHeartbeats 8000000 in
theorem renc09_bad {w : World} {A : PkA} {p : Pk} (h : PkIn w w.heap.size A p) (hS : SmallP p.props) (hE0 : ¬ (encR 2 p.props).no = 0) : Calls Tryz.prog 17 #[p.agg A] w (FrF w (enC p)) := by
  obtain ⟨z, hT, hz26, hz⟩ := tyP_ex
  obtain ⟨q, hq⟩ : ∃ q, q = enC p := ⟨_, rfl⟩
  rw [← hq]
  obtain ⟨c, hc⟩ : ∃ c, c = p.cells A := ⟨_, rfl⟩
  rw [show p.agg A = .agg c from by rw [hc]; rfl]
  have HG2 := Lib.hid (show c[2]? = some (.int .i64 p.reason) by rw [hc]; rfl)
  have HG3 := Lib.hid (show c[3]? = some (.slice A.pa p.props.length A.pc) by rw [hc]; rfl)
  have HG17 := Lib.hid (show c[17]? = some (.bool p.present) by rw [hc]; rfl)
  have HT := Lib.hid hT
  have HZS := Lib.hid hz26
  have HPR := Lib.hid h.pr
  have HPC := Lib.hid h.pc
  have HSM := Lib.hid hS
  unfold enC at hq
  have HQ0 := Lib.hid hq
  have HO := Lib.hid (Own.start [] w)
  clear hT hz26 hz hc h hS hq
  go_enter Tryz.func17, Tryz.ntmps17
  go_upto_region 1 with (first | (refine wpo_box (t := 29) HO.out _ rfl rfl rfl ?_; clear HO; rintro k1 W1 hO; have HO := Lib.hid hO; clear hO; simp only [Act.put, List.setIfInBounds_toArray, List.set_cons_zero, List.set_cons_succ]) | (refine wpo_alloc tyF HO.out rfl rfl ?_; clear HO; rintro k2 W2 hO; have HO := Lib.hid hO; clear hO; simp only [Act.put, List.setIfInBounds_toArray, List.set_cons_zero, List.set_cons_succ]) | (refine wpo_alloc tyX HO.out rfl rfl ?_; clear HO; rintro k3 W3 hO; have HO := Lib.hid hO; clear hO; simp only [Act.put, List.setIfInBounds_toArray, List.set_cons_zero, List.set_cons_succ]))
  have HEN := Lib.hid (rencode_any 2 p.props.length A.pc rfl ((HPR.out.below HO.out.bel).mono HO.out.size) HSM.out HPC.out)
  have hEl : (encR 2 p.props).L.length ≤ 63844 := encR_len HSM.out
  obtain ⟨E, hE⟩ : ∃ E, E = encR 2 p.props := ⟨_, rfl⟩
  have HE0 := Lib.hid hE
  rw [← hE] at HEN hEl HQ0
  have HEL := Lib.hid hEl
  clear hE hEl
  go_wp2_with (refine wpo_ldc (HO.out.get 2 rfl) tyL _ rfl rfl rfl HG3.out ?_)
  refine HEN.out.mono ?_
  rintro x V4 ⟨no, er, ea, rfl, hno, hra, hb⟩
  have HB := Lib.hid (HO.out.below hb)
  clear HO hb HEN
  have HO := HB
  clear HB
  have HNO := Lib.hid hno
  have HRA := Lib.hid hra
  clear hno hra
  go_upto_region 2 with (first | (refine wpo_alloc tyX HO.out rfl rfl ?_; clear HO; rintro k5 W5 hO; have HO := Lib.hid hO; clear hO; simp only [Act.put, List.setIfInBounds_toArray, List.set_cons_zero, List.set_cons_succ]) | (refine wpo_store (k := k5) HO.out 0 tyX rfl _ _ rfl rfl rfl rfl rfl rfl rfl ?_; clear HO; rintro W6 hO; have HO := Lib.hid hO; clear hO; simp only [Act.put]))
  have hn0 : ¬ no = 0 := by rw [HNO.out, HE0.out]; exact hE0
  have hq := HQ0.out
  rw [if_neg (by rw [HE0.out]; exact hE0)] at hq
  obtain ⟨e1, e2⟩ := HRA.out (by rw [← HNO.out]; exact hn0)
  subst e1 e2
  have HQ2 := Lib.hid (show q = ⟨⟨no, E.r, E.at_⟩, 0, ⟨#[]⟩⟩ by rw [hq, HNO.out])
  have hni : ¬ (no : Int) = 0 := by omega
  clear hq HQ0 HRA HNO hn0 hE0
  go_upto_region 3 with (refine wpo_ldc (HO.out.get 0 rfl) tyE _ rfl rfl rfl rfl ?_)
  refine wpo_y2 (yA := (k2, 33, #[.int .i64 0, .string ⟨#[]⟩])) (yB := (k3, 40, #[.int .i64 (no : Int), .int .i64 E.r, .int .i64 (E.at_ : Int)])) [(21, .agg #[.int .i64 0, .string ⟨#[]⟩]), (22, .agg #[.int .i64 (no : Int), .int .i64 E.r, .int .i64 (E.at_ : Int)])] 2 1 mixed (by kernel_rfl) HO.out rfl rfl (by decide) (fun _ _ _ _ _ h => h) ?_ rfl rfl ?_ ?_ ?_
  · refine ⟨⟨_, rfl, rfl, yo_zero rfl tyF rfl⟩, ?_⟩
    simp only [Act.put, List.setIfInBounds_toArray, List.set_cons_zero, List.set_cons_succ]
    refine ⟨⟨_, rfl, rfl, yo_load rfl tyX (fun _ h => h.get 0 (by decide) (by decide) rfl) rfl _ rfl rfl⟩, ?_⟩
    exact trivial
  · simp only [putD, Act.put, List.setIfInBounds_toArray, List.set_cons_zero, List.set_cons_succ]
    exact sto_row tyF _ _ rfl rfl rfl rfl rfl rfl rfl rfl
  · simp only [putD, Act.put, List.setIfInBounds_toArray, List.set_cons_zero, List.set_cons_succ]
    exact sto_row tyX _ _ rfl rfl rfl rfl rfl rfl rfl rfl
  intro WjB hO
  clear HO
  have HO := Lib.hid hO
  clear hO
  simp only [putD, Act.put, List.setIfInBounds_toArray, List.set_cons_zero, List.set_cons_succ]
  go_wp2_with fail
  exact bodyPost_ret (v := .tuple #[.agg #[.int .i64 0, .string ⟨#[]⟩], fltV (no, E.r, E.at_)]) (res_own2 2 1 HO.out tyF tyX rfl rfl rfl rfl rfl rfl rfl) rfl ⟨by rw [HQ2.out] <;> rfl, HO.out.bel⟩
end Go.Proofs.YtinhecggmakbnaaGreatDoor
namespace Go.Proofs.YtinhecggmakbnaaGreatDoor
set_option maxRecDepth 100000
open Go.RowKit Go.Extern.Stop Go.Stop Go.Extern
set_option maxHeartbeats 8000000 in
theorem renc09_false {w : World} {A : PkA} {p : Pk} (h : PkIn w w.heap.size A p) (hS : SmallP p.props) (hpr : p.present = false) (hE0 : (encR 2 p.props).no = 0) : Calls Tryz.prog 17 #[p.agg A] w (FrF w (enC p)) := by
  obtain ⟨z, hT, hz26, hz⟩ := tyP_ex
  obtain ⟨q, hq⟩ : ∃ q, q = enC p := ⟨_, rfl⟩
  rw [← hq]
  obtain ⟨c, hc⟩ : ∃ c, c = p.cells A := ⟨_, rfl⟩
  rw [show p.agg A = .agg c from by rw [hc]; rfl]
  have HG2 := Lib.hid (show c[2]? = some (.int .i64 p.reason) by rw [hc]; rfl)
  have HG3 := Lib.hid (show c[3]? = some (.slice A.pa p.props.length A.pc) by rw [hc]; rfl)
  have HG17 := Lib.hid (show c[17]? = some (.bool p.present) by rw [hc]; rfl)
  have HT := Lib.hid hT
  have HZS := Lib.hid hz26
  have HPR := Lib.hid h.pr
  have HPC := Lib.hid h.pc
  have HSM := Lib.hid hS
  unfold enC at hq
  have HQ0 := Lib.hid hq
  have HO := Lib.hid (Own.start [] w)
  clear hT hz26 hz hc h hS hq
  rw [hpr] at HG17
  go_enter Tryz.func17, Tryz.ntmps17
  go_upto_region 1 with (first | (refine wpo_box (t := 29) HO.out _ rfl rfl rfl ?_; clear HO; rintro k1 W1 hO; have HO := Lib.hid hO; clear hO; simp only [Act.put, List.setIfInBounds_toArray, List.set_cons_zero, List.set_cons_succ]) | (refine wpo_alloc tyF HO.out rfl rfl ?_; clear HO; rintro k2 W2 hO; have HO := Lib.hid hO; clear hO; simp only [Act.put, List.setIfInBounds_toArray, List.set_cons_zero, List.set_cons_succ]) | (refine wpo_alloc tyX HO.out rfl rfl ?_; clear HO; rintro k3 W3 hO; have HO := Lib.hid hO; clear hO; simp only [Act.put, List.setIfInBounds_toArray, List.set_cons_zero, List.set_cons_succ]))
  have HEN := Lib.hid (rencode_any 2 p.props.length A.pc rfl ((HPR.out.below HO.out.bel).mono HO.out.size) HSM.out HPC.out)
  have hEl : (encR 2 p.props).L.length ≤ 63844 := encR_len HSM.out
  obtain ⟨E, hE⟩ : ∃ E, E = encR 2 p.props := ⟨_, rfl⟩
  have HE0 := Lib.hid hE
  rw [← hE] at HEN hEl HQ0
  have HEL := Lib.hid hEl
  clear hE hEl
  go_wp2_with (refine wpo_ldc (HO.out.get 2 rfl) tyL _ rfl rfl rfl HG3.out ?_)
  refine HEN.out.mono ?_
  rintro x V4 ⟨no, er, ea, rfl, hno, hra, hb⟩
  have HB := Lib.hid (HO.out.below hb)
  clear HO hb HEN
  have HO := HB
  clear HB
  have HNO := Lib.hid hno
  have HRA := Lib.hid hra
  clear hno hra
  go_upto_region 2 with (first | (refine wpo_alloc tyX HO.out rfl rfl ?_; clear HO; rintro k5 W5 hO; have HO := Lib.hid hO; clear hO; simp only [Act.put, List.setIfInBounds_toArray, List.set_cons_zero, List.set_cons_succ]) | (refine wpo_store (k := k5) HO.out 0 tyX rfl _ _ rfl rfl rfl rfl rfl rfl rfl ?_; clear HO; rintro W6 hO; have HO := Lib.hid hO; clear hO; simp only [Act.put]))
  have HQ := HQ0
  rw [if_pos (show E.no = 0 by rw [HE0.out]; exact hE0), show wrC p = (stepW (stepW (stepW w0 (numE 1 0)) (numE 1 p.reason)) ⟨0, 0, E.L⟩) from by unfold wrC; rw [hpr, ← HE0.out]; rfl] at HQ
  obtain rfl : no = 0 := by rw [HNO.out, HE0.out]; exact hE0
  clear HQ0 hpr hE0 HNO HRA
  go_upto_region 8 with (first | (refine wpo_ldc (HO.out.get 0 rfl) tyE _ rfl rfl rfl rfl ?_) | (refine wpo_zero tyW rfl rfl ?_) | (refine wpo_box (t := 75) HO.out _ rfl rfl rfl ?_; clear HO; rintro k6 W7 hO; have HO := Lib.hid hO; clear hO; simp only [Act.put, List.setIfInBounds_toArray, List.set_cons_zero, List.set_cons_succ]) | (refine wpo_ldc (HO.out.get 4 rfl) tyB _ rfl rfl rfl HG17.out ?_))
  have HDO := Lib.hid (rwdo_num1 (w0_obj HO.out 0 rfl) (Nat.zero_le _) 0)
  go_wp2_with fail
  refine HDO.out.mono ?_
  rintro x V8 ⟨rfl, hn⟩
  obtain ⟨l8, a8, hO, e1, e2⟩ := HO.out.wstep 0 rfl hn
  clear HO hn
  have HO := Lib.hid hO
  have HE1 := Lib.hid e1
  have HE2 := Lib.hid e2
  clear hO e1 e2
  clear HDO
  have HDO := Lib.hid (rwdo_num1 (HO.out.wr 0 rfl HE1.out HE2.out) (by have := stepW_num_len w0 0; have h0 : w0.L.length = 0 := rfl; omega) p.reason)
  clear HE1 HE2
  go_wp2_with (refine wpo_ldc (HO.out.get 4 rfl) tyI _ rfl rfl rfl HG2.out ?_)
  refine HDO.out.mono ?_
  rintro x V9 ⟨rfl, hn⟩
  obtain ⟨l9, a9, hO, e1, e2⟩ := HO.out.wstep 0 rfl hn
  clear HO hn
  have HO := Lib.hid hO
  have HE1 := Lib.hid e1
  have HE2 := Lib.hid e2
  clear hO e1 e2
  clear HDO
  have HVL := Lib.hid (show (stepW (stepW w0 (numE 1 0)) (numE 1 p.reason)).L.length ≤ 2 by have h1 := stepW_num_len (stepW w0 (numE 1 0)) p.reason; have h2 := stepW_num_len w0 0; have h0 : w0.L.length = 0 := rfl; omega)
  have HDO := Lib.hid (rwdo_raw (HO.out.wr 0 rfl HE1.out HE2.out) (by have := HVL.out; omega) E.L (by have := HEL.out; omega))
  clear HE1 HE2
  go_wp2_with fail
  refine HDO.out.mono ?_
  rintro x V10 ⟨rfl, hn⟩
  obtain ⟨l10, a10, hO, e1, e2⟩ := HO.out.wstep 0 rfl hn
  clear HO hn
  have HO := Lib.hid hO
  have HE1 := Lib.hid e1
  have HE2 := Lib.hid e2
  clear hO e1 e2
  clear HDO
  go_upto_region 11 with fail
  have HMD := Lib.hid (rmade_any (HO.out.wr 0 rfl HE1.out HE2.out) 32)
  obtain ⟨V, hV⟩ : ∃ V, V = (stepW (stepW (stepW w0 (numE 1 0)) (numE 1 p.reason)) ⟨0, 0, E.L⟩) := ⟨_, rfl⟩
  have hVL : V.L.length ≤ 900000 := by rw [hV]; have h1 := stepW_len (stepW (stepW w0 (numE 1 0)) (numE 1 p.reason)) ⟨0, 0, E.L⟩; have h3 := HVL.out; have h4 := HEL.out; simp only at h1; omega
  rw [← hV] at HMD HQ
  clear hV
  obtain ⟨t, ht⟩ : ∃ t : ByteArray, t = ⟨V.L.toArray⟩ := ⟨_, rfl⟩
  have hts : t.size ≤ 900000 := by rw [ht, bsize]; exact hVL
  obtain ⟨e, he⟩ : ∃ e, e = (dcC 32 t).1 := ⟨_, rfl⟩
  have HDC := Lib.hid (fun W => rdec09 W hts)
  rw [← he] at HDC
  rw [← ht, ← he, frR_eq _ _ _ ht] at HQ
  have HTT := Lib.hid ht
  clear ht he hVL hts
  go_wp2_with fail
  by_cases hv : V.no = 0
  · have hq := HQ.out
    rw [if_pos hv] at hq
    have HQ2 := Lib.hid hq
    have HMD2 := Lib.hid (show frR V 32 e00 = ⟨e00, 32, t⟩ by unfold frR; rw [if_pos hv, if_pos (show e00.no = 0 from rfl), ← HTT.out])
    rw [HMD2.out] at HMD
    have HMD := Lib.hid (frf_ok HMD.out)
    clear hq HQ HMD2 hv HTT
    refine HMD.out.mono ?_
    rintro x V1 ⟨rfl, hb⟩
    have HB := Lib.hid (HO.out.below hb)
    clear HO hb HMD
    have HO := HB
    clear HB
    go_upto_region 14 with (first | (refine wpo_alloc tyF HO.out rfl rfl ?_; clear HO; rintro kfB WfB hO; have HO := Lib.hid hO; clear hO; simp only [Act.put, List.setIfInBounds_toArray, List.set_cons_zero, List.set_cons_succ]) | (refine wpo_alloc tyX HO.out rfl rfl ?_; clear HO; rintro kgB WgB hO; have HO := Lib.hid hO; clear hO; simp only [Act.put, List.setIfInBounds_toArray, List.set_cons_zero, List.set_cons_succ]) | (refine wpo_store (k := kfB) HO.out 1 tyF rfl _ _ rfl rfl rfl rfl rfl rfl rfl ?_; clear HO; rintro WhB hO; have HO := Lib.hid hO; clear hO; simp only [Act.put]) | (refine wpo_store (k := kgB) HO.out 0 tyX rfl _ _ rfl rfl rfl rfl rfl rfl rfl ?_; clear HO; rintro WiB hO; have HO := Lib.hid hO; clear hO; simp only [Act.put]) | (refine wpo_ldc (HO.out.get 0 rfl) tyE _ rfl rfl rfl rfl ?_))
    have HDD := Lib.hid (HDC.out WiB)
    clear HDC
    obtain ⟨en, er, ea⟩ := e
    simp only at HQ2 HDD
    go_wp2_with (refine wpo_load HO.out 1 tyF rfl rfl _ rfl rfl rfl ?_)
    refine HDD.out.mono ?_
    rintro x V2 ⟨c2, hc2, ho2, rfl, hb⟩
    have HC2 := Lib.hid (hc2.trans HZS.out.symm)
    have HC21 := Lib.hid ho2
    clear hc2 ho2
    have HB := Lib.hid (HO.out.below hb)
    clear HO hb HDD
    have HO := HB
    clear HB
    by_cases he : en = 0
    · have hq := HQ2.out
      rw [if_pos he] at hq
      have HQ3 := Lib.hid hq
      subst he
      clear hq HQ2
      go_wp2_with (first | (refine wpo_alloc HT.out HO.out rfl rfl ?_; clear HO; rintro kpC WpC hO; have HO := Lib.hid hO; clear hO; simp only [Act.put, List.setIfInBounds_toArray, List.set_cons_zero, List.set_cons_succ]) | (refine wpo_alloc tyX HO.out rfl rfl ?_; clear HO; rintro kxC WxC hO; have HO := Lib.hid hO; clear hO; simp only [Act.put, List.setIfInBounds_toArray, List.set_cons_zero, List.set_cons_succ]) | (refine wpo_store (k := kpC) HO.out 1 HT.out rfl _ _ rfl rfl rfl rfl rfl HC2.out HC21.out ?_; clear HO; rintro WyC hO; have HO := Lib.hid hO; clear hO; simp only [Act.put]) | (refine wpo_store (k := kxC) HO.out 0 tyX rfl _ _ rfl rfl rfl rfl rfl rfl rfl ?_; clear HO; rintro WzC hO; have HO := Lib.hid hO; clear hO; simp only [Act.put]) | (refine wpo_ldc (HO.out.get 0 rfl) tyE _ rfl rfl rfl rfl ?_) | (refine wpo_load HO.out 3 tyF rfl rfl _ rfl rfl rfl ?_) | (refine wpo_store (k := k2) HO.out 7 tyF rfl _ _ rfl rfl rfl rfl rfl rfl rfl ?_; clear HO; rintro WmC hO; have HO := Lib.hid hO; clear hO; simp only [Act.put]) | (refine wpo_store (k := k3) HO.out 6 tyX rfl _ _ rfl rfl rfl rfl rfl rfl rfl ?_; clear HO; rintro WnC hO; have HO := Lib.hid hO; clear hO; simp only [Act.put]))
      exact bodyPost_ret (v := .tuple #[.agg #[.int .i64 32, .string t], fltV (0, 0, 0)]) (res_own2 7 6 HO.out tyF tyX rfl rfl rfl rfl rfl rfl rfl) rfl ⟨by rw [HQ3.out] <;> rfl, HO.out.bel⟩
    · have hq := HQ2.out
      rw [if_neg he] at hq
      have HQ3 := Lib.hid hq
      have hei : ¬ (en : Int) = 0 := by omega
      clear hq HQ2 he
      go_upto_region 16 with (first | (refine wpo_alloc HT.out HO.out rfl rfl ?_; clear HO; rintro kpD WpD hO; have HO := Lib.hid hO; clear hO; simp only [Act.put, List.setIfInBounds_toArray, List.set_cons_zero, List.set_cons_succ]) | (refine wpo_alloc tyX HO.out rfl rfl ?_; clear HO; rintro kxD WxD hO; have HO := Lib.hid hO; clear hO; simp only [Act.put, List.setIfInBounds_toArray, List.set_cons_zero, List.set_cons_succ]) | (refine wpo_store (k := kpD) HO.out 1 HT.out rfl _ _ rfl rfl rfl rfl rfl HC2.out HC21.out ?_; clear HO; rintro WyD hO; have HO := Lib.hid hO; clear hO; simp only [Act.put]) | (refine wpo_store (k := kxD) HO.out 0 tyX rfl _ _ rfl rfl rfl rfl rfl rfl rfl ?_; clear HO; rintro WzD hO; have HO := Lib.hid hO; clear hO; simp only [Act.put]) | (refine wpo_ldc (HO.out.get 0 rfl) tyE _ rfl rfl rfl rfl ?_))
      refine wpo_y2 (yA := (k2, 33, #[.int .i64 0, .string ⟨#[]⟩])) (yB := (k3, 40, #[.int .i64 (en : Int), .int .i64 er, .int .i64 (ea : Int)])) [(58, .agg #[.int .i64 0, .string ⟨#[]⟩]), (59, .agg #[.int .i64 (en : Int), .int .i64 er, .int .i64 (ea : Int)])] 7 6 mixed (by kernel_rfl) HO.out rfl rfl (by decide) (fun _ _ _ _ _ h => h) ?_ rfl rfl ?_ ?_ ?_
      · refine ⟨⟨_, rfl, rfl, yo_zero rfl tyF rfl⟩, ?_⟩
        simp only [Act.put, List.setIfInBounds_toArray, List.set_cons_zero, List.set_cons_succ]
        refine ⟨⟨_, rfl, rfl, yo_load rfl tyX (fun _ h => h.get 0 (by decide) (by decide) rfl) rfl _ rfl rfl⟩, ?_⟩
        exact trivial
      · simp only [putD, Act.put, List.setIfInBounds_toArray, List.set_cons_zero, List.set_cons_succ]
        exact sto_row tyF _ _ rfl rfl rfl rfl rfl rfl rfl rfl
      · simp only [putD, Act.put, List.setIfInBounds_toArray, List.set_cons_zero, List.set_cons_succ]
        exact sto_row tyX _ _ rfl rfl rfl rfl rfl rfl rfl rfl
      intro WjD hO
      clear HO
      have HO := Lib.hid hO
      clear hO
      simp only [putD, Act.put, List.setIfInBounds_toArray, List.set_cons_zero, List.set_cons_succ]
      go_wp2_with fail
      exact bodyPost_ret (v := .tuple #[.agg #[.int .i64 0, .string ⟨#[]⟩], fltV (en, er, ea)]) (res_own2 7 6 HO.out tyF tyX rfl rfl rfl rfl rfl rfl rfl) rfl ⟨by rw [HQ3.out] <;> rfl, HO.out.bel⟩
  · have hq := HQ.out
    rw [if_neg hv] at hq
    have HQ2 := Lib.hid hq
    have hvi : ¬ (V.no : Int) = 0 := by omega
    have HMD2 := Lib.hid (show frR V 32 e00 = ⟨⟨V.no, 129, V.at_⟩, 0, ⟨#[]⟩⟩ by unfold frR; rw [if_neg hv])
    rw [HMD2.out] at HMD
    have HMD := Lib.hid (frf_bad HMD.out)
    clear hq HQ HMD2 hv
    refine HMD.out.mono ?_
    rintro x V1 ⟨rfl, hb⟩
    have HB := Lib.hid (HO.out.below hb)
    clear HO hb HMD
    have HO := HB
    clear HB
    go_upto_region 13 with (first | (refine wpo_alloc tyF HO.out rfl rfl ?_; clear HO; rintro kfA WfA hO; have HO := Lib.hid hO; clear hO; simp only [Act.put, List.setIfInBounds_toArray, List.set_cons_zero, List.set_cons_succ]) | (refine wpo_alloc tyX HO.out rfl rfl ?_; clear HO; rintro kgA WgA hO; have HO := Lib.hid hO; clear hO; simp only [Act.put, List.setIfInBounds_toArray, List.set_cons_zero, List.set_cons_succ]) | (refine wpo_store (k := kfA) HO.out 1 tyF rfl _ _ rfl rfl rfl rfl rfl rfl rfl ?_; clear HO; rintro WhA hO; have HO := Lib.hid hO; clear hO; simp only [Act.put]) | (refine wpo_store (k := kgA) HO.out 0 tyX rfl _ _ rfl rfl rfl rfl rfl rfl rfl ?_; clear HO; rintro WiA hO; have HO := Lib.hid hO; clear hO; simp only [Act.put]) | (refine wpo_ldc (HO.out.get 0 rfl) tyE _ rfl rfl rfl rfl ?_))
    refine wpo_y2 (yA := (k2, 33, #[.int .i64 0, .string ⟨#[]⟩])) (yB := (k3, 40, #[.int .i64 (V.no : Int), .int .i64 129, .int .i64 (V.at_ : Int)])) [(48, .agg #[.int .i64 0, .string ⟨#[]⟩]), (49, .agg #[.int .i64 (V.no : Int), .int .i64 129, .int .i64 (V.at_ : Int)])] 5 4 mixed (by kernel_rfl) HO.out rfl rfl (by decide) (fun _ _ _ _ _ h => h) ?_ rfl rfl ?_ ?_ ?_
    · refine ⟨⟨_, rfl, rfl, yo_load rfl tyF (fun _ h => h.get 1 (by decide) (by decide) rfl) rfl _ rfl rfl⟩, ?_⟩
      simp only [Act.put, List.setIfInBounds_toArray, List.set_cons_zero, List.set_cons_succ]
      refine ⟨⟨_, rfl, rfl, yo_load rfl tyX (fun _ h => h.get 0 (by decide) (by decide) rfl) rfl _ rfl rfl⟩, ?_⟩
      exact trivial
    · simp only [putD, Act.put, List.setIfInBounds_toArray, List.set_cons_zero, List.set_cons_succ]
      exact sto_row tyF _ _ rfl rfl rfl rfl rfl rfl rfl rfl
    · simp only [putD, Act.put, List.setIfInBounds_toArray, List.set_cons_zero, List.set_cons_succ]
      exact sto_row tyX _ _ rfl rfl rfl rfl rfl rfl rfl rfl
    intro WjA hO
    clear HO
    have HO := Lib.hid hO
    clear hO
    simp only [putD, Act.put, List.setIfInBounds_toArray, List.set_cons_zero, List.set_cons_succ]
    go_wp2_with fail
    exact bodyPost_ret (v := .tuple #[.agg #[.int .i64 0, .string ⟨#[]⟩], fltV (V.no, 129, V.at_)]) (res_own2 5 4 HO.out tyF tyX rfl rfl rfl rfl rfl rfl rfl) rfl ⟨by rw [HQ2.out] <;> rfl, HO.out.bel⟩
end Go.Proofs.YtinhecggmakbnaaGreatDoor
