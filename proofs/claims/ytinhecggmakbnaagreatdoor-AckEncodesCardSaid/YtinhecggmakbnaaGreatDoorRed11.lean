/- What is proved here: what the document's Encode of layer 11 tells. Conditions: few bytes, the packet's parts stand where it says. -/
import Derived.Test.YtinhecggmakbnaaGreatDoorReb11
import Derived.Deep.QuietTactic
import Derived.BigQuiet
namespace Go.Proofs.YtinhecggmakbnaaGreatDoor
set_option maxRecDepth 100000
open Go.RowKit Go.Extern.Stop Go.Stop Go.Extern
set_option maxHeartbeats 8000000 in
theorem renc11_D {w : World} {A : PkA} {p : Pk} (h : PkIn w w.heap.size A p) (hS : SmallP p.props) (hk : ¬ fA p.kind = 0) (hp : ¬ p.props = []) (hr : ¬ p.reason = 0) : Calls Tryz.prog 21 #[p.agg A] w (FrF w (enA p)) := by
  obtain ⟨z, hT, hz26, hz⟩ := tyP_ex
  obtain ⟨q, hq⟩ : ∃ q, q = enA p := ⟨_, rfl⟩
  rw [← hq]
  obtain ⟨c, hc⟩ : ∃ c, c = p.cells A := ⟨_, rfl⟩
  rw [show p.agg A = .agg c from by rw [hc]; rfl]
  have HG0 := Lib.hid (show c[0]? = some (.int .i64 p.kind) by rw [hc]; rfl)
  have HG1 := Lib.hid (show c[1]? = some (.int .i64 p.id) by rw [hc]; rfl)
  have HG2 := Lib.hid (show c[2]? = some (.int .i64 p.reason) by rw [hc]; rfl)
  have HG3 := Lib.hid (show c[3]? = some (.slice A.pa p.props.length A.pc) by rw [hc]; rfl)
  have HT := Lib.hid hT
  have HZS := Lib.hid hz26
  have HPR := Lib.hid h.pr
  have HPC := Lib.hid h.pc
  have HSM := Lib.hid hS
  have HDF := Lib.hid (fun (W : World) (s : ByteArray) (hs : s.size ≤ 900000) => rdec11 hk W hs)
  have hf := fun w => rfirst11_any p.kind w
  rw [fR11_eq] at hf
  unfold enA at hq
  rw [if_neg hk] at hq
  obtain ⟨fv, hfv⟩ : ∃ fv, fv = fA p.kind := ⟨_, rfl⟩
  rw [← hfv] at hq hf HDF hk
  have hfn : (fv == 0) = false := beq_eq_false_iff_ne.2 hk
  have HF := Lib.hid hf
  have HQ0 := Lib.hid hq
  obtain ⟨WA, hWA⟩ : ∃ WA, WA = wA p := ⟨_, rfl⟩
  rw [← hWA] at HQ0
  have hWL : WA.L.length ≤ 2 := by
    rw [hWA]
    have := stepW_len w0 (numE 2 p.id)
    have h2 := numE_len 2 p.id
    have h0 : w0.L.length = 0 := rfl
    unfold wA
    omega
  have HWA := Lib.hid (show stepW w0 (numE 2 p.id) = WA from hWA.symm)
  have HWL := Lib.hid hWL
  have HO := Lib.hid (Own.start [] w)
  generalize p.kind = kd at *
  clear hT hz26 hz hc h hS hk hq hf hfv hWA hWL
  have HQ := HQ0
  clear HQ0
  have hb : (p.reason != 0) = true := by rw [bne_iff_ne]; exact hr
  have HPU := Lib.hid (show putR WA kd p.reason p.props = if (encR kd p.props).no = 0 then (e00, stepW (stepW WA (numE 1 p.reason)) ⟨0, 0, (encR kd p.props).L⟩) else (⟨(encR kd p.props).no, (encR kd p.props).r, (encR kd p.props).at_⟩, WA) by unfold putR; rw [if_neg hp])
  have hlp : 0 < p.props.length := List.length_pos_iff.2 hp
  have hlq : (0 : Int) < (p.props.length : Int) := by omega
  clear hp
  clear hr
  go_enter Tryz.func21, Tryz.ntmps21
  go_wp2_with (first | (refine wpo_box (t := 29) HO.out _ rfl rfl rfl ?_; clear HO; rintro k1 W1 hO; have HO := Lib.hid hO; clear hO; simp only [Act.put, List.setIfInBounds_toArray, List.set_cons_zero, List.set_cons_succ]) | (refine wpo_alloc tyF HO.out rfl rfl ?_; clear HO; rintro k2 W2 hO; have HO := Lib.hid hO; clear hO; simp only [Act.put, List.setIfInBounds_toArray, List.set_cons_zero, List.set_cons_succ]) | (refine wpo_alloc tyX HO.out rfl rfl ?_; clear HO; rintro k3 W3 hO; have HO := Lib.hid hO; clear hO; simp only [Act.put, List.setIfInBounds_toArray, List.set_cons_zero, List.set_cons_succ]) | (refine wpo_ldc (HO.out.get 2 rfl) tyI _ rfl rfl rfl HG0.out ?_))
  refine (HF.out _).mono ?_
  rintro x _ ⟨rfl, rfl⟩
  go_upto_region 4 with (first | (refine wpo_zero tyW rfl rfl ?_) | (refine wpo_box (t := 75) HO.out _ rfl rfl rfl ?_; clear HO; rintro k4 W4 hO; have HO := Lib.hid hO; clear hO; simp only [Act.put, List.setIfInBounds_toArray, List.set_cons_zero, List.set_cons_succ]))
  have HDO := Lib.hid (rwdo_num2 (w0_obj HO.out 0 rfl) (Nat.zero_le _) p.id)
  rw [HWA.out] at HDO
  go_wp2_with (refine wpo_ldc (HO.out.get 3 rfl) tyI _ rfl rfl rfl HG1.out ?_)
  refine HDO.out.mono ?_
  rintro x V5 ⟨rfl, hn⟩
  obtain ⟨l5, a5, hO, e1, e2⟩ := HO.out.wstep 0 rfl hn
  clear HO hn
  have HO := Lib.hid hO
  have HE1 := Lib.hid e1
  have HE2 := Lib.hid e2
  clear hO e1 e2
  clear HDO hfn
  have f2 : V5.cell? ⟨k1, 2, none⟩ = some (.int .i64 p.reason) := ((HO.out.get 3 rfl).cell 2).trans HG2.out
  have f3 : V5.cell? ⟨k1, 3, none⟩ = some (.slice A.pa p.props.length A.pc) := ((HO.out.get 3 rfl).cell 3).trans HG3.out
  go_upto_region 6 with fail
  clear f2 f3 hb
  have HDO := Lib.hid (rwdo_num1 (HO.out.wr 0 rfl HE1.out HE2.out) (by have := HWL.out; omega) (p.reason))
  clear HE1 HE2
  go_wp2_with (refine wpo_ldc (HO.out.get 3 rfl) tyI _ rfl rfl rfl HG2.out ?_)
  refine HDO.out.mono ?_
  rintro x V6 ⟨rfl, hn⟩
  obtain ⟨l6, a6, hO, e1, e2⟩ := HO.out.wstep 0 rfl hn
  clear HO hn
  have HO := Lib.hid hO
  have HE1 := Lib.hid e1
  have HE2 := Lib.hid e2
  clear hO e1 e2
  clear HDO
  have f3 : V6.cell? ⟨k1, 3, none⟩ = some (.slice A.pa p.props.length A.pc) := ((HO.out.get 3 rfl).cell 3).trans HG3.out
  go_upto_region 8 with fail
  clear f3
  have HEN := Lib.hid (rencode_any kd p.props.length A.pc rfl ((HPR.out.below HO.out.bel).mono HO.out.size) HSM.out HPC.out)
  have hEl : (encR kd p.props).L.length ≤ 63844 := encR_len HSM.out
  obtain ⟨E, hE⟩ : ∃ E, E = encR kd p.props := ⟨_, rfl⟩
  rw [← hE] at HEN HPU hEl
  have HEL := Lib.hid hEl
  clear hE hEl
  go_wp2_with (first | (refine wpo_ldc (HO.out.get 3 rfl) tyI _ rfl rfl rfl HG0.out ?_) | (refine wpo_ldc (HO.out.get 3 rfl) tyL _ rfl rfl rfl HG3.out ?_))
  refine HEN.out.mono ?_
  rintro x V7 ⟨no, er, ea, rfl, hno, hra, hb⟩
  have HB := Lib.hid (HO.out.below hb)
  clear HO hb HEN
  have HO := HB
  clear HB
  have HNO := Lib.hid hno
  have HRA := Lib.hid hra
  clear hno hra
  go_upto_region 9 with (first | (refine wpo_alloc tyX HO.out rfl rfl ?_; clear HO; rintro k6 W7 hO; have HO := Lib.hid hO; clear hO; simp only [Act.put, List.setIfInBounds_toArray, List.set_cons_zero, List.set_cons_succ]) | (refine wpo_store (k := k6) HO.out 0 tyX rfl _ _ rfl rfl rfl rfl rfl rfl rfl ?_; clear HO; rintro W8 hO; have HO := Lib.hid hO; clear hO; simp only [Act.put]))
  by_cases hn0 : no = 0
  · have HVV := Lib.hid (show putR WA kd p.reason p.props = (e00, stepW (stepW WA (numE 1 p.reason)) ⟨0, 0, E.L⟩) by rw [HPU.out, if_pos (by rw [← HNO.out]; exact hn0)])
    rw [HVV.out, if_pos (show (e00, stepW (stepW WA (numE 1 p.reason)) ⟨0, 0, E.L⟩).1.no = 0 from rfl)] at HQ
    subst hn0
    clear HVV HPU HRA HNO
    have HD8 := Lib.hid (rwdo_raw (HO.out.wr 1 rfl HE1.out HE2.out) (by have := stepW_num_len WA (p.reason); have := HWL.out; omega) E.L (by have := HEL.out; omega))
    clear HE1 HE2
    go_wp2_with (refine wpo_ldc (HO.out.get 0 rfl) tyE _ rfl rfl rfl rfl ?_)
    refine HD8.out.mono ?_
    rintro x V9 ⟨rfl, hn⟩
    obtain ⟨l9, a9, hO, e1, e2⟩ := HO.out.wstep 1 rfl hn
    clear HO hn
    have HO := Lib.hid hO
    have HE1 := Lib.hid e1
    have HE2 := Lib.hid e2
    clear hO e1 e2
    clear HD8
    go_upto_region 12 with fail
    go_wp2_with (refine wpo_ldc (HO.out.get 4 rfl) tyI _ rfl rfl rfl HG0.out ?_)
    refine (HF.out _).mono ?_
    rintro x _ ⟨rfl, rfl⟩
    have HMD := Lib.hid (rmade_any (HO.out.wr 1 rfl HE1.out HE2.out) fv)
    obtain ⟨V, hV⟩ : ∃ V, V = (stepW (stepW WA (numE 1 (p.reason))) ⟨0, 0, E.L⟩) := ⟨_, rfl⟩
    have hVL : V.L.length ≤ 900000 := by rw [hV]; have h1 := stepW_len (stepW WA (numE 1 (p.reason))) ⟨0, 0, E.L⟩; have h2 := stepW_num_len WA (p.reason); have h3 := HWL.out; have h4 := HEL.out; simp only at h1; omega
    rw [← hV] at HMD HQ
    clear hV
    obtain ⟨t, ht⟩ : ∃ t : ByteArray, t = ⟨V.L.toArray⟩ := ⟨_, rfl⟩
    have hts : t.size ≤ 900000 := by rw [ht, bsize]; exact hVL
    obtain ⟨e, he⟩ : ∃ e, e = (dcA fv t).1 := ⟨_, rfl⟩
    have HDC := Lib.hid (fun W => HDF.out W t hts)
    rw [← he] at HDC
    rw [← ht, ← he, frR_eq _ _ _ ht] at HQ
    have HTT := Lib.hid ht
    clear ht he hVL hts HDF
    go_wp2_with fail
    by_cases hv : V.no = 0
    · have hq := HQ.out
      rw [if_pos hv] at hq
      have HQ2 := Lib.hid hq
      have HMD2 := Lib.hid (show frR V fv e00 = ⟨e00, fv, t⟩ by unfold frR; rw [if_pos hv, if_pos (show e00.no = 0 from rfl), ← HTT.out])
      rw [HMD2.out] at HMD
      have HMD := Lib.hid (frf_ok HMD.out)
      clear hq HQ HMD2 hv HTT
      refine HMD.out.mono ?_
      rintro x V1 ⟨rfl, hb⟩
      have HB := Lib.hid (HO.out.below hb)
      clear HO hb HMD
      have HO := HB
      clear HB
      go_upto_region 15 with (first | (refine wpo_alloc tyF HO.out rfl rfl ?_; clear HO; rintro kfB WfB hO; have HO := Lib.hid hO; clear hO; simp only [Act.put, List.setIfInBounds_toArray, List.set_cons_zero, List.set_cons_succ]) | (refine wpo_alloc tyX HO.out rfl rfl ?_; clear HO; rintro kgB WgB hO; have HO := Lib.hid hO; clear hO; simp only [Act.put, List.setIfInBounds_toArray, List.set_cons_zero, List.set_cons_succ]) | (refine wpo_store (k := kfB) HO.out 1 tyF rfl _ _ rfl rfl rfl rfl rfl rfl rfl ?_; clear HO; rintro WhB hO; have HO := Lib.hid hO; clear hO; simp only [Act.put]) | (refine wpo_store (k := kgB) HO.out 0 tyX rfl _ _ rfl rfl rfl rfl rfl rfl rfl ?_; clear HO; rintro WiB hO; have HO := Lib.hid hO; clear hO; simp only [Act.put]) | (refine wpo_ldc (HO.out.get 0 rfl) tyE _ rfl rfl rfl rfl ?_))
      have HDD := Lib.hid (HDC.out WiB)
      clear HDC
      obtain ⟨en, er, ea⟩ := e
      simp only at HQ2 HDD
      go_wp2_with (refine wpo_load HO.out 1 tyF rfl rfl _ rfl rfl rfl ?_)
      refine HDD.out.mono ?_
      rintro x V2 ⟨c2, hc2, ho2, rfl, hb⟩
      have HC2 := Lib.hid (hc2.trans HZS.out.symm)
      have HC21 := Lib.hid ho2
      clear hc2 ho2
      have HB := Lib.hid (HO.out.below hb)
      clear HO hb HDD
      have HO := HB
      clear HB
      by_cases he : en = 0
      · have hq := HQ2.out
        rw [if_pos he] at hq
        have HQ3 := Lib.hid hq
        subst he
        clear hq HQ2
        go_wp2_with (first | (refine wpo_alloc HT.out HO.out rfl rfl ?_; clear HO; rintro kpC WpC hO; have HO := Lib.hid hO; clear hO; simp only [Act.put, List.setIfInBounds_toArray, List.set_cons_zero, List.set_cons_succ]) | (refine wpo_alloc tyX HO.out rfl rfl ?_; clear HO; rintro kxC WxC hO; have HO := Lib.hid hO; clear hO; simp only [Act.put, List.setIfInBounds_toArray, List.set_cons_zero, List.set_cons_succ]) | (refine wpo_store (k := kpC) HO.out 1 HT.out rfl _ _ rfl rfl rfl rfl rfl HC2.out HC21.out ?_; clear HO; rintro WyC hO; have HO := Lib.hid hO; clear hO; simp only [Act.put]) | (refine wpo_store (k := kxC) HO.out 0 tyX rfl _ _ rfl rfl rfl rfl rfl rfl rfl ?_; clear HO; rintro WzC hO; have HO := Lib.hid hO; clear hO; simp only [Act.put]) | (refine wpo_ldc (HO.out.get 0 rfl) tyE _ rfl rfl rfl rfl ?_) | (refine wpo_load HO.out 3 tyF rfl rfl _ rfl rfl rfl ?_) | (refine wpo_store (k := k2) HO.out 7 tyF rfl _ _ rfl rfl rfl rfl rfl rfl rfl ?_; clear HO; rintro WmC hO; have HO := Lib.hid hO; clear hO; simp only [Act.put]) | (refine wpo_store (k := k3) HO.out 6 tyX rfl _ _ rfl rfl rfl rfl rfl rfl rfl ?_; clear HO; rintro WnC hO; have HO := Lib.hid hO; clear hO; simp only [Act.put]))
        exact bodyPost_ret (v := .tuple #[.agg #[.int .i64 fv, .string t], fltV (0, 0, 0)]) (res_own2 7 6 HO.out tyF tyX rfl rfl rfl rfl rfl rfl rfl) rfl ⟨by rw [HQ3.out] <;> rfl, HO.out.bel⟩
      · have hq := HQ2.out
        rw [if_neg he] at hq
        have HQ3 := Lib.hid hq
        have hei : ¬ (en : Int) = 0 := by omega
        clear hq HQ2 he
        go_upto_region 17 with (first | (refine wpo_alloc HT.out HO.out rfl rfl ?_; clear HO; rintro kpD WpD hO; have HO := Lib.hid hO; clear hO; simp only [Act.put, List.setIfInBounds_toArray, List.set_cons_zero, List.set_cons_succ]) | (refine wpo_alloc tyX HO.out rfl rfl ?_; clear HO; rintro kxD WxD hO; have HO := Lib.hid hO; clear hO; simp only [Act.put, List.setIfInBounds_toArray, List.set_cons_zero, List.set_cons_succ]) | (refine wpo_store (k := kpD) HO.out 1 HT.out rfl _ _ rfl rfl rfl rfl rfl HC2.out HC21.out ?_; clear HO; rintro WyD hO; have HO := Lib.hid hO; clear hO; simp only [Act.put]) | (refine wpo_store (k := kxD) HO.out 0 tyX rfl _ _ rfl rfl rfl rfl rfl rfl rfl ?_; clear HO; rintro WzD hO; have HO := Lib.hid hO; clear hO; simp only [Act.put]) | (refine wpo_ldc (HO.out.get 0 rfl) tyE _ rfl rfl rfl rfl ?_))
        refine wpo_y2 (yA := (k2, 33, #[.int .i64 0, .string ⟨#[]⟩])) (yB := (k3, 40, #[.int .i64 (en : Int), .int .i64 er, .int .i64 (ea : Int)])) [(80, .agg #[.int .i64 0, .string ⟨#[]⟩]), (81, .agg #[.int .i64 (en : Int), .int .i64 er, .int .i64 (ea : Int)])] 7 6 mixed (by kernel_rfl) HO.out rfl rfl (by decide) (fun _ _ _ _ _ h => h) ?_ rfl rfl ?_ ?_ ?_
        · refine ⟨⟨_, rfl, rfl, yo_zero rfl tyF rfl⟩, ?_⟩
          simp only [Act.put, List.setIfInBounds_toArray, List.set_cons_zero, List.set_cons_succ]
          refine ⟨⟨_, rfl, rfl, yo_load rfl tyX (fun _ h => h.get 0 (by decide) (by decide) rfl) rfl _ rfl rfl⟩, ?_⟩
          exact trivial
        · simp only [putD, Act.put, List.setIfInBounds_toArray, List.set_cons_zero, List.set_cons_succ]
          exact sto_row tyF _ _ rfl rfl rfl rfl rfl rfl rfl rfl
        · simp only [putD, Act.put, List.setIfInBounds_toArray, List.set_cons_zero, List.set_cons_succ]
          exact sto_row tyX _ _ rfl rfl rfl rfl rfl rfl rfl rfl
        intro WjD hO
        clear HO
        have HO := Lib.hid hO
        clear hO
        simp only [putD, Act.put, List.setIfInBounds_toArray, List.set_cons_zero, List.set_cons_succ]
        go_wp2_with fail
        exact bodyPost_ret (v := .tuple #[.agg #[.int .i64 0, .string ⟨#[]⟩], fltV (en, er, ea)]) (res_own2 7 6 HO.out tyF tyX rfl rfl rfl rfl rfl rfl rfl) rfl ⟨by rw [HQ3.out] <;> rfl, HO.out.bel⟩
    · have hq := HQ.out
      rw [if_neg hv] at hq
      have HQ2 := Lib.hid hq
      have hvi : ¬ (V.no : Int) = 0 := by omega
      have HMD2 := Lib.hid (show frR V fv e00 = ⟨⟨V.no, 129, V.at_⟩, 0, ⟨#[]⟩⟩ by unfold frR; rw [if_neg hv])
      rw [HMD2.out] at HMD
      have HMD := Lib.hid (frf_bad HMD.out)
      clear hq HQ HMD2 hv
      refine HMD.out.mono ?_
      rintro x V1 ⟨rfl, hb⟩
      have HB := Lib.hid (HO.out.below hb)
      clear HO hb HMD
      have HO := HB
      clear HB
      go_upto_region 14 with (first | (refine wpo_alloc tyF HO.out rfl rfl ?_; clear HO; rintro kfA WfA hO; have HO := Lib.hid hO; clear hO; simp only [Act.put, List.setIfInBounds_toArray, List.set_cons_zero, List.set_cons_succ]) | (refine wpo_alloc tyX HO.out rfl rfl ?_; clear HO; rintro kgA WgA hO; have HO := Lib.hid hO; clear hO; simp only [Act.put, List.setIfInBounds_toArray, List.set_cons_zero, List.set_cons_succ]) | (refine wpo_store (k := kfA) HO.out 1 tyF rfl _ _ rfl rfl rfl rfl rfl rfl rfl ?_; clear HO; rintro WhA hO; have HO := Lib.hid hO; clear hO; simp only [Act.put]) | (refine wpo_store (k := kgA) HO.out 0 tyX rfl _ _ rfl rfl rfl rfl rfl rfl rfl ?_; clear HO; rintro WiA hO; have HO := Lib.hid hO; clear hO; simp only [Act.put]) | (refine wpo_ldc (HO.out.get 0 rfl) tyE _ rfl rfl rfl rfl ?_))
      refine wpo_y2 (yA := (k2, 33, #[.int .i64 0, .string ⟨#[]⟩])) (yB := (k3, 40, #[.int .i64 (V.no : Int), .int .i64 129, .int .i64 (V.at_ : Int)])) [(70, .agg #[.int .i64 0, .string ⟨#[]⟩]), (71, .agg #[.int .i64 (V.no : Int), .int .i64 129, .int .i64 (V.at_ : Int)])] 5 4 mixed (by kernel_rfl) HO.out rfl rfl (by decide) (fun _ _ _ _ _ h => h) ?_ rfl rfl ?_ ?_ ?_
      · refine ⟨⟨_, rfl, rfl, yo_load rfl tyF (fun _ h => h.get 1 (by decide) (by decide) rfl) rfl _ rfl rfl⟩, ?_⟩
        simp only [Act.put, List.setIfInBounds_toArray, List.set_cons_zero, List.set_cons_succ]
        refine ⟨⟨_, rfl, rfl, yo_load rfl tyX (fun _ h => h.get 0 (by decide) (by decide) rfl) rfl _ rfl rfl⟩, ?_⟩
        exact trivial
      · simp only [putD, Act.put, List.setIfInBounds_toArray, List.set_cons_zero, List.set_cons_succ]
        exact sto_row tyF _ _ rfl rfl rfl rfl rfl rfl rfl rfl
      · simp only [putD, Act.put, List.setIfInBounds_toArray, List.set_cons_zero, List.set_cons_succ]
        exact sto_row tyX _ _ rfl rfl rfl rfl rfl rfl rfl rfl
      intro WjA hO
      clear HO
      have HO := Lib.hid hO
      clear hO
      simp only [putD, Act.put, List.setIfInBounds_toArray, List.set_cons_zero, List.set_cons_succ]
      go_wp2_with fail
      exact bodyPost_ret (v := .tuple #[.agg #[.int .i64 0, .string ⟨#[]⟩], fltV (V.no, 129, V.at_)]) (res_own2 5 4 HO.out tyF tyX rfl rfl rfl rfl rfl rfl rfl) rfl ⟨by rw [HQ2.out] <;> rfl, HO.out.bel⟩
  · have hq := HQ.out
    have hPB := HPU.out.trans (if_neg (by rw [← HNO.out]; exact hn0))
    rw [hPB, if_neg (show ¬ E.no = 0 by rw [← HNO.out]; exact hn0)] at hq
    clear hPB
    obtain ⟨e1, e2⟩ := HRA.out (by rw [← HNO.out]; exact hn0)
    subst e1 e2
    have HQ2 := Lib.hid (show q = ⟨⟨no, E.r, E.at_⟩, 0, ⟨#[]⟩⟩ by rw [hq, HNO.out])
    have hni : ¬ (no : Int) = 0 := by omega
    clear hq HQ HPU HRA HNO hn0
    go_upto_region 10 with (refine wpo_ldc (HO.out.get 0 rfl) tyE _ rfl rfl rfl rfl ?_)
    refine wpo_y2 (yA := (k2, 33, #[.int .i64 0, .string ⟨#[]⟩])) (yB := (k3, 40, #[.int .i64 (no : Int), .int .i64 E.r, .int .i64 (E.at_ : Int)])) [(53, .agg #[.int .i64 0, .string ⟨#[]⟩]), (54, .agg #[.int .i64 (no : Int), .int .i64 E.r, .int .i64 (E.at_ : Int)])] 3 2 mixed (by kernel_rfl) HO.out rfl rfl (by decide) (fun _ _ _ _ _ h => h) ?_ rfl rfl ?_ ?_ ?_
    · refine ⟨⟨_, rfl, rfl, yo_zero rfl tyF rfl⟩, ?_⟩
      simp only [Act.put, List.setIfInBounds_toArray, List.set_cons_zero, List.set_cons_succ]
      refine ⟨⟨_, rfl, rfl, yo_load rfl tyX (fun _ h => h.get 0 (by decide) (by decide) rfl) rfl _ rfl rfl⟩, ?_⟩
      exact trivial
    · simp only [putD, Act.put, List.setIfInBounds_toArray, List.set_cons_zero, List.set_cons_succ]
      exact sto_row tyF _ _ rfl rfl rfl rfl rfl rfl rfl rfl
    · simp only [putD, Act.put, List.setIfInBounds_toArray, List.set_cons_zero, List.set_cons_succ]
      exact sto_row tyX _ _ rfl rfl rfl rfl rfl rfl rfl rfl
    intro WjB hO
    clear HO
    have HO := Lib.hid hO
    clear hO
    simp only [putD, Act.put, List.setIfInBounds_toArray, List.set_cons_zero, List.set_cons_succ]
    go_wp2_with fail
    exact bodyPost_ret (v := .tuple #[.agg #[.int .i64 0, .string ⟨#[]⟩], fltV (no, E.r, E.at_)]) (res_own2 3 2 HO.out tyF tyX rfl rfl rfl rfl rfl rfl rfl) rfl ⟨by rw [HQ2.out] <;> rfl, HO.out.bel⟩
end Go.Proofs.YtinhecggmakbnaaGreatDoor
