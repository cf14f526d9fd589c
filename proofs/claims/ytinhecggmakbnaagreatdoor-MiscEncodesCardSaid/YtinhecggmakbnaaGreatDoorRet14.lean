/- What is proved here: what the document's Encode of layer 14 tells. Conditions: few bytes, the packet's parts stand where it says. What is proved here: what the document's Encode of layer 14 tells. Conditions: few bytes, the packet's parts stand where it says. What is proved here: what the document's Encode of layer 14 tells. Conditions: few bytes, the packet's parts stand where it says. -/
import Derived.Test.YtinhecggmakbnaaGreatDoorRen14
import Derived.Deep.QuietTactic
import Derived.BigQuiet
import Derived.Deep.DeepMust
namespace Go.Proofs.YtinhecggmakbnaaGreatDoor
set_option maxRecDepth 100000
open Go.RowKit Go.Extern.Stop Go.Stop Go.Extern
set_option maxHeartbeats 8000000 in
theorem renc14_15C {w : World} {A : PkA} {p : Pk} (h : PkIn w w.heap.size A p) (hS : SmallP p.props) (hk : p.kind = 15) (hp : ¬ p.props = []) (hr : p.reason = 0) : Calls Tryz.prog 33 #[p.agg A] w (FrF w (enM p)) := by
  obtain ⟨z, hT, hz26, hz⟩ := tyP_ex
  obtain ⟨q, hq⟩ : ∃ q, q = enM p := ⟨_, rfl⟩
  rw [← hq]
  obtain ⟨c, hc⟩ : ∃ c, c = p.cells A := ⟨_, rfl⟩
  rw [show p.agg A = .agg c from by rw [hc]; rfl]
  have HG0 := Lib.hid (show c[0]? = some (.int .i64 15) by rw [hc, ← hk]; rfl)
  have HG2 := Lib.hid (show c[2]? = some (.int .i64 p.reason) by rw [hc]; rfl)
  have HG3 := Lib.hid (show c[3]? = some (.slice A.pa p.props.length A.pc) by rw [hc]; rfl)
  have HT := Lib.hid hT
  have HZS := Lib.hid hz26
  have HPR := Lib.hid h.pr
  have HPC := Lib.hid h.pc
  have HSM := Lib.hid hS
  unfold enM at hq
  rw [hk] at hq
  have HQ0 := Lib.hid hq
  have HO := Lib.hid (Own.start [] w)
  clear hT hz26 hz hc h hS hk hq
  have HQ := HQ0
  rw [show fM 15 = 240 from rfl, if_neg (by decide), if_neg (by decide)] at HQ
  clear HQ0
  rw [hr] at HG2
  have HPU := Lib.hid (show putR w0 15 p.reason p.props = if (encR 15 p.props).no = 0 then (e00, stepW (stepW w0 (numE 1 p.reason)) ⟨0, 0, (encR 15 p.props).L⟩) else (⟨(encR 15 p.props).no, (encR 15 p.props).r, (encR 15 p.props).at_⟩, w0) by unfold putR; rw [if_neg hp])
  have hlp : 0 < p.props.length := List.length_pos_iff.2 hp
  have hlq : (0 : Int) < (p.props.length : Int) := by omega
  have hpl := putR_len (W := w0) (k := 15) (r := p.reason) HSM.out
  have HPL := Lib.hid hpl
  clear hpl hp
  have HR0 := Lib.hid hr
  clear hr
  go_enter Tryz.func33, Tryz.ntmps33
  go_wp2_with (first | (refine wpo_box (t := 29) HO.out _ rfl rfl rfl ?_; clear HO; rintro k1 W1 hO; have HO := Lib.hid hO; clear hO; simp only [Act.put, List.setIfInBounds_toArray, List.set_cons_zero, List.set_cons_succ]) | (refine wpo_alloc tyF HO.out rfl rfl ?_; clear HO; rintro k2 W2 hO; have HO := Lib.hid hO; clear hO; simp only [Act.put, List.setIfInBounds_toArray, List.set_cons_zero, List.set_cons_succ]) | (refine wpo_alloc tyX HO.out rfl rfl ?_; clear HO; rintro k3 W3 hO; have HO := Lib.hid hO; clear hO; simp only [Act.put, List.setIfInBounds_toArray, List.set_cons_zero, List.set_cons_succ]) | (refine wpo_ldc (HO.out.get 2 rfl) tyI _ rfl rfl rfl HG0.out ?_))
  refine (rg14_15 _).mono ?_
  rintro x _ ⟨rfl, rfl⟩
  go_upto_region 4 with (first | (refine wpo_zero tyW rfl rfl ?_) | (refine wpo_box (t := 75) HO.out _ rfl rfl rfl ?_; clear HO; rintro k4 W4 hO; have HO := Lib.hid hO; clear hO; simp only [Act.put, List.setIfInBounds_toArray, List.set_cons_zero, List.set_cons_succ]))
  have f0 : W4.cell? ⟨k1, 0, none⟩ = some (.int .i64 15) := ((HO.out.get 3 rfl).cell 0).trans HG0.out
  have f2 : W4.cell? ⟨k1, 2, none⟩ = some (.int .i64 0) := ((HO.out.get 3 rfl).cell 2).trans HG2.out
  have f3 : W4.cell? ⟨k1, 3, none⟩ = some (.slice A.pa p.props.length A.pc) := ((HO.out.get 3 rfl).cell 3).trans HG3.out
  go_upto_region 5 with fail
  clear f0 f2 f3
  have HDO := Lib.hid (rwdo_num1 (w0_obj HO.out 0 rfl) (Nat.zero_le _) (0))
  go_wp2_with (refine wpo_ldc (HO.out.get 3 rfl) tyI _ rfl rfl rfl HG2.out ?_)
  refine HDO.out.mono ?_
  rintro x V5 ⟨rfl, hn⟩
  obtain ⟨l5, a5, hO, e1, e2⟩ := HO.out.wstep 0 rfl hn
  clear HO hn
  have HO := Lib.hid hO
  have HE1 := Lib.hid e1
  have HE2 := Lib.hid e2
  clear hO e1 e2
  clear HDO
  have f0 : V5.cell? ⟨k1, 0, none⟩ = some (.int .i64 15) := ((HO.out.get 3 rfl).cell 0).trans HG0.out
  have f3 : V5.cell? ⟨k1, 3, none⟩ = some (.slice A.pa p.props.length A.pc) := ((HO.out.get 3 rfl).cell 3).trans HG3.out
  go_upto_region 7 with fail
  clear f0 f3
  have HEN := Lib.hid (rencode_any 15 p.props.length A.pc rfl ((HPR.out.below HO.out.bel).mono HO.out.size) HSM.out HPC.out)
  obtain ⟨E, hE⟩ : ∃ E, E = encR 15 p.props := ⟨_, rfl⟩
  have hEl : E.L.length ≤ 63844 := by rw [hE]; exact encR_len HSM.out
  have HEL := Lib.hid hEl
  rw [← hE] at HEN HPU
  clear hE hEl
  go_wp2_with (first | (refine wpo_ldc (HO.out.get 3 rfl) tyI _ rfl rfl rfl HG0.out ?_) | (refine wpo_ldc (HO.out.get 3 rfl) tyL _ rfl rfl rfl HG3.out ?_))
  refine HEN.out.mono ?_
  rintro x V6 ⟨no, er, ea, rfl, hno, hra, hb⟩
  have HB := Lib.hid (HO.out.below hb)
  clear HO hb HEN
  have HO := HB
  clear HB
  have HNO := Lib.hid hno
  have HRA := Lib.hid hra
  clear hno hra
  go_upto_region 8 with (first | (refine wpo_alloc tyX HO.out rfl rfl ?_; clear HO; rintro k6 W7 hO; have HO := Lib.hid hO; clear hO; simp only [Act.put, List.setIfInBounds_toArray, List.set_cons_zero, List.set_cons_succ]) | (refine wpo_store (k := k6) HO.out 0 tyX rfl _ _ rfl rfl rfl rfl rfl rfl rfl ?_; clear HO; rintro W8 hO; have HO := Lib.hid hO; clear hO; simp only [Act.put]))
  by_cases hn0 : no = 0
  · have HVV := Lib.hid (show putR w0 15 p.reason p.props = (e00, stepW (stepW w0 (numE 1 p.reason)) ⟨0, 0, E.L⟩) by rw [HPU.out, if_pos (by rw [← HNO.out]; exact hn0)])
    rw [HVV.out, if_pos (show (e00, stepW (stepW w0 (numE 1 p.reason)) ⟨0, 0, E.L⟩).1.no = 0 from rfl)] at HQ
    rw [HVV.out] at HPL
    subst hn0
    clear HVV HPU HRA HNO
    rw [HR0.out] at HQ HPL
    have HD8 := Lib.hid (rwdo_raw (HO.out.wr 1 rfl HE1.out HE2.out) (by have := stepW_num_len w0 (0); have h0 : w0.L.length = 0 := rfl; omega) E.L (by have := HEL.out; omega))
    clear HE1 HE2
    go_wp2_with (refine wpo_ldc (HO.out.get 0 rfl) tyE _ rfl rfl rfl rfl ?_)
    refine HD8.out.mono ?_
    rintro x V9 ⟨rfl, hn⟩
    obtain ⟨l9, a9, hO, e1, e2⟩ := HO.out.wstep 1 rfl hn
    clear HO hn
    have HO := Lib.hid hO
    have HE1 := Lib.hid e1
    have HE2 := Lib.hid e2
    clear hO e1 e2
    clear HD8
    go_upto_region 11 with fail
    go_wp2_with (refine wpo_ldc (HO.out.get 4 rfl) tyI _ rfl rfl rfl HG0.out ?_)
    refine (rg14_15 _).mono ?_
    rintro x _ ⟨rfl, rfl⟩
    have HMD := Lib.hid (rmade_any (HO.out.wr 1 rfl HE1.out HE2.out) 240)
    have HDC0 := Lib.hid (fun W => rdec14_240 (w := W) (s := ⟨((stepW (stepW w0 (numE 1 (0))) ⟨0, 0, E.L⟩)).L.toArray⟩) (by rw [bsize]; have h1 : (stepW (stepW w0 (numE 1 (0))) ⟨0, 0, E.L⟩).L.length ≤ _ := HPL.out; have h0 : w0.L.length = 0 := rfl; omega))
    obtain ⟨V, hV⟩ : ∃ V, V = (stepW (stepW w0 (numE 1 (0))) ⟨0, 0, E.L⟩) := ⟨_, rfl⟩
    rw [← hV] at HMD HDC0 HQ
    clear hV
    obtain ⟨e, he⟩ : ∃ e, e = (dcM 240 ⟨V.L.toArray⟩).1 := ⟨_, rfl⟩
    rw [← he] at HDC0 HQ
    clear he
    obtain ⟨t, ht⟩ : ∃ t : ByteArray, t = ⟨V.L.toArray⟩ := ⟨_, rfl⟩
    rw [← ht] at HDC0
    rw [frR_eq _ _ _ ht] at HQ
    have HTT := Lib.hid ht
    have HDC := HDC0
    clear ht HDC0
    go_wp2_with fail
    by_cases hv : V.no = 0
    · have hq := HQ.out
      rw [if_pos hv] at hq
      have HQ2 := Lib.hid hq
      have HMD2 := Lib.hid (show frR V 240 e00 = ⟨e00, 240, t⟩ by unfold frR; rw [if_pos hv, if_pos (show e00.no = 0 from rfl), ← HTT.out])
      rw [HMD2.out] at HMD
      have HMD := Lib.hid (frf_ok HMD.out)
      clear hq HQ HMD2 hv HTT
      refine HMD.out.mono ?_
      rintro x V1 ⟨rfl, hb⟩
      have HB := Lib.hid (HO.out.below hb)
      clear HO hb HMD
      have HO := HB
      clear HB
      go_upto_region 14 with (first | (refine wpo_alloc tyF HO.out rfl rfl ?_; clear HO; rintro kfB WfB hO; have HO := Lib.hid hO; clear hO; simp only [Act.put, List.setIfInBounds_toArray, List.set_cons_zero, List.set_cons_succ]) | (refine wpo_alloc tyX HO.out rfl rfl ?_; clear HO; rintro kgB WgB hO; have HO := Lib.hid hO; clear hO; simp only [Act.put, List.setIfInBounds_toArray, List.set_cons_zero, List.set_cons_succ]) | (refine wpo_store (k := kfB) HO.out 1 tyF rfl _ _ rfl rfl rfl rfl rfl rfl rfl ?_; clear HO; rintro WhB hO; have HO := Lib.hid hO; clear hO; simp only [Act.put]) | (refine wpo_store (k := kgB) HO.out 0 tyX rfl _ _ rfl rfl rfl rfl rfl rfl rfl ?_; clear HO; rintro WiB hO; have HO := Lib.hid hO; clear hO; simp only [Act.put]) | (refine wpo_ldc (HO.out.get 0 rfl) tyE _ rfl rfl rfl rfl ?_))
      have HDD := Lib.hid (HDC.out WiB)
      clear HDC
      obtain ⟨en, er, ea⟩ := e
      simp only at HQ2 HDD
      go_wp2_with (refine wpo_load HO.out 1 tyF rfl rfl _ rfl rfl rfl ?_)
      refine HDD.out.mono ?_
      rintro x V2 ⟨c2, hc2, ho2, rfl, hb⟩
      have HC2 := Lib.hid (hc2.trans HZS.out.symm)
      have HC21 := Lib.hid ho2
      clear hc2 ho2
      have HB := Lib.hid (HO.out.below hb)
      clear HO hb HDD
      have HO := HB
      clear HB
      by_cases he : en = 0
      · have hq := HQ2.out
        rw [if_pos he] at hq
        have HQ3 := Lib.hid hq
        subst he
        clear hq HQ2
        go_wp2_with (first | (refine wpo_alloc HT.out HO.out rfl rfl ?_; clear HO; rintro kpC WpC hO; have HO := Lib.hid hO; clear hO; simp only [Act.put, List.setIfInBounds_toArray, List.set_cons_zero, List.set_cons_succ]) | (refine wpo_alloc tyX HO.out rfl rfl ?_; clear HO; rintro kxC WxC hO; have HO := Lib.hid hO; clear hO; simp only [Act.put, List.setIfInBounds_toArray, List.set_cons_zero, List.set_cons_succ]) | (refine wpo_store (k := kpC) HO.out 1 HT.out rfl _ _ rfl rfl rfl rfl rfl HC2.out HC21.out ?_; clear HO; rintro WyC hO; have HO := Lib.hid hO; clear hO; simp only [Act.put]) | (refine wpo_store (k := kxC) HO.out 0 tyX rfl _ _ rfl rfl rfl rfl rfl rfl rfl ?_; clear HO; rintro WzC hO; have HO := Lib.hid hO; clear hO; simp only [Act.put]) | (refine wpo_ldc (HO.out.get 0 rfl) tyE _ rfl rfl rfl rfl ?_) | (refine wpo_load HO.out 3 tyF rfl rfl _ rfl rfl rfl ?_) | (refine wpo_store (k := k2) HO.out 7 tyF rfl _ _ rfl rfl rfl rfl rfl rfl rfl ?_; clear HO; rintro WmC hO; have HO := Lib.hid hO; clear hO; simp only [Act.put]) | (refine wpo_store (k := k3) HO.out 6 tyX rfl _ _ rfl rfl rfl rfl rfl rfl rfl ?_; clear HO; rintro WnC hO; have HO := Lib.hid hO; clear hO; simp only [Act.put]))
        exact bodyPost_ret (v := .tuple #[.agg #[.int .i64 240, .string t], fltV (0, 0, 0)]) (res_own2 7 6 HO.out tyF tyX rfl rfl rfl rfl rfl rfl rfl) rfl ⟨by rw [HQ3.out] <;> rfl, HO.out.bel⟩
      · have hq := HQ2.out
        rw [if_neg he] at hq
        have HQ3 := Lib.hid hq
        have hei : ¬ (en : Int) = 0 := by omega
        clear hq HQ2 he
        go_upto_region 16 with (first | (refine wpo_alloc HT.out HO.out rfl rfl ?_; clear HO; rintro kpD WpD hO; have HO := Lib.hid hO; clear hO; simp only [Act.put, List.setIfInBounds_toArray, List.set_cons_zero, List.set_cons_succ]) | (refine wpo_alloc tyX HO.out rfl rfl ?_; clear HO; rintro kxD WxD hO; have HO := Lib.hid hO; clear hO; simp only [Act.put, List.setIfInBounds_toArray, List.set_cons_zero, List.set_cons_succ]) | (refine wpo_store (k := kpD) HO.out 1 HT.out rfl _ _ rfl rfl rfl rfl rfl HC2.out HC21.out ?_; clear HO; rintro WyD hO; have HO := Lib.hid hO; clear hO; simp only [Act.put]) | (refine wpo_store (k := kxD) HO.out 0 tyX rfl _ _ rfl rfl rfl rfl rfl rfl rfl ?_; clear HO; rintro WzD hO; have HO := Lib.hid hO; clear hO; simp only [Act.put]) | (refine wpo_ldc (HO.out.get 0 rfl) tyE _ rfl rfl rfl rfl ?_))
        refine wpo_y2 (yA := (k2, 33, #[.int .i64 0, .string ⟨#[]⟩])) (yB := (k3, 40, #[.int .i64 (en : Int), .int .i64 er, .int .i64 (ea : Int)])) [(85, .agg #[.int .i64 0, .string ⟨#[]⟩]), (86, .agg #[.int .i64 (en : Int), .int .i64 er, .int .i64 (ea : Int)])] 7 6 mixed (by kernel_rfl) HO.out rfl rfl (by decide) (fun _ _ _ _ _ h => h) ?_ rfl rfl ?_ ?_ ?_
        · refine ⟨⟨_, rfl, rfl, yo_zero rfl tyF rfl⟩, ?_⟩
          simp only [Act.put, List.setIfInBounds_toArray, List.set_cons_zero, List.set_cons_succ]
          refine ⟨⟨_, rfl, rfl, yo_load rfl tyX (fun _ h => h.get 0 (by decide) (by decide) rfl) rfl _ rfl rfl⟩, ?_⟩
          exact trivial
        · simp only [putD, Act.put, List.setIfInBounds_toArray, List.set_cons_zero, List.set_cons_succ]
          exact sto_row tyF _ _ rfl rfl rfl rfl rfl rfl rfl rfl
        · simp only [putD, Act.put, List.setIfInBounds_toArray, List.set_cons_zero, List.set_cons_succ]
          exact sto_row tyX _ _ rfl rfl rfl rfl rfl rfl rfl rfl
        intro WjD hO
        clear HO
        have HO := Lib.hid hO
        clear hO
        simp only [putD, Act.put, List.setIfInBounds_toArray, List.set_cons_zero, List.set_cons_succ]
        go_wp2_with fail
        exact bodyPost_ret (v := .tuple #[.agg #[.int .i64 0, .string ⟨#[]⟩], fltV (en, er, ea)]) (res_own2 7 6 HO.out tyF tyX rfl rfl rfl rfl rfl rfl rfl) rfl ⟨by rw [HQ3.out] <;> rfl, HO.out.bel⟩
    · have hq := HQ.out
      rw [if_neg hv] at hq
      have HQ2 := Lib.hid hq
      have hvi : ¬ (V.no : Int) = 0 := by omega
      have HMD2 := Lib.hid (show frR V 240 e00 = ⟨⟨V.no, 129, V.at_⟩, 0, ⟨#[]⟩⟩ by unfold frR; rw [if_neg hv])
      rw [HMD2.out] at HMD
      have HMD := Lib.hid (frf_bad HMD.out)
      clear hq HQ HMD2 hv
      refine HMD.out.mono ?_
      rintro x V1 ⟨rfl, hb⟩
      have HB := Lib.hid (HO.out.below hb)
      clear HO hb HMD
      have HO := HB
      clear HB
      go_upto_region 13 with (first | (refine wpo_alloc tyF HO.out rfl rfl ?_; clear HO; rintro kfA WfA hO; have HO := Lib.hid hO; clear hO; simp only [Act.put, List.setIfInBounds_toArray, List.set_cons_zero, List.set_cons_succ]) | (refine wpo_alloc tyX HO.out rfl rfl ?_; clear HO; rintro kgA WgA hO; have HO := Lib.hid hO; clear hO; simp only [Act.put, List.setIfInBounds_toArray, List.set_cons_zero, List.set_cons_succ]) | (refine wpo_store (k := kfA) HO.out 1 tyF rfl _ _ rfl rfl rfl rfl rfl rfl rfl ?_; clear HO; rintro WhA hO; have HO := Lib.hid hO; clear hO; simp only [Act.put]) | (refine wpo_store (k := kgA) HO.out 0 tyX rfl _ _ rfl rfl rfl rfl rfl rfl rfl ?_; clear HO; rintro WiA hO; have HO := Lib.hid hO; clear hO; simp only [Act.put]) | (refine wpo_ldc (HO.out.get 0 rfl) tyE _ rfl rfl rfl rfl ?_))
      refine wpo_y2 (yA := (k2, 33, #[.int .i64 0, .string ⟨#[]⟩])) (yB := (k3, 40, #[.int .i64 (V.no : Int), .int .i64 129, .int .i64 (V.at_ : Int)])) [(75, .agg #[.int .i64 0, .string ⟨#[]⟩]), (76, .agg #[.int .i64 (V.no : Int), .int .i64 129, .int .i64 (V.at_ : Int)])] 5 4 mixed (by kernel_rfl) HO.out rfl rfl (by decide) (fun _ _ _ _ _ h => h) ?_ rfl rfl ?_ ?_ ?_
      · refine ⟨⟨_, rfl, rfl, yo_load rfl tyF (fun _ h => h.get 1 (by decide) (by decide) rfl) rfl _ rfl rfl⟩, ?_⟩
        simp only [Act.put, List.setIfInBounds_toArray, List.set_cons_zero, List.set_cons_succ]
        refine ⟨⟨_, rfl, rfl, yo_load rfl tyX (fun _ h => h.get 0 (by decide) (by decide) rfl) rfl _ rfl rfl⟩, ?_⟩
        exact trivial
      · simp only [putD, Act.put, List.setIfInBounds_toArray, List.set_cons_zero, List.set_cons_succ]
        exact sto_row tyF _ _ rfl rfl rfl rfl rfl rfl rfl rfl
      · simp only [putD, Act.put, List.setIfInBounds_toArray, List.set_cons_zero, List.set_cons_succ]
        exact sto_row tyX _ _ rfl rfl rfl rfl rfl rfl rfl rfl
      intro WjA hO
      clear HO
      have HO := Lib.hid hO
      clear hO
      simp only [putD, Act.put, List.setIfInBounds_toArray, List.set_cons_zero, List.set_cons_succ]
      go_wp2_with fail
      exact bodyPost_ret (v := .tuple #[.agg #[.int .i64 0, .string ⟨#[]⟩], fltV (V.no, 129, V.at_)]) (res_own2 5 4 HO.out tyF tyX rfl rfl rfl rfl rfl rfl rfl) rfl ⟨by rw [HQ2.out] <;> rfl, HO.out.bel⟩
  · have hq := HQ.out
    have hPB := HPU.out.trans (if_neg (by rw [← HNO.out]; exact hn0))
    rw [hPB, if_neg (show ¬ E.no = 0 by rw [← HNO.out]; exact hn0)] at hq
    clear hPB
    obtain ⟨e1, e2⟩ := HRA.out (by rw [← HNO.out]; exact hn0)
    subst e1 e2
    have HQ2 := Lib.hid (show q = ⟨⟨no, E.r, E.at_⟩, 0, ⟨#[]⟩⟩ by rw [hq, HNO.out])
    have hni : ¬ (no : Int) = 0 := by omega
    clear hq HQ HPU HRA HNO hn0
    go_upto_region 9 with (refine wpo_ldc (HO.out.get 0 rfl) tyE _ rfl rfl rfl rfl ?_)
    refine wpo_y2 (yA := (k2, 33, #[.int .i64 0, .string ⟨#[]⟩])) (yB := (k3, 40, #[.int .i64 (no : Int), .int .i64 E.r, .int .i64 (E.at_ : Int)])) [(58, .agg #[.int .i64 0, .string ⟨#[]⟩]), (59, .agg #[.int .i64 (no : Int), .int .i64 E.r, .int .i64 (E.at_ : Int)])] 3 2 mixed (by kernel_rfl) HO.out rfl rfl (by decide) (fun _ _ _ _ _ h => h) ?_ rfl rfl ?_ ?_ ?_
    · refine ⟨⟨_, rfl, rfl, yo_zero rfl tyF rfl⟩, ?_⟩
      simp only [Act.put, List.setIfInBounds_toArray, List.set_cons_zero, List.set_cons_succ]
      refine ⟨⟨_, rfl, rfl, yo_load rfl tyX (fun _ h => h.get 0 (by decide) (by decide) rfl) rfl _ rfl rfl⟩, ?_⟩
      exact trivial
    · simp only [putD, Act.put, List.setIfInBounds_toArray, List.set_cons_zero, List.set_cons_succ]
      exact sto_row tyF _ _ rfl rfl rfl rfl rfl rfl rfl rfl
    · simp only [putD, Act.put, List.setIfInBounds_toArray, List.set_cons_zero, List.set_cons_succ]
      exact sto_row tyX _ _ rfl rfl rfl rfl rfl rfl rfl rfl
    intro WjB hO
    clear HO
    have HO := Lib.hid hO
    clear hO
    simp only [putD, Act.put, List.setIfInBounds_toArray, List.set_cons_zero, List.set_cons_succ]
    go_wp2_with fail
    exact bodyPost_ret (v := .tuple #[.agg #[.int .i64 0, .string ⟨#[]⟩], fltV (no, E.r, E.at_)]) (res_own2 3 2 HO.out tyF tyX rfl rfl rfl rfl rfl rfl rfl) rfl ⟨by rw [HQ2.out] <;> rfl, HO.out.bel⟩
end Go.Proofs.YtinhecggmakbnaaGreatDoor
namespace Go.Proofs.YtinhecggmakbnaaGreatDoor
set_option maxRecDepth 100000
open Go.RowKit Go.Extern.Stop Go.Stop Go.Extern
set_option maxHeartbeats 8000000 in
theorem renc14_14D {w : World} {A : PkA} {p : Pk} (h : PkIn w w.heap.size A p) (hS : SmallP p.props) (hk : p.kind = 14) (hp : ¬ p.props = []) (hr : ¬ p.reason = 0) : Calls Tryz.prog 33 #[p.agg A] w (FrF w (enM p)) := by
  obtain ⟨z, hT, hz26, hz⟩ := tyP_ex
  obtain ⟨q, hq⟩ : ∃ q, q = enM p := ⟨_, rfl⟩
  rw [← hq]
  obtain ⟨c, hc⟩ : ∃ c, c = p.cells A := ⟨_, rfl⟩
  rw [show p.agg A = .agg c from by rw [hc]; rfl]
  have HG0 := Lib.hid (show c[0]? = some (.int .i64 14) by rw [hc, ← hk]; rfl)
  have HG2 := Lib.hid (show c[2]? = some (.int .i64 p.reason) by rw [hc]; rfl)
  have HG3 := Lib.hid (show c[3]? = some (.slice A.pa p.props.length A.pc) by rw [hc]; rfl)
  have HT := Lib.hid hT
  have HZS := Lib.hid hz26
  have HPR := Lib.hid h.pr
  have HPC := Lib.hid h.pc
  have HSM := Lib.hid hS
  unfold enM at hq
  rw [hk] at hq
  have HQ0 := Lib.hid hq
  have HO := Lib.hid (Own.start [] w)
  clear hT hz26 hz hc h hS hk hq
  have HQ := HQ0
  rw [show fM 14 = 224 from rfl, if_neg (by decide), if_neg (by decide)] at HQ
  clear HQ0
  have hb : (p.reason != 0) = true := by rw [bne_iff_ne]; exact hr
  have HPU := Lib.hid (show putR w0 14 p.reason p.props = if (encR 14 p.props).no = 0 then (e00, stepW (stepW w0 (numE 1 p.reason)) ⟨0, 0, (encR 14 p.props).L⟩) else (⟨(encR 14 p.props).no, (encR 14 p.props).r, (encR 14 p.props).at_⟩, w0) by unfold putR; rw [if_neg hp])
  have hlp : 0 < p.props.length := List.length_pos_iff.2 hp
  have hlq : (0 : Int) < (p.props.length : Int) := by omega
  have hpl := putR_len (W := w0) (k := 14) (r := p.reason) HSM.out
  have HPL := Lib.hid hpl
  clear hpl hp
  clear hr
  go_enter Tryz.func33, Tryz.ntmps33
  go_wp2_with (first | (refine wpo_box (t := 29) HO.out _ rfl rfl rfl ?_; clear HO; rintro k1 W1 hO; have HO := Lib.hid hO; clear hO; simp only [Act.put, List.setIfInBounds_toArray, List.set_cons_zero, List.set_cons_succ]) | (refine wpo_alloc tyF HO.out rfl rfl ?_; clear HO; rintro k2 W2 hO; have HO := Lib.hid hO; clear hO; simp only [Act.put, List.setIfInBounds_toArray, List.set_cons_zero, List.set_cons_succ]) | (refine wpo_alloc tyX HO.out rfl rfl ?_; clear HO; rintro k3 W3 hO; have HO := Lib.hid hO; clear hO; simp only [Act.put, List.setIfInBounds_toArray, List.set_cons_zero, List.set_cons_succ]) | (refine wpo_ldc (HO.out.get 2 rfl) tyI _ rfl rfl rfl HG0.out ?_))
  refine (rg14_14 _).mono ?_
  rintro x _ ⟨rfl, rfl⟩
  go_upto_region 4 with (first | (refine wpo_zero tyW rfl rfl ?_) | (refine wpo_box (t := 75) HO.out _ rfl rfl rfl ?_; clear HO; rintro k4 W4 hO; have HO := Lib.hid hO; clear hO; simp only [Act.put, List.setIfInBounds_toArray, List.set_cons_zero, List.set_cons_succ]))
  have f0 : W4.cell? ⟨k1, 0, none⟩ = some (.int .i64 14) := ((HO.out.get 3 rfl).cell 0).trans HG0.out
  have f2 : W4.cell? ⟨k1, 2, none⟩ = some (.int .i64 p.reason) := ((HO.out.get 3 rfl).cell 2).trans HG2.out
  have f3 : W4.cell? ⟨k1, 3, none⟩ = some (.slice A.pa p.props.length A.pc) := ((HO.out.get 3 rfl).cell 3).trans HG3.out
  go_upto_region 5 with fail
  clear f0 f2 f3 hb
  have HDO := Lib.hid (rwdo_num1 (w0_obj HO.out 0 rfl) (Nat.zero_le _) (p.reason))
  go_wp2_with (refine wpo_ldc (HO.out.get 3 rfl) tyI _ rfl rfl rfl HG2.out ?_)
  refine HDO.out.mono ?_
  rintro x V5 ⟨rfl, hn⟩
  obtain ⟨l5, a5, hO, e1, e2⟩ := HO.out.wstep 0 rfl hn
  clear HO hn
  have HO := Lib.hid hO
  have HE1 := Lib.hid e1
  have HE2 := Lib.hid e2
  clear hO e1 e2
  clear HDO
  have f0 : V5.cell? ⟨k1, 0, none⟩ = some (.int .i64 14) := ((HO.out.get 3 rfl).cell 0).trans HG0.out
  have f3 : V5.cell? ⟨k1, 3, none⟩ = some (.slice A.pa p.props.length A.pc) := ((HO.out.get 3 rfl).cell 3).trans HG3.out
  go_upto_region 7 with fail
  clear f0 f3
  have HEN := Lib.hid (rencode_any 14 p.props.length A.pc rfl ((HPR.out.below HO.out.bel).mono HO.out.size) HSM.out HPC.out)
  obtain ⟨E, hE⟩ : ∃ E, E = encR 14 p.props := ⟨_, rfl⟩
  have hEl : E.L.length ≤ 63844 := by rw [hE]; exact encR_len HSM.out
  have HEL := Lib.hid hEl
  rw [← hE] at HEN HPU
  clear hE hEl
  go_wp2_with (first | (refine wpo_ldc (HO.out.get 3 rfl) tyI _ rfl rfl rfl HG0.out ?_) | (refine wpo_ldc (HO.out.get 3 rfl) tyL _ rfl rfl rfl HG3.out ?_))
  refine HEN.out.mono ?_
  rintro x V6 ⟨no, er, ea, rfl, hno, hra, hb⟩
  have HB := Lib.hid (HO.out.below hb)
  clear HO hb HEN
  have HO := HB
  clear HB
  have HNO := Lib.hid hno
  have HRA := Lib.hid hra
  clear hno hra
  go_upto_region 8 with (first | (refine wpo_alloc tyX HO.out rfl rfl ?_; clear HO; rintro k6 W7 hO; have HO := Lib.hid hO; clear hO; simp only [Act.put, List.setIfInBounds_toArray, List.set_cons_zero, List.set_cons_succ]) | (refine wpo_store (k := k6) HO.out 0 tyX rfl _ _ rfl rfl rfl rfl rfl rfl rfl ?_; clear HO; rintro W8 hO; have HO := Lib.hid hO; clear hO; simp only [Act.put]))
  by_cases hn0 : no = 0
  · have HVV := Lib.hid (show putR w0 14 p.reason p.props = (e00, stepW (stepW w0 (numE 1 p.reason)) ⟨0, 0, E.L⟩) by rw [HPU.out, if_pos (by rw [← HNO.out]; exact hn0)])
    rw [HVV.out, if_pos (show (e00, stepW (stepW w0 (numE 1 p.reason)) ⟨0, 0, E.L⟩).1.no = 0 from rfl)] at HQ
    rw [HVV.out] at HPL
    subst hn0
    clear HVV HPU HRA HNO
    have HD8 := Lib.hid (rwdo_raw (HO.out.wr 1 rfl HE1.out HE2.out) (by have := stepW_num_len w0 (p.reason); have h0 : w0.L.length = 0 := rfl; omega) E.L (by have := HEL.out; omega))
    clear HE1 HE2
    go_wp2_with (refine wpo_ldc (HO.out.get 0 rfl) tyE _ rfl rfl rfl rfl ?_)
    refine HD8.out.mono ?_
    rintro x V9 ⟨rfl, hn⟩
    obtain ⟨l9, a9, hO, e1, e2⟩ := HO.out.wstep 1 rfl hn
    clear HO hn
    have HO := Lib.hid hO
    have HE1 := Lib.hid e1
    have HE2 := Lib.hid e2
    clear hO e1 e2
    clear HD8
    go_upto_region 11 with fail
    go_wp2_with (refine wpo_ldc (HO.out.get 4 rfl) tyI _ rfl rfl rfl HG0.out ?_)
    refine (rg14_14 _).mono ?_
    rintro x _ ⟨rfl, rfl⟩
    have HMD := Lib.hid (rmade_any (HO.out.wr 1 rfl HE1.out HE2.out) 224)
    have HDC0 := Lib.hid (fun W => rdec14_224 (w := W) (s := ⟨((stepW (stepW w0 (numE 1 (p.reason))) ⟨0, 0, E.L⟩)).L.toArray⟩) (by rw [bsize]; have h1 : (stepW (stepW w0 (numE 1 (p.reason))) ⟨0, 0, E.L⟩).L.length ≤ _ := HPL.out; have h0 : w0.L.length = 0 := rfl; omega))
    obtain ⟨V, hV⟩ : ∃ V, V = (stepW (stepW w0 (numE 1 (p.reason))) ⟨0, 0, E.L⟩) := ⟨_, rfl⟩
    rw [← hV] at HMD HDC0 HQ
    clear hV
    obtain ⟨e, he⟩ : ∃ e, e = (dcM 224 ⟨V.L.toArray⟩).1 := ⟨_, rfl⟩
    rw [← he] at HDC0 HQ
    clear he
    obtain ⟨t, ht⟩ : ∃ t : ByteArray, t = ⟨V.L.toArray⟩ := ⟨_, rfl⟩
    rw [← ht] at HDC0
    rw [frR_eq _ _ _ ht] at HQ
    have HTT := Lib.hid ht
    have HDC := HDC0
    clear ht HDC0
    go_wp2_with fail
    by_cases hv : V.no = 0
    · have hq := HQ.out
      rw [if_pos hv] at hq
      have HQ2 := Lib.hid hq
      have HMD2 := Lib.hid (show frR V 224 e00 = ⟨e00, 224, t⟩ by unfold frR; rw [if_pos hv, if_pos (show e00.no = 0 from rfl), ← HTT.out])
      rw [HMD2.out] at HMD
      have HMD := Lib.hid (frf_ok HMD.out)
      clear hq HQ HMD2 hv HTT
      refine HMD.out.mono ?_
      rintro x V1 ⟨rfl, hb⟩
      have HB := Lib.hid (HO.out.below hb)
      clear HO hb HMD
      have HO := HB
      clear HB
      go_upto_region 14 with (first | (refine wpo_alloc tyF HO.out rfl rfl ?_; clear HO; rintro kfB WfB hO; have HO := Lib.hid hO; clear hO; simp only [Act.put, List.setIfInBounds_toArray, List.set_cons_zero, List.set_cons_succ]) | (refine wpo_alloc tyX HO.out rfl rfl ?_; clear HO; rintro kgB WgB hO; have HO := Lib.hid hO; clear hO; simp only [Act.put, List.setIfInBounds_toArray, List.set_cons_zero, List.set_cons_succ]) | (refine wpo_store (k := kfB) HO.out 1 tyF rfl _ _ rfl rfl rfl rfl rfl rfl rfl ?_; clear HO; rintro WhB hO; have HO := Lib.hid hO; clear hO; simp only [Act.put]) | (refine wpo_store (k := kgB) HO.out 0 tyX rfl _ _ rfl rfl rfl rfl rfl rfl rfl ?_; clear HO; rintro WiB hO; have HO := Lib.hid hO; clear hO; simp only [Act.put]) | (refine wpo_ldc (HO.out.get 0 rfl) tyE _ rfl rfl rfl rfl ?_))
      have HDD := Lib.hid (HDC.out WiB)
      clear HDC
      obtain ⟨en, er, ea⟩ := e
      simp only at HQ2 HDD
      go_wp2_with (refine wpo_load HO.out 1 tyF rfl rfl _ rfl rfl rfl ?_)
      refine HDD.out.mono ?_
      rintro x V2 ⟨c2, hc2, ho2, rfl, hb⟩
      have HC2 := Lib.hid (hc2.trans HZS.out.symm)
      have HC21 := Lib.hid ho2
      clear hc2 ho2
      have HB := Lib.hid (HO.out.below hb)
      clear HO hb HDD
      have HO := HB
      clear HB
      by_cases he : en = 0
      · have hq := HQ2.out
        rw [if_pos he] at hq
        have HQ3 := Lib.hid hq
        subst he
        clear hq HQ2
        go_wp2_with (first | (refine wpo_alloc HT.out HO.out rfl rfl ?_; clear HO; rintro kpC WpC hO; have HO := Lib.hid hO; clear hO; simp only [Act.put, List.setIfInBounds_toArray, List.set_cons_zero, List.set_cons_succ]) | (refine wpo_alloc tyX HO.out rfl rfl ?_; clear HO; rintro kxC WxC hO; have HO := Lib.hid hO; clear hO; simp only [Act.put, List.setIfInBounds_toArray, List.set_cons_zero, List.set_cons_succ]) | (refine wpo_store (k := kpC) HO.out 1 HT.out rfl _ _ rfl rfl rfl rfl rfl HC2.out HC21.out ?_; clear HO; rintro WyC hO; have HO := Lib.hid hO; clear hO; simp only [Act.put]) | (refine wpo_store (k := kxC) HO.out 0 tyX rfl _ _ rfl rfl rfl rfl rfl rfl rfl ?_; clear HO; rintro WzC hO; have HO := Lib.hid hO; clear hO; simp only [Act.put]) | (refine wpo_ldc (HO.out.get 0 rfl) tyE _ rfl rfl rfl rfl ?_) | (refine wpo_load HO.out 3 tyF rfl rfl _ rfl rfl rfl ?_) | (refine wpo_store (k := k2) HO.out 7 tyF rfl _ _ rfl rfl rfl rfl rfl rfl rfl ?_; clear HO; rintro WmC hO; have HO := Lib.hid hO; clear hO; simp only [Act.put]) | (refine wpo_store (k := k3) HO.out 6 tyX rfl _ _ rfl rfl rfl rfl rfl rfl rfl ?_; clear HO; rintro WnC hO; have HO := Lib.hid hO; clear hO; simp only [Act.put]))
        exact bodyPost_ret (v := .tuple #[.agg #[.int .i64 224, .string t], fltV (0, 0, 0)]) (res_own2 7 6 HO.out tyF tyX rfl rfl rfl rfl rfl rfl rfl) rfl ⟨by rw [HQ3.out] <;> rfl, HO.out.bel⟩
      · have hq := HQ2.out
        rw [if_neg he] at hq
        have HQ3 := Lib.hid hq
        have hei : ¬ (en : Int) = 0 := by omega
        clear hq HQ2 he
        go_upto_region 16 with (first | (refine wpo_alloc HT.out HO.out rfl rfl ?_; clear HO; rintro kpD WpD hO; have HO := Lib.hid hO; clear hO; simp only [Act.put, List.setIfInBounds_toArray, List.set_cons_zero, List.set_cons_succ]) | (refine wpo_alloc tyX HO.out rfl rfl ?_; clear HO; rintro kxD WxD hO; have HO := Lib.hid hO; clear hO; simp only [Act.put, List.setIfInBounds_toArray, List.set_cons_zero, List.set_cons_succ]) | (refine wpo_store (k := kpD) HO.out 1 HT.out rfl _ _ rfl rfl rfl rfl rfl HC2.out HC21.out ?_; clear HO; rintro WyD hO; have HO := Lib.hid hO; clear hO; simp only [Act.put]) | (refine wpo_store (k := kxD) HO.out 0 tyX rfl _ _ rfl rfl rfl rfl rfl rfl rfl ?_; clear HO; rintro WzD hO; have HO := Lib.hid hO; clear hO; simp only [Act.put]) | (refine wpo_ldc (HO.out.get 0 rfl) tyE _ rfl rfl rfl rfl ?_))
        refine wpo_y2 (yA := (k2, 33, #[.int .i64 0, .string ⟨#[]⟩])) (yB := (k3, 40, #[.int .i64 (en : Int), .int .i64 er, .int .i64 (ea : Int)])) [(85, .agg #[.int .i64 0, .string ⟨#[]⟩]), (86, .agg #[.int .i64 (en : Int), .int .i64 er, .int .i64 (ea : Int)])] 7 6 mixed (by kernel_rfl) HO.out rfl rfl (by decide) (fun _ _ _ _ _ h => h) ?_ rfl rfl ?_ ?_ ?_
        · refine ⟨⟨_, rfl, rfl, yo_zero rfl tyF rfl⟩, ?_⟩
          simp only [Act.put, List.setIfInBounds_toArray, List.set_cons_zero, List.set_cons_succ]
          refine ⟨⟨_, rfl, rfl, yo_load rfl tyX (fun _ h => h.get 0 (by decide) (by decide) rfl) rfl _ rfl rfl⟩, ?_⟩
          exact trivial
        · simp only [putD, Act.put, List.setIfInBounds_toArray, List.set_cons_zero, List.set_cons_succ]
          exact sto_row tyF _ _ rfl rfl rfl rfl rfl rfl rfl rfl
        · simp only [putD, Act.put, List.setIfInBounds_toArray, List.set_cons_zero, List.set_cons_succ]
          exact sto_row tyX _ _ rfl rfl rfl rfl rfl rfl rfl rfl
        intro WjD hO
        clear HO
        have HO := Lib.hid hO
        clear hO
        simp only [putD, Act.put, List.setIfInBounds_toArray, List.set_cons_zero, List.set_cons_succ]
        go_wp2_with fail
        exact bodyPost_ret (v := .tuple #[.agg #[.int .i64 0, .string ⟨#[]⟩], fltV (en, er, ea)]) (res_own2 7 6 HO.out tyF tyX rfl rfl rfl rfl rfl rfl rfl) rfl ⟨by rw [HQ3.out] <;> rfl, HO.out.bel⟩
    · have hq := HQ.out
      rw [if_neg hv] at hq
      have HQ2 := Lib.hid hq
      have hvi : ¬ (V.no : Int) = 0 := by omega
      have HMD2 := Lib.hid (show frR V 224 e00 = ⟨⟨V.no, 129, V.at_⟩, 0, ⟨#[]⟩⟩ by unfold frR; rw [if_neg hv])
      rw [HMD2.out] at HMD
      have HMD := Lib.hid (frf_bad HMD.out)
      clear hq HQ HMD2 hv
      refine HMD.out.mono ?_
      rintro x V1 ⟨rfl, hb⟩
      have HB := Lib.hid (HO.out.below hb)
      clear HO hb HMD
      have HO := HB
      clear HB
      go_upto_region 13 with (first | (refine wpo_alloc tyF HO.out rfl rfl ?_; clear HO; rintro kfA WfA hO; have HO := Lib.hid hO; clear hO; simp only [Act.put, List.setIfInBounds_toArray, List.set_cons_zero, List.set_cons_succ]) | (refine wpo_alloc tyX HO.out rfl rfl ?_; clear HO; rintro kgA WgA hO; have HO := Lib.hid hO; clear hO; simp only [Act.put, List.setIfInBounds_toArray, List.set_cons_zero, List.set_cons_succ]) | (refine wpo_store (k := kfA) HO.out 1 tyF rfl _ _ rfl rfl rfl rfl rfl rfl rfl ?_; clear HO; rintro WhA hO; have HO := Lib.hid hO; clear hO; simp only [Act.put]) | (refine wpo_store (k := kgA) HO.out 0 tyX rfl _ _ rfl rfl rfl rfl rfl rfl rfl ?_; clear HO; rintro WiA hO; have HO := Lib.hid hO; clear hO; simp only [Act.put]) | (refine wpo_ldc (HO.out.get 0 rfl) tyE _ rfl rfl rfl rfl ?_))
      refine wpo_y2 (yA := (k2, 33, #[.int .i64 0, .string ⟨#[]⟩])) (yB := (k3, 40, #[.int .i64 (V.no : Int), .int .i64 129, .int .i64 (V.at_ : Int)])) [(75, .agg #[.int .i64 0, .string ⟨#[]⟩]), (76, .agg #[.int .i64 (V.no : Int), .int .i64 129, .int .i64 (V.at_ : Int)])] 5 4 mixed (by kernel_rfl) HO.out rfl rfl (by decide) (fun _ _ _ _ _ h => h) ?_ rfl rfl ?_ ?_ ?_
      · refine ⟨⟨_, rfl, rfl, yo_load rfl tyF (fun _ h => h.get 1 (by decide) (by decide) rfl) rfl _ rfl rfl⟩, ?_⟩
        simp only [Act.put, List.setIfInBounds_toArray, List.set_cons_zero, List.set_cons_succ]
        refine ⟨⟨_, rfl, rfl, yo_load rfl tyX (fun _ h => h.get 0 (by decide) (by decide) rfl) rfl _ rfl rfl⟩, ?_⟩
        exact trivial
      · simp only [putD, Act.put, List.setIfInBounds_toArray, List.set_cons_zero, List.set_cons_succ]
        exact sto_row tyF _ _ rfl rfl rfl rfl rfl rfl rfl rfl
      · simp only [putD, Act.put, List.setIfInBounds_toArray, List.set_cons_zero, List.set_cons_succ]
        exact sto_row tyX _ _ rfl rfl rfl rfl rfl rfl rfl rfl
      intro WjA hO
      clear HO
      have HO := Lib.hid hO
      clear hO
      simp only [putD, Act.put, List.setIfInBounds_toArray, List.set_cons_zero, List.set_cons_succ]
      go_wp2_with fail
      exact bodyPost_ret (v := .tuple #[.agg #[.int .i64 0, .string ⟨#[]⟩], fltV (V.no, 129, V.at_)]) (res_own2 5 4 HO.out tyF tyX rfl rfl rfl rfl rfl rfl rfl) rfl ⟨by rw [HQ2.out] <;> rfl, HO.out.bel⟩
  · have hq := HQ.out
    have hPB := HPU.out.trans (if_neg (by rw [← HNO.out]; exact hn0))
    rw [hPB, if_neg (show ¬ E.no = 0 by rw [← HNO.out]; exact hn0)] at hq
    clear hPB
    obtain ⟨e1, e2⟩ := HRA.out (by rw [← HNO.out]; exact hn0)
    subst e1 e2
    have HQ2 := Lib.hid (show q = ⟨⟨no, E.r, E.at_⟩, 0, ⟨#[]⟩⟩ by rw [hq, HNO.out])
    have hni : ¬ (no : Int) = 0 := by omega
    clear hq HQ HPU HRA HNO hn0
    go_upto_region 9 with (refine wpo_ldc (HO.out.get 0 rfl) tyE _ rfl rfl rfl rfl ?_)
    refine wpo_y2 (yA := (k2, 33, #[.int .i64 0, .string ⟨#[]⟩])) (yB := (k3, 40, #[.int .i64 (no : Int), .int .i64 E.r, .int .i64 (E.at_ : Int)])) [(58, .agg #[.int .i64 0, .string ⟨#[]⟩]), (59, .agg #[.int .i64 (no : Int), .int .i64 E.r, .int .i64 (E.at_ : Int)])] 3 2 mixed (by kernel_rfl) HO.out rfl rfl (by decide) (fun _ _ _ _ _ h => h) ?_ rfl rfl ?_ ?_ ?_
    · refine ⟨⟨_, rfl, rfl, yo_zero rfl tyF rfl⟩, ?_⟩
      simp only [Act.put, List.setIfInBounds_toArray, List.set_cons_zero, List.set_cons_succ]
      refine ⟨⟨_, rfl, rfl, yo_load rfl tyX (fun _ h => h.get 0 (by decide) (by decide) rfl) rfl _ rfl rfl⟩, ?_⟩
      exact trivial
    · simp only [putD, Act.put, List.setIfInBounds_toArray, List.set_cons_zero, List.set_cons_succ]
      exact sto_row tyF _ _ rfl rfl rfl rfl rfl rfl rfl rfl
    · simp only [putD, Act.put, List.setIfInBounds_toArray, List.set_cons_zero, List.set_cons_succ]
      exact sto_row tyX _ _ rfl rfl rfl rfl rfl rfl rfl rfl
    intro WjB hO
    clear HO
    have HO := Lib.hid hO
    clear hO
    simp only [putD, Act.put, List.setIfInBounds_toArray, List.set_cons_zero, List.set_cons_succ]
    go_wp2_with fail
    exact bodyPost_ret (v := .tuple #[.agg #[.int .i64 0, .string ⟨#[]⟩], fltV (no, E.r, E.at_)]) (res_own2 3 2 HO.out tyF tyX rfl rfl rfl rfl rfl rfl rfl) rfl ⟨by rw [HQ2.out] <;> rfl, HO.out.bel⟩
end Go.Proofs.YtinhecggmakbnaaGreatDoor
namespace Go.Proofs.YtinhecggmakbnaaGreatDoor
set_option maxRecDepth 100000
open Go.RowKit Go.Extern.Stop Go.Stop Go.Extern
set_option maxHeartbeats 8000000 in
theorem renc14_15D {w : World} {A : PkA} {p : Pk} (h : PkIn w w.heap.size A p) (hS : SmallP p.props) (hk : p.kind = 15) (hp : ¬ p.props = []) (hr : ¬ p.reason = 0) : Calls Tryz.prog 33 #[p.agg A] w (FrF w (enM p)) := by
  obtain ⟨z, hT, hz26, hz⟩ := tyP_ex
  obtain ⟨q, hq⟩ : ∃ q, q = enM p := ⟨_, rfl⟩
  rw [← hq]
  obtain ⟨c, hc⟩ : ∃ c, c = p.cells A := ⟨_, rfl⟩
  rw [show p.agg A = .agg c from by rw [hc]; rfl]
  have HG0 := Lib.hid (show c[0]? = some (.int .i64 15) by rw [hc, ← hk]; rfl)
  have HG2 := Lib.hid (show c[2]? = some (.int .i64 p.reason) by rw [hc]; rfl)
  have HG3 := Lib.hid (show c[3]? = some (.slice A.pa p.props.length A.pc) by rw [hc]; rfl)
  have HT := Lib.hid hT
  have HZS := Lib.hid hz26
  have HPR := Lib.hid h.pr
  have HPC := Lib.hid h.pc
  have HSM := Lib.hid hS
  unfold enM at hq
  rw [hk] at hq
  have HQ0 := Lib.hid hq
  have HO := Lib.hid (Own.start [] w)
  clear hT hz26 hz hc h hS hk hq
  have HQ := HQ0
  rw [show fM 15 = 240 from rfl, if_neg (by decide), if_neg (by decide)] at HQ
  clear HQ0
  have hb : (p.reason != 0) = true := by rw [bne_iff_ne]; exact hr
  have HPU := Lib.hid (show putR w0 15 p.reason p.props = if (encR 15 p.props).no = 0 then (e00, stepW (stepW w0 (numE 1 p.reason)) ⟨0, 0, (encR 15 p.props).L⟩) else (⟨(encR 15 p.props).no, (encR 15 p.props).r, (encR 15 p.props).at_⟩, w0) by unfold putR; rw [if_neg hp])
  have hlp : 0 < p.props.length := List.length_pos_iff.2 hp
  have hlq : (0 : Int) < (p.props.length : Int) := by omega
  have hpl := putR_len (W := w0) (k := 15) (r := p.reason) HSM.out
  have HPL := Lib.hid hpl
  clear hpl hp
  clear hr
  go_enter Tryz.func33, Tryz.ntmps33
  go_wp2_with (first | (refine wpo_box (t := 29) HO.out _ rfl rfl rfl ?_; clear HO; rintro k1 W1 hO; have HO := Lib.hid hO; clear hO; simp only [Act.put, List.setIfInBounds_toArray, List.set_cons_zero, List.set_cons_succ]) | (refine wpo_alloc tyF HO.out rfl rfl ?_; clear HO; rintro k2 W2 hO; have HO := Lib.hid hO; clear hO; simp only [Act.put, List.setIfInBounds_toArray, List.set_cons_zero, List.set_cons_succ]) | (refine wpo_alloc tyX HO.out rfl rfl ?_; clear HO; rintro k3 W3 hO; have HO := Lib.hid hO; clear hO; simp only [Act.put, List.setIfInBounds_toArray, List.set_cons_zero, List.set_cons_succ]) | (refine wpo_ldc (HO.out.get 2 rfl) tyI _ rfl rfl rfl HG0.out ?_))
  refine (rg14_15 _).mono ?_
  rintro x _ ⟨rfl, rfl⟩
  go_upto_region 4 with (first | (refine wpo_zero tyW rfl rfl ?_) | (refine wpo_box (t := 75) HO.out _ rfl rfl rfl ?_; clear HO; rintro k4 W4 hO; have HO := Lib.hid hO; clear hO; simp only [Act.put, List.setIfInBounds_toArray, List.set_cons_zero, List.set_cons_succ]))
  have f0 : W4.cell? ⟨k1, 0, none⟩ = some (.int .i64 15) := ((HO.out.get 3 rfl).cell 0).trans HG0.out
  have f2 : W4.cell? ⟨k1, 2, none⟩ = some (.int .i64 p.reason) := ((HO.out.get 3 rfl).cell 2).trans HG2.out
  have f3 : W4.cell? ⟨k1, 3, none⟩ = some (.slice A.pa p.props.length A.pc) := ((HO.out.get 3 rfl).cell 3).trans HG3.out
  go_upto_region 5 with fail
  clear f0 f2 f3 hb
  have HDO := Lib.hid (rwdo_num1 (w0_obj HO.out 0 rfl) (Nat.zero_le _) (p.reason))
  go_wp2_with (refine wpo_ldc (HO.out.get 3 rfl) tyI _ rfl rfl rfl HG2.out ?_)
  refine HDO.out.mono ?_
  rintro x V5 ⟨rfl, hn⟩
  obtain ⟨l5, a5, hO, e1, e2⟩ := HO.out.wstep 0 rfl hn
  clear HO hn
  have HO := Lib.hid hO
  have HE1 := Lib.hid e1
  have HE2 := Lib.hid e2
  clear hO e1 e2
  clear HDO
  have f0 : V5.cell? ⟨k1, 0, none⟩ = some (.int .i64 15) := ((HO.out.get 3 rfl).cell 0).trans HG0.out
  have f3 : V5.cell? ⟨k1, 3, none⟩ = some (.slice A.pa p.props.length A.pc) := ((HO.out.get 3 rfl).cell 3).trans HG3.out
  go_upto_region 7 with fail
  clear f0 f3
  have HEN := Lib.hid (rencode_any 15 p.props.length A.pc rfl ((HPR.out.below HO.out.bel).mono HO.out.size) HSM.out HPC.out)
  obtain ⟨E, hE⟩ : ∃ E, E = encR 15 p.props := ⟨_, rfl⟩
  have hEl : E.L.length ≤ 63844 := by rw [hE]; exact encR_len HSM.out
  have HEL := Lib.hid hEl
  rw [← hE] at HEN HPU
  clear hE hEl
  go_wp2_with (first | (refine wpo_ldc (HO.out.get 3 rfl) tyI _ rfl rfl rfl HG0.out ?_) | (refine wpo_ldc (HO.out.get 3 rfl) tyL _ rfl rfl rfl HG3.out ?_))
  refine HEN.out.mono ?_
  rintro x V6 ⟨no, er, ea, rfl, hno, hra, hb⟩
  have HB := Lib.hid (HO.out.below hb)
  clear HO hb HEN
  have HO := HB
  clear HB
  have HNO := Lib.hid hno
  have HRA := Lib.hid hra
  clear hno hra
  go_upto_region 8 with (first | (refine wpo_alloc tyX HO.out rfl rfl ?_; clear HO; rintro k6 W7 hO; have HO := Lib.hid hO; clear hO; simp only [Act.put, List.setIfInBounds_toArray, List.set_cons_zero, List.set_cons_succ]) | (refine wpo_store (k := k6) HO.out 0 tyX rfl _ _ rfl rfl rfl rfl rfl rfl rfl ?_; clear HO; rintro W8 hO; have HO := Lib.hid hO; clear hO; simp only [Act.put]))
  by_cases hn0 : no = 0
  · have HVV := Lib.hid (show putR w0 15 p.reason p.props = (e00, stepW (stepW w0 (numE 1 p.reason)) ⟨0, 0, E.L⟩) by rw [HPU.out, if_pos (by rw [← HNO.out]; exact hn0)])
    rw [HVV.out, if_pos (show (e00, stepW (stepW w0 (numE 1 p.reason)) ⟨0, 0, E.L⟩).1.no = 0 from rfl)] at HQ
    rw [HVV.out] at HPL
    subst hn0
    clear HVV HPU HRA HNO
    have HD8 := Lib.hid (rwdo_raw (HO.out.wr 1 rfl HE1.out HE2.out) (by have := stepW_num_len w0 (p.reason); have h0 : w0.L.length = 0 := rfl; omega) E.L (by have := HEL.out; omega))
    clear HE1 HE2
    go_wp2_with (refine wpo_ldc (HO.out.get 0 rfl) tyE _ rfl rfl rfl rfl ?_)
    refine HD8.out.mono ?_
    rintro x V9 ⟨rfl, hn⟩
    obtain ⟨l9, a9, hO, e1, e2⟩ := HO.out.wstep 1 rfl hn
    clear HO hn
    have HO := Lib.hid hO
    have HE1 := Lib.hid e1
    have HE2 := Lib.hid e2
    clear hO e1 e2
    clear HD8
    go_upto_region 11 with fail
    go_wp2_with (refine wpo_ldc (HO.out.get 4 rfl) tyI _ rfl rfl rfl HG0.out ?_)
    refine (rg14_15 _).mono ?_
    rintro x _ ⟨rfl, rfl⟩
    have HMD := Lib.hid (rmade_any (HO.out.wr 1 rfl HE1.out HE2.out) 240)
    have HDC0 := Lib.hid (fun W => rdec14_240 (w := W) (s := ⟨((stepW (stepW w0 (numE 1 (p.reason))) ⟨0, 0, E.L⟩)).L.toArray⟩) (by rw [bsize]; have h1 : (stepW (stepW w0 (numE 1 (p.reason))) ⟨0, 0, E.L⟩).L.length ≤ _ := HPL.out; have h0 : w0.L.length = 0 := rfl; omega))
    obtain ⟨V, hV⟩ : ∃ V, V = (stepW (stepW w0 (numE 1 (p.reason))) ⟨0, 0, E.L⟩) := ⟨_, rfl⟩
    rw [← hV] at HMD HDC0 HQ
    clear hV
    obtain ⟨e, he⟩ : ∃ e, e = (dcM 240 ⟨V.L.toArray⟩).1 := ⟨_, rfl⟩
    rw [← he] at HDC0 HQ
    clear he
    obtain ⟨t, ht⟩ : ∃ t : ByteArray, t = ⟨V.L.toArray⟩ := ⟨_, rfl⟩
    rw [← ht] at HDC0
    rw [frR_eq _ _ _ ht] at HQ
    have HTT := Lib.hid ht
    have HDC := HDC0
    clear ht HDC0
    go_wp2_with fail
    by_cases hv : V.no = 0
    · have hq := HQ.out
      rw [if_pos hv] at hq
      have HQ2 := Lib.hid hq
      have HMD2 := Lib.hid (show frR V 240 e00 = ⟨e00, 240, t⟩ by unfold frR; rw [if_pos hv, if_pos (show e00.no = 0 from rfl), ← HTT.out])
      rw [HMD2.out] at HMD
      have HMD := Lib.hid (frf_ok HMD.out)
      clear hq HQ HMD2 hv HTT
      refine HMD.out.mono ?_
      rintro x V1 ⟨rfl, hb⟩
      have HB := Lib.hid (HO.out.below hb)
      clear HO hb HMD
      have HO := HB
      clear HB
      go_upto_region 14 with (first | (refine wpo_alloc tyF HO.out rfl rfl ?_; clear HO; rintro kfB WfB hO; have HO := Lib.hid hO; clear hO; simp only [Act.put, List.setIfInBounds_toArray, List.set_cons_zero, List.set_cons_succ]) | (refine wpo_alloc tyX HO.out rfl rfl ?_; clear HO; rintro kgB WgB hO; have HO := Lib.hid hO; clear hO; simp only [Act.put, List.setIfInBounds_toArray, List.set_cons_zero, List.set_cons_succ]) | (refine wpo_store (k := kfB) HO.out 1 tyF rfl _ _ rfl rfl rfl rfl rfl rfl rfl ?_; clear HO; rintro WhB hO; have HO := Lib.hid hO; clear hO; simp only [Act.put]) | (refine wpo_store (k := kgB) HO.out 0 tyX rfl _ _ rfl rfl rfl rfl rfl rfl rfl ?_; clear HO; rintro WiB hO; have HO := Lib.hid hO; clear hO; simp only [Act.put]) | (refine wpo_ldc (HO.out.get 0 rfl) tyE _ rfl rfl rfl rfl ?_))
      have HDD := Lib.hid (HDC.out WiB)
      clear HDC
      obtain ⟨en, er, ea⟩ := e
      simp only at HQ2 HDD
      go_wp2_with (refine wpo_load HO.out 1 tyF rfl rfl _ rfl rfl rfl ?_)
      refine HDD.out.mono ?_
      rintro x V2 ⟨c2, hc2, ho2, rfl, hb⟩
      have HC2 := Lib.hid (hc2.trans HZS.out.symm)
      have HC21 := Lib.hid ho2
      clear hc2 ho2
      have HB := Lib.hid (HO.out.below hb)
      clear HO hb HDD
      have HO := HB
      clear HB
      by_cases he : en = 0
      · have hq := HQ2.out
        rw [if_pos he] at hq
        have HQ3 := Lib.hid hq
        subst he
        clear hq HQ2
        go_wp2_with (first | (refine wpo_alloc HT.out HO.out rfl rfl ?_; clear HO; rintro kpC WpC hO; have HO := Lib.hid hO; clear hO; simp only [Act.put, List.setIfInBounds_toArray, List.set_cons_zero, List.set_cons_succ]) | (refine wpo_alloc tyX HO.out rfl rfl ?_; clear HO; rintro kxC WxC hO; have HO := Lib.hid hO; clear hO; simp only [Act.put, List.setIfInBounds_toArray, List.set_cons_zero, List.set_cons_succ]) | (refine wpo_store (k := kpC) HO.out 1 HT.out rfl _ _ rfl rfl rfl rfl rfl HC2.out HC21.out ?_; clear HO; rintro WyC hO; have HO := Lib.hid hO; clear hO; simp only [Act.put]) | (refine wpo_store (k := kxC) HO.out 0 tyX rfl _ _ rfl rfl rfl rfl rfl rfl rfl ?_; clear HO; rintro WzC hO; have HO := Lib.hid hO; clear hO; simp only [Act.put]) | (refine wpo_ldc (HO.out.get 0 rfl) tyE _ rfl rfl rfl rfl ?_) | (refine wpo_load HO.out 3 tyF rfl rfl _ rfl rfl rfl ?_) | (refine wpo_store (k := k2) HO.out 7 tyF rfl _ _ rfl rfl rfl rfl rfl rfl rfl ?_; clear HO; rintro WmC hO; have HO := Lib.hid hO; clear hO; simp only [Act.put]) | (refine wpo_store (k := k3) HO.out 6 tyX rfl _ _ rfl rfl rfl rfl rfl rfl rfl ?_; clear HO; rintro WnC hO; have HO := Lib.hid hO; clear hO; simp only [Act.put]))
        exact bodyPost_ret (v := .tuple #[.agg #[.int .i64 240, .string t], fltV (0, 0, 0)]) (res_own2 7 6 HO.out tyF tyX rfl rfl rfl rfl rfl rfl rfl) rfl ⟨by rw [HQ3.out] <;> rfl, HO.out.bel⟩
      · have hq := HQ2.out
        rw [if_neg he] at hq
        have HQ3 := Lib.hid hq
        have hei : ¬ (en : Int) = 0 := by omega
        clear hq HQ2 he
        go_upto_region 16 with (first | (refine wpo_alloc HT.out HO.out rfl rfl ?_; clear HO; rintro kpD WpD hO; have HO := Lib.hid hO; clear hO; simp only [Act.put, List.setIfInBounds_toArray, List.set_cons_zero, List.set_cons_succ]) | (refine wpo_alloc tyX HO.out rfl rfl ?_; clear HO; rintro kxD WxD hO; have HO := Lib.hid hO; clear hO; simp only [Act.put, List.setIfInBounds_toArray, List.set_cons_zero, List.set_cons_succ]) | (refine wpo_store (k := kpD) HO.out 1 HT.out rfl _ _ rfl rfl rfl rfl rfl HC2.out HC21.out ?_; clear HO; rintro WyD hO; have HO := Lib.hid hO; clear hO; simp only [Act.put]) | (refine wpo_store (k := kxD) HO.out 0 tyX rfl _ _ rfl rfl rfl rfl rfl rfl rfl ?_; clear HO; rintro WzD hO; have HO := Lib.hid hO; clear hO; simp only [Act.put]) | (refine wpo_ldc (HO.out.get 0 rfl) tyE _ rfl rfl rfl rfl ?_))
        refine wpo_y2 (yA := (k2, 33, #[.int .i64 0, .string ⟨#[]⟩])) (yB := (k3, 40, #[.int .i64 (en : Int), .int .i64 er, .int .i64 (ea : Int)])) [(85, .agg #[.int .i64 0, .string ⟨#[]⟩]), (86, .agg #[.int .i64 (en : Int), .int .i64 er, .int .i64 (ea : Int)])] 7 6 mixed (by kernel_rfl) HO.out rfl rfl (by decide) (fun _ _ _ _ _ h => h) ?_ rfl rfl ?_ ?_ ?_
        · refine ⟨⟨_, rfl, rfl, yo_zero rfl tyF rfl⟩, ?_⟩
          simp only [Act.put, List.setIfInBounds_toArray, List.set_cons_zero, List.set_cons_succ]
          refine ⟨⟨_, rfl, rfl, yo_load rfl tyX (fun _ h => h.get 0 (by decide) (by decide) rfl) rfl _ rfl rfl⟩, ?_⟩
          exact trivial
        · simp only [putD, Act.put, List.setIfInBounds_toArray, List.set_cons_zero, List.set_cons_succ]
          exact sto_row tyF _ _ rfl rfl rfl rfl rfl rfl rfl rfl
        · simp only [putD, Act.put, List.setIfInBounds_toArray, List.set_cons_zero, List.set_cons_succ]
          exact sto_row tyX _ _ rfl rfl rfl rfl rfl rfl rfl rfl
        intro WjD hO
        clear HO
        have HO := Lib.hid hO
        clear hO
        simp only [putD, Act.put, List.setIfInBounds_toArray, List.set_cons_zero, List.set_cons_succ]
        go_wp2_with fail
        exact bodyPost_ret (v := .tuple #[.agg #[.int .i64 0, .string ⟨#[]⟩], fltV (en, er, ea)]) (res_own2 7 6 HO.out tyF tyX rfl rfl rfl rfl rfl rfl rfl) rfl ⟨by rw [HQ3.out] <;> rfl, HO.out.bel⟩
    · have hq := HQ.out
      rw [if_neg hv] at hq
      have HQ2 := Lib.hid hq
      have hvi : ¬ (V.no : Int) = 0 := by omega
      have HMD2 := Lib.hid (show frR V 240 e00 = ⟨⟨V.no, 129, V.at_⟩, 0, ⟨#[]⟩⟩ by unfold frR; rw [if_neg hv])
      rw [HMD2.out] at HMD
      have HMD := Lib.hid (frf_bad HMD.out)
      clear hq HQ HMD2 hv
      refine HMD.out.mono ?_
      rintro x V1 ⟨rfl, hb⟩
      have HB := Lib.hid (HO.out.below hb)
      clear HO hb HMD
      have HO := HB
      clear HB
      go_upto_region 13 with (first | (refine wpo_alloc tyF HO.out rfl rfl ?_; clear HO; rintro kfA WfA hO; have HO := Lib.hid hO; clear hO; simp only [Act.put, List.setIfInBounds_toArray, List.set_cons_zero, List.set_cons_succ]) | (refine wpo_alloc tyX HO.out rfl rfl ?_; clear HO; rintro kgA WgA hO; have HO := Lib.hid hO; clear hO; simp only [Act.put, List.setIfInBounds_toArray, List.set_cons_zero, List.set_cons_succ]) | (refine wpo_store (k := kfA) HO.out 1 tyF rfl _ _ rfl rfl rfl rfl rfl rfl rfl ?_; clear HO; rintro WhA hO; have HO := Lib.hid hO; clear hO; simp only [Act.put]) | (refine wpo_store (k := kgA) HO.out 0 tyX rfl _ _ rfl rfl rfl rfl rfl rfl rfl ?_; clear HO; rintro WiA hO; have HO := Lib.hid hO; clear hO; simp only [Act.put]) | (refine wpo_ldc (HO.out.get 0 rfl) tyE _ rfl rfl rfl rfl ?_))
      refine wpo_y2 (yA := (k2, 33, #[.int .i64 0, .string ⟨#[]⟩])) (yB := (k3, 40, #[.int .i64 (V.no : Int), .int .i64 129, .int .i64 (V.at_ : Int)])) [(75, .agg #[.int .i64 0, .string ⟨#[]⟩]), (76, .agg #[.int .i64 (V.no : Int), .int .i64 129, .int .i64 (V.at_ : Int)])] 5 4 mixed (by kernel_rfl) HO.out rfl rfl (by decide) (fun _ _ _ _ _ h => h) ?_ rfl rfl ?_ ?_ ?_
      · refine ⟨⟨_, rfl, rfl, yo_load rfl tyF (fun _ h => h.get 1 (by decide) (by decide) rfl) rfl _ rfl rfl⟩, ?_⟩
        simp only [Act.put, List.setIfInBounds_toArray, List.set_cons_zero, List.set_cons_succ]
        refine ⟨⟨_, rfl, rfl, yo_load rfl tyX (fun _ h => h.get 0 (by decide) (by decide) rfl) rfl _ rfl rfl⟩, ?_⟩
        exact trivial
      · simp only [putD, Act.put, List.setIfInBounds_toArray, List.set_cons_zero, List.set_cons_succ]
        exact sto_row tyF _ _ rfl rfl rfl rfl rfl rfl rfl rfl
      · simp only [putD, Act.put, List.setIfInBounds_toArray, List.set_cons_zero, List.set_cons_succ]
        exact sto_row tyX _ _ rfl rfl rfl rfl rfl rfl rfl rfl
      intro WjA hO
      clear HO
      have HO := Lib.hid hO
      clear hO
      simp only [putD, Act.put, List.setIfInBounds_toArray, List.set_cons_zero, List.set_cons_succ]
      go_wp2_with fail
      exact bodyPost_ret (v := .tuple #[.agg #[.int .i64 0, .string ⟨#[]⟩], fltV (V.no, 129, V.at_)]) (res_own2 5 4 HO.out tyF tyX rfl rfl rfl rfl rfl rfl rfl) rfl ⟨by rw [HQ2.out] <;> rfl, HO.out.bel⟩
  · have hq := HQ.out
    have hPB := HPU.out.trans (if_neg (by rw [← HNO.out]; exact hn0))
    rw [hPB, if_neg (show ¬ E.no = 0 by rw [← HNO.out]; exact hn0)] at hq
    clear hPB
    obtain ⟨e1, e2⟩ := HRA.out (by rw [← HNO.out]; exact hn0)
    subst e1 e2
    have HQ2 := Lib.hid (show q = ⟨⟨no, E.r, E.at_⟩, 0, ⟨#[]⟩⟩ by rw [hq, HNO.out])
    have hni : ¬ (no : Int) = 0 := by omega
    clear hq HQ HPU HRA HNO hn0
    go_upto_region 9 with (refine wpo_ldc (HO.out.get 0 rfl) tyE _ rfl rfl rfl rfl ?_)
    refine wpo_y2 (yA := (k2, 33, #[.int .i64 0, .string ⟨#[]⟩])) (yB := (k3, 40, #[.int .i64 (no : Int), .int .i64 E.r, .int .i64 (E.at_ : Int)])) [(58, .agg #[.int .i64 0, .string ⟨#[]⟩]), (59, .agg #[.int .i64 (no : Int), .int .i64 E.r, .int .i64 (E.at_ : Int)])] 3 2 mixed (by kernel_rfl) HO.out rfl rfl (by decide) (fun _ _ _ _ _ h => h) ?_ rfl rfl ?_ ?_ ?_
    · refine ⟨⟨_, rfl, rfl, yo_zero rfl tyF rfl⟩, ?_⟩
      simp only [Act.put, List.setIfInBounds_toArray, List.set_cons_zero, List.set_cons_succ]
      refine ⟨⟨_, rfl, rfl, yo_load rfl tyX (fun _ h => h.get 0 (by decide) (by decide) rfl) rfl _ rfl rfl⟩, ?_⟩
      exact trivial
    · simp only [putD, Act.put, List.setIfInBounds_toArray, List.set_cons_zero, List.set_cons_succ]
      exact sto_row tyF _ _ rfl rfl rfl rfl rfl rfl rfl rfl
    · simp only [putD, Act.put, List.setIfInBounds_toArray, List.set_cons_zero, List.set_cons_succ]
      exact sto_row tyX _ _ rfl rfl rfl rfl rfl rfl rfl rfl
    intro WjB hO
    clear HO
    have HO := Lib.hid hO
    clear hO
    simp only [putD, Act.put, List.setIfInBounds_toArray, List.set_cons_zero, List.set_cons_succ]
    go_wp2_with fail
    exact bodyPost_ret (v := .tuple #[.agg #[.int .i64 0, .string ⟨#[]⟩], fltV (no, E.r, E.at_)]) (res_own2 3 2 HO.out tyF tyX rfl rfl rfl rfl rfl rfl rfl) rfl ⟨by rw [HQ2.out] <;> rfl, HO.out.bel⟩
end Go.Proofs.YtinhecggmakbnaaGreatDoor
