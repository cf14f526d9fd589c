/- What is proved here: what the document's Encode of layer 8 tells. Conditions: few bytes, the packet's parts stand where it says. -/
import Derived.Test.YtfkimpcaokgldaaGreatDoorRee8a
import Derived.Test.YtfkimpcaokgldaaGreatDoorRdk08
import Derived.Deep.QuietTactic
import Derived.BigQuiet
import Derived.Deep.DeepMust
namespace Go.Proofs.YtfkimpcaokgldaaGreatDoor
set_option maxRecDepth 100000
open Go.ChangeShapes Go.WideShapes Go.RowKit Go.Deep Go.Extern.Stop Go.Stop Go.Extern
set_option maxHeartbeats 16000000 in
theorem renc08_g1 {w : World} {A : PkA} {p : Pk} (h : PkIn w w.heap.size A p) (hS : SmK p) (hw : p.wHas = true) {uu pp : Bool} (hu : p.hasUser = uu) (hp : p.hasPass = pp) (hq0 : ¬ p.wQos < 0) (hq3 : ¬ 3 < p.wQos) (hn1 : (encR 1 p.props).no = 0) (hn2 : (encR 16 p.wProps).no = 0) : Calls Tryz.prog 8 #[p.agg A] w (FrF w (enK p)) := by
  obtain ⟨z, hT, hz26, hz⟩ := tyP_ex
  obtain ⟨q, hq⟩ : ∃ q, q = enK p := ⟨_, rfl⟩
  rw [← hq]
  obtain ⟨c, hc⟩ : ∃ c, c = p.cells A := ⟨_, rfl⟩
  rw [show p.agg A = .agg c from by rw [hc]; rfl]
  have HG3 := Lib.hid (show c[3]? = some (.slice A.pa p.props.length A.pc) by rw [hc]; rfl)
  have HG5 := Lib.hid (show c[5]? = some (.int .i64 p.keep) by rw [hc]; rfl)
  have HG6 := Lib.hid (show c[6]? = some (.string p.client) by rw [hc]; rfl)
  have HG7 := Lib.hid (show c[7]? = some (.bool true) by rw [hc, ← hw]; rfl)
  have HG8 := Lib.hid (show c[8]? = some (.string p.wTopic) by rw [hc]; rfl)
  have HG9 := Lib.hid (show c[9]? = some (.string p.wPay) by rw [hc]; rfl)
  have HG10 := Lib.hid (show c[10]? = some (.int .i64 p.wQos) by rw [hc]; rfl)
  have HG12 := Lib.hid (show c[12]? = some (.slice A.wa p.wProps.length A.wc) by rw [hc]; rfl)
  have HG13 := Lib.hid (show c[13]? = some (.bool uu) by rw [hc, ← hu]; rfl)
  have HG14 := Lib.hid (show c[14]? = some (.string p.user) by rw [hc]; rfl)
  have HG15 := Lib.hid (show c[15]? = some (.bool pp) by rw [hc, ← hp]; rfl)
  have HG16 := Lib.hid (show c[16]? = some (.string p.pass) by rw [hc]; rfl)
  have HT := Lib.hid hT
  have HZS := Lib.hid hz26
  have HCS := Lib.hid (show c.size = z.size by rw [hc, hz26]; rfl)
  have HPR := Lib.hid h.pr
  have HPC := Lib.hid h.pc
  have HWP := Lib.hid h.wr
  have HWC := Lib.hid h.wc
  have HSM := Lib.hid hS
  have HO := Lib.hid (Own.start [] w)
  unfold enK at hq
  rw [if_neg (fun hh => by rcases hh.2 with hh | hh; exact hq0 hh; exact hq3 hh), if_pos hn1, if_neg (fun hh => hh.2 hn2)] at hq
  have HFG := Lib.hid (fun W => rflg08 A p (fun hh => ⟨by omega, by omega⟩) W)
  rw [show p.agg A = .agg c from by rw [hc]; rfl] at HFG
  obtain ⟨T0, hT0⟩ : ∃ V, V = stepW w0 (⟨0, 0, hd8⟩) := ⟨_, rfl⟩
  have hb0 : T0.L.length ≤ 7 := by rw [hT0]; have h1 := stepW_len w0 (⟨0, 0, hd8⟩); have h2 := (show (⟨0, 0, hd8⟩ : EV).L.length ≤ 7 from by decide); have h3 : w0.L.length = 0 := rfl; omega
  obtain ⟨T1, hT1⟩ : ∃ V, V = stepW T0 (numE 1 (flK p : Nat)) := ⟨_, rfl⟩
  have hb1 : T1.L.length ≤ 8 := by rw [hT1]; have h1 := stepW_len T0 (numE 1 (flK p : Nat)); have h2 := (numE_len 1 (flK p : Nat)); omega
  obtain ⟨T2, hT2⟩ : ∃ V, V = stepW T1 (numE 2 p.keep) := ⟨_, rfl⟩
  have hb2 : T2.L.length ≤ 10 := by rw [hT2]; have h1 := stepW_len T1 (numE 2 p.keep); have h2 := (numE_len 2 p.keep); omega
  obtain ⟨T3, hT3⟩ : ∃ V, V = stepW T2 (⟨0, 0, (encR 1 p.props).L⟩) := ⟨_, rfl⟩
  have hb3 : T3.L.length ≤ 63854 := by rw [hT3]; have h1 := stepW_len T2 (⟨0, 0, (encR 1 p.props).L⟩); have h2 := (show (⟨0, 0, (encR 1 p.props).L⟩ : EV).L.length ≤ 63844 from encR_len hS.1); omega
  obtain ⟨T4, hT4⟩ : ∃ V, V = stepW T3 (textE p.client) := ⟨_, rfl⟩
  have hb4 : T4.L.length ≤ 129391 := by rw [hT4]; have h1 := stepW_len T3 (textE p.client); have h2 := (Nat.le_trans (textE_len p.client) (show 2 + p.client.size ≤ 65537 by have := hS.2.2.1; omega)); omega
  obtain ⟨T5, hT5⟩ : ∃ V, V = stepW T4 (⟨0, 0, (encR 16 p.wProps).L⟩) := ⟨_, rfl⟩
  have hb5 : T5.L.length ≤ 193235 := by rw [hT5]; have h1 := stepW_len T4 (⟨0, 0, (encR 16 p.wProps).L⟩); have h2 := (show (⟨0, 0, (encR 16 p.wProps).L⟩ : EV).L.length ≤ 63844 from encR_len hS.2.1); omega
  obtain ⟨T6, hT6⟩ : ∃ V, V = stepW T5 (textE p.wTopic) := ⟨_, rfl⟩
  have hb6 : T6.L.length ≤ 258772 := by rw [hT6]; have h1 := stepW_len T5 (textE p.wTopic); have h2 := (Nat.le_trans (textE_len p.wTopic) (show 2 + p.wTopic.size ≤ 65537 by have := hS.2.2.2.1; omega)); omega
  obtain ⟨T7, hT7⟩ : ∃ V, V = stepW T6 (binE p.wPay) := ⟨_, rfl⟩
  have hb7 : T7.L.length ≤ 324309 := by rw [hT7]; have h1 := stepW_len T6 (binE p.wPay); have h2 := (Nat.le_trans (Nat.le_of_eq (binE_len p.wPay)) (show 2 + p.wPay.size ≤ 65537 by have := hS.2.2.2.2.1; omega)); omega
  obtain ⟨T8, hT8⟩ : ∃ V, V = (if uu = true then stepW T7 (textE p.user) else T7) := ⟨_, rfl⟩
  have hb8 : T8.L.length ≤ 389846 := by have h1 := stepW_len T7 (textE p.user); have h2 := (Nat.le_trans (textE_len p.user) (show 2 + p.user.size ≤ 65537 by have := hS.2.2.2.2.2.1; omega)); rw [hT8]; split <;> omega
  obtain ⟨V, hT9⟩ : ∃ V, V = (if pp = true then stepW T8 (binE p.pass) else T8) := ⟨_, rfl⟩
  have hb9 : V.L.length ≤ 455383 := by have h1 := stepW_len T8 (binE p.pass); have h2 := (Nat.le_trans (Nat.le_of_eq (binE_len p.pass)) (show 2 + p.pass.size ≤ 65537 by have := hS.2.2.2.2.2.2; omega)); rw [hT9]; split <;> omega
  have hwr : wrK p = V := by rw [hT9, hT8, hT7, hT6, hT5, hT4, hT3, hT2, hT1, hT0]; unfold wrK wrK4 wrK3 wrK2; rw [wrK1_r, hp, hu, if_pos hw]
  rw [hwr] at hq
  have HQ0 := Lib.hid hq
  have HT0 := Lib.hid hT0
  have HT1 := Lib.hid hT1
  have HT2 := Lib.hid hT2
  have HT3 := Lib.hid hT3
  have HT4 := Lib.hid hT4
  have HT5 := Lib.hid hT5
  have HT6 := Lib.hid hT6
  have HT7 := Lib.hid hT7
  have HT8 := Lib.hid hT8
  have HT9 := Lib.hid hT9
  have HB0 := Lib.hid hb0
  have HB1 := Lib.hid hb1
  have HB2 := Lib.hid hb2
  have HB3 := Lib.hid hb3
  have HB4 := Lib.hid hb4
  have HB5 := Lib.hid hb5
  have HB6 := Lib.hid hb6
  have HB7 := Lib.hid hb7
  have HB8 := Lib.hid hb8
  have HB9 := Lib.hid hb9
  clear hT0 hb0 hT1 hb1 hT2 hb2 hT3 hb3 hT4 hb4 hT5 hb5 hT6 hb6 hT7 hb7 hT8 hb8 hT9 hb9 hwr hT hz26 hz hc h hS hq hw hu hp
  generalize p.wQos = qq at *
  go_enter Tryz.func8, Tryz.ntmps8
  go_upto_region 1 with (first | (refine wpo_box (t := 29) HO.out _ rfl rfl rfl ?_; clear HO; rintro k1 W1 hO; have HO := Lib.hid hO; clear hO; simp only [Act.put, List.setIfInBounds_toArray, List.set_cons_zero, List.set_cons_succ]) | (refine wpo_alloc tyF HO.out rfl rfl ?_; clear HO; rintro k2 W2 hO; have HO := Lib.hid hO; clear hO; simp only [Act.put, List.setIfInBounds_toArray, List.set_cons_zero, List.set_cons_succ]) | (refine wpo_alloc tyX HO.out rfl rfl ?_; clear HO; rintro k3 W3 hO; have HO := Lib.hid hO; clear hO; simp only [Act.put, List.setIfInBounds_toArray, List.set_cons_zero, List.set_cons_succ]))
  have x7 : W3.cell? ⟨k1, 7, none⟩ = some (.bool true) := ((HO.out.get 2 rfl).cell 7).trans HG7.out
  have x10 : W3.cell? ⟨k1, 10, none⟩ = some (.int .i64 qq) := ((HO.out.get 2 rfl).cell 10).trans HG10.out
  go_upto_region 3 with fail
  clear x7 x10 hq0 hq3
  have HEN := Lib.hid (rencode_any 1 p.props.length A.pc rfl ((HPR.out.below HO.out.bel).mono HO.out.size) HSM.out.1 HPC.out)
  have hEl : (encR 1 p.props).L.length ≤ 63844 := encR_len HSM.out.1
  obtain ⟨E, hE⟩ : ∃ E, E = encR 1 p.props := ⟨_, rfl⟩
  rw [← hE] at HEN hEl hn1 HT3
  have HEL := Lib.hid hEl
  have HEE := Lib.hid hE
  clear hE hEl
  go_wp2_with (refine wpo_ldc (HO.out.get 2 rfl) tyL _ rfl rfl rfl HG3.out ?_)
  refine HEN.out.mono ?_
  rintro x V4 ⟨no, fr, fa, rfl, hno, hra, hb⟩
  have HB := Lib.hid (HO.out.below hb)
  clear HO hb HEN
  have HO := HB
  clear HB
  have HNO := Lib.hid hno
  have HRA := Lib.hid hra
  clear hno hra
  go_upto_region 4 with (first | (refine wpo_alloc tyX HO.out rfl rfl ?_; clear HO; rintro k5 W5 hO; have HO := Lib.hid hO; clear hO; simp only [Act.put, List.setIfInBounds_toArray, List.set_cons_zero, List.set_cons_succ]) | (refine wpo_store (k := k5) HO.out 0 tyX rfl _ _ rfl rfl rfl rfl rfl rfl rfl ?_; clear HO; rintro W6 hO; have HO := Lib.hid hO; clear hO; simp only [Act.put]))
  have hn0 : no = 0 := by rw [HNO.out]; exact hn1
  subst hn0
  clear HNO HRA hn1
  have HEN2 := Lib.hid (rencode_any 16 p.wProps.length A.wc rfl ((HWP.out.below HO.out.bel).mono HO.out.size) HSM.out.2.1 HWC.out)
  have hEl : (encR 16 p.wProps).L.length ≤ 63844 := encR_len HSM.out.2.1
  obtain ⟨D, hD⟩ : ∃ E, E = encR 16 p.wProps := ⟨_, rfl⟩
  rw [← hD] at HEN2 hEl hn2 HT5
  have HDL := Lib.hid hEl
  have HDD := Lib.hid hD
  clear hD hEl
  go_wp2_with (first | (refine wpo_ldc (HO.out.get 0 rfl) tyE _ rfl rfl rfl rfl ?_) | (refine wpo_ldc (HO.out.get 3 rfl) tyB _ rfl rfl rfl HG7.out ?_) | (refine wpo_ldc (HO.out.get 3 rfl) tyL _ rfl rfl rfl HG12.out ?_))
  refine HEN2.out.mono ?_
  rintro x V7 ⟨no, fr2, fa2, rfl, hno, hra, hb⟩
  have HB := Lib.hid (HO.out.below hb)
  clear HO hb HEN2
  have HO := HB
  clear HB
  have HNO := Lib.hid hno
  have HRA := Lib.hid hra
  clear hno hra
  go_upto_region 9 with (first | (refine wpo_alloc tyX HO.out rfl rfl ?_; clear HO; rintro k8 W7 hO; have HO := Lib.hid hO; clear hO; simp only [Act.put, List.setIfInBounds_toArray, List.set_cons_zero, List.set_cons_succ]) | (refine wpo_store (k := k8) HO.out 0 tyX rfl _ _ rfl rfl rfl rfl rfl rfl rfl ?_; clear HO; rintro W8 hO; have HO := Lib.hid hO; clear hO; simp only [Act.put]))
  have hn0 : no = 0 := by rw [HNO.out]; exact hn2
  subst hn0
  clear HNO HRA hn2
  go_upto_region 13 with (first | (refine wpo_ldc (HO.out.get 0 rfl) tyE _ rfl rfl rfl rfl ?_) | (refine wpo_zero tyW rfl rfl ?_) | (refine wpo_box (t := 75) HO.out _ rfl rfl rfl ?_; clear HO; rintro k9 W9 hO; have HO := Lib.hid hO; clear hO; simp only [Act.put, List.setIfInBounds_toArray, List.set_cons_zero, List.set_cons_succ]))
  have HDO := Lib.hid (rwdo_hd8 (w0_obj HO.out 0 rfl))
  rw [← HT0.out] at HDO
  go_wp2_with fail
  refine HDO.out.mono ?_
  rintro x Vd0 ⟨rfl, hn⟩
  obtain ⟨ld0, ad0, hO, e1, e2⟩ := HO.out.wstep 0 rfl hn
  clear HO hn
  have HO := Lib.hid hO
  have HE1 := Lib.hid e1
  have HE2 := Lib.hid e2
  clear hO e1 e2
  clear HDO
  simp only [List.set_cons_zero] at HO
  go_wp2_with (refine wpo_load HO.out 5 HT.out rfl HCS.out _ rfl rfl rfl ?_)
  refine (HFG.out _).mono ?_
  rintro x Vf ⟨rfl, hb⟩
  have HB := Lib.hid (HO.out.below hb)
  clear HO hb HFG
  have HO := HB
  clear HB
  have HDO := Lib.hid (rwdo_num1 (HO.out.wr 0 rfl HE1.out HE2.out) (by have := HB0.out; omega) (flK p : Nat))
  rw [← HT1.out] at HDO
  generalize flK p = fk at *
  go_wp2_with fail
  refine HDO.out.mono ?_
  rintro x Vd1 ⟨rfl, hn⟩
  obtain ⟨ld1, ad1, hO, e1, e2⟩ := HO.out.wstep 0 rfl hn
  clear HO hn
  have HO := Lib.hid hO
  have HE1 := Lib.hid e1
  have HE2 := Lib.hid e2
  clear hO e1 e2
  clear HDO
  simp only [List.set_cons_zero] at HO
  have HDO := Lib.hid (rwdo_num2 (HO.out.wr 0 rfl HE1.out HE2.out) (by have := HB1.out; omega) p.keep)
  rw [← HT2.out] at HDO
  go_wp2_with (refine wpo_ldc (HO.out.get 5 rfl) tyI _ rfl rfl rfl HG5.out ?_)
  refine HDO.out.mono ?_
  rintro x Vd2 ⟨rfl, hn⟩
  obtain ⟨ld2, ad2, hO, e1, e2⟩ := HO.out.wstep 0 rfl hn
  clear HO hn
  have HO := Lib.hid hO
  have HE1 := Lib.hid e1
  have HE2 := Lib.hid e2
  clear hO e1 e2
  clear HDO
  simp only [List.set_cons_zero] at HO
  have HDO := Lib.hid (rwdo_raw (HO.out.wr 0 rfl HE1.out HE2.out) (by have := HB2.out; omega) E.L (by have := HEL.out; omega))
  rw [← HT3.out] at HDO
  go_wp2_with fail
  refine HDO.out.mono ?_
  rintro x Vd3 ⟨rfl, hn⟩
  obtain ⟨ld3, ad3, hO, e1, e2⟩ := HO.out.wstep 0 rfl hn
  clear HO hn
  have HO := Lib.hid hO
  have HE1 := Lib.hid e1
  have HE2 := Lib.hid e2
  clear hO e1 e2
  clear HDO
  simp only [List.set_cons_zero] at HO
  have HDO := Lib.hid (rwdo_text8 (HO.out.wr 0 rfl HE1.out HE2.out) (by have := HB3.out; omega) p.client HSM.out.2.2.1)
  rw [← HT4.out] at HDO
  go_wp2_with (first | (refine wpo_ldc (HO.out.get 5 rfl) tyB _ rfl rfl rfl HG7.out ?_) | (refine wpo_ldc (HO.out.get 5 rfl) tyB _ rfl rfl rfl HG13.out ?_) | (refine wpo_ldc (HO.out.get 5 rfl) tyB _ rfl rfl rfl HG15.out ?_) | (refine wpo_ldc (HO.out.get 5 rfl) tyS _ rfl rfl rfl HG6.out ?_))
  refine HDO.out.mono ?_
  rintro x Vd4 ⟨rfl, hn⟩
  obtain ⟨ld4, ad4, hO, e1, e2⟩ := HO.out.wstep 0 rfl hn
  clear HO hn
  have HO := Lib.hid hO
  have HE1 := Lib.hid e1
  have HE2 := Lib.hid e2
  clear hO e1 e2
  clear HDO
  simp only [List.set_cons_zero] at HO
  have HDO := Lib.hid (rwdo_raw (HO.out.wr 0 rfl HE1.out HE2.out) (by have := HB4.out; omega) D.L (by have := HDL.out; omega))
  rw [← HT5.out] at HDO
  go_wp2_with (first | (refine wpo_ldc (HO.out.get 5 rfl) tyB _ rfl rfl rfl HG7.out ?_) | (refine wpo_ldc (HO.out.get 5 rfl) tyB _ rfl rfl rfl HG13.out ?_) | (refine wpo_ldc (HO.out.get 5 rfl) tyB _ rfl rfl rfl HG15.out ?_))
  refine HDO.out.mono ?_
  rintro x Vd5 ⟨rfl, hn⟩
  obtain ⟨ld5, ad5, hO, e1, e2⟩ := HO.out.wstep 0 rfl hn
  clear HO hn
  have HO := Lib.hid hO
  have HE1 := Lib.hid e1
  have HE2 := Lib.hid e2
  clear hO e1 e2
  clear HDO
  simp only [List.set_cons_zero] at HO
  have HDO := Lib.hid (rwdo_text8 (HO.out.wr 0 rfl HE1.out HE2.out) (by have := HB5.out; omega) p.wTopic HSM.out.2.2.2.1)
  rw [← HT6.out] at HDO
  go_wp2_with (first | (refine wpo_ldc (HO.out.get 5 rfl) tyB _ rfl rfl rfl HG7.out ?_) | (refine wpo_ldc (HO.out.get 5 rfl) tyB _ rfl rfl rfl HG13.out ?_) | (refine wpo_ldc (HO.out.get 5 rfl) tyB _ rfl rfl rfl HG15.out ?_) | (refine wpo_ldc (HO.out.get 5 rfl) tyS _ rfl rfl rfl HG8.out ?_))
  refine HDO.out.mono ?_
  rintro x Vd6 ⟨rfl, hn⟩
  obtain ⟨ld6, ad6, hO, e1, e2⟩ := HO.out.wstep 0 rfl hn
  clear HO hn
  have HO := Lib.hid hO
  have HE1 := Lib.hid e1
  have HE2 := Lib.hid e2
  clear hO e1 e2
  clear HDO
  simp only [List.set_cons_zero] at HO
  have HDO := Lib.hid (rwdo_bin8 (HO.out.wr 0 rfl HE1.out HE2.out) (by have := HB6.out; omega) p.wPay HSM.out.2.2.2.2.1)
  rw [← HT7.out] at HDO
  go_wp2_with (first | (refine wpo_ldc (HO.out.get 5 rfl) tyB _ rfl rfl rfl HG7.out ?_) | (refine wpo_ldc (HO.out.get 5 rfl) tyB _ rfl rfl rfl HG13.out ?_) | (refine wpo_ldc (HO.out.get 5 rfl) tyB _ rfl rfl rfl HG15.out ?_) | (refine wpo_ldc (HO.out.get 5 rfl) tyS _ rfl rfl rfl HG9.out ?_))
  refine HDO.out.mono ?_
  rintro x Vd7 ⟨rfl, hn⟩
  obtain ⟨ld7, ad7, hO, e1, e2⟩ := HO.out.wstep 0 rfl hn
  clear HO hn
  have HO := Lib.hid hO
  have HE1 := Lib.hid e1
  have HE2 := Lib.hid e2
  clear hO e1 e2
  clear HDO
  simp only [List.set_cons_zero] at HO
  cases uu
  case' false =>
    have e2 : T8 = T7 := HT8.out
    subst e2
  case' true =>
    have HDO := Lib.hid (rwdo_text8 (HO.out.wr 0 rfl HE1.out HE2.out) (by have := HB7.out; omega) p.user HSM.out.2.2.2.2.2.1)
    rw [← show T8 = stepW T7 (textE p.user) from HT8.out] at HDO
    go_wp2_with (first | (refine wpo_ldc (HO.out.get 5 rfl) tyB _ rfl rfl rfl HG7.out ?_) | (refine wpo_ldc (HO.out.get 5 rfl) tyB _ rfl rfl rfl HG13.out ?_) | (refine wpo_ldc (HO.out.get 5 rfl) tyB _ rfl rfl rfl HG15.out ?_) | (refine wpo_ldc (HO.out.get 5 rfl) tyS _ rfl rfl rfl HG14.out ?_))
    refine HDO.out.mono ?_
    rintro x Vd8 ⟨rfl, hn⟩
    obtain ⟨ld8, ad8, hO, e1, e2⟩ := HO.out.wstep 0 rfl hn
    clear HO hn
    have HO := Lib.hid hO
    have HE1 := Lib.hid e1
    have HE2 := Lib.hid e2
    clear hO e1 e2
    clear HDO
    simp only [List.set_cons_zero] at HO
  all_goals
    cases pp
    case' false =>
      have e2 : V = T8 := HT9.out
      subst e2
    case' true =>
      have HDO := Lib.hid (rwdo_bin8 (HO.out.wr 0 rfl HE1.out HE2.out) (by have := HB8.out; omega) p.pass HSM.out.2.2.2.2.2.2)
      rw [← show V = stepW T8 (binE p.pass) from HT9.out] at HDO
      go_wp2_with (first | (refine wpo_ldc (HO.out.get 5 rfl) tyB _ rfl rfl rfl HG7.out ?_) | (refine wpo_ldc (HO.out.get 5 rfl) tyB _ rfl rfl rfl HG13.out ?_) | (refine wpo_ldc (HO.out.get 5 rfl) tyB _ rfl rfl rfl HG15.out ?_) | (refine wpo_ldc (HO.out.get 5 rfl) tyS _ rfl rfl rfl HG16.out ?_))
      refine HDO.out.mono ?_
      rintro x Vd9 ⟨rfl, hn⟩
      obtain ⟨ld9, ad9, hO, e1, e2⟩ := HO.out.wstep 0 rfl hn
      clear HO hn
      have HO := Lib.hid hO
      have HE1 := Lib.hid e1
      have HE2 := Lib.hid e2
      clear hO e1 e2
      clear HDO
      simp only [List.set_cons_zero] at HO
    all_goals
      have HMD := Lib.hid (rmade_any (HO.out.wr 0 rfl HE1.out HE2.out) 16)
      have HQ := HQ0
      have hVL : V.L.length ≤ 900000 := by have := HB9.out; omega
      obtain ⟨t, ht⟩ : ∃ t : ByteArray, t = ⟨V.L.toArray⟩ := ⟨_, rfl⟩
      have hts : t.size ≤ 900000 := by rw [ht, bsize]; exact hVL
      obtain ⟨e, he⟩ : ∃ e, e = (dcK 16 t).1 := ⟨_, rfl⟩
      have HDC := Lib.hid (fun W => rdec08 (w := W) hts)
      rw [← he] at HDC
      rw [← ht, ← he, frR_eq _ _ _ ht] at HQ
      have HTT := Lib.hid ht
      clear ht he hVL hts
      clear HQ0
      go_wp2_with (first | (refine wpo_ldc (HO.out.get 5 rfl) tyB _ rfl rfl rfl HG7.out ?_) | (refine wpo_ldc (HO.out.get 5 rfl) tyB _ rfl rfl rfl HG13.out ?_) | (refine wpo_ldc (HO.out.get 5 rfl) tyB _ rfl rfl rfl HG15.out ?_))
      by_cases hv : V.no = 0
      · have hq := HQ.out
        rw [if_pos hv] at hq
        have HQ2 := Lib.hid hq
        have HMD2 := Lib.hid (show frR V 16 e00 = ⟨e00, 16, t⟩ by unfold frR; rw [if_pos hv, if_pos (show e00.no = 0 from rfl), ← HTT.out])
        rw [HMD2.out] at HMD
        have HMD := Lib.hid (frf_ok HMD.out)
        clear hq HQ HMD2 hv HTT
        refine HMD.out.mono ?_
        rintro x V1 ⟨rfl, hb⟩
        have HB := Lib.hid (HO.out.below hb)
        clear HO hb HMD
        have HO := HB
        clear HB
        go_upto_region 29 with (first | (refine wpo_alloc tyF HO.out rfl rfl ?_; clear HO; rintro kfB WfB hO; have HO := Lib.hid hO; clear hO; simp only [Act.put, List.setIfInBounds_toArray, List.set_cons_zero, List.set_cons_succ]) | (refine wpo_alloc tyX HO.out rfl rfl ?_; clear HO; rintro kgB WgB hO; have HO := Lib.hid hO; clear hO; simp only [Act.put, List.setIfInBounds_toArray, List.set_cons_zero, List.set_cons_succ]) | (refine wpo_store (k := kfB) HO.out 1 tyF rfl _ _ rfl rfl rfl rfl rfl rfl rfl ?_; clear HO; rintro WhB hO; have HO := Lib.hid hO; clear hO; simp only [Act.put]) | (refine wpo_store (k := kgB) HO.out 0 tyX rfl _ _ rfl rfl rfl rfl rfl rfl rfl ?_; clear HO; rintro WiB hO; have HO := Lib.hid hO; clear hO; simp only [Act.put]) | (refine wpo_ldc (HO.out.get 0 rfl) tyE _ rfl rfl rfl rfl ?_))
        have HDD := Lib.hid (HDC.out WiB)
        clear HDC
        obtain ⟨en, er, ea⟩ := e
        simp only at HQ2 HDD
        go_wp2_with (refine wpo_load HO.out 1 tyF rfl rfl _ rfl rfl rfl ?_)
        refine HDD.out.mono ?_
        rintro x V2 ⟨c2, hc2, ho2, rfl, hb⟩
        have HC2 := Lib.hid (hc2.trans HZS.out.symm)
        have HC21 := Lib.hid ho2
        clear hc2 ho2
        have HB := Lib.hid (HO.out.below hb)
        clear HO hb HDD
        have HO := HB
        clear HB
        by_cases he : en = 0
        · have hq := HQ2.out
          rw [if_pos he] at hq
          have HQ3 := Lib.hid hq
          subst he
          clear hq HQ2
          go_wp2_with (first | (refine wpo_alloc HT.out HO.out rfl rfl ?_; clear HO; rintro kpC WpC hO; have HO := Lib.hid hO; clear hO; simp only [Act.put, List.setIfInBounds_toArray, List.set_cons_zero, List.set_cons_succ]) | (refine wpo_alloc tyX HO.out rfl rfl ?_; clear HO; rintro kxC WxC hO; have HO := Lib.hid hO; clear hO; simp only [Act.put, List.setIfInBounds_toArray, List.set_cons_zero, List.set_cons_succ]) | (refine wpo_store (k := kpC) HO.out 1 HT.out rfl _ _ rfl rfl rfl rfl rfl HC2.out HC21.out ?_; clear HO; rintro WyC hO; have HO := Lib.hid hO; clear hO; simp only [Act.put]) | (refine wpo_store (k := kxC) HO.out 0 tyX rfl _ _ rfl rfl rfl rfl rfl rfl rfl ?_; clear HO; rintro WzC hO; have HO := Lib.hid hO; clear hO; simp only [Act.put]) | (refine wpo_ldc (HO.out.get 0 rfl) tyE _ rfl rfl rfl rfl ?_) | (refine wpo_load HO.out 3 tyF rfl rfl _ rfl rfl rfl ?_) | (refine wpo_store (k := k2) HO.out 8 tyF rfl _ _ rfl rfl rfl rfl rfl rfl rfl ?_; clear HO; rintro WmC hO; have HO := Lib.hid hO; clear hO; simp only [Act.put]) | (refine wpo_store (k := k3) HO.out 7 tyX rfl _ _ rfl rfl rfl rfl rfl rfl rfl ?_; clear HO; rintro WnC hO; have HO := Lib.hid hO; clear hO; simp only [Act.put]))
          exact bodyPost_ret (v := .tuple #[.agg #[.int .i64 16, .string t], fltV (0, 0, 0)]) (res_own2 8 7 HO.out tyF tyX rfl rfl rfl rfl rfl rfl rfl) rfl ⟨by rw [HQ3.out] <;> rfl, HO.out.bel⟩
        · have hq := HQ2.out
          rw [if_neg he] at hq
          have HQ3 := Lib.hid hq
          have hei : ¬ (en : Int) = 0 := by omega
          clear hq HQ2 he
          go_upto_region 31 with (first | (refine wpo_alloc HT.out HO.out rfl rfl ?_; clear HO; rintro kpD WpD hO; have HO := Lib.hid hO; clear hO; simp only [Act.put, List.setIfInBounds_toArray, List.set_cons_zero, List.set_cons_succ]) | (refine wpo_alloc tyX HO.out rfl rfl ?_; clear HO; rintro kxD WxD hO; have HO := Lib.hid hO; clear hO; simp only [Act.put, List.setIfInBounds_toArray, List.set_cons_zero, List.set_cons_succ]) | (refine wpo_store (k := kpD) HO.out 1 HT.out rfl _ _ rfl rfl rfl rfl rfl HC2.out HC21.out ?_; clear HO; rintro WyD hO; have HO := Lib.hid hO; clear hO; simp only [Act.put]) | (refine wpo_store (k := kxD) HO.out 0 tyX rfl _ _ rfl rfl rfl rfl rfl rfl rfl ?_; clear HO; rintro WzD hO; have HO := Lib.hid hO; clear hO; simp only [Act.put]) | (refine wpo_ldc (HO.out.get 0 rfl) tyE _ rfl rfl rfl rfl ?_))
          refine wpo_y2 (yA := (k2, 33, #[.int .i64 0, .string ⟨#[]⟩])) (yB := (k3, 40, #[.int .i64 (en : Int), .int .i64 er, .int .i64 (ea : Int)])) [(133, .agg #[.int .i64 0, .string ⟨#[]⟩]), (134, .agg #[.int .i64 (en : Int), .int .i64 er, .int .i64 (ea : Int)])] 8 7 mixed (by kernel_rfl) HO.out rfl rfl (by decide) (fun _ _ _ _ _ h => h) ?_ rfl rfl ?_ ?_ ?_
          · refine ⟨⟨_, rfl, rfl, yo_zero rfl tyF rfl⟩, ?_⟩
            simp only [Act.put, List.setIfInBounds_toArray, List.set_cons_zero, List.set_cons_succ]
            refine ⟨⟨_, rfl, rfl, yo_load rfl tyX (fun _ h => h.get 0 (by decide) (by decide) rfl) rfl _ rfl rfl⟩, ?_⟩
            exact trivial
          · simp only [putD, Act.put, List.setIfInBounds_toArray, List.set_cons_zero, List.set_cons_succ]
            exact sto_row tyF _ _ rfl rfl rfl rfl rfl rfl rfl rfl
          · simp only [putD, Act.put, List.setIfInBounds_toArray, List.set_cons_zero, List.set_cons_succ]
            exact sto_row tyX _ _ rfl rfl rfl rfl rfl rfl rfl rfl
          intro WjD hO
          clear HO
          have HO := Lib.hid hO
          clear hO
          simp only [putD, Act.put, List.setIfInBounds_toArray, List.set_cons_zero, List.set_cons_succ]
          go_wp2_with fail
          exact bodyPost_ret (v := .tuple #[.agg #[.int .i64 0, .string ⟨#[]⟩], fltV (en, er, ea)]) (res_own2 8 7 HO.out tyF tyX rfl rfl rfl rfl rfl rfl rfl) rfl ⟨by rw [HQ3.out] <;> rfl, HO.out.bel⟩
      · have hq := HQ.out
        rw [if_neg hv] at hq
        have HQ2 := Lib.hid hq
        have hvi : ¬ (V.no : Int) = 0 := by omega
        have HMD2 := Lib.hid (show frR V 16 e00 = ⟨⟨V.no, 129, V.at_⟩, 0, ⟨#[]⟩⟩ by unfold frR; rw [if_neg hv])
        rw [HMD2.out] at HMD
        have HMD := Lib.hid (frf_bad HMD.out)
        clear hq HQ HMD2 hv
        refine HMD.out.mono ?_
        rintro x V1 ⟨rfl, hb⟩
        have HB := Lib.hid (HO.out.below hb)
        clear HO hb HMD
        have HO := HB
        clear HB
        go_upto_region 28 with (first | (refine wpo_alloc tyF HO.out rfl rfl ?_; clear HO; rintro kfA WfA hO; have HO := Lib.hid hO; clear hO; simp only [Act.put, List.setIfInBounds_toArray, List.set_cons_zero, List.set_cons_succ]) | (refine wpo_alloc tyX HO.out rfl rfl ?_; clear HO; rintro kgA WgA hO; have HO := Lib.hid hO; clear hO; simp only [Act.put, List.setIfInBounds_toArray, List.set_cons_zero, List.set_cons_succ]) | (refine wpo_store (k := kfA) HO.out 1 tyF rfl _ _ rfl rfl rfl rfl rfl rfl rfl ?_; clear HO; rintro WhA hO; have HO := Lib.hid hO; clear hO; simp only [Act.put]) | (refine wpo_store (k := kgA) HO.out 0 tyX rfl _ _ rfl rfl rfl rfl rfl rfl rfl ?_; clear HO; rintro WiA hO; have HO := Lib.hid hO; clear hO; simp only [Act.put]) | (refine wpo_ldc (HO.out.get 0 rfl) tyE _ rfl rfl rfl rfl ?_))
        refine wpo_y2 (yA := (k2, 33, #[.int .i64 0, .string ⟨#[]⟩])) (yB := (k3, 40, #[.int .i64 (V.no : Int), .int .i64 129, .int .i64 (V.at_ : Int)])) [(123, .agg #[.int .i64 0, .string ⟨#[]⟩]), (124, .agg #[.int .i64 (V.no : Int), .int .i64 129, .int .i64 (V.at_ : Int)])] 6 5 mixed (by kernel_rfl) HO.out rfl rfl (by decide) (fun _ _ _ _ _ h => h) ?_ rfl rfl ?_ ?_ ?_
        · refine ⟨⟨_, rfl, rfl, yo_load rfl tyF (fun _ h => h.get 1 (by decide) (by decide) rfl) rfl _ rfl rfl⟩, ?_⟩
          simp only [Act.put, List.setIfInBounds_toArray, List.set_cons_zero, List.set_cons_succ]
          refine ⟨⟨_, rfl, rfl, yo_load rfl tyX (fun _ h => h.get 0 (by decide) (by decide) rfl) rfl _ rfl rfl⟩, ?_⟩
          exact trivial
        · simp only [putD, Act.put, List.setIfInBounds_toArray, List.set_cons_zero, List.set_cons_succ]
          exact sto_row tyF _ _ rfl rfl rfl rfl rfl rfl rfl rfl
        · simp only [putD, Act.put, List.setIfInBounds_toArray, List.set_cons_zero, List.set_cons_succ]
          exact sto_row tyX _ _ rfl rfl rfl rfl rfl rfl rfl rfl
        intro WjA hO
        clear HO
        have HO := Lib.hid hO
        clear hO
        simp only [putD, Act.put, List.setIfInBounds_toArray, List.set_cons_zero, List.set_cons_succ]
        go_wp2_with fail
        exact bodyPost_ret (v := .tuple #[.agg #[.int .i64 0, .string ⟨#[]⟩], fltV (V.no, 129, V.at_)]) (res_own2 6 5 HO.out tyF tyX rfl rfl rfl rfl rfl rfl rfl) rfl ⟨by rw [HQ2.out] <;> rfl, HO.out.bel⟩
end Go.Proofs.YtfkimpcaokgldaaGreatDoor
