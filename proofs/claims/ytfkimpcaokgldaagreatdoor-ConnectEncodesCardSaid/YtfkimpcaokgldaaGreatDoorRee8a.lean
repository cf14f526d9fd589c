/- What is proved here: what the document's Encode of layer 8 tells. Conditions: few bytes, the packet's parts stand where it says. -/
import Derived.Test.YtfkimpcaokgldaaGreatDoorRde8a
import Derived.Test.YtfkimpcaokgldaaGreatDoorWrt08
import Derived.Test.YtfkimpcaokgldaaGreatDoorFra08
import Derived.Test.YtfkimpcaokgldaaGreatDoorAwl08
import Derived.Test.YtfkimpcaokgldaaGreatDoorMad08
import Derived.Deep.QuietTactic
import Derived.BigQuiet
import Derived.Deep.DeepMust
namespace Go.Proofs.YtfkimpcaokgldaaGreatDoor
set_option maxRecDepth 100000
open Go.ChangeShapes Go.WideShapes Go.RowKit Go.Deep Go.Extern.Stop Go.Stop Go.Extern
def hd8 : List UInt8 := [0, 4, 77, 81, 84, 84, 5]
theorem hd8_eq : stepW w0 ⟨0, 0, hd8⟩ = stepW (stepW w0 (textE mqtt)) (numE 1 5) := by
  unfold textE
  rw [if_pos mqtt_ok]
  rfl
theorem wrK1_r (p : Pk) : wrK1 p = stepW (stepW (stepW (stepW (stepW w0 ⟨0, 0, hd8⟩) (numE 1 (flK p : Nat))) (numE 2 p.keep)) ⟨0, 0, (encR 1 p.props).L⟩) (textE p.client) := by
  unfold wrK1
  rw [hd8_eq]
section
variable {w w' : World} {g : Nat} {V : EV}
theorem rwdo_hd8 (h : RWObj w g w0) : Calls Tryz.prog 32 #[.pointer (some ⟨g, 0, none⟩), .agg #[.int .i64 8, .int .i64 0, .string ⟨#[0, 4, 77, 81, 84, 84, 5]⟩]] w fun x w' => x = .returned (.tuple #[]) ∧ RWNext w w' g (stepW w0 ⟨0, 0, hd8⟩) := rwdo_raw h (Nat.zero_le _) hd8 (by decide)
theorem rwdo_text8 (h : RWObj w g V) (hl : V.L.length ≤ 900000) (s : ByteArray) (hs : s.size ≤ 65535) : Calls Tryz.prog 32 #[.pointer (some ⟨g, 0, none⟩), .agg #[.int .i64 6, .int .i64 0, .string s]] w fun x w' => x = .returned (.tuple #[]) ∧ RWNext w w' g (stepW V (textE s)) := by
  have h := rwdo_any h hl ⟨6, 0, s⟩ hs
  rw [encA_6] at h
  exact h
theorem rwdo_bin8 (h : RWObj w g V) (hl : V.L.length ≤ 900000) (s : ByteArray) (hs : s.size ≤ 65535) : Calls Tryz.prog 32 #[.pointer (some ⟨g, 0, none⟩), .agg #[.int .i64 7, .int .i64 0, .string s]] w fun x w' => x = .returned (.tuple #[]) ∧ RWNext w w' g (stepW V (binE s)) := by
  have h := rwdo_any h hl ⟨7, 0, s⟩ hs
  rw [encA_7] at h
  exact h
end
set_option maxHeartbeats 16000000 in
theorem renc08_bad {w : World} {A : PkA} {p : Pk} (h : PkIn w w.heap.size A p) (hS : SmK p) (hw : p.wHas = true) (hb : p.wQos < 0 ∨ 3 < p.wQos) : Calls Tryz.prog 8 #[p.agg A] w (FrF w (enK p)) := by
  obtain ⟨z, hT, hz26, hz⟩ := tyP_ex
  obtain ⟨q, hq⟩ : ∃ q, q = enK p := ⟨_, rfl⟩
  rw [← hq]
  obtain ⟨c, hc⟩ : ∃ c, c = p.cells A := ⟨_, rfl⟩
  rw [show p.agg A = .agg c from by rw [hc]; rfl]
  have HG3 := Lib.hid (show c[3]? = some (.slice A.pa p.props.length A.pc) by rw [hc]; rfl)
  have HG5 := Lib.hid (show c[5]? = some (.int .i64 p.keep) by rw [hc]; rfl)
  have HG6 := Lib.hid (show c[6]? = some (.string p.client) by rw [hc]; rfl)
  have HG7 := Lib.hid (show c[7]? = some (.bool true) by rw [hc, ← hw]; rfl)
  have HG8 := Lib.hid (show c[8]? = some (.string p.wTopic) by rw [hc]; rfl)
  have HG9 := Lib.hid (show c[9]? = some (.string p.wPay) by rw [hc]; rfl)
  have HG10 := Lib.hid (show c[10]? = some (.int .i64 p.wQos) by rw [hc]; rfl)
  have HG12 := Lib.hid (show c[12]? = some (.slice A.wa p.wProps.length A.wc) by rw [hc]; rfl)
  have HT := Lib.hid hT
  have HZS := Lib.hid hz26
  have HCS := Lib.hid (show c.size = z.size by rw [hc, hz26]; rfl)
  have HPR := Lib.hid h.pr
  have HPC := Lib.hid h.pc
  have HWP := Lib.hid h.wr
  have HWC := Lib.hid h.wc
  have HSM := Lib.hid hS
  have HO := Lib.hid (Own.start [] w)
  unfold enK at hq
  rw [if_pos ⟨hw, hb⟩] at hq
  have HQ2 := Lib.hid hq
  generalize p.wQos = qq at *
  clear hT hz26 hz hc h hS hq hw
  go_enter Tryz.func8, Tryz.ntmps8
  go_upto_region 1 with (first | (refine wpo_box (t := 29) HO.out _ rfl rfl rfl ?_; clear HO; rintro k1 W1 hO; have HO := Lib.hid hO; clear hO; simp only [Act.put, List.setIfInBounds_toArray, List.set_cons_zero, List.set_cons_succ]) | (refine wpo_alloc tyF HO.out rfl rfl ?_; clear HO; rintro k2 W2 hO; have HO := Lib.hid hO; clear hO; simp only [Act.put, List.setIfInBounds_toArray, List.set_cons_zero, List.set_cons_succ]) | (refine wpo_alloc tyX HO.out rfl rfl ?_; clear HO; rintro k3 W3 hO; have HO := Lib.hid hO; clear hO; simp only [Act.put, List.setIfInBounds_toArray, List.set_cons_zero, List.set_cons_succ]))
  have x7 : W3.cell? ⟨k1, 7, none⟩ = some (.bool true) := ((HO.out.get 2 rfl).cell 7).trans HG7.out
  have x10 : W3.cell? ⟨k1, 10, none⟩ = some (.int .i64 qq) := ((HO.out.get 2 rfl).cell 10).trans HG10.out
  have hbb : qq < 0 ∨ (¬ qq < 0 ∧ 3 < qq) := by omega
  clear hb
  rcases hbb with h1 | ⟨h1, h2⟩
  · go_upto_region 2 with fail
    clear x7 x10
    go_wp2_with (refine wpo_zero tyF rfl rfl ?_)
    refine (rbad_any 0 _).mono ?_
    rintro x V4 ⟨rfl, hb⟩
    have HB := Lib.hid (HO.out.below hb)
    clear HO hb
    have HO := HB
    clear HB
    go_wp2_with (first | (refine wpo_store (k := k2) HO.out 1 tyF rfl _ _ rfl rfl rfl rfl rfl rfl rfl ?_; clear HO; rintro W4 hO; have HO := Lib.hid hO; clear hO; simp only [Act.put]) | (refine wpo_store (k := k3) HO.out 0 tyX rfl _ _ rfl rfl rfl rfl rfl rfl rfl ?_; clear HO; rintro W5 hO; have HO := Lib.hid hO; clear hO; simp only [Act.put]))
    exact bodyPost_ret (v := .tuple #[.agg #[.int .i64 0, .string ⟨#[]⟩], fltV (2, 129, 0)]) (res_own2 1 0 HO.out tyF tyX rfl rfl rfl rfl rfl rfl rfl) rfl ⟨by rw [HQ2.out] <;> rfl, HO.out.bel⟩
  · go_upto_region 2 with fail
    clear x7 x10
    go_wp2_with (refine wpo_zero tyF rfl rfl ?_)
    refine (rbad_any 0 _).mono ?_
    rintro x V4 ⟨rfl, hb⟩
    have HB := Lib.hid (HO.out.below hb)
    clear HO hb
    have HO := HB
    clear HB
    go_wp2_with (first | (refine wpo_store (k := k2) HO.out 1 tyF rfl _ _ rfl rfl rfl rfl rfl rfl rfl ?_; clear HO; rintro W4 hO; have HO := Lib.hid hO; clear hO; simp only [Act.put]) | (refine wpo_store (k := k3) HO.out 0 tyX rfl _ _ rfl rfl rfl rfl rfl rfl rfl ?_; clear HO; rintro W5 hO; have HO := Lib.hid hO; clear hO; simp only [Act.put]))
    exact bodyPost_ret (v := .tuple #[.agg #[.int .i64 0, .string ⟨#[]⟩], fltV (2, 129, 0)]) (res_own2 1 0 HO.out tyF tyX rfl rfl rfl rfl rfl rfl rfl) rfl ⟨by rw [HQ2.out] <;> rfl, HO.out.bel⟩
set_option maxHeartbeats 16000000 in
theorem renc08_p0 {w : World} {A : PkA} {p : Pk} (h : PkIn w w.heap.size A p) (hS : SmK p) (hw : p.wHas = false) (hn1 : ¬ (encR 1 p.props).no = 0) : Calls Tryz.prog 8 #[p.agg A] w (FrF w (enK p)) := by
  obtain ⟨z, hT, hz26, hz⟩ := tyP_ex
  obtain ⟨q, hq⟩ : ∃ q, q = enK p := ⟨_, rfl⟩
  rw [← hq]
  obtain ⟨c, hc⟩ : ∃ c, c = p.cells A := ⟨_, rfl⟩
  rw [show p.agg A = .agg c from by rw [hc]; rfl]
  have HG3 := Lib.hid (show c[3]? = some (.slice A.pa p.props.length A.pc) by rw [hc]; rfl)
  have HG5 := Lib.hid (show c[5]? = some (.int .i64 p.keep) by rw [hc]; rfl)
  have HG6 := Lib.hid (show c[6]? = some (.string p.client) by rw [hc]; rfl)
  have HG7 := Lib.hid (show c[7]? = some (.bool false) by rw [hc, ← hw]; rfl)
  have HT := Lib.hid hT
  have HZS := Lib.hid hz26
  have HCS := Lib.hid (show c.size = z.size by rw [hc, hz26]; rfl)
  have HPR := Lib.hid h.pr
  have HPC := Lib.hid h.pc
  have HWP := Lib.hid h.wr
  have HWC := Lib.hid h.wc
  have HSM := Lib.hid hS
  have HO := Lib.hid (Own.start [] w)
  unfold enK at hq
  rw [if_neg (fun hh => by rw [hw] at hh; exact absurd hh.1 (by decide)), if_neg hn1] at hq
  have HQ0 := Lib.hid hq
  clear hT hz26 hz hc h hS hq hw
  go_enter Tryz.func8, Tryz.ntmps8
  go_upto_region 1 with (first | (refine wpo_box (t := 29) HO.out _ rfl rfl rfl ?_; clear HO; rintro k1 W1 hO; have HO := Lib.hid hO; clear hO; simp only [Act.put, List.setIfInBounds_toArray, List.set_cons_zero, List.set_cons_succ]) | (refine wpo_alloc tyF HO.out rfl rfl ?_; clear HO; rintro k2 W2 hO; have HO := Lib.hid hO; clear hO; simp only [Act.put, List.setIfInBounds_toArray, List.set_cons_zero, List.set_cons_succ]) | (refine wpo_alloc tyX HO.out rfl rfl ?_; clear HO; rintro k3 W3 hO; have HO := Lib.hid hO; clear hO; simp only [Act.put, List.setIfInBounds_toArray, List.set_cons_zero, List.set_cons_succ]))
  have x7 : W3.cell? ⟨k1, 7, none⟩ = some (.bool false) := ((HO.out.get 2 rfl).cell 7).trans HG7.out
  go_upto_region 3 with fail
  clear x7
  have HEN := Lib.hid (rencode_any 1 p.props.length A.pc rfl ((HPR.out.below HO.out.bel).mono HO.out.size) HSM.out.1 HPC.out)
  have hEl : (encR 1 p.props).L.length ≤ 63844 := encR_len HSM.out.1
  obtain ⟨E, hE⟩ : ∃ E, E = encR 1 p.props := ⟨_, rfl⟩
  rw [← hE] at HEN hEl HQ0 hn1
  have HEL := Lib.hid hEl
  have HEE := Lib.hid hE
  clear hE hEl
  go_wp2_with (refine wpo_ldc (HO.out.get 2 rfl) tyL _ rfl rfl rfl HG3.out ?_)
  refine HEN.out.mono ?_
  rintro x V4 ⟨no, fr, fa, rfl, hno, hra, hb⟩
  have HB := Lib.hid (HO.out.below hb)
  clear HO hb HEN
  have HO := HB
  clear HB
  have HNO := Lib.hid hno
  have HRA := Lib.hid hra
  clear hno hra
  go_upto_region 4 with (first | (refine wpo_alloc tyX HO.out rfl rfl ?_; clear HO; rintro k5 W5 hO; have HO := Lib.hid hO; clear hO; simp only [Act.put, List.setIfInBounds_toArray, List.set_cons_zero, List.set_cons_succ]) | (refine wpo_store (k := k5) HO.out 0 tyX rfl _ _ rfl rfl rfl rfl rfl rfl rfl ?_; clear HO; rintro W6 hO; have HO := Lib.hid hO; clear hO; simp only [Act.put]))
  have hn0 : ¬ no = 0 := by rw [HNO.out]; exact hn1
  have hq := HQ0.out
  obtain ⟨e1, e2⟩ := HRA.out (by rw [← HNO.out]; exact hn0)
  subst e1 e2
  have HQ2 := Lib.hid (show q = ⟨⟨no, E.r, E.at_⟩, 0, ⟨#[]⟩⟩ by rw [hq, HNO.out])
  have hni : ¬ (no : Int) = 0 := by omega
  clear hq HQ0 HRA HNO hn0 hn1
  go_upto_region 5 with (refine wpo_ldc (HO.out.get 0 rfl) tyE _ rfl rfl rfl rfl ?_)
  refine wpo_y2 (yA := (k2, 33, #[.int .i64 0, .string ⟨#[]⟩])) (yB := (k3, 40, #[.int .i64 (no : Int), .int .i64 E.r, .int .i64 (E.at_ : Int)])) [(40, .agg #[.int .i64 0, .string ⟨#[]⟩]), (41, .agg #[.int .i64 (no : Int), .int .i64 E.r, .int .i64 (E.at_ : Int)])] 2 1 mixed (by kernel_rfl) HO.out rfl rfl (by decide) (fun _ _ _ _ _ h => h) ?_ rfl rfl ?_ ?_ ?_
  · refine ⟨⟨_, rfl, rfl, yo_zero rfl tyF rfl⟩, ?_⟩
    simp only [Act.put, List.setIfInBounds_toArray, List.set_cons_zero, List.set_cons_succ]
    refine ⟨⟨_, rfl, rfl, yo_load rfl tyX (fun _ h => h.get 0 (by decide) (by decide) rfl) rfl _ rfl rfl⟩, ?_⟩
    exact trivial
  · simp only [putD, Act.put, List.setIfInBounds_toArray, List.set_cons_zero, List.set_cons_succ]
    exact sto_row tyF _ _ rfl rfl rfl rfl rfl rfl rfl rfl
  · simp only [putD, Act.put, List.setIfInBounds_toArray, List.set_cons_zero, List.set_cons_succ]
    exact sto_row tyX _ _ rfl rfl rfl rfl rfl rfl rfl rfl
  intro WjB hO
  clear HO
  have HO := Lib.hid hO
  clear hO
  simp only [putD, Act.put, List.setIfInBounds_toArray, List.set_cons_zero, List.set_cons_succ]
  go_wp2_with fail
  exact bodyPost_ret (v := .tuple #[.agg #[.int .i64 0, .string ⟨#[]⟩], fltV (no, E.r, E.at_)]) (res_own2 2 1 HO.out tyF tyX rfl rfl rfl rfl rfl rfl rfl) rfl ⟨by rw [HQ2.out] <;> rfl, HO.out.bel⟩
set_option maxHeartbeats 16000000 in
theorem renc08_p1 {w : World} {A : PkA} {p : Pk} (h : PkIn w w.heap.size A p) (hS : SmK p) (hw : p.wHas = true) (hq0 : ¬ p.wQos < 0) (hq3 : ¬ 3 < p.wQos) (hn1 : ¬ (encR 1 p.props).no = 0) : Calls Tryz.prog 8 #[p.agg A] w (FrF w (enK p)) := by
  obtain ⟨z, hT, hz26, hz⟩ := tyP_ex
  obtain ⟨q, hq⟩ : ∃ q, q = enK p := ⟨_, rfl⟩
  rw [← hq]
  obtain ⟨c, hc⟩ : ∃ c, c = p.cells A := ⟨_, rfl⟩
  rw [show p.agg A = .agg c from by rw [hc]; rfl]
  have HG3 := Lib.hid (show c[3]? = some (.slice A.pa p.props.length A.pc) by rw [hc]; rfl)
  have HG5 := Lib.hid (show c[5]? = some (.int .i64 p.keep) by rw [hc]; rfl)
  have HG6 := Lib.hid (show c[6]? = some (.string p.client) by rw [hc]; rfl)
  have HG7 := Lib.hid (show c[7]? = some (.bool true) by rw [hc, ← hw]; rfl)
  have HG8 := Lib.hid (show c[8]? = some (.string p.wTopic) by rw [hc]; rfl)
  have HG9 := Lib.hid (show c[9]? = some (.string p.wPay) by rw [hc]; rfl)
  have HG10 := Lib.hid (show c[10]? = some (.int .i64 p.wQos) by rw [hc]; rfl)
  have HG12 := Lib.hid (show c[12]? = some (.slice A.wa p.wProps.length A.wc) by rw [hc]; rfl)
  have HT := Lib.hid hT
  have HZS := Lib.hid hz26
  have HCS := Lib.hid (show c.size = z.size by rw [hc, hz26]; rfl)
  have HPR := Lib.hid h.pr
  have HPC := Lib.hid h.pc
  have HWP := Lib.hid h.wr
  have HWC := Lib.hid h.wc
  have HSM := Lib.hid hS
  have HO := Lib.hid (Own.start [] w)
  unfold enK at hq
  rw [if_neg (fun hh => by rcases hh.2 with hh | hh; exact hq0 hh; exact hq3 hh), if_neg hn1] at hq
  have HQ0 := Lib.hid hq
  generalize p.wQos = qq at *
  clear hT hz26 hz hc h hS hq hw
  go_enter Tryz.func8, Tryz.ntmps8
  go_upto_region 1 with (first | (refine wpo_box (t := 29) HO.out _ rfl rfl rfl ?_; clear HO; rintro k1 W1 hO; have HO := Lib.hid hO; clear hO; simp only [Act.put, List.setIfInBounds_toArray, List.set_cons_zero, List.set_cons_succ]) | (refine wpo_alloc tyF HO.out rfl rfl ?_; clear HO; rintro k2 W2 hO; have HO := Lib.hid hO; clear hO; simp only [Act.put, List.setIfInBounds_toArray, List.set_cons_zero, List.set_cons_succ]) | (refine wpo_alloc tyX HO.out rfl rfl ?_; clear HO; rintro k3 W3 hO; have HO := Lib.hid hO; clear hO; simp only [Act.put, List.setIfInBounds_toArray, List.set_cons_zero, List.set_cons_succ]))
  have x7 : W3.cell? ⟨k1, 7, none⟩ = some (.bool true) := ((HO.out.get 2 rfl).cell 7).trans HG7.out
  have x10 : W3.cell? ⟨k1, 10, none⟩ = some (.int .i64 qq) := ((HO.out.get 2 rfl).cell 10).trans HG10.out
  go_upto_region 3 with fail
  clear x7 x10 hq0 hq3
  have HEN := Lib.hid (rencode_any 1 p.props.length A.pc rfl ((HPR.out.below HO.out.bel).mono HO.out.size) HSM.out.1 HPC.out)
  have hEl : (encR 1 p.props).L.length ≤ 63844 := encR_len HSM.out.1
  obtain ⟨E, hE⟩ : ∃ E, E = encR 1 p.props := ⟨_, rfl⟩
  rw [← hE] at HEN hEl HQ0 hn1
  have HEL := Lib.hid hEl
  have HEE := Lib.hid hE
  clear hE hEl
  go_wp2_with (refine wpo_ldc (HO.out.get 2 rfl) tyL _ rfl rfl rfl HG3.out ?_)
  refine HEN.out.mono ?_
  rintro x V4 ⟨no, fr, fa, rfl, hno, hra, hb⟩
  have HB := Lib.hid (HO.out.below hb)
  clear HO hb HEN
  have HO := HB
  clear HB
  have HNO := Lib.hid hno
  have HRA := Lib.hid hra
  clear hno hra
  go_upto_region 4 with (first | (refine wpo_alloc tyX HO.out rfl rfl ?_; clear HO; rintro k5 W5 hO; have HO := Lib.hid hO; clear hO; simp only [Act.put, List.setIfInBounds_toArray, List.set_cons_zero, List.set_cons_succ]) | (refine wpo_store (k := k5) HO.out 0 tyX rfl _ _ rfl rfl rfl rfl rfl rfl rfl ?_; clear HO; rintro W6 hO; have HO := Lib.hid hO; clear hO; simp only [Act.put]))
  have hn0 : ¬ no = 0 := by rw [HNO.out]; exact hn1
  have hq := HQ0.out
  obtain ⟨e1, e2⟩ := HRA.out (by rw [← HNO.out]; exact hn0)
  subst e1 e2
  have HQ2 := Lib.hid (show q = ⟨⟨no, E.r, E.at_⟩, 0, ⟨#[]⟩⟩ by rw [hq, HNO.out])
  have hni : ¬ (no : Int) = 0 := by omega
  clear hq HQ0 HRA HNO hn0 hn1
  go_upto_region 5 with (refine wpo_ldc (HO.out.get 0 rfl) tyE _ rfl rfl rfl rfl ?_)
  refine wpo_y2 (yA := (k2, 33, #[.int .i64 0, .string ⟨#[]⟩])) (yB := (k3, 40, #[.int .i64 (no : Int), .int .i64 E.r, .int .i64 (E.at_ : Int)])) [(40, .agg #[.int .i64 0, .string ⟨#[]⟩]), (41, .agg #[.int .i64 (no : Int), .int .i64 E.r, .int .i64 (E.at_ : Int)])] 2 1 mixed (by kernel_rfl) HO.out rfl rfl (by decide) (fun _ _ _ _ _ h => h) ?_ rfl rfl ?_ ?_ ?_
  · refine ⟨⟨_, rfl, rfl, yo_zero rfl tyF rfl⟩, ?_⟩
    simp only [Act.put, List.setIfInBounds_toArray, List.set_cons_zero, List.set_cons_succ]
    refine ⟨⟨_, rfl, rfl, yo_load rfl tyX (fun _ h => h.get 0 (by decide) (by decide) rfl) rfl _ rfl rfl⟩, ?_⟩
    exact trivial
  · simp only [putD, Act.put, List.setIfInBounds_toArray, List.set_cons_zero, List.set_cons_succ]
    exact sto_row tyF _ _ rfl rfl rfl rfl rfl rfl rfl rfl
  · simp only [putD, Act.put, List.setIfInBounds_toArray, List.set_cons_zero, List.set_cons_succ]
    exact sto_row tyX _ _ rfl rfl rfl rfl rfl rfl rfl rfl
  intro WjB hO
  clear HO
  have HO := Lib.hid hO
  clear hO
  simp only [putD, Act.put, List.setIfInBounds_toArray, List.set_cons_zero, List.set_cons_succ]
  go_wp2_with fail
  exact bodyPost_ret (v := .tuple #[.agg #[.int .i64 0, .string ⟨#[]⟩], fltV (no, E.r, E.at_)]) (res_own2 2 1 HO.out tyF tyX rfl rfl rfl rfl rfl rfl rfl) rfl ⟨by rw [HQ2.out] <;> rfl, HO.out.bel⟩
set_option maxHeartbeats 16000000 in
theorem renc08_w {w : World} {A : PkA} {p : Pk} (h : PkIn w w.heap.size A p) (hS : SmK p) (hw : p.wHas = true) (hq0 : ¬ p.wQos < 0) (hq3 : ¬ 3 < p.wQos) (hn1 : (encR 1 p.props).no = 0) (hn2 : ¬ (encR 16 p.wProps).no = 0) : Calls Tryz.prog 8 #[p.agg A] w (FrF w (enK p)) := by
  obtain ⟨z, hT, hz26, hz⟩ := tyP_ex
  obtain ⟨q, hq⟩ : ∃ q, q = enK p := ⟨_, rfl⟩
  rw [← hq]
  obtain ⟨c, hc⟩ : ∃ c, c = p.cells A := ⟨_, rfl⟩
  rw [show p.agg A = .agg c from by rw [hc]; rfl]
  have HG3 := Lib.hid (show c[3]? = some (.slice A.pa p.props.length A.pc) by rw [hc]; rfl)
  have HG5 := Lib.hid (show c[5]? = some (.int .i64 p.keep) by rw [hc]; rfl)
  have HG6 := Lib.hid (show c[6]? = some (.string p.client) by rw [hc]; rfl)
  have HG7 := Lib.hid (show c[7]? = some (.bool true) by rw [hc, ← hw]; rfl)
  have HG8 := Lib.hid (show c[8]? = some (.string p.wTopic) by rw [hc]; rfl)
  have HG9 := Lib.hid (show c[9]? = some (.string p.wPay) by rw [hc]; rfl)
  have HG10 := Lib.hid (show c[10]? = some (.int .i64 p.wQos) by rw [hc]; rfl)
  have HG12 := Lib.hid (show c[12]? = some (.slice A.wa p.wProps.length A.wc) by rw [hc]; rfl)
  have HT := Lib.hid hT
  have HZS := Lib.hid hz26
  have HCS := Lib.hid (show c.size = z.size by rw [hc, hz26]; rfl)
  have HPR := Lib.hid h.pr
  have HPC := Lib.hid h.pc
  have HWP := Lib.hid h.wr
  have HWC := Lib.hid h.wc
  have HSM := Lib.hid hS
  have HO := Lib.hid (Own.start [] w)
  unfold enK at hq
  rw [if_neg (fun hh => by rcases hh.2 with hh | hh; exact hq0 hh; exact hq3 hh), if_pos hn1, if_pos ⟨hw, hn2⟩] at hq
  have HQ0 := Lib.hid hq
  generalize p.wQos = qq at *
  clear hT hz26 hz hc h hS hq hw
  go_enter Tryz.func8, Tryz.ntmps8
  go_upto_region 1 with (first | (refine wpo_box (t := 29) HO.out _ rfl rfl rfl ?_; clear HO; rintro k1 W1 hO; have HO := Lib.hid hO; clear hO; simp only [Act.put, List.setIfInBounds_toArray, List.set_cons_zero, List.set_cons_succ]) | (refine wpo_alloc tyF HO.out rfl rfl ?_; clear HO; rintro k2 W2 hO; have HO := Lib.hid hO; clear hO; simp only [Act.put, List.setIfInBounds_toArray, List.set_cons_zero, List.set_cons_succ]) | (refine wpo_alloc tyX HO.out rfl rfl ?_; clear HO; rintro k3 W3 hO; have HO := Lib.hid hO; clear hO; simp only [Act.put, List.setIfInBounds_toArray, List.set_cons_zero, List.set_cons_succ]))
  have x7 : W3.cell? ⟨k1, 7, none⟩ = some (.bool true) := ((HO.out.get 2 rfl).cell 7).trans HG7.out
  have x10 : W3.cell? ⟨k1, 10, none⟩ = some (.int .i64 qq) := ((HO.out.get 2 rfl).cell 10).trans HG10.out
  go_upto_region 3 with fail
  clear x7 x10 hq0 hq3
  have HEN := Lib.hid (rencode_any 1 p.props.length A.pc rfl ((HPR.out.below HO.out.bel).mono HO.out.size) HSM.out.1 HPC.out)
  have hEl : (encR 1 p.props).L.length ≤ 63844 := encR_len HSM.out.1
  obtain ⟨E, hE⟩ : ∃ E, E = encR 1 p.props := ⟨_, rfl⟩
  rw [← hE] at HEN hEl hn1
  have HEL := Lib.hid hEl
  have HEE := Lib.hid hE
  clear hE hEl
  go_wp2_with (refine wpo_ldc (HO.out.get 2 rfl) tyL _ rfl rfl rfl HG3.out ?_)
  refine HEN.out.mono ?_
  rintro x V4 ⟨no, fr, fa, rfl, hno, hra, hb⟩
  have HB := Lib.hid (HO.out.below hb)
  clear HO hb HEN
  have HO := HB
  clear HB
  have HNO := Lib.hid hno
  have HRA := Lib.hid hra
  clear hno hra
  go_upto_region 4 with (first | (refine wpo_alloc tyX HO.out rfl rfl ?_; clear HO; rintro k5 W5 hO; have HO := Lib.hid hO; clear hO; simp only [Act.put, List.setIfInBounds_toArray, List.set_cons_zero, List.set_cons_succ]) | (refine wpo_store (k := k5) HO.out 0 tyX rfl _ _ rfl rfl rfl rfl rfl rfl rfl ?_; clear HO; rintro W6 hO; have HO := Lib.hid hO; clear hO; simp only [Act.put]))
  have hn0 : no = 0 := by rw [HNO.out]; exact hn1
  subst hn0
  clear HNO HRA hn1
  have HEN2 := Lib.hid (rencode_any 16 p.wProps.length A.wc rfl ((HWP.out.below HO.out.bel).mono HO.out.size) HSM.out.2.1 HWC.out)
  have hEl : (encR 16 p.wProps).L.length ≤ 63844 := encR_len HSM.out.2.1
  obtain ⟨D, hD⟩ : ∃ E, E = encR 16 p.wProps := ⟨_, rfl⟩
  rw [← hD] at HEN2 hEl HQ0 hn2
  have HDL := Lib.hid hEl
  have HDD := Lib.hid hD
  clear hD hEl
  go_wp2_with (first | (refine wpo_ldc (HO.out.get 0 rfl) tyE _ rfl rfl rfl rfl ?_) | (refine wpo_ldc (HO.out.get 3 rfl) tyB _ rfl rfl rfl HG7.out ?_) | (refine wpo_ldc (HO.out.get 3 rfl) tyL _ rfl rfl rfl HG12.out ?_))
  refine HEN2.out.mono ?_
  rintro x V7 ⟨no, fr2, fa2, rfl, hno, hra, hb⟩
  have HB := Lib.hid (HO.out.below hb)
  clear HO hb HEN2
  have HO := HB
  clear HB
  have HNO := Lib.hid hno
  have HRA := Lib.hid hra
  clear hno hra
  go_upto_region 9 with (first | (refine wpo_alloc tyX HO.out rfl rfl ?_; clear HO; rintro k8 W7 hO; have HO := Lib.hid hO; clear hO; simp only [Act.put, List.setIfInBounds_toArray, List.set_cons_zero, List.set_cons_succ]) | (refine wpo_store (k := k8) HO.out 0 tyX rfl _ _ rfl rfl rfl rfl rfl rfl rfl ?_; clear HO; rintro W8 hO; have HO := Lib.hid hO; clear hO; simp only [Act.put]))
  have hn0 : ¬ no = 0 := by rw [HNO.out]; exact hn2
  have hq := HQ0.out
  obtain ⟨e1, e2⟩ := HRA.out (by rw [← HNO.out]; exact hn0)
  subst e1 e2
  have HQ2 := Lib.hid (show q = ⟨⟨no, D.r, D.at_⟩, 0, ⟨#[]⟩⟩ by rw [hq, HNO.out])
  have hni : ¬ (no : Int) = 0 := by omega
  clear hq HQ0 HRA HNO hn0 hn2
  go_upto_region 10 with (refine wpo_ldc (HO.out.get 0 rfl) tyE _ rfl rfl rfl rfl ?_)
  refine wpo_y2 (yA := (k2, 33, #[.int .i64 0, .string ⟨#[]⟩])) (yB := (k3, 40, #[.int .i64 (no : Int), .int .i64 D.r, .int .i64 (D.at_ : Int)])) [(55, .agg #[.int .i64 0, .string ⟨#[]⟩]), (56, .agg #[.int .i64 (no : Int), .int .i64 D.r, .int .i64 (D.at_ : Int)])] 3 2 mixed (by kernel_rfl) HO.out rfl rfl (by decide) (fun _ _ _ _ _ h => h) ?_ rfl rfl ?_ ?_ ?_
  · refine ⟨⟨_, rfl, rfl, yo_zero rfl tyF rfl⟩, ?_⟩
    simp only [Act.put, List.setIfInBounds_toArray, List.set_cons_zero, List.set_cons_succ]
    refine ⟨⟨_, rfl, rfl, yo_load rfl tyX (fun _ h => h.get 0 (by decide) (by decide) rfl) rfl _ rfl rfl⟩, ?_⟩
    exact trivial
  · simp only [putD, Act.put, List.setIfInBounds_toArray, List.set_cons_zero, List.set_cons_succ]
    exact sto_row tyF _ _ rfl rfl rfl rfl rfl rfl rfl rfl
  · simp only [putD, Act.put, List.setIfInBounds_toArray, List.set_cons_zero, List.set_cons_succ]
    exact sto_row tyX _ _ rfl rfl rfl rfl rfl rfl rfl rfl
  intro WjB hO
  clear HO
  have HO := Lib.hid hO
  clear hO
  simp only [putD, Act.put, List.setIfInBounds_toArray, List.set_cons_zero, List.set_cons_succ]
  go_wp2_with fail
  exact bodyPost_ret (v := .tuple #[.agg #[.int .i64 0, .string ⟨#[]⟩], fltV (no, D.r, D.at_)]) (res_own2 3 2 HO.out tyF tyX rfl rfl rfl rfl rfl rfl rfl) rfl ⟨by rw [HQ2.out] <;> rfl, HO.out.bel⟩
end Go.Proofs.YtfkimpcaokgldaaGreatDoor
