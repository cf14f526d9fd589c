/- What is proved here: Encode of package connect tells what a plain function says. Conditions: few bytes, the packet's parts stand where it says; what the rows list of the package's variables. -/
import Derived.Test.YtbfbmdjnobdjpaaGreatDoorEnk08
namespace Go.Proofs.YtbfbmdjnobdjpaaGreatDoor
set_option maxRecDepth 100000
open Go.ChangeShapes Go.WideShapes Go.RowKit Go.Deep Go.Extern.Stop Go.Stop Go.Extern
section
variable {w w' : World} {S : Nat → Addr} {A : PkA} {p : Pk} {s : ByteArray}
set_option maxHeartbeats 32000000 in
theorem enc08_yes (hE : Env w S) (h : PkIn w w.heap.size A p) (hS : SmK p) (hw : p.wHas = true) (hq1 : ¬ p.wQos < 0) (hq2 : ¬ 3 < p.wQos) : Calls Tryz.prog 14 #[p.agg A] w (FrSays w S (enK p)) := by
  obtain ⟨q, hq⟩ : ∃ q, q = enK p := ⟨_, rfl⟩
  rw [← hq]
  unfold enK at hq
  have hfl := fun W (hh : p.wHas = true → 0 ≤ p.wQos ∧ p.wQos ≤ 3) => flg08 A p hh W
  obtain ⟨c, hc⟩ : ∃ c, c = p.cells A := ⟨_, rfl⟩
  rw [show p.agg A = .agg c from by rw [hc]; rfl] at hfl ⊢
  have HCS := Lib.hid (show c.size = 26 by rw [hc]; rfl)
  have HC3 := Lib.hid (show c[3]? = some (.slice A.pa p.props.length A.pc) by rw [hc]; rfl)
  have HC5 := Lib.hid (show c[5]? = some (.int .i64 p.keep) by rw [hc]; rfl)
  have HC6 := Lib.hid (show c[6]? = some (.string p.client) by rw [hc]; rfl)
  have HC7 := Lib.hid (show c[7]? = some (.bool p.wHas) by rw [hc]; rfl)
  have HC8 := Lib.hid (show c[8]? = some (.string p.wTopic) by rw [hc]; rfl)
  have HC9 := Lib.hid (show c[9]? = some (.string p.wPay) by rw [hc]; rfl)
  have HC10 := Lib.hid (show c[10]? = some (.int .i64 p.wQos) by rw [hc]; rfl)
  have HC12 := Lib.hid (show c[12]? = some (.slice A.wa p.wProps.length A.wc) by rw [hc]; rfl)
  have HC13 := Lib.hid (show c[13]? = some (.bool p.hasUser) by rw [hc]; rfl)
  have HC14 := Lib.hid (show c[14]? = some (.string p.user) by rw [hc]; rfl)
  have HC15 := Lib.hid (show c[15]? = some (.bool p.hasPass) by rw [hc]; rfl)
  have HC16 := Lib.hid (show c[16]? = some (.string p.pass) by rw [hc]; rfl)
  obtain ⟨W2, hW2⟩ : ∃ W, W = (w.alloc (.cells c 29)).alloc (.cells #[.int .i64 0, .string ⟨#[]⟩] 33) := ⟨_, rfl⟩
  have a1 : Below w.heap.size w (w.alloc (.cells c 29)) := (Below.refl _ _).alloc (Nat.le_refl _) _
  have hb2 : Below w.heap.size w W2 := by rw [hW2]; exact a1.trans (((Below.refl (w.alloc (.cells c 29)).heap.size _).alloc (Nat.le_refl _) (.cells #[.int .i64 0, .string ⟨#[]⟩] 33)).mono a1.size)
  have r0 : Blk W2 w.heap.size 29 c := by
    rw [hW2]; exact (Blk.made w 29 c).alloc (.cells #[.int .i64 0, .string ⟨#[]⟩] 33)
  have r1 : Blk W2 (w.heap.size + 1) 33 #[.int .i64 0, .string ⟨#[]⟩] := by
    have h := Blk.made (w.alloc (.cells c 29)) 33 #[.int .i64 0, .string ⟨#[]⟩]
    rw [World.size_alloc] at h
    rw [hW2]; exact h
  have k7 : W2.cell? ⟨w.heap.size, 7, none⟩ = some (.bool p.wHas) := (r0.cell 7).trans HC7.out
  have k10 : W2.cell? ⟨w.heap.size, 10, none⟩ = some (.int .i64 p.wQos) := (r0.cell 10).trans HC10.out
  have k3 : W2.cell? ⟨w.heap.size, 3, none⟩ = some (.slice A.pa p.props.length A.pc) := (r0.cell 3).trans HC3.out
  rw [if_neg (fun hh => by rcases hh.2 with hh | hh <;> omega)] at hq
  have HFL := Lib.hid (fun W => hfl W fun _ => ⟨by omega, by omega⟩)
  have hln := wrK_len hS.1 hS.2.1 hS.2.2.1 hS.2.2.2.1 hS.2.2.2.2.1 hS.2.2.2.2.2.1 hS.2.2.2.2.2.2
  have hec := encode_any (hE.later hb2) 1 p.props.length A.pc rfl ((h.pr.below hb2).mono hb2.size) hS.1 h.pc
  have hel := encR_len (k := 1) hS.1
  have HEW := Lib.hid (fun (W1 : World) (hb : Below w.heap.size w W1) => encode_any (hE.later hb) 16 p.wProps.length A.wc rfl ((h.wr.below hb).mono hb.size) hS.2.1 h.wc)
  have HELW := Lib.hid (encR_len (k := 16) hS.2.1)
  have hw1 : wrK1 p = stepW (stepW (stepW (stepW (stepW (stepW w0 (textE mqtt)) (numE 1 5)) (numE 1 (flK p : Nat))) (numE 2 p.keep)) ⟨0, 0, (encR 1 p.props).L⟩) (textE p.client) := rfl
  obtain ⟨⟨en, er, ea, eb⟩, hE2⟩ : ∃ E, E = encR 1 p.props := ⟨_, rfl⟩
  rw [← hE2] at hq hec hel hw1
  simp only at hec hel hq hw1
  obtain ⟨fl, hflk⟩ : ∃ f, f = flK p := ⟨_, rfl⟩
  have HFK := Lib.hid (show fl < 1000 by
    have := (fl_cases (p := p) (fun hh => by rcases hh.2 with hh | hh <;> omega)).1
    omega)
  rw [← hflk] at HFL hw1
  have HEC := Lib.hid hec
  have HEL := Lib.hid hel
  have HQ := Lib.hid hq
  have HLN := Lib.hid hln
  have HSM := Lib.hid hS
  have HE := Lib.hid hE
  have HW1 := Lib.hid hw1
  have HW2 := Lib.hid hW2
  have HB2 := Lib.hid hb2
  have R0 := Lib.hid r0
  have R1 := Lib.hid r1
  have HWH := Lib.hid hw
  rw [hw] at k7 HC7
  clear hq hc a1 hb2 r0 r1 hE h hS hW2 hfl hln hec hel hE2 hflk hw1 hw HC3
  go_enter Tryz.func14, Tryz.ntmps14
  go_upto_region 1 with (refine wpk_box HCS.out _ rfl rfl rfl ?_)
  rw [← HW2.out]
  go_wp2_with fail
  refine HEC.out.mono ?_
  rintro x w3 ⟨e3, rfl, he3, hb3⟩
  simp only at he3 ⊢
  have R03 := Lib.hid (R0.out.below hb3 R0.out.lt)
  have R13 := Lib.hid (R1.out.below hb3 R1.out.lt)
  have HB3 := Lib.hid (HB2.out.trans (hb3.mono HB2.out.size))
  clear k3 k7 k10 HEC R0 R1 hb3 HB2 HW2 hq1 hq2
  by_cases h0 : en = 0
  rotate_left
  · have hq := HQ.out
    rw [if_neg h0] at hq
    obtain ⟨te, ue, rfl⟩ := err_iface he3 h0
    obtain ⟨⟨z0, z1, y0, y1⟩, ⟨z2, y2⟩, ⟨f0, f1⟩, ferr⟩ := fr_facts (S := S) R13.out (.int .i64 0) (.string ⟨#[]⟩)
    have hbf := (HB3.out.setCell (p := ⟨w.heap.size + 1, 0, none⟩) (by show w.heap.size ≤ w.heap.size + 1; omega) (.int .i64 0)).setCell (p := ⟨w.heap.size + 1, 1, none⟩) (by show w.heap.size ≤ w.heap.size + 1; omega) (.string ⟨#[]⟩)
    have HX := Lib.hid (show FrSays w S q (.returned (.tuple #[.agg #[.int .i64 0, .string ⟨#[]⟩], .iface te ue])) _ from by
      rw [hq]
      exact ⟨_, rfl, ferr _ _ _ _ he3, hbf⟩)
    clear ferr hbf he3
    go_wp2
    exact bodyPost_ret (v := .tuple #[.agg #[.int .i64 0, .string ⟨#[]⟩], .iface te ue]) (by simp [results, Tryz.results14, go_sem, f0, f1]) rfl HX.out
  have hq := HQ.out
  rw [if_pos h0] at hq
  unfold ErrOf at he3
  rw [if_pos h0] at he3
  subst he3
  have HQ3 := Lib.hid hq
  obtain ⟨W4, hW4⟩ : ∃ W, W = w3.alloc (.cells #[.slice none 0 0, .nilIface] 65) := ⟨_, rfl⟩
  have b4 : Below w3.heap.size w3 W4 := by rw [hW4]; exact (Below.refl _ _).alloc (Nat.le_refl _) _
  have ho : WObj W4 S w.heap.size w3.heap.size (.slice none 0 0) w0 := by rw [hW4]; exact WObj.made w3 S HB3.out.size
  have hj4 : EnJ w W4 S c w3.heap.size (.slice none 0 0) w0 := ⟨HB3.out.trans (b4.mono HB3.out.size), R03.out.below b4 R03.out.lt, R13.out.below b4 R13.out.lt, ho⟩
  have HJ4 := Lib.hid hj4
  have HTX := Lib.hid (wtext_any (HE.out.later hj4.bel) hj4.wo (by decide) mqtt (by decide))
  have HW4 := Lib.hid hW4
  clear hq b4 ho hW4 hj4 HQ R03 R13 HB3
  go_wp2_with fail
  rw [← HW4.out]
  refine HTX.out.mono ?_
  rintro x w5 ⟨rfl, v5, hn5⟩
  obtain ⟨V5, hV5⟩ : ∃ V, V = stepW w0 (textE mqtt) := ⟨_, rfl⟩
  rw [← hV5] at hn5
  have hl5 : V5.L.length ≤ 10 := by rw [hV5]; decide +kernel
  have hj5 := HJ4.out.step hn5
  have HU := Lib.hid (wu8_any (HE.out.later hj5.bel) hj5.wo (by omega) 5)
  have HL5 := Lib.hid hl5
  have HV5 := Lib.hid hV5
  have HJ5 := Lib.hid hj5
  clear hn5 hV5 hl5 hj5 HTX HJ4 HW4
  go_wp2_with fail
  refine HU.out.mono ?_
  rintro x w6 ⟨rfl, v6, hn6⟩
  obtain ⟨V6, hV6⟩ : ∃ V, V = stepW V5 (numE 1 5) := ⟨_, rfl⟩
  rw [← hV6] at hn6
  have hl6 : V6.L.length ≤ 20 := by
    have h1 := stepW_len V5 (numE 1 5)
    have h2 := numE_len 1 5
    have h3 := HL5.out
    rw [hV6]
    omega
  have hj6 := HJ5.out.step hn6
  have HL6 := Lib.hid hl6
  have HV6 := Lib.hid hV6
  have HJ6 := Lib.hid hj6
  clear hn6 hV6 hl6 hj6 HU HJ5
  go_wp2_with (refine wpk_load HJ6.out.r0 HCS.out _ rfl rfl rfl ?_)
  refine (HFL.out w6).mono ?_
  rintro x w7 ⟨rfl, hb7⟩
  have hj7 := HJ6.out.below hb7
  have HU := Lib.hid (wu8_any (HE.out.later hj7.bel) hj7.wo (by have := HL6.out; omega) (fl : Nat))
  have HJ7 := Lib.hid hj7
  clear hb7 hj7 HJ6
  go_wp2_with fail
  refine HU.out.mono ?_
  rintro x w8 ⟨rfl, v8, hn8⟩
  obtain ⟨V8, hV8⟩ : ∃ V, V = stepW V6 (numE 1 (fl : Nat)) := ⟨_, rfl⟩
  rw [← hV8] at hn8
  have hl8 : V8.L.length ≤ 30 := by
    have h1 := stepW_len V6 (numE 1 (fl : Nat))
    have h2 := numE_len 1 (fl : Nat)
    have h3 := HL6.out
    rw [hV8]
    omega
  have hj8 := HJ7.out.step hn8
  have k5 := hj8.get HC5.out
  have HU2 := Lib.hid (wu16_any (HE.out.later hj8.bel) hj8.wo (by omega) p.keep)
  have HL8 := Lib.hid hl8
  have HV8 := Lib.hid hV8
  have HJ8 := Lib.hid hj8
  clear hn8 hV8 hl8 hj8 HU HJ7
  go_wp2_with fail
  refine HU2.out.mono ?_
  rintro x w9 ⟨rfl, v9, hn9⟩
  obtain ⟨V9, hV9⟩ : ∃ V, V = stepW V8 (numE 2 p.keep) := ⟨_, rfl⟩
  rw [← hV9] at hn9
  have hl9 : V9.L.length ≤ 40 := by
    have h1 := stepW_len V8 (numE 2 p.keep)
    have h2 := numE_len 2 p.keep
    have h3 := HL8.out
    rw [hV9]
    omega
  have hj9 := HJ8.out.step hn9
  have HRW := Lib.hid (wraw_any hj9.wo (by omega) ⟨eb.toArray⟩ (by rw [bsize]; have := HEL.out; omega))
  have HL9 := Lib.hid hl9
  have HV9 := Lib.hid hV9
  have HJ9 := Lib.hid hj9
  clear hn9 hV9 hl9 hj9 HU2 HJ8 k5
  go_wp2_with fail
  refine HRW.out.mono ?_
  rintro x wA ⟨rfl, vA, hnA⟩
  obtain ⟨VA, hVA⟩ : ∃ V, V = stepW V9 ⟨0, 0, eb⟩ := ⟨_, rfl⟩
  rw [← hVA] at hnA
  have hlA : VA.L.length ≤ 65600 := by
    have h1 := stepW_len V9 ⟨0, 0, eb⟩
    have h2 := HEL.out
    have h3 := HL9.out
    rw [hVA]
    simp only at h1
    omega
  have hjA := HJ9.out.step hnA
  have k6 := hjA.get HC6.out
  have HTX := Lib.hid (wtext_any (HE.out.later hjA.bel) hjA.wo (by omega) p.client HSM.out.2.2.1)
  have HVA := Lib.hid hVA
  have HJA := Lib.hid hjA
  clear hnA hVA hlA hjA HRW HJ9
  go_wp2_with fail
  refine HTX.out.mono ?_
  rintro x wB ⟨rfl, vB, hnB⟩
  obtain ⟨VB, hVB⟩ : ∃ V, V = stepW VA (textE p.client) := ⟨_, rfl⟩
  rw [← hVB] at hnB
  have hjB := HJA.out.step hnB
  have eVB : VB = wrK1 p := by rw [hVB, HVA.out, HV9.out, HV8.out, HV6.out, HV5.out, HW1.out]
  have k7 := hjB.get HC7.out
  have HEB := Lib.hid eVB
  have HJB := Lib.hid hjB
  clear hnB hVB hjB eVB HTX HJA k6 HV5 HV6 HV8 HV9 HVA HL5 HL6 HL8 HL9
  have k12 := HJB.out.get HC12.out
  have hew := HEW.out wB HJB.out.bel
  have helw := HELW.out
  obtain ⟨⟨fn, fr, fa, fb⟩, hE3⟩ : ∃ E, E = encR 16 p.wProps := ⟨_, rfl⟩
  rw [← hE3] at hew helw
  simp only at hew helw
  have HEW2 := Lib.hid hew
  have HEL2 := Lib.hid helw
  have HE3 := Lib.hid hE3
  clear hew helw hE3 HEW HELW
  go_wp2_with fail
  refine HEW2.out.mono ?_
  rintro x wC ⟨eC, rfl, heC, hbC⟩
  simp only at heC ⊢
  have HJC := Lib.hid (HJB.out.below hbC)
  clear k7 k12 HEW2 hbC
  by_cases h1 : fn = 0
  rotate_left
  · have hq := HQ3.out
    rw [← HE3.out] at hq
    simp only at hq
    rw [if_pos ⟨HWH.out, h1⟩] at hq
    obtain ⟨te, ue, rfl⟩ := err_iface heC h1
    obtain ⟨⟨z0, z1, y0, y1⟩, ⟨z2, y2⟩, ⟨f0, f1⟩, ferr⟩ := fr_facts (S := S) HJC.out.r1 (.int .i64 0) (.string ⟨#[]⟩)
    have hbf := (HJC.out.bel.setCell (p := ⟨w.heap.size + 1, 0, none⟩) (by show w.heap.size ≤ w.heap.size + 1; omega) (.int .i64 0)).setCell (p := ⟨w.heap.size + 1, 1, none⟩) (by show w.heap.size ≤ w.heap.size + 1; omega) (.string ⟨#[]⟩)
    have HX := Lib.hid (show FrSays w S q (.returned (.tuple #[.agg #[.int .i64 0, .string ⟨#[]⟩], .iface te ue])) _ from by
      rw [hq]
      exact ⟨_, rfl, ferr _ _ _ _ heC, hbf⟩)
    clear ferr hbf heC
    go_wp2
    exact bodyPost_ret (v := .tuple #[.agg #[.int .i64 0, .string ⟨#[]⟩], .iface te ue]) (by simp [results, Tryz.results14, go_sem, f0, f1]) rfl HX.out
  have hq := HQ3.out
  rw [← HE3.out] at hq
  simp only at hq
  rw [if_neg (fun hh => hh.2 h1)] at hq
  unfold ErrOf at heC
  rw [if_pos h1] at heC
  subst heC
  have HQ4 := Lib.hid hq
  have hlC : VB.L.length ≤ 130000 := by rw [HEB.out]; exact HLN.out.1
  have HRW := Lib.hid (wraw_any HJC.out.wo (by omega) ⟨fb.toArray⟩ (by rw [bsize]; have := HEL2.out; omega))
  have HLC := Lib.hid hlC
  clear hq hlC HQ3
  go_wp2_with fail
  refine HRW.out.mono ?_
  rintro x wD ⟨rfl, vD, hnD⟩
  obtain ⟨VD, hVD⟩ : ∃ V, V = stepW VB ⟨0, 0, fb⟩ := ⟨_, rfl⟩
  rw [← hVD] at hnD
  have hlD : VD.L.length ≤ 195600 := by
    have h1 := stepW_len VB ⟨0, 0, fb⟩
    have h2 := HEL2.out
    have h3 := HLC.out
    rw [hVD]
    simp only at h1
    omega
  have hjD := HJC.out.step hnD
  have k8 := hjD.get HC8.out
  have HTX := Lib.hid (wtext_any (HE.out.later hjD.bel) hjD.wo (by omega) p.wTopic HSM.out.2.2.2.1)
  have HLD := Lib.hid hlD
  have HVD := Lib.hid hVD
  have HJD := Lib.hid hjD
  clear hnD hVD hlD hjD HRW HJC
  go_wp2_with fail
  refine HTX.out.mono ?_
  rintro x wE ⟨rfl, vE, hnE⟩
  obtain ⟨VE, hVE⟩ : ∃ V, V = stepW VD (textE p.wTopic) := ⟨_, rfl⟩
  rw [← hVE] at hnE
  have hlE : VE.L.length ≤ 270000 := by
    have h1 := stepW_len VD (textE p.wTopic)
    have h2 := textE_len p.wTopic
    have h3 := HLD.out
    have h4 := HSM.out.2.2.2.1
    rw [hVE]
    omega
  have hjE := HJD.out.step hnE
  have k9 := hjE.get HC9.out
  have HBN := Lib.hid (wbin_any (HE.out.later hjE.bel) hjE.wo (by omega) p.wPay HSM.out.2.2.2.2.1)
  have HVE := Lib.hid hVE
  have HJE := Lib.hid hjE
  clear hnE hVE hlE hjE HTX HJD k8
  go_wp2_with fail
  refine HBN.out.mono ?_
  rintro x wF ⟨rfl, vF, hnF⟩
  obtain ⟨VF, hVF⟩ : ∃ V, V = stepW VE (binE p.wPay) := ⟨_, rfl⟩
  rw [← hVF] at hnF
  have hjF := HJE.out.step hnF
  have HEF := Lib.hid (show VF = wrK2 p (wrK1 p) by
    unfold wrK2
    rw [if_pos HWH.out, hVF, HVE.out, HVD.out, HEB.out, ← HE3.out])
  have HJF := Lib.hid hjF
  have HQ5 := Lib.hid (show q = frR (wrK p) 16 (dcK 16 ⟨(wrK p).L.toArray⟩).1 from HQ4.out)
  clear hnF hVF hjF HBN HJE k9 HVE HVD HEB HE3 HLC HLD HEL2 HQ4
  go_upto_region 20 with fail
  have hlF : VF.L.length ≤ 330000 := by rw [HEF.out]; exact HLN.out.2.1
  have k13 := HJF.out.get HC13.out
  by_cases hu : p.hasUser = true
  case' pos =>
    rw [hu] at k13
    have k14 := HJF.out.get HC14.out
    have HTX := Lib.hid (wtext_any (HE.out.later HJF.out.bel) HJF.out.wo (by omega) p.user HSM.out.2.2.2.2.2.1)
    have HU := Lib.hid hu
    clear hu hlF
    go_wp2_with fail
    refine HTX.out.mono ?_
    rintro x wG ⟨rfl, vG, hnG⟩
    obtain ⟨VG, hVG⟩ : ∃ V, V = stepW VF (textE p.user) := ⟨_, rfl⟩
    rw [← hVG] at hnG
    have HEG := Lib.hid (show VG = wrK3 p (wrK2 p (wrK1 p)) by
      unfold wrK3
      rw [if_pos HU.out, hVG, HEF.out])
    have HJG := Lib.hid (HJF.out.step hnG)
    clear hnG hVG HTX HJF HEF k13 k14 HU
    go_upto_region 22 with fail
  case' neg =>
    have hu' : p.hasUser = false := by simpa using hu
    rw [hu'] at k13
    obtain ⟨wG, hwG⟩ : ∃ X, X = wF := ⟨_, rfl⟩
    obtain ⟨vG, hvG⟩ : ∃ X, X = vF := ⟨_, rfl⟩
    obtain ⟨VG, hVG⟩ : ∃ X, X = VF := ⟨_, rfl⟩
    have HEG := Lib.hid (show VG = wrK3 p (wrK2 p (wrK1 p)) by
      unfold wrK3
      rw [if_neg hu, hVG, HEF.out])
    have HJG := Lib.hid (show EnJ w wG S c w3.heap.size vG VG by rw [hwG, hvG, hVG]; exact HJF.out)
    have HWG := Lib.hid hwG
    clear hu hu' hlF hvG hVG hwG HJF HEF
    go_upto_region 22 with fail
    rw [← HWG.out]
    clear HWG k13
  all_goals
    have hlG : VG.L.length ≤ 396000 := by rw [HEG.out]; exact HLN.out.2.2.1
    have k15 := HJG.out.get HC15.out
    by_cases hu : p.hasPass = true
    case' pos =>
      rw [hu] at k15
      have k16 := HJG.out.get HC16.out
      have HTX := Lib.hid (wbin_any (HE.out.later HJG.out.bel) HJG.out.wo (by omega) p.pass HSM.out.2.2.2.2.2.2)
      have HU := Lib.hid hu
      clear hu hlG
      go_wp2_with fail
      refine HTX.out.mono ?_
      rintro x wH ⟨rfl, vH, hnH⟩
      obtain ⟨VH, hVH⟩ : ∃ V, V = stepW VG (binE p.pass) := ⟨_, rfl⟩
      rw [← hVH] at hnH
      have HEH := Lib.hid (show VH = wrK p by
        unfold wrK wrK4
        rw [if_pos HU.out, hVH, HEG.out])
      have HJH := Lib.hid (HJG.out.step hnH)
      clear hnH hVH HTX HJG HEG k15 k16 HU
      go_upto_region 24 with fail
    case' neg =>
      have hu' : p.hasPass = false := by simpa using hu
      rw [hu'] at k15
      obtain ⟨wH, hwH⟩ : ∃ X, X = wG := ⟨_, rfl⟩
      obtain ⟨vH, hvH⟩ : ∃ X, X = vG := ⟨_, rfl⟩
      obtain ⟨VH, hVH⟩ : ∃ X, X = VG := ⟨_, rfl⟩
      have HEH := Lib.hid (show VH = wrK p by
        unfold wrK wrK4
        rw [if_neg hu, hVH, HEG.out])
      have HJH := Lib.hid (show EnJ w wH S c w3.heap.size vH VH by rw [hwH, hvH, hVH]; exact HJG.out)
      have HWH2 := Lib.hid hwH
      clear hu hu' hlG hvH hVH hwH HJG HEG
      go_upto_region 24 with fail
      rw [← HWH2.out]
      clear HWH2 k15
    all_goals
      have HFA := Lib.hid (frame_any08 16 HJH.out.wo (fun W1 hb => dec08 (HE.out.later (HJH.out.bel.trans (hb.mono HJH.out.bel.size))) 16 (show (⟨VH.L.toArray⟩ : ByteArray).size ≤ 900000 from by rw [bsize, HEH.out]; have := HLN.out.2.2.2; omega)))
      rw [show frR VH 16 (dcK 16 ⟨VH.L.toArray⟩).1 = q from by rw [HQ5.out, HEH.out]] at HFA
      go_wp2_with fail
      refine HFA.out.mono ?_
      rintro x wI ⟨e8, rfl, he8, hb8⟩
      have r1 := HJH.out.r1.below hb8 HJH.out.r1.lt
      have hb := HJH.out.bel.trans (hb8.mono HJH.out.bel.size)
      obtain ⟨⟨z0, z1, y0, y1⟩, ⟨z2, y2⟩, ⟨f0, f1⟩, ferr⟩ := fr_facts (S := S) r1 (.int .i64 q.first) (.string q.s)
      have hbf := (hb.setCell (p := ⟨w.heap.size + 1, 0, none⟩) (by show w.heap.size ≤ w.heap.size + 1; omega) (.int .i64 q.first)).setCell (p := ⟨w.heap.size + 1, 1, none⟩) (by show w.heap.size ≤ w.heap.size + 1; omega) (.string q.s)
      have HX := Lib.hid (show FrSays w S q (.returned (.tuple #[.agg #[.int .i64 q.first, .string q.s], e8])) _ from ⟨e8, rfl, ferr _ _ _ _ he8, hbf⟩)
      clear hb8 r1 hb ferr hbf he8 HFA
      go_wp2
      exact bodyPost_ret (v := .tuple #[.agg #[.int .i64 q.first, .string q.s], e8]) (by simp [results, Tryz.results14, go_sem, f0, f1]) rfl HX.out
theorem enc08 (hE : Env w S) (h : PkIn w w.heap.size A p) (hS : SmK p) : Calls Tryz.prog 14 #[p.agg A] w (FrSays w S (enK p)) := by
  rcases hw : p.wHas with _ | _
  · exact enc08_no hE h hS hw
  · by_cases hqq : p.wQos < 0 ∨ 3 < p.wQos
    · exact enc08_bad hE h hS hw hqq
    · exact enc08_yes hE h hS hw (fun h => hqq (.inl h)) (fun h => hqq (.inr h))
end
end Go.Proofs.YtbfbmdjnobdjpaaGreatDoor
