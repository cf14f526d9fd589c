/- What is proved here: what the document's Encode of layer 12 tells. Conditions: few bytes, the packet's parts stand where it says. What is proved here: what the document's Encode of layer 12 tells. Conditions: few bytes, the packet's parts stand where it says. -/
import Derived.Test.YtinhecggmakbnaaGreatDoorRea12
import Derived.Deep.QuietTactic
import Derived.BigQuiet
import Derived.Deep.DeepMust
namespace Go.Proofs.YtinhecggmakbnaaGreatDoor
set_option maxRecDepth 100000
open Go.ChangeShapes Go.WideShapes Go.RowKit Go.Deep Go.Extern.Stop Go.Stop Go.Extern
set_option maxHeartbeats 16000000 in
theorem renc12_8f {w : World} {A : PkA} {p : Pk} (h : PkIn w w.heap.size A p) (hS : SmS p) (hk : p.kind = 8) (hze : 0 < p.codes.length) : Calls Tryz.prog 25 #[p.agg A] w (FrF w (enS p)) := by
  obtain ⟨z, hT, hz26, hz⟩ := tyP_ex
  obtain ⟨q, hq⟩ : ∃ q, q = enS p := ⟨_, rfl⟩
  rw [← hq]
  obtain ⟨c, hc⟩ : ∃ c, c = p.cells A := ⟨_, rfl⟩
  rw [show p.agg A = .agg c from by rw [hc]; rfl]
  have HG0 := Lib.hid (show c[0]? = some (.int .i64 8) by rw [hc, ← hk]; rfl)
  have HG1 := Lib.hid (show c[1]? = some (.int .i64 p.id) by rw [hc]; rfl)
  have HG3 := Lib.hid (show c[3]? = some (.slice A.pa p.props.length A.pc) by rw [hc]; rfl)
  have HG23 := Lib.hid (show c[23]? = some (.slice A.sa p.subs.length A.sc) by rw [hc]; rfl)
  have HG25 := Lib.hid (show c[25]? = some (.slice A.ca p.codes.length A.cc) by rw [hc]; rfl)
  have HT := Lib.hid hT
  have HZS := Lib.hid hz26
  have HPR := Lib.hid h.pr
  have HPC := Lib.hid h.pc
  have HSB := Lib.hid h.sb
  have HCD := Lib.hid h.cd
  have HSM := Lib.hid hS
  have HWLN := Lib.hid (wrS_len hS)
  have HPHL := Lib.hid (phW_len12 hS.1)
  have HWR := Lib.hid (show wrS p = p.subs.foldl stS (phW p) from wrS_a hk)
  unfold enS at hq
  rw [show fS p.kind = 130 from by rw [hk]; rfl, if_neg (by decide), hk] at hq
  have HPW := Lib.hid (show phW p = stepW (stepW w0 (numE 2 p.id)) ⟨0, 0, (encR 8 p.props).L⟩ by unfold phW; rw [hk])
  have HQ0 := Lib.hid hq
  have HO := Lib.hid (Own.start [] w)
  have HZI := Lib.hid (show (0 : Int) < (p.codes.length : Int) by omega)
  clear hT hz26 hz hc h hS hk hq hze
  go_enter Tryz.func25, Tryz.ntmps25
  go_upto_region 8 with (first | (refine wpo_box (t := 29) HO.out _ rfl rfl rfl ?_; clear HO; rintro k1 W1 hO; have HO := Lib.hid hO; clear hO; simp only [Act.put, List.setIfInBounds_toArray, List.set_cons_zero, List.set_cons_succ]) | (refine wpo_alloc tyF HO.out rfl rfl ?_; clear HO; rintro k2 W2 hO; have HO := Lib.hid hO; clear hO; simp only [Act.put, List.setIfInBounds_toArray, List.set_cons_zero, List.set_cons_succ]) | (refine wpo_alloc tyX HO.out rfl rfl ?_; clear HO; rintro k3 W3 hO; have HO := Lib.hid hO; clear hO; simp only [Act.put, List.setIfInBounds_toArray, List.set_cons_zero, List.set_cons_succ]) | (refine wpo_ldc (HO.out.get 2 rfl) tyI _ rfl rfl rfl HG0.out ?_))
  have HEN := Lib.hid (rencode_any 8 p.props.length A.pc rfl ((HPR.out.below HO.out.bel).mono HO.out.size) HSM.out.1 HPC.out)
  have hEl : (encR 8 p.props).L.length ≤ 63844 := encR_len HSM.out.1
  obtain ⟨E, hE⟩ : ∃ E, E = encR 8 p.props := ⟨_, rfl⟩
  rw [← hE] at HEN hEl HQ0 HPW
  have HEL := Lib.hid hEl
  clear hE hEl
  go_wp2_with (first | (refine wpo_ldc (HO.out.get 2 rfl) tyI _ rfl rfl rfl HG0.out ?_) | (refine wpo_ldc (HO.out.get 2 rfl) tyL _ rfl rfl rfl HG3.out ?_))
  refine HEN.out.mono ?_
  rintro x V4 ⟨no, fr, fa, rfl, hno, hra, hb⟩
  have HB := Lib.hid (HO.out.below hb)
  clear HO hb HEN
  have HO := HB
  clear HB
  have HNO := Lib.hid hno
  have HRA := Lib.hid hra
  clear hno hra
  go_upto_region 9 with (first | (refine wpo_alloc tyX HO.out rfl rfl ?_; clear HO; rintro k6 W5 hO; have HO := Lib.hid hO; clear hO; simp only [Act.put, List.setIfInBounds_toArray, List.set_cons_zero, List.set_cons_succ]) | (refine wpo_store (k := k6) HO.out 0 tyX rfl _ _ rfl rfl rfl rfl rfl rfl rfl ?_; clear HO; rintro W6 hO; have HO := Lib.hid hO; clear hO; simp only [Act.put]))
  by_cases hn0 : no = 0
  · have HQ := HQ0
    rw [if_pos (show E.no = 0 by rw [← HNO.out]; exact hn0)] at HQ
    subst hn0
    clear HQ0 HNO HRA
    have HDO := Lib.hid (fun (W : World) (g : Nat) (h : RWObj W g w0) => rwdo_num2 h (Nat.zero_le _) p.id)
    go_upto_region 12 with (first | (refine wpo_ldc (HO.out.get 0 rfl) tyE _ rfl rfl rfl rfl ?_) | (refine wpo_zero tyW rfl rfl ?_) | (refine wpo_box (t := 75) HO.out _ rfl rfl rfl ?_; clear HO; rintro k7 W7 hO; have HO := Lib.hid hO; clear hO; simp only [Act.put, List.setIfInBounds_toArray, List.set_cons_zero, List.set_cons_succ]))
    go_wp2_with (refine wpo_ldc (HO.out.get 4 rfl) tyI _ rfl rfl rfl HG1.out ?_)
    refine (HDO.out _ _ (w0_obj HO.out 0 rfl)).mono ?_
    rintro x V8 ⟨rfl, hn⟩
    obtain ⟨l8, a8, hO, e1, e2⟩ := HO.out.wstep 0 rfl hn
    clear HO hn
    have HO := Lib.hid hO
    have HE1 := Lib.hid e1
    have HE2 := Lib.hid e2
    clear hO e1 e2
    clear HDO
    have HDO := Lib.hid (rwdo_raw (HO.out.wr 0 rfl HE1.out HE2.out) (by have := stepW_len w0 (numE 2 p.id); have := numE_len 2 p.id; have h0 : w0.L.length = 0 := rfl; omega) E.L (by have := HEL.out; omega))
    rw [← HPW.out] at HDO
    clear HE1 HE2
    go_wp2_with fail
    refine HDO.out.mono ?_
    rintro x V9 ⟨rfl, hn⟩
    obtain ⟨l9, a9, hO, e1, e2⟩ := HO.out.wstep 0 rfl hn
    clear HO hn
    have HO := Lib.hid hO
    have HE1 := Lib.hid e1
    have HE2 := Lib.hid e2
    clear hO e1 e2
    clear HDO
    go_wp2_with fail
    obtain ⟨n, hn⟩ : ∃ n, n = p.subs.length := ⟨_, rfl⟩
    rw [← hn] at HG23
    have HN := Lib.hid hn
    have hn40 : n ≤ 40 := by have := HSM.out.2.1; omega
    clear hn
    go_loopg [8] n (fun f u wr => ∃ (k : Nat) (l : List UInt8) (a : Nat), f = n - k ∧ k ≤ n ∧ u = .int .i64 k ∧ Hid (Own [] w wr [(k7, 75, #[.string ⟨l.toArray⟩, .int .i64 ((p.subs.take k).foldl stS (phW p)).no, .int .i64 a]), (k6, 40, #[.int .i64 0, .int .i64 fr, .int .i64 fa]), (k3, 40, #[.int .i64 0, .int .i64 0, .int .i64 0]), (k2, 33, #[.int .i64 0, .string ⟨#[]⟩]), (k1, 29, c)] ∧ (((p.subs.take k).foldl stS (phW p)).no = 0 → l = ((p.subs.take k).foldl stS (phW p)).L) ∧ (((p.subs.take k).foldl stS (phW p)).no ≠ 0 → a = ((p.subs.take k).foldl stS (phW p)).at_)))
    case atStart => exact ⟨0, _, _, rfl, Nat.zero_le _, rfl, Lib.hid ⟨HO.out, HE1.out, HE2.out⟩⟩
    case round =>
      obtain ⟨k, l, a, rfl, hk, rfl, HJ⟩ := hrel
      obtain ⟨ho, e1, e2⟩ := HJ.out
      clear HO HE1 HE2
      have HO := Lib.hid ho
      have HE1 := Lib.hid e1
      have HE2 := Lib.hid e2
      have kX : wr.cell? ⟨k1, 23, none⟩ = some (.slice A.sa n A.sc) := ((ho.get 4 rfl).cell 23).trans HG23.out
      have kK : wr.cell? ⟨k1, 0, none⟩ = some (.int .i64 8) := ((ho.get 4 rfl).cell 0).trans HG0.out
      by_cases hlt : k < n
      · have hkL : k < p.subs.length := by have := HN.out; omega
        have hlt2 : (k : Int) < (n : Int) := by omega
        obtain ⟨x, off, ex, hc⟩ := scell_at HSB.out (by omega)
        have hcx := fun W hb => hc W hb k hkL
        have ex2 := Lib.hid ex
        rw [ex] at kX
        have htk := take_fold stS (phW p) p.subs sv0 k hkL
        have hsz : (p.subs.getD k sv0).filter.size ≤ 2048 := HSM.out.2.2.2 _ (by rw [List.getD_eq_getElem?_getD, List.getElem?_eq_getElem hkL]; exact List.getElem_mem hkL)
        have hvl := foldS_len (p.subs.take k) (phW p) (fun x hx => HSM.out.2.2.2 x (List.mem_of_mem_take hx))
        rw [List.length_take_of_le (by omega)] at hvl
        have hvm : ((p.subs.take k).foldl stS (phW p)).L.length ≤ 200000 := by have := HPHL.out; have : k * 2051 ≤ 40 * 2051 := Nat.mul_le_mul_right _ (by omega); omega
        obtain ⟨⟨f1, q1, b1, d1, t1⟩, hsv⟩ : ∃ v, v = p.subs.getD k sv0 := ⟨_, rfl⟩
        rw [← hsv] at hcx htk hsz
        simp only at hcx hsz
        have HTK := Lib.hid htk
        have HCX := Lib.hid hcx
        have hl1 := stepW_len ((p.subs.take k).foldl stS (phW p)) (textE f1)
        have hl2 := textE_len f1
        have HL1 := Lib.hid (show (stepW ((p.subs.take k).foldl stS (phW p)) (textE f1)).L.length ≤ 900000 by omega)
        have HDO := Lib.hid (rwdo_text (HO.out.wr 0 rfl HE1.out HE2.out) (by omega) f1 (by omega))
        have HOP := Lib.hid (fun W => ropt12 ⟨f1, q1, b1, d1, t1⟩ W)
        simp only at HOP
        obtain ⟨c0, -, -, -, -⟩ := hcx wr ho.bel
        clear htk hc ho e1 e2 HJ hvl hvm ex hsz hcx hsv hl1 hl2
        go_wp2_with fail
        refine HDO.out.mono ?_
        rintro x0 V10 ⟨rfl, hn⟩
        obtain ⟨l', a', hO, e1, e2⟩ := HO.out.wstep 0 rfl hn
        clear HO HE1 HE2 HDO hn
        have HO := Lib.hid hO
        have HE1 := Lib.hid e1
        have HE2 := Lib.hid e2
        clear kX kK c0
        have kX : V10.cell? ⟨k1, 23, none⟩ = some (.slice (some ⟨x, off, none⟩) n A.sc) := by rw [← ex2.out]; exact ((hO.get 4 rfl).cell 23).trans HG23.out
        obtain ⟨c0, c1, c2, c3, c4⟩ := HCX.out V10 hO.bel
        clear hO e1 e2
        go_wp2_with fail
        refine (HOP.out _).mono ?_
        rintro x0 V11 ⟨rfl, hb⟩
        clear HOP
        have HB := Lib.hid (HO.out.below hb)
        clear HO hb
        have HO := HB
        clear HB
        have HDO := Lib.hid (rwdo_num1 (HO.out.wr 0 rfl HE1.out HE2.out) HL1.out (opI ⟨f1, q1, b1, d1, t1⟩))
        clear c0 c1 c2 c3 c4
        go_wp2_with fail
        refine HDO.out.mono ?_
        rintro x0 V12 ⟨rfl, hn⟩
        obtain ⟨l'', a'', hO, e1, e2⟩ := HO.out.wstep 0 rfl hn
        have HJ2 := Lib.hid (And.intro hO (And.intro e1 e2))
        clear hO e1 e2 hn HDO HO kX
        go_wp2_with fail
        go_roundg (n - (k + 1))
        case rel => exact ⟨k + 1, l'', a'', rfl, hlt, by go_num, Lib.hid (by rw [HTK.out]; exact HJ2.out)⟩
        case measure => omega
      · obtain rfl : k = n := by omega
        have hge : ¬ (k : Int) < (k : Int) := by omega
        have htl : p.subs.take k = p.subs := by rw [HN.out]; exact List.take_length
        rw [htl] at HE1 HE2 HO
        clear htl hlt ho e1 e2 HJ
        go_wp2_with fail
        clear kX kK hge
        go_loopg [9] 0 (fun f u wr => ∃ (l : List UInt8) (a : Nat), u = Value.int IntKind.i64 0 ∧ Hid (Own [] w wr [(k7, 75, #[.string ⟨l.toArray⟩, .int .i64 ((p.subs).foldl stS (phW p)).no, .int .i64 a]), (k6, 40, #[.int .i64 0, .int .i64 fr, .int .i64 fa]), (k3, 40, #[.int .i64 0, .int .i64 0, .int .i64 0]), (k2, 33, #[.int .i64 0, .string ⟨#[]⟩]), (k1, 29, c)] ∧ (((p.subs).foldl stS (phW p)).no = 0 → l = ((p.subs).foldl stS (phW p)).L) ∧ (((p.subs).foldl stS (phW p)).no ≠ 0 → a = ((p.subs).foldl stS (phW p)).at_)))
        case atStart => exact ⟨_, _, rfl, Lib.hid ⟨HO.out, HE1.out, HE2.out⟩⟩
        case round =>
          obtain ⟨l, a, rfl, HJ⟩ := hrel
          obtain ⟨ho, e1, e2⟩ := HJ.out
          have HO := Lib.hid ho
          have HE1 := Lib.hid e1
          have HE2 := Lib.hid e2
          have kX : wr.cell? ⟨k1, 25, none⟩ = some (.slice A.ca p.codes.length A.cc) := ((ho.get 4 rfl).cell 25).trans HG25.out
          have kK : wr.cell? ⟨k1, 0, none⟩ = some (.int .i64 8) := ((ho.get 4 rfl).cell 0).trans HG0.out
          clear ho e1 e2 HJ
          have hzi := HZI.out
          go_upto_region 23 with fail
          clear kX kK hzi
          go_upto_region 23 with fail
          have HMD := Lib.hid (rmade_any (HO.out.wr 0 rfl HE1.out HE2.out) 130)
          rw [← HWR.out] at HMD
          obtain ⟨V, hV⟩ : ∃ V, V = wrS p := ⟨_, rfl⟩
          have hVL : V.L.length ≤ 900000 := by rw [hV]; have := HWLN.out; omega
          rw [← hV] at HMD HQ
          clear hV
          obtain ⟨t, ht⟩ : ∃ t : ByteArray, t = ⟨V.L.toArray⟩ := ⟨_, rfl⟩
          have hts : t.size ≤ 900000 := by rw [ht, bsize]; exact hVL
          obtain ⟨e, he⟩ : ∃ e, e = (dcS 130 t).1 := ⟨_, rfl⟩
          have HDC := Lib.hid (fun W => rdec12_8 (w := W) hts)
          rw [← d12_a, ← he] at HDC
          rw [← ht, ← he, frR_eq _ _ _ ht] at HQ
          have HTT := Lib.hid ht
          clear ht he hVL hts
          go_wp2_with fail
          by_cases hv : V.no = 0
          · have hq := HQ.out
            rw [if_pos hv] at hq
            have HQ2 := Lib.hid hq
            have HMD2 := Lib.hid (show frR V 130 e00 = ⟨e00, 130, t⟩ by unfold frR; rw [if_pos hv, if_pos (show e00.no = 0 from rfl), ← HTT.out])
            rw [HMD2.out] at HMD
            have HMD := Lib.hid (frf_ok HMD.out)
            clear hq HQ HMD2 hv HTT
            refine HMD.out.mono ?_
            rintro x V1 ⟨rfl, hb⟩
            have HB := Lib.hid (HO.out.below hb)
            clear HO hb HMD
            have HO := HB
            clear HB
            go_upto_region 26 with (first | (refine wpo_alloc tyF HO.out rfl rfl ?_; clear HO; rintro kfB WfB hO; have HO := Lib.hid hO; clear hO; simp only [Act.put, List.setIfInBounds_toArray, List.set_cons_zero, List.set_cons_succ]) | (refine wpo_alloc tyX HO.out rfl rfl ?_; clear HO; rintro kgB WgB hO; have HO := Lib.hid hO; clear hO; simp only [Act.put, List.setIfInBounds_toArray, List.set_cons_zero, List.set_cons_succ]) | (refine wpo_store (k := kfB) HO.out 1 tyF rfl _ _ rfl rfl rfl rfl rfl rfl rfl ?_; clear HO; rintro WhB hO; have HO := Lib.hid hO; clear hO; simp only [Act.put]) | (refine wpo_store (k := kgB) HO.out 0 tyX rfl _ _ rfl rfl rfl rfl rfl rfl rfl ?_; clear HO; rintro WiB hO; have HO := Lib.hid hO; clear hO; simp only [Act.put]) | (refine wpo_ldc (HO.out.get 0 rfl) tyE _ rfl rfl rfl rfl ?_))
            have HDD := Lib.hid (HDC.out WiB)
            clear HDC
            obtain ⟨en, er, ea⟩ := e
            simp only at HQ2 HDD
            go_wp2_with (refine wpo_load HO.out 1 tyF rfl rfl _ rfl rfl rfl ?_)
            refine HDD.out.mono ?_
            rintro x V2 ⟨c2, hc2, ho2, rfl, hb⟩
            have HC2 := Lib.hid (hc2.trans HZS.out.symm)
            have HC21 := Lib.hid ho2
            clear hc2 ho2
            have HB := Lib.hid (HO.out.below hb)
            clear HO hb HDD
            have HO := HB
            clear HB
            by_cases he : en = 0
            · have hq := HQ2.out
              rw [if_pos he] at hq
              have HQ3 := Lib.hid hq
              subst he
              clear hq HQ2
              go_wp2_with (first | (refine wpo_alloc HT.out HO.out rfl rfl ?_; clear HO; rintro kpC WpC hO; have HO := Lib.hid hO; clear hO; simp only [Act.put, List.setIfInBounds_toArray, List.set_cons_zero, List.set_cons_succ]) | (refine wpo_alloc tyX HO.out rfl rfl ?_; clear HO; rintro kxC WxC hO; have HO := Lib.hid hO; clear hO; simp only [Act.put, List.setIfInBounds_toArray, List.set_cons_zero, List.set_cons_succ]) | (refine wpo_store (k := kpC) HO.out 1 HT.out rfl _ _ rfl rfl rfl rfl rfl HC2.out HC21.out ?_; clear HO; rintro WyC hO; have HO := Lib.hid hO; clear hO; simp only [Act.put]) | (refine wpo_store (k := kxC) HO.out 0 tyX rfl _ _ rfl rfl rfl rfl rfl rfl rfl ?_; clear HO; rintro WzC hO; have HO := Lib.hid hO; clear hO; simp only [Act.put]) | (refine wpo_ldc (HO.out.get 0 rfl) tyE _ rfl rfl rfl rfl ?_) | (refine wpo_load HO.out 3 tyF rfl rfl _ rfl rfl rfl ?_) | (refine wpo_store (k := k2) HO.out 7 tyF rfl _ _ rfl rfl rfl rfl rfl rfl rfl ?_; clear HO; rintro WmC hO; have HO := Lib.hid hO; clear hO; simp only [Act.put]) | (refine wpo_store (k := k3) HO.out 6 tyX rfl _ _ rfl rfl rfl rfl rfl rfl rfl ?_; clear HO; rintro WnC hO; have HO := Lib.hid hO; clear hO; simp only [Act.put]))
              exact bodyPost_ret (v := .tuple #[.agg #[.int .i64 130, .string t], fltV (0, 0, 0)]) (res_own2 7 6 HO.out tyF tyX rfl rfl rfl rfl rfl rfl rfl) rfl ⟨by rw [HQ3.out] <;> rfl, HO.out.bel⟩
            · have hq := HQ2.out
              rw [if_neg he] at hq
              have HQ3 := Lib.hid hq
              have hei : ¬ (en : Int) = 0 := by omega
              clear hq HQ2 he
              go_upto_region 28 with (first | (refine wpo_alloc HT.out HO.out rfl rfl ?_; clear HO; rintro kpD WpD hO; have HO := Lib.hid hO; clear hO; simp only [Act.put, List.setIfInBounds_toArray, List.set_cons_zero, List.set_cons_succ]) | (refine wpo_alloc tyX HO.out rfl rfl ?_; clear HO; rintro kxD WxD hO; have HO := Lib.hid hO; clear hO; simp only [Act.put, List.setIfInBounds_toArray, List.set_cons_zero, List.set_cons_succ]) | (refine wpo_store (k := kpD) HO.out 1 HT.out rfl _ _ rfl rfl rfl rfl rfl HC2.out HC21.out ?_; clear HO; rintro WyD hO; have HO := Lib.hid hO; clear hO; simp only [Act.put]) | (refine wpo_store (k := kxD) HO.out 0 tyX rfl _ _ rfl rfl rfl rfl rfl rfl rfl ?_; clear HO; rintro WzD hO; have HO := Lib.hid hO; clear hO; simp only [Act.put]) | (refine wpo_ldc (HO.out.get 0 rfl) tyE _ rfl rfl rfl rfl ?_))
              refine wpo_y2 (yA := (k2, 33, #[.int .i64 0, .string ⟨#[]⟩])) (yB := (k3, 40, #[.int .i64 (en : Int), .int .i64 er, .int .i64 (ea : Int)])) [(115, .agg #[.int .i64 0, .string ⟨#[]⟩]), (116, .agg #[.int .i64 (en : Int), .int .i64 er, .int .i64 (ea : Int)])] 7 6 mixed (by kernel_rfl) HO.out rfl rfl (by decide) (fun _ _ _ _ _ h => h) ?_ rfl rfl ?_ ?_ ?_
              · refine ⟨⟨_, rfl, rfl, yo_zero rfl tyF rfl⟩, ?_⟩
                simp only [Act.put, List.setIfInBounds_toArray, List.set_cons_zero, List.set_cons_succ]
                refine ⟨⟨_, rfl, rfl, yo_load rfl tyX (fun _ h => h.get 0 (by decide) (by decide) rfl) rfl _ rfl rfl⟩, ?_⟩
                exact trivial
              · simp only [putD, Act.put, List.setIfInBounds_toArray, List.set_cons_zero, List.set_cons_succ]
                exact sto_row tyF _ _ rfl rfl rfl rfl rfl rfl rfl rfl
              · simp only [putD, Act.put, List.setIfInBounds_toArray, List.set_cons_zero, List.set_cons_succ]
                exact sto_row tyX _ _ rfl rfl rfl rfl rfl rfl rfl rfl
              intro WjD hO
              clear HO
              have HO := Lib.hid hO
              clear hO
              simp only [putD, Act.put, List.setIfInBounds_toArray, List.set_cons_zero, List.set_cons_succ]
              go_wp2_with fail
              exact bodyPost_ret (v := .tuple #[.agg #[.int .i64 0, .string ⟨#[]⟩], fltV (en, er, ea)]) (res_own2 7 6 HO.out tyF tyX rfl rfl rfl rfl rfl rfl rfl) rfl ⟨by rw [HQ3.out] <;> rfl, HO.out.bel⟩
          · have hq := HQ.out
            rw [if_neg hv] at hq
            have HQ2 := Lib.hid hq
            have hvi : ¬ (V.no : Int) = 0 := by omega
            have HMD2 := Lib.hid (show frR V 130 e00 = ⟨⟨V.no, 129, V.at_⟩, 0, ⟨#[]⟩⟩ by unfold frR; rw [if_neg hv])
            rw [HMD2.out] at HMD
            have HMD := Lib.hid (frf_bad HMD.out)
            clear hq HQ HMD2 hv
            refine HMD.out.mono ?_
            rintro x V1 ⟨rfl, hb⟩
            have HB := Lib.hid (HO.out.below hb)
            clear HO hb HMD
            have HO := HB
            clear HB
            go_upto_region 25 with (first | (refine wpo_alloc tyF HO.out rfl rfl ?_; clear HO; rintro kfA WfA hO; have HO := Lib.hid hO; clear hO; simp only [Act.put, List.setIfInBounds_toArray, List.set_cons_zero, List.set_cons_succ]) | (refine wpo_alloc tyX HO.out rfl rfl ?_; clear HO; rintro kgA WgA hO; have HO := Lib.hid hO; clear hO; simp only [Act.put, List.setIfInBounds_toArray, List.set_cons_zero, List.set_cons_succ]) | (refine wpo_store (k := kfA) HO.out 1 tyF rfl _ _ rfl rfl rfl rfl rfl rfl rfl ?_; clear HO; rintro WhA hO; have HO := Lib.hid hO; clear hO; simp only [Act.put]) | (refine wpo_store (k := kgA) HO.out 0 tyX rfl _ _ rfl rfl rfl rfl rfl rfl rfl ?_; clear HO; rintro WiA hO; have HO := Lib.hid hO; clear hO; simp only [Act.put]) | (refine wpo_ldc (HO.out.get 0 rfl) tyE _ rfl rfl rfl rfl ?_))
            refine wpo_y2 (yA := (k2, 33, #[.int .i64 0, .string ⟨#[]⟩])) (yB := (k3, 40, #[.int .i64 (V.no : Int), .int .i64 129, .int .i64 (V.at_ : Int)])) [(105, .agg #[.int .i64 0, .string ⟨#[]⟩]), (106, .agg #[.int .i64 (V.no : Int), .int .i64 129, .int .i64 (V.at_ : Int)])] 5 4 mixed (by kernel_rfl) HO.out rfl rfl (by decide) (fun _ _ _ _ _ h => h) ?_ rfl rfl ?_ ?_ ?_
            · refine ⟨⟨_, rfl, rfl, yo_load rfl tyF (fun _ h => h.get 1 (by decide) (by decide) rfl) rfl _ rfl rfl⟩, ?_⟩
              simp only [Act.put, List.setIfInBounds_toArray, List.set_cons_zero, List.set_cons_succ]
              refine ⟨⟨_, rfl, rfl, yo_load rfl tyX (fun _ h => h.get 0 (by decide) (by decide) rfl) rfl _ rfl rfl⟩, ?_⟩
              exact trivial
            · simp only [putD, Act.put, List.setIfInBounds_toArray, List.set_cons_zero, List.set_cons_succ]
              exact sto_row tyF _ _ rfl rfl rfl rfl rfl rfl rfl rfl
            · simp only [putD, Act.put, List.setIfInBounds_toArray, List.set_cons_zero, List.set_cons_succ]
              exact sto_row tyX _ _ rfl rfl rfl rfl rfl rfl rfl rfl
            intro WjA hO
            clear HO
            have HO := Lib.hid hO
            clear hO
            simp only [putD, Act.put, List.setIfInBounds_toArray, List.set_cons_zero, List.set_cons_succ]
            go_wp2_with fail
            exact bodyPost_ret (v := .tuple #[.agg #[.int .i64 0, .string ⟨#[]⟩], fltV (V.no, 129, V.at_)]) (res_own2 5 4 HO.out tyF tyX rfl rfl rfl rfl rfl rfl rfl) rfl ⟨by rw [HQ2.out] <;> rfl, HO.out.bel⟩
  · have hq := HQ0.out
    rw [if_neg (show ¬ E.no = 0 by rw [← HNO.out]; exact hn0)] at hq
    obtain ⟨e1, e2⟩ := HRA.out (by rw [← HNO.out]; exact hn0)
    subst e1 e2
    have HQ2 := Lib.hid (show q = ⟨⟨no, E.r, E.at_⟩, 0, ⟨#[]⟩⟩ by rw [hq, HNO.out])
    have hni : ¬ (no : Int) = 0 := by omega
    clear hq HQ0 HRA HNO hn0
    go_upto_region 10 with (refine wpo_ldc (HO.out.get 0 rfl) tyE _ rfl rfl rfl rfl ?_)
    refine wpo_y2 (yA := (k2, 33, #[.int .i64 0, .string ⟨#[]⟩])) (yB := (k3, 40, #[.int .i64 (no : Int), .int .i64 E.r, .int .i64 (E.at_ : Int)])) [(33, .agg #[.int .i64 0, .string ⟨#[]⟩]), (34, .agg #[.int .i64 (no : Int), .int .i64 E.r, .int .i64 (E.at_ : Int)])] 2 1 mixed (by kernel_rfl) HO.out rfl rfl (by decide) (fun _ _ _ _ _ h => h) ?_ rfl rfl ?_ ?_ ?_
    · refine ⟨⟨_, rfl, rfl, yo_zero rfl tyF rfl⟩, ?_⟩
      simp only [Act.put, List.setIfInBounds_toArray, List.set_cons_zero, List.set_cons_succ]
      refine ⟨⟨_, rfl, rfl, yo_load rfl tyX (fun _ h => h.get 0 (by decide) (by decide) rfl) rfl _ rfl rfl⟩, ?_⟩
      exact trivial
    · simp only [putD, Act.put, List.setIfInBounds_toArray, List.set_cons_zero, List.set_cons_succ]
      exact sto_row tyF _ _ rfl rfl rfl rfl rfl rfl rfl rfl
    · simp only [putD, Act.put, List.setIfInBounds_toArray, List.set_cons_zero, List.set_cons_succ]
      exact sto_row tyX _ _ rfl rfl rfl rfl rfl rfl rfl rfl
    intro WjB hO
    clear HO
    have HO := Lib.hid hO
    clear hO
    simp only [putD, Act.put, List.setIfInBounds_toArray, List.set_cons_zero, List.set_cons_succ]
    go_wp2_with fail
    exact bodyPost_ret (v := .tuple #[.agg #[.int .i64 0, .string ⟨#[]⟩], fltV (no, E.r, E.at_)]) (res_own2 2 1 HO.out tyF tyX rfl rfl rfl rfl rfl rfl rfl) rfl ⟨by rw [HQ2.out] <;> rfl, HO.out.bel⟩
end Go.Proofs.YtinhecggmakbnaaGreatDoor
namespace Go.Proofs.YtinhecggmakbnaaGreatDoor
set_option maxRecDepth 100000
open Go.ChangeShapes Go.WideShapes Go.RowKit Go.Deep Go.Extern.Stop Go.Stop Go.Extern
set_option maxHeartbeats 16000000 in
theorem renc12_9e {w : World} {A : PkA} {p : Pk} (h : PkIn w w.heap.size A p) (hS : SmS p) (hk : p.kind = 9) (hze : p.subs.length = 0) : Calls Tryz.prog 25 #[p.agg A] w (FrF w (enS p)) := by
  obtain ⟨z, hT, hz26, hz⟩ := tyP_ex
  obtain ⟨q, hq⟩ : ∃ q, q = enS p := ⟨_, rfl⟩
  rw [← hq]
  obtain ⟨c, hc⟩ : ∃ c, c = p.cells A := ⟨_, rfl⟩
  rw [show p.agg A = .agg c from by rw [hc]; rfl]
  have HG0 := Lib.hid (show c[0]? = some (.int .i64 9) by rw [hc, ← hk]; rfl)
  have HG1 := Lib.hid (show c[1]? = some (.int .i64 p.id) by rw [hc]; rfl)
  have HG3 := Lib.hid (show c[3]? = some (.slice A.pa p.props.length A.pc) by rw [hc]; rfl)
  have HG23 := Lib.hid (show c[23]? = some (.slice A.sa p.subs.length A.sc) by rw [hc]; rfl)
  have HG25 := Lib.hid (show c[25]? = some (.slice A.ca p.codes.length A.cc) by rw [hc]; rfl)
  have HT := Lib.hid hT
  have HZS := Lib.hid hz26
  have HPR := Lib.hid h.pr
  have HPC := Lib.hid h.pc
  have HSB := Lib.hid h.sb
  have HCD := Lib.hid h.cd
  have HSM := Lib.hid hS
  have HWLN := Lib.hid (wrS_len hS)
  have HPHL := Lib.hid (phW_len12 hS.1)
  have HWR := Lib.hid (show wrS p = p.codes.foldl stC (phW p) from wrS_b (by rw [hk]; decide))
  unfold enS at hq
  rw [show fS p.kind = 144 from by rw [hk]; rfl, if_neg (by decide), hk] at hq
  have HPW := Lib.hid (show phW p = stepW (stepW w0 (numE 2 p.id)) ⟨0, 0, (encR 9 p.props).L⟩ by unfold phW; rw [hk])
  have HQ0 := Lib.hid hq
  have HO := Lib.hid (Own.start [] w)
  rw [hze] at HG23
  clear hT hz26 hz hc h hS hk hq hze
  go_enter Tryz.func25, Tryz.ntmps25
  go_upto_region 8 with (first | (refine wpo_box (t := 29) HO.out _ rfl rfl rfl ?_; clear HO; rintro k1 W1 hO; have HO := Lib.hid hO; clear hO; simp only [Act.put, List.setIfInBounds_toArray, List.set_cons_zero, List.set_cons_succ]) | (refine wpo_alloc tyF HO.out rfl rfl ?_; clear HO; rintro k2 W2 hO; have HO := Lib.hid hO; clear hO; simp only [Act.put, List.setIfInBounds_toArray, List.set_cons_zero, List.set_cons_succ]) | (refine wpo_alloc tyX HO.out rfl rfl ?_; clear HO; rintro k3 W3 hO; have HO := Lib.hid hO; clear hO; simp only [Act.put, List.setIfInBounds_toArray, List.set_cons_zero, List.set_cons_succ]) | (refine wpo_ldc (HO.out.get 2 rfl) tyI _ rfl rfl rfl HG0.out ?_))
  have HEN := Lib.hid (rencode_any 9 p.props.length A.pc rfl ((HPR.out.below HO.out.bel).mono HO.out.size) HSM.out.1 HPC.out)
  have hEl : (encR 9 p.props).L.length ≤ 63844 := encR_len HSM.out.1
  obtain ⟨E, hE⟩ : ∃ E, E = encR 9 p.props := ⟨_, rfl⟩
  rw [← hE] at HEN hEl HQ0 HPW
  have HEL := Lib.hid hEl
  clear hE hEl
  go_wp2_with (first | (refine wpo_ldc (HO.out.get 2 rfl) tyI _ rfl rfl rfl HG0.out ?_) | (refine wpo_ldc (HO.out.get 2 rfl) tyL _ rfl rfl rfl HG3.out ?_))
  refine HEN.out.mono ?_
  rintro x V4 ⟨no, fr, fa, rfl, hno, hra, hb⟩
  have HB := Lib.hid (HO.out.below hb)
  clear HO hb HEN
  have HO := HB
  clear HB
  have HNO := Lib.hid hno
  have HRA := Lib.hid hra
  clear hno hra
  go_upto_region 9 with (first | (refine wpo_alloc tyX HO.out rfl rfl ?_; clear HO; rintro k6 W5 hO; have HO := Lib.hid hO; clear hO; simp only [Act.put, List.setIfInBounds_toArray, List.set_cons_zero, List.set_cons_succ]) | (refine wpo_store (k := k6) HO.out 0 tyX rfl _ _ rfl rfl rfl rfl rfl rfl rfl ?_; clear HO; rintro W6 hO; have HO := Lib.hid hO; clear hO; simp only [Act.put]))
  by_cases hn0 : no = 0
  · have HQ := HQ0
    rw [if_pos (show E.no = 0 by rw [← HNO.out]; exact hn0)] at HQ
    subst hn0
    clear HQ0 HNO HRA
    have HDO := Lib.hid (fun (W : World) (g : Nat) (h : RWObj W g w0) => rwdo_num2 h (Nat.zero_le _) p.id)
    go_upto_region 12 with (first | (refine wpo_ldc (HO.out.get 0 rfl) tyE _ rfl rfl rfl rfl ?_) | (refine wpo_zero tyW rfl rfl ?_) | (refine wpo_box (t := 75) HO.out _ rfl rfl rfl ?_; clear HO; rintro k7 W7 hO; have HO := Lib.hid hO; clear hO; simp only [Act.put, List.setIfInBounds_toArray, List.set_cons_zero, List.set_cons_succ]))
    go_wp2_with (refine wpo_ldc (HO.out.get 4 rfl) tyI _ rfl rfl rfl HG1.out ?_)
    refine (HDO.out _ _ (w0_obj HO.out 0 rfl)).mono ?_
    rintro x V8 ⟨rfl, hn⟩
    obtain ⟨l8, a8, hO, e1, e2⟩ := HO.out.wstep 0 rfl hn
    clear HO hn
    have HO := Lib.hid hO
    have HE1 := Lib.hid e1
    have HE2 := Lib.hid e2
    clear hO e1 e2
    clear HDO
    have HDO := Lib.hid (rwdo_raw (HO.out.wr 0 rfl HE1.out HE2.out) (by have := stepW_len w0 (numE 2 p.id); have := numE_len 2 p.id; have h0 : w0.L.length = 0 := rfl; omega) E.L (by have := HEL.out; omega))
    rw [← HPW.out] at HDO
    clear HE1 HE2
    go_wp2_with fail
    refine HDO.out.mono ?_
    rintro x V9 ⟨rfl, hn⟩
    obtain ⟨l9, a9, hO, e1, e2⟩ := HO.out.wstep 0 rfl hn
    clear HO hn
    have HO := Lib.hid hO
    have HE1 := Lib.hid e1
    have HE2 := Lib.hid e2
    clear hO e1 e2
    clear HDO
    go_wp2_with fail
    go_loopg [8] 0 (fun f u wr => ∃ (l : List UInt8) (a : Nat), u = Value.int IntKind.i64 0 ∧ Hid (Own [] w wr [(k7, 75, #[.string ⟨l.toArray⟩, .int .i64 (phW p).no, .int .i64 a]), (k6, 40, #[.int .i64 0, .int .i64 fr, .int .i64 fa]), (k3, 40, #[.int .i64 0, .int .i64 0, .int .i64 0]), (k2, 33, #[.int .i64 0, .string ⟨#[]⟩]), (k1, 29, c)] ∧ ((phW p).no = 0 → l = (phW p).L) ∧ ((phW p).no ≠ 0 → a = (phW p).at_)))
    case atStart => exact ⟨_, _, rfl, Lib.hid ⟨HO.out, HE1.out, HE2.out⟩⟩
    case round =>
      obtain ⟨l, a, rfl, HJ⟩ := hrel
      obtain ⟨ho, e1, e2⟩ := HJ.out
      have HO := Lib.hid ho
      have HE1 := Lib.hid e1
      have HE2 := Lib.hid e2
      have kX : wr.cell? ⟨k1, 23, none⟩ = some (.slice A.sa 0 A.sc) := ((ho.get 4 rfl).cell 23).trans HG23.out
      have kK : wr.cell? ⟨k1, 0, none⟩ = some (.int .i64 9) := ((ho.get 4 rfl).cell 0).trans HG0.out
      clear ho e1 e2 HJ
      go_wp2_with fail
      clear kX kK
      obtain ⟨n, hn⟩ : ∃ n, n = p.codes.length := ⟨_, rfl⟩
      rw [← hn] at HG25
      have HN := Lib.hid hn
      have hn40 : n ≤ 40 := by have := HSM.out.2.2.1; omega
      clear hn
      go_loopg [9] n (fun f u wr => ∃ (k : Nat) (l : List UInt8) (a : Nat), f = n - k ∧ k ≤ n ∧ u = .int .i64 k ∧ Hid (Own [] w wr [(k7, 75, #[.string ⟨l.toArray⟩, .int .i64 ((p.codes.take k).foldl stC (phW p)).no, .int .i64 a]), (k6, 40, #[.int .i64 0, .int .i64 fr, .int .i64 fa]), (k3, 40, #[.int .i64 0, .int .i64 0, .int .i64 0]), (k2, 33, #[.int .i64 0, .string ⟨#[]⟩]), (k1, 29, c)] ∧ (((p.codes.take k).foldl stC (phW p)).no = 0 → l = ((p.codes.take k).foldl stC (phW p)).L) ∧ (((p.codes.take k).foldl stC (phW p)).no ≠ 0 → a = ((p.codes.take k).foldl stC (phW p)).at_)))
      case atStart => exact ⟨0, _, _, rfl, Nat.zero_le _, rfl, Lib.hid ⟨HO.out, HE1.out, HE2.out⟩⟩
      case round =>
        obtain ⟨k, l, a, rfl, hk, rfl, HJ⟩ := hrel
        obtain ⟨ho, e1, e2⟩ := HJ.out
        clear HO HE1 HE2
        have HO := Lib.hid ho
        have HE1 := Lib.hid e1
        have HE2 := Lib.hid e2
        have kX : wr.cell? ⟨k1, 25, none⟩ = some (.slice A.ca n A.cc) := ((ho.get 4 rfl).cell 25).trans HG25.out
        have kK : wr.cell? ⟨k1, 0, none⟩ = some (.int .i64 9) := ((ho.get 4 rfl).cell 0).trans HG0.out
        by_cases hlt : k < n
        · have hkL : k < p.codes.length := by have := HN.out; omega
          have hlt2 : (k : Int) < (n : Int) := by omega
          obtain ⟨x, off, ex, hc, -⟩ := icell_at (HCD.out.below ho.bel) (by omega)
          have hcx := hc k hkL
          rw [ex] at kX
          have htk := take_fold stC (phW p) p.codes 0 k hkL
          have hvl := foldC_len12 (p.codes.take k) (phW p)
          rw [List.length_take_of_le (by omega)] at hvl
          obtain ⟨t, ht⟩ : ∃ t, t = p.codes.getD k 0 := ⟨_, rfl⟩
          rw [← ht] at hcx htk
          have HTK := Lib.hid htk
          have HDO := Lib.hid (rwdo_num1 (HO.out.wr 0 rfl HE1.out HE2.out) (by have := HPHL.out; omega) t)
          clear ht htk hc ho e1 e2 HJ hvl ex
          go_wp2_with fail
          refine HDO.out.mono ?_
          rintro x V10 ⟨rfl, hn⟩
          obtain ⟨l', a', hO, e1, e2⟩ := HO.out.wstep 0 rfl hn
          have HJ2 := Lib.hid (And.intro hO (And.intro e1 e2))
          clear hO e1 e2 hn HDO HO kX kK
          go_wp2_with fail
          go_roundg (n - (k + 1))
          case rel => exact ⟨k + 1, l', a', rfl, hlt, by go_num, Lib.hid (by rw [HTK.out]; exact HJ2.out)⟩
          case measure => omega
        · obtain rfl : k = n := by omega
          have hge : ¬ (k : Int) < (k : Int) := by omega
          have htl : p.codes.take k = p.codes := by rw [HN.out]; exact List.take_length
          rw [htl] at HE1 HE2 HO
          clear htl hlt ho e1 e2 HJ
          go_wp2_with fail
          clear kX kK hge
          go_upto_region 23 with fail
          have HMD := Lib.hid (rmade_any (HO.out.wr 0 rfl HE1.out HE2.out) 144)
          rw [← HWR.out] at HMD
          obtain ⟨V, hV⟩ : ∃ V, V = wrS p := ⟨_, rfl⟩
          have hVL : V.L.length ≤ 900000 := by rw [hV]; have := HWLN.out; omega
          rw [← hV] at HMD HQ
          clear hV
          obtain ⟨t, ht⟩ : ∃ t : ByteArray, t = ⟨V.L.toArray⟩ := ⟨_, rfl⟩
          have hts : t.size ≤ 900000 := by rw [ht, bsize]; exact hVL
          obtain ⟨e, he⟩ : ∃ e, e = (dcS 144 t).1 := ⟨_, rfl⟩
          have HDC := Lib.hid (fun W => rdec12_9 (w := W) hts)
          rw [← d12_b, ← he] at HDC
          rw [← ht, ← he, frR_eq _ _ _ ht] at HQ
          have HTT := Lib.hid ht
          clear ht he hVL hts
          go_wp2_with fail
          by_cases hv : V.no = 0
          · have hq := HQ.out
            rw [if_pos hv] at hq
            have HQ2 := Lib.hid hq
            have HMD2 := Lib.hid (show frR V 144 e00 = ⟨e00, 144, t⟩ by unfold frR; rw [if_pos hv, if_pos (show e00.no = 0 from rfl), ← HTT.out])
            rw [HMD2.out] at HMD
            have HMD := Lib.hid (frf_ok HMD.out)
            clear hq HQ HMD2 hv HTT
            refine HMD.out.mono ?_
            rintro x V1 ⟨rfl, hb⟩
            have HB := Lib.hid (HO.out.below hb)
            clear HO hb HMD
            have HO := HB
            clear HB
            go_upto_region 26 with (first | (refine wpo_alloc tyF HO.out rfl rfl ?_; clear HO; rintro kfB WfB hO; have HO := Lib.hid hO; clear hO; simp only [Act.put, List.setIfInBounds_toArray, List.set_cons_zero, List.set_cons_succ]) | (refine wpo_alloc tyX HO.out rfl rfl ?_; clear HO; rintro kgB WgB hO; have HO := Lib.hid hO; clear hO; simp only [Act.put, List.setIfInBounds_toArray, List.set_cons_zero, List.set_cons_succ]) | (refine wpo_store (k := kfB) HO.out 1 tyF rfl _ _ rfl rfl rfl rfl rfl rfl rfl ?_; clear HO; rintro WhB hO; have HO := Lib.hid hO; clear hO; simp only [Act.put]) | (refine wpo_store (k := kgB) HO.out 0 tyX rfl _ _ rfl rfl rfl rfl rfl rfl rfl ?_; clear HO; rintro WiB hO; have HO := Lib.hid hO; clear hO; simp only [Act.put]) | (refine wpo_ldc (HO.out.get 0 rfl) tyE _ rfl rfl rfl rfl ?_))
            have HDD := Lib.hid (HDC.out WiB)
            clear HDC
            obtain ⟨en, er, ea⟩ := e
            simp only at HQ2 HDD
            go_wp2_with (refine wpo_load HO.out 1 tyF rfl rfl _ rfl rfl rfl ?_)
            refine HDD.out.mono ?_
            rintro x V2 ⟨c2, hc2, ho2, rfl, hb⟩
            have HC2 := Lib.hid (hc2.trans HZS.out.symm)
            have HC21 := Lib.hid ho2
            clear hc2 ho2
            have HB := Lib.hid (HO.out.below hb)
            clear HO hb HDD
            have HO := HB
            clear HB
            by_cases he : en = 0
            · have hq := HQ2.out
              rw [if_pos he] at hq
              have HQ3 := Lib.hid hq
              subst he
              clear hq HQ2
              go_wp2_with (first | (refine wpo_alloc HT.out HO.out rfl rfl ?_; clear HO; rintro kpC WpC hO; have HO := Lib.hid hO; clear hO; simp only [Act.put, List.setIfInBounds_toArray, List.set_cons_zero, List.set_cons_succ]) | (refine wpo_alloc tyX HO.out rfl rfl ?_; clear HO; rintro kxC WxC hO; have HO := Lib.hid hO; clear hO; simp only [Act.put, List.setIfInBounds_toArray, List.set_cons_zero, List.set_cons_succ]) | (refine wpo_store (k := kpC) HO.out 1 HT.out rfl _ _ rfl rfl rfl rfl rfl HC2.out HC21.out ?_; clear HO; rintro WyC hO; have HO := Lib.hid hO; clear hO; simp only [Act.put]) | (refine wpo_store (k := kxC) HO.out 0 tyX rfl _ _ rfl rfl rfl rfl rfl rfl rfl ?_; clear HO; rintro WzC hO; have HO := Lib.hid hO; clear hO; simp only [Act.put]) | (refine wpo_ldc (HO.out.get 0 rfl) tyE _ rfl rfl rfl rfl ?_) | (refine wpo_load HO.out 3 tyF rfl rfl _ rfl rfl rfl ?_) | (refine wpo_store (k := k2) HO.out 7 tyF rfl _ _ rfl rfl rfl rfl rfl rfl rfl ?_; clear HO; rintro WmC hO; have HO := Lib.hid hO; clear hO; simp only [Act.put]) | (refine wpo_store (k := k3) HO.out 6 tyX rfl _ _ rfl rfl rfl rfl rfl rfl rfl ?_; clear HO; rintro WnC hO; have HO := Lib.hid hO; clear hO; simp only [Act.put]))
              exact bodyPost_ret (v := .tuple #[.agg #[.int .i64 144, .string t], fltV (0, 0, 0)]) (res_own2 7 6 HO.out tyF tyX rfl rfl rfl rfl rfl rfl rfl) rfl ⟨by rw [HQ3.out] <;> rfl, HO.out.bel⟩
            · have hq := HQ2.out
              rw [if_neg he] at hq
              have HQ3 := Lib.hid hq
              have hei : ¬ (en : Int) = 0 := by omega
              clear hq HQ2 he
              go_upto_region 28 with (first | (refine wpo_alloc HT.out HO.out rfl rfl ?_; clear HO; rintro kpD WpD hO; have HO := Lib.hid hO; clear hO; simp only [Act.put, List.setIfInBounds_toArray, List.set_cons_zero, List.set_cons_succ]) | (refine wpo_alloc tyX HO.out rfl rfl ?_; clear HO; rintro kxD WxD hO; have HO := Lib.hid hO; clear hO; simp only [Act.put, List.setIfInBounds_toArray, List.set_cons_zero, List.set_cons_succ]) | (refine wpo_store (k := kpD) HO.out 1 HT.out rfl _ _ rfl rfl rfl rfl rfl HC2.out HC21.out ?_; clear HO; rintro WyD hO; have HO := Lib.hid hO; clear hO; simp only [Act.put]) | (refine wpo_store (k := kxD) HO.out 0 tyX rfl _ _ rfl rfl rfl rfl rfl rfl rfl ?_; clear HO; rintro WzD hO; have HO := Lib.hid hO; clear hO; simp only [Act.put]) | (refine wpo_ldc (HO.out.get 0 rfl) tyE _ rfl rfl rfl rfl ?_))
              refine wpo_y2 (yA := (k2, 33, #[.int .i64 0, .string ⟨#[]⟩])) (yB := (k3, 40, #[.int .i64 (en : Int), .int .i64 er, .int .i64 (ea : Int)])) [(115, .agg #[.int .i64 0, .string ⟨#[]⟩]), (116, .agg #[.int .i64 (en : Int), .int .i64 er, .int .i64 (ea : Int)])] 7 6 mixed (by kernel_rfl) HO.out rfl rfl (by decide) (fun _ _ _ _ _ h => h) ?_ rfl rfl ?_ ?_ ?_
              · refine ⟨⟨_, rfl, rfl, yo_zero rfl tyF rfl⟩, ?_⟩
                simp only [Act.put, List.setIfInBounds_toArray, List.set_cons_zero, List.set_cons_succ]
                refine ⟨⟨_, rfl, rfl, yo_load rfl tyX (fun _ h => h.get 0 (by decide) (by decide) rfl) rfl _ rfl rfl⟩, ?_⟩
                exact trivial
              · simp only [putD, Act.put, List.setIfInBounds_toArray, List.set_cons_zero, List.set_cons_succ]
                exact sto_row tyF _ _ rfl rfl rfl rfl rfl rfl rfl rfl
              · simp only [putD, Act.put, List.setIfInBounds_toArray, List.set_cons_zero, List.set_cons_succ]
                exact sto_row tyX _ _ rfl rfl rfl rfl rfl rfl rfl rfl
              intro WjD hO
              clear HO
              have HO := Lib.hid hO
              clear hO
              simp only [putD, Act.put, List.setIfInBounds_toArray, List.set_cons_zero, List.set_cons_succ]
              go_wp2_with fail
              exact bodyPost_ret (v := .tuple #[.agg #[.int .i64 0, .string ⟨#[]⟩], fltV (en, er, ea)]) (res_own2 7 6 HO.out tyF tyX rfl rfl rfl rfl rfl rfl rfl) rfl ⟨by rw [HQ3.out] <;> rfl, HO.out.bel⟩
          · have hq := HQ.out
            rw [if_neg hv] at hq
            have HQ2 := Lib.hid hq
            have hvi : ¬ (V.no : Int) = 0 := by omega
            have HMD2 := Lib.hid (show frR V 144 e00 = ⟨⟨V.no, 129, V.at_⟩, 0, ⟨#[]⟩⟩ by unfold frR; rw [if_neg hv])
            rw [HMD2.out] at HMD
            have HMD := Lib.hid (frf_bad HMD.out)
            clear hq HQ HMD2 hv
            refine HMD.out.mono ?_
            rintro x V1 ⟨rfl, hb⟩
            have HB := Lib.hid (HO.out.below hb)
            clear HO hb HMD
            have HO := HB
            clear HB
            go_upto_region 25 with (first | (refine wpo_alloc tyF HO.out rfl rfl ?_; clear HO; rintro kfA WfA hO; have HO := Lib.hid hO; clear hO; simp only [Act.put, List.setIfInBounds_toArray, List.set_cons_zero, List.set_cons_succ]) | (refine wpo_alloc tyX HO.out rfl rfl ?_; clear HO; rintro kgA WgA hO; have HO := Lib.hid hO; clear hO; simp only [Act.put, List.setIfInBounds_toArray, List.set_cons_zero, List.set_cons_succ]) | (refine wpo_store (k := kfA) HO.out 1 tyF rfl _ _ rfl rfl rfl rfl rfl rfl rfl ?_; clear HO; rintro WhA hO; have HO := Lib.hid hO; clear hO; simp only [Act.put]) | (refine wpo_store (k := kgA) HO.out 0 tyX rfl _ _ rfl rfl rfl rfl rfl rfl rfl ?_; clear HO; rintro WiA hO; have HO := Lib.hid hO; clear hO; simp only [Act.put]) | (refine wpo_ldc (HO.out.get 0 rfl) tyE _ rfl rfl rfl rfl ?_))
            refine wpo_y2 (yA := (k2, 33, #[.int .i64 0, .string ⟨#[]⟩])) (yB := (k3, 40, #[.int .i64 (V.no : Int), .int .i64 129, .int .i64 (V.at_ : Int)])) [(105, .agg #[.int .i64 0, .string ⟨#[]⟩]), (106, .agg #[.int .i64 (V.no : Int), .int .i64 129, .int .i64 (V.at_ : Int)])] 5 4 mixed (by kernel_rfl) HO.out rfl rfl (by decide) (fun _ _ _ _ _ h => h) ?_ rfl rfl ?_ ?_ ?_
            · refine ⟨⟨_, rfl, rfl, yo_load rfl tyF (fun _ h => h.get 1 (by decide) (by decide) rfl) rfl _ rfl rfl⟩, ?_⟩
              simp only [Act.put, List.setIfInBounds_toArray, List.set_cons_zero, List.set_cons_succ]
              refine ⟨⟨_, rfl, rfl, yo_load rfl tyX (fun _ h => h.get 0 (by decide) (by decide) rfl) rfl _ rfl rfl⟩, ?_⟩
              exact trivial
            · simp only [putD, Act.put, List.setIfInBounds_toArray, List.set_cons_zero, List.set_cons_succ]
              exact sto_row tyF _ _ rfl rfl rfl rfl rfl rfl rfl rfl
            · simp only [putD, Act.put, List.setIfInBounds_toArray, List.set_cons_zero, List.set_cons_succ]
              exact sto_row tyX _ _ rfl rfl rfl rfl rfl rfl rfl rfl
            intro WjA hO
            clear HO
            have HO := Lib.hid hO
            clear hO
            simp only [putD, Act.put, List.setIfInBounds_toArray, List.set_cons_zero, List.set_cons_succ]
            go_wp2_with fail
            exact bodyPost_ret (v := .tuple #[.agg #[.int .i64 0, .string ⟨#[]⟩], fltV (V.no, 129, V.at_)]) (res_own2 5 4 HO.out tyF tyX rfl rfl rfl rfl rfl rfl rfl) rfl ⟨by rw [HQ2.out] <;> rfl, HO.out.bel⟩
  · have hq := HQ0.out
    rw [if_neg (show ¬ E.no = 0 by rw [← HNO.out]; exact hn0)] at hq
    obtain ⟨e1, e2⟩ := HRA.out (by rw [← HNO.out]; exact hn0)
    subst e1 e2
    have HQ2 := Lib.hid (show q = ⟨⟨no, E.r, E.at_⟩, 0, ⟨#[]⟩⟩ by rw [hq, HNO.out])
    have hni : ¬ (no : Int) = 0 := by omega
    clear hq HQ0 HRA HNO hn0
    go_upto_region 10 with (refine wpo_ldc (HO.out.get 0 rfl) tyE _ rfl rfl rfl rfl ?_)
    refine wpo_y2 (yA := (k2, 33, #[.int .i64 0, .string ⟨#[]⟩])) (yB := (k3, 40, #[.int .i64 (no : Int), .int .i64 E.r, .int .i64 (E.at_ : Int)])) [(33, .agg #[.int .i64 0, .string ⟨#[]⟩]), (34, .agg #[.int .i64 (no : Int), .int .i64 E.r, .int .i64 (E.at_ : Int)])] 2 1 mixed (by kernel_rfl) HO.out rfl rfl (by decide) (fun _ _ _ _ _ h => h) ?_ rfl rfl ?_ ?_ ?_
    · refine ⟨⟨_, rfl, rfl, yo_zero rfl tyF rfl⟩, ?_⟩
      simp only [Act.put, List.setIfInBounds_toArray, List.set_cons_zero, List.set_cons_succ]
      refine ⟨⟨_, rfl, rfl, yo_load rfl tyX (fun _ h => h.get 0 (by decide) (by decide) rfl) rfl _ rfl rfl⟩, ?_⟩
      exact trivial
    · simp only [putD, Act.put, List.setIfInBounds_toArray, List.set_cons_zero, List.set_cons_succ]
      exact sto_row tyF _ _ rfl rfl rfl rfl rfl rfl rfl rfl
    · simp only [putD, Act.put, List.setIfInBounds_toArray, List.set_cons_zero, List.set_cons_succ]
      exact sto_row tyX _ _ rfl rfl rfl rfl rfl rfl rfl rfl
    intro WjB hO
    clear HO
    have HO := Lib.hid hO
    clear hO
    simp only [putD, Act.put, List.setIfInBounds_toArray, List.set_cons_zero, List.set_cons_succ]
    go_wp2_with fail
    exact bodyPost_ret (v := .tuple #[.agg #[.int .i64 0, .string ⟨#[]⟩], fltV (no, E.r, E.at_)]) (res_own2 2 1 HO.out tyF tyX rfl rfl rfl rfl rfl rfl rfl) rfl ⟨by rw [HQ2.out] <;> rfl, HO.out.bel⟩
end Go.Proofs.YtinhecggmakbnaaGreatDoor
