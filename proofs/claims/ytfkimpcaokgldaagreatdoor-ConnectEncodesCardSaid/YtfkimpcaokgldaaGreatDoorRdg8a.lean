/- What is proved here: what the document's Decode of layer 8 tells as its fault. Conditions: few bytes. -/
import Derived.Test.YtfkimpcaokgldaaGreatDoorRde8a
import Derived.Deep.QuietTactic
import Derived.BigQuiet
import Derived.Deep.DeepMust
namespace Go.Proofs.YtfkimpcaokgldaaGreatDoor
set_option maxRecDepth 100000
open Go.ChangeShapes Go.WideShapes Go.RowKit Go.Deep Go.Extern.Stop Go.Stop Go.Extern
theorem ofR_zrdec08_g0 {q : Nat × Nat} {og : Int} {oa : Nat} (h : ofR q = (0, og, oa)) : og = 0 ∧ oa = 0 := by
  unfold ofR at h
  split at h
  · injection h with _ h; injection h with h1 h2; exact ⟨h1.symm, h2.symm⟩
  · rename_i c; injection h with h _; exact absurd h c
set_option maxHeartbeats 16000000 in
theorem rdec08_g0 {w : World} {s : ByteArray} (hs : s.size ≤ 900000) {e0 : Er} {n : Nat} {Rh : RV} (hh : hdK s = (e0, n, Rh)) (hn : n < 256) (hx : e0.no = 0) {kp : Nat} {Rk : RV} (hk : rNum s 2 Rh = (kp, Rk)) {rn : Nat} {rr : Int} {ra : Nat} {rL : PL} {Rp : RV} (hF : readF 1 s Rk = (⟨rn, rr, ra, rL⟩, Rp)) {bu bp : Bool} (hbu : ((n : Int) / 128 == 1) = bu) (hbp : ((n : Int) / 64 % 2 == 1) = bp) (hy : rn = 0) {cl : ByteArray} {Rc : RV} (hc : rText s Rp = (cl, Rc)) (h4 : ((n : Int) / 4 % 2 == 1) = false) {us : ByteArray} {Ru : RV} (hus : (if bu = true then rText s Rc else (⟨#[]⟩, Rc)) = (us, Ru)) {ps : ByteArray} {Rx : RV} (hps : (if bp = true then rBin s Ru else (⟨#[]⟩, Ru)) = (ps, Rx)) {on : Nat} {og : Int} {oa : Nat} (ho : ofR (dnR s Rx) = (on, og, oa)) : Calls Tryz.prog 35 #[.agg #[.int .i64 16, .string s]] w (RDc w ⟨on, og, oa⟩) := by
  obtain ⟨z, hT, hz26, hz⟩ := tyP_ex
  obtain ⟨q, hq⟩ : ∃ q, q = (⟨on, og, oa⟩ : Er) := ⟨_, rfl⟩
  rw [← hq]
  have HT := Lib.hid hT
  have HZS := Lib.hid hz26
  have HZ := Lib.hid hz
  have HQ2 := Lib.hid hq
  have HH := Lib.hid hh
  have HSZ := Lib.hid hs
  have HO := Lib.hid (Own.start [] w)
  obtain ⟨en, er, ea⟩ := e0
  simp only at hx
  have HC := Lib.hid hc
  have H4 := Lib.hid h4
  clear hc h4
  have HHO := Lib.hid ho
  clear ho
  have HUS := Lib.hid hus
  clear hus
  have HPS := Lib.hid hps
  clear hps
  subst hx
  have HK := Lib.hid hk
  have HF := Lib.hid hF
  have HBU := Lib.hid hbu
  have HBP := Lib.hid hbp
  clear hT hz26 hz hq hh hs hk hF hbu hbp
  obtain ⟨b2, hb2⟩ : ∃ b : Bool, b = ((n : Int) / 2 % 2 == 1) := ⟨_, rfl⟩
  replace hb2 := hb2.symm
  obtain ⟨y, hy⟩ : ∃ y, y = (((z.setIfInBounds 0 (.int .i64 1)).setIfInBounds 4 (.bool b2)).setIfInBounds 13 (.bool bu)).setIfInBounds 15 (.bool bp) := ⟨_, rfl⟩
  have HBY := Lib.hid (rbuilt8 HZ.out hy)
  have HY := Lib.hid (PkY.made HZ.out HT.out.one hy)
  have HYS := Lib.hid (HY.out.size.trans HZS.out.symm)
  have HBK := Lib.hid hb2
  have HN256 := Lib.hid hn
  clear hb2 hy hn
  go_enter Tryz.func35, Tryz.ntmps35
  go_upto_region 4 with (first | (refine wpo_box (t := 33) HO.out _ rfl rfl rfl ?_; clear HO; rintro k1 W1 hO; have HO := Lib.hid hO; clear hO; simp only [Act.put, List.setIfInBounds_toArray, List.set_cons_zero, List.set_cons_succ]) | (refine wpo_alloc HT.out HO.out rfl rfl ?_; clear HO; rintro k2 W2 hO; have HO := Lib.hid hO; clear hO; simp only [Act.put, List.setIfInBounds_toArray, List.set_cons_zero, List.set_cons_succ]) | (refine wpo_alloc tyX HO.out rfl rfl ?_; clear HO; rintro k3 W3 hO; have HO := Lib.hid hO; clear hO; simp only [Act.put, List.setIfInBounds_toArray, List.set_cons_zero, List.set_cons_succ]) | (refine wpo_ldc (HO.out.get 2 rfl) tyI _ rfl rfl rfl rfl ?_) | (refine wpo_box (t := 132) HO.out _ rfl rfl rfl ?_; clear HO; rintro k4 W4 hO; have HO := Lib.hid hO; clear hO; simp only [Act.put, List.setIfInBounds_toArray, List.set_cons_zero, List.set_cons_succ]) | (refine wpo_ldc (HO.out.get 2 rfl) tyS _ rfl rfl rfl rfl ?_))
  have HU := Lib.hid (rhead08 (HO.out.rd 0 rfl (R := ⟨0, 0, 0⟩) (Nat.zero_le _)) HSZ.out)
  rw [HH.out] at HU
  go_wp2_with fail
  refine HU.out.mono ?_
  rintro x V5 ⟨rfl, hn⟩
  have HL5 := Lib.hid hn.obj.le
  have HB := Lib.hid (HO.out.rstep (R' := Rh) 0 rfl hn)
  clear HO hn HU
  have HO := HB
  clear HB
  simp only [fltV]
  go_upto_region 7 with (first | (refine wpo_alloc tyX HO.out rfl rfl ?_; clear HO; rintro k6A W6A hO; have HO := Lib.hid hO; clear hO; simp only [Act.put, List.setIfInBounds_toArray, List.set_cons_zero, List.set_cons_succ]) | (refine wpo_store (k := k6A) HO.out 0 tyX rfl _ _ rfl rfl rfl rfl rfl rfl rfl ?_; clear HO; rintro W7A hO; have HO := Lib.hid hO; clear hO; simp only [Act.put]) | (refine wpo_ldc (HO.out.get 0 rfl) tyE _ rfl rfl rfl rfl ?_))
  have hb2 := HBK.out
  have hbu := HBU.out
  have hbp := HBP.out
  have hn := HN256.out
  go_upto_region 8 with (first | (refine wpo_built HBY.out rfl rfl rfl ?_) | (refine wpo_alloc HT.out HO.out rfl rfl ?_; clear HO; rintro k7 W8 hO; have HO := Lib.hid hO; clear hO; simp only [Act.put, List.setIfInBounds_toArray, List.set_cons_zero, List.set_cons_succ]) | (refine wpo_store (k := k7) HO.out 0 HT.out rfl _ _ rfl rfl rfl rfl rfl HYS.out HY.out.one ?_; clear HO; rintro W9 hO; have HO := Lib.hid hO; clear hO; simp only [Act.put]))
  clear hb2 hbu hbp
  have HU := Lib.hid (rru16_any (HO.out.rd 2 rfl (R := Rh) HL5.out) (by have := HSZ.out; omega))
  rw [HK.out] at HU
  go_wp2_with fail
  refine HU.out.mono ?_
  rintro x V8 ⟨rfl, hn⟩
  have HL8 := Lib.hid hn.obj.le
  have HB := Lib.hid (HO.out.rstep (R' := Rk) 2 rfl hn)
  clear HO hn HU
  have HO := HB
  clear HB
  go_upto_region 9 with (refine wpo_cell (v := .int .i64 (kp : Int)) HO.out 0 5 tyI.ip rfl _ _ rfl rfl rfl rfl (by rw [HY.out.size]; decide) rfl ?_; clear HO; rintro W10 hO; have HO := Lib.hid hO; clear hO; simp only [Act.put])
  have HY2 := Lib.hid (HY.out.put 5 (.int .i64 (kp : Int)) rfl (by decide) (by decide))
  have HRD := Lib.hid (rread_any (HO.out.rd 2 rfl (R := Rk) HL8.out) HSZ.out 1)
  rw [HF.out] at HRD
  go_wp2_with fail
  refine HRD.out.mono ?_
  rintro x V11 ⟨v5, rfl, hv5, hn1⟩
  have HL11 := Lib.hid hn1.obj.le
  have HB := Lib.hid (HO.out.rstep (R' := Rp) 2 rfl hn1)
  clear HO hn1 HRD
  have HO := HB
  clear HB
  obtain ⟨a5, n5, c5, rfl, -, -⟩ := hv5.some_form
  clear hv5
  subst hy
  clear HF
  go_upto_region 13 with (first | (refine wpo_alloc tyX HO.out rfl rfl ?_; clear HO; rintro k6B W6B hO; have HO := Lib.hid hO; clear hO; simp only [Act.put, List.setIfInBounds_toArray, List.set_cons_zero, List.set_cons_succ]) | (refine wpo_store (k := k6B) HO.out 0 tyX rfl _ _ rfl rfl rfl rfl rfl rfl rfl ?_; clear HO; rintro W7B hO; have HO := Lib.hid hO; clear hO; simp only [Act.put]) | (refine wpo_ldc (HO.out.get 0 rfl) tyE _ rfl rfl rfl rfl ?_) | (refine wpo_cell (v := .slice a5 n5 c5) HO.out 1 3 tyL.ip rfl _ _ rfl rfl rfl rfl (Nat.lt_of_lt_of_eq (by decide) HY2.out.size.symm) rfl ?_; clear HO; rintro W12 hO; have HO := Lib.hid hO; clear hO; simp only [Act.put]))
  have HY3 := Lib.hid (HY2.out.put 3 (.slice a5 n5 c5) rfl (by decide) (by decide))
  have HU := Lib.hid (rrtext_any (HO.out.rd 3 rfl (R := Rp) HL11.out) (by have := HSZ.out; omega))
  rw [HC.out] at HU
  go_wp2_with fail
  refine HU.out.mono ?_
  rintro x V13 ⟨rfl, hn⟩
  have HL13 := Lib.hid hn.obj.le
  have HB := Lib.hid (HO.out.rstep (R' := Rc) 3 rfl hn)
  clear HO hn HU
  have HO := HB
  clear HB
  simp only [List.set_cons_zero, List.set_cons_succ] at HO
  have h4 := H4.out
  have hn := HN256.out
  go_upto_region 20 with (refine wpo_cell (v := .string cl) HO.out 1 6 tyS.ip rfl _ _ rfl rfl rfl rfl (Nat.lt_of_lt_of_eq (by decide) HY3.out.size.symm) rfl ?_; clear HO; rintro W14 hO; have HO := Lib.hid hO; clear hO; simp only [Act.put])
  have HY4 := Lib.hid (HY3.out.put 6 (.string cl) rfl (by decide) (by decide))
  simp only [List.set_cons_zero, List.set_cons_succ] at HO
  generalize ((y.setIfInBounds 5 (.int .i64 (kp : Int))).setIfInBounds 3 (.slice a5 n5 c5)).setIfInBounds 6 (.string cl) = y4 at HO HY4
  clear h4 hn
  cases bu
  case' false =>
    have e2 : Ru = Rc := (Prod.mk.inj (show ((⟨#[]⟩ : ByteArray), Rc) = (us, Ru) from HUS.out)).2.symm
    subst e2
    generalize y4 = y6 at HO HY4
    have HLU := HL13
    have HY6 := HY4
    go_upto_region 22 with (refine wpo_ldc (HO.out.get 1 rfl) tyB _ rfl rfl rfl HY6.out.c13 ?_)
  case' true =>
    have HU := Lib.hid (rrtext_any (HO.out.rd 3 rfl (R := Rc) HL13.out) (by have := HSZ.out; omega))
    rw [show rText s Rc = (us, Ru) from HUS.out] at HU
    go_wp2_with (refine wpo_ldc (HO.out.get 1 rfl) tyB _ rfl rfl rfl HY4.out.c13 ?_)
    refine HU.out.mono ?_
    rintro x V21 ⟨rfl, hn⟩
    have HL21 := Lib.hid hn.obj.le
    have HB := Lib.hid (HO.out.rstep (R' := Ru) 3 rfl hn)
    clear HO hn HU
    have HO := HB
    clear HB
    simp only [List.set_cons_zero, List.set_cons_succ] at HO
    go_upto_region 22 with (refine wpo_cell (v := .string us) HO.out 1 14 tyS.ip rfl _ _ rfl rfl rfl rfl (by rw [HY4.out.size]; decide) rfl ?_; clear HO; rintro W21 hO; have HO := Lib.hid hO; clear hO; simp only [Act.put])
    have HY6 := Lib.hid (HY4.out.put 14 (.string us) rfl (by decide) (by decide))
    simp only [List.set_cons_zero, List.set_cons_succ] at HO
    generalize y4.setIfInBounds 14 (.string us) = y6 at HO HY6
    have HLU := HL21
  all_goals
    cases bp
    case' false =>
      have e2 : Rx = Ru := (Prod.mk.inj (show ((⟨#[]⟩ : ByteArray), Ru) = (ps, Rx) from HPS.out)).2.symm
      subst e2
      generalize y6 = y7 at HO HY6
      have HLX := HLU
      have HY7 := HY6
      go_upto_region 24 with (refine wpo_ldc (HO.out.get 1 rfl) tyB _ rfl rfl rfl HY7.out.c15 ?_)
    case' true =>
      have HU := Lib.hid (rrbin_any (HO.out.rd 3 rfl (R := Ru) HLU.out) (by have := HSZ.out; omega))
      rw [show rBin s Ru = (ps, Rx) from HPS.out] at HU
      go_wp2_with (refine wpo_ldc (HO.out.get 1 rfl) tyB _ rfl rfl rfl HY6.out.c15 ?_)
      refine HU.out.mono ?_
      rintro x V23 ⟨rfl, hn⟩
      have HL23 := Lib.hid hn.obj.le
      have HB := Lib.hid (HO.out.rstep (R' := Rx) 3 rfl hn)
      clear HO hn HU
      have HO := HB
      clear HB
      simp only [List.set_cons_zero, List.set_cons_succ] at HO
      go_upto_region 24 with (refine wpo_cell (v := .string ps) HO.out 1 16 tyS.ip rfl _ _ rfl rfl rfl rfl (by rw [HY6.out.size]; decide) rfl ?_; clear HO; rintro W23 hO; have HO := Lib.hid hO; clear hO; simp only [Act.put])
      have HY7 := Lib.hid (HY6.out.put 16 (.string ps) rfl (by decide) (by decide))
      simp only [List.set_cons_zero, List.set_cons_succ] at HO
      generalize y6.setIfInBounds 16 (.string ps) = y7 at HO HY7
      have HLX := HL23
    all_goals
      have HOF := Lib.hid (rrof_any (HO.out.rd 3 rfl (R := Rx) HLX.out))
      rw [HHO.out, show fltV (on, og, oa) = .agg #[.int .i64 (on : Int), .int .i64 og, .int .i64 (oa : Int)] from rfl] at HOF
      go_wp2_with fail
      refine HOF.out.mono ?_
      rintro x V25 ⟨rfl, hb⟩
      have HB := Lib.hid (HO.out.below hb)
      clear HO hb HOF
      have HO := HB
      clear HB
      by_cases h0 : on = 0
      · subst h0
        obtain ⟨rfl, rfl⟩ := ofR_zrdec08_g0 HHO.out
        go_wp2_with (first | (refine wpo_alloc tyX HO.out rfl rfl ?_; clear HO; rintro k6D W6D hO; have HO := Lib.hid hO; clear hO; simp only [Act.put, List.setIfInBounds_toArray, List.set_cons_zero, List.set_cons_succ]) | (refine wpo_store (k := k6D) HO.out 0 tyX rfl _ _ rfl rfl rfl rfl rfl rfl rfl ?_; clear HO; rintro W7D hO; have HO := Lib.hid hO; clear hO; simp only [Act.put]) | (refine wpo_ldc (HO.out.get 0 rfl) tyE _ rfl rfl rfl rfl ?_) | (refine wpo_load HO.out 2 HT.out rfl (HY7.out.size.trans HZS.out.symm) _ rfl rfl rfl ?_) | (refine wpo_store (k := k2) HO.out 6 HT.out rfl _ _ rfl rfl rfl rfl rfl (HY7.out.size.trans HZS.out.symm) HY7.out.one ?_; clear HO; rintro Wh hO; have HO := Lib.hid hO; clear hO; simp only [Act.put]) | (refine wpo_store (k := k3) HO.out 5 tyX rfl _ _ rfl rfl rfl rfl rfl rfl rfl ?_; clear HO; rintro Wi hO; have HO := Lib.hid hO; clear hO; simp only [Act.put]))
        exact bodyPost_ret (v := .tuple #[.agg _, fltV (0, 0, 0)]) (res_own2 6 5 HO.out HT.out tyX rfl rfl rfl rfl rfl (HY7.out.size.trans HZS.out.symm) rfl) rfl ⟨_, HY7.out.size, HY7.out.one, by rw [HQ2.out] <;> rfl, HO.out.bel⟩
      · have hoi : ¬ (on : Int) = 0 := by omega
        go_upto_region 26 with (first | (refine wpo_alloc tyX HO.out rfl rfl ?_; clear HO; rintro k6E W6E hO; have HO := Lib.hid hO; clear hO; simp only [Act.put, List.setIfInBounds_toArray, List.set_cons_zero, List.set_cons_succ]) | (refine wpo_store (k := k6E) HO.out 0 tyX rfl _ _ rfl rfl rfl rfl rfl rfl rfl ?_; clear HO; rintro W7E hO; have HO := Lib.hid hO; clear hO; simp only [Act.put]) | (refine wpo_ldc (HO.out.get 0 rfl) tyE _ rfl rfl rfl rfl ?_))
        refine wpo_y2 (yA := (k2, 29, z)) (yB := (k3, 40, #[.int .i64 (on : Int), .int .i64 (og : Int), .int .i64 (oa : Int)])) [(107, .agg z), (108, .agg #[.int .i64 (on : Int), .int .i64 (og : Int), .int .i64 (oa : Int)])] 6 5 mixed (by kernel_rfl) HO.out rfl rfl (by decide) (fun _ _ _ _ _ h => h) ?_ rfl rfl ?_ ?_ ?_
        · refine ⟨⟨_, rfl, rfl, yo_zero rfl HT.out rfl⟩, ?_⟩
          simp only [Act.put, List.setIfInBounds_toArray, List.set_cons_zero, List.set_cons_succ]
          refine ⟨⟨_, rfl, rfl, yo_load rfl tyX (fun _ h => h.get 0 (by decide) (by decide) rfl) rfl _ rfl rfl⟩, ?_⟩
          exact trivial
        · simp only [putD, Act.put, List.setIfInBounds_toArray, List.set_cons_zero, List.set_cons_succ]
          exact sto_row HT.out _ _ rfl rfl rfl rfl rfl rfl rfl HT.out.one
        · simp only [putD, Act.put, List.setIfInBounds_toArray, List.set_cons_zero, List.set_cons_succ]
          exact sto_row tyX _ _ rfl rfl rfl rfl rfl rfl rfl rfl
        intro WjF hO
        clear HO
        have HO := Lib.hid hO
        clear hO
        simp only [putD, Act.put, List.setIfInBounds_toArray, List.set_cons_zero, List.set_cons_succ]
        go_wp2_with fail
        exact bodyPost_ret (v := .tuple #[.agg z, fltV (on, og, oa)]) (res_own2 6 5 HO.out HT.out tyX rfl rfl rfl rfl rfl rfl rfl) rfl ⟨z, HZS.out, HT.out.one, by rw [HQ2.out] <;> rfl, HO.out.bel⟩
end Go.Proofs.YtfkimpcaokgldaaGreatDoor
