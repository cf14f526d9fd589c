/- What is proved here: what the document's Decode of layer 9 tells as its fault. Conditions: few bytes. What is proved here: what the document's Decode of layer 9 tells as its fault. Conditions: few bytes. What is proved here: what the document's Decode of layer 9 tells as its fault. Conditions: few bytes. -/
import Derived.Test.YtinhecggmakbnaaGreatDoorRdx08
import Derived.Test.YtinhecggmakbnaaGreatDoorPlc09
import Derived.Deep.QuietTactic
import Derived.BigQuiet
namespace Go.Proofs.YtinhecggmakbnaaGreatDoor
set_option maxRecDepth 100000
open Go.RowKit Go.Extern.Stop Go.Stop Go.Extern
theorem rbuilt9 {z y : Array Value} (hz : z = pk0.cells pa0) {x : Bool} {b : Int} {a : Option Addr} {n c : Nat} (hy : y = (((z.setIfInBounds 0 (.int .i64 2)).setIfInBounds 17 (.bool x)).setIfInBounds 2 (.int .i64 b)).setIfInBounds 3 (.slice a n c)) :
    Tryz.prog.built 29 [(0, .int .i64 2), (12, .bool x), (2, .int .i64 b), (3, .slice a n c)] = some y := by rw [hy, hz]; rfl
set_option maxHeartbeats 8000000 in
theorem rdec09_1 {w : World} {s : ByteArray} {a b : Nat} {R1 R2 : RV} (ha : rNum s 1 ⟨0, 0, 0⟩ = (a, R1)) (hb : rNum s 1 R1 = (b, R2)) (hs : s.size ≤ 900000) (h : ¬ R2.no = 0) : Calls Tryz.prog 62 #[.agg #[.int .i64 32, .string s]] w (RDc w (dcC1 s a b R2).1) := by
  obtain ⟨z, hT, hz26, hz⟩ := tyP_ex
  obtain ⟨q, hq⟩ : ∃ q, q = (dcC1 s a b R2).1 := ⟨_, rfl⟩
  rw [← hq]
  unfold dcC1 at hq
  have HT := Lib.hid hT
  have HZS := Lib.hid hz26
  have HZ := Lib.hid hz
  have HQ := Lib.hid hq
  have HA := Lib.hid ha
  have HBB := Lib.hid hb
  have HSZ := Lib.hid hs
  have HO := Lib.hid (Own.start [] w)
  clear hT hz26 hz hq ha hb hs
  have HHO := Lib.hid (show ofR (dnR s R2) = (R2.no, 129, R2.ea) by unfold dnR; rw [if_neg h]; unfold ofR; rw [if_neg h])
  have HQ2 := Lib.hid (show q = ⟨R2.no, 129, R2.ea⟩ by rw [HQ.out, show chkC a b R2 = ⟨R2.no, 129, R2.ea⟩ from by unfold chkC; rw [if_neg h], if_neg h])
  have hi : ¬ (R2.no : Int) = 0 := by omega
  clear HQ h
  go_enter Tryz.func62, Tryz.ntmps62
  go_upto_region 4 with (first | (refine wpo_box (t := 33) HO.out _ rfl rfl rfl ?_; clear HO; rintro k1 W1 hO; have HO := Lib.hid hO; clear hO; simp only [Act.put, List.setIfInBounds_toArray, List.set_cons_zero, List.set_cons_succ]) | (refine wpo_alloc HT.out HO.out rfl rfl ?_; clear HO; rintro k2 W2 hO; have HO := Lib.hid hO; clear hO; simp only [Act.put, List.setIfInBounds_toArray, List.set_cons_zero, List.set_cons_succ]) | (refine wpo_alloc tyX HO.out rfl rfl ?_; clear HO; rintro k3 W3 hO; have HO := Lib.hid hO; clear hO; simp only [Act.put, List.setIfInBounds_toArray, List.set_cons_zero, List.set_cons_succ]) | (refine wpo_ldc (HO.out.get 2 rfl) tyI _ rfl rfl rfl rfl ?_) | (refine wpo_box (t := 136) HO.out _ rfl rfl rfl ?_; clear HO; rintro k4 W4 hO; have HO := Lib.hid hO; clear hO; simp only [Act.put, List.setIfInBounds_toArray, List.set_cons_zero, List.set_cons_succ]) | (refine wpo_ldc (HO.out.get 2 rfl) tyS _ rfl rfl rfl rfl ?_))
  have HU := Lib.hid (rru8_any (HO.out.rd 0 rfl (R := ⟨0, 0, 0⟩) (Nat.zero_le _)) (by have := HSZ.out; omega))
  rw [HA.out] at HU
  go_wp2_with fail
  refine HU.out.mono ?_
  rintro x V5 ⟨rfl, hn⟩
  have HL1 := Lib.hid hn.obj.le
  have HB := Lib.hid (HO.out.rstep (R' := R1) 0 rfl hn)
  clear HO hn HU
  have HO := HB
  clear HB
  have HU := Lib.hid (rru8_any (HO.out.rd 0 rfl (R := R1) HL1.out) (by have := HSZ.out; omega))
  rw [HBB.out] at HU
  go_wp2_with fail
  refine HU.out.mono ?_
  rintro x V6 ⟨rfl, hn⟩
  have HL2 := Lib.hid hn.obj.le
  have HB := Lib.hid (HO.out.rstep (R' := R2) 0 rfl hn)
  clear HO hn HU
  have HO := HB
  clear HB
  have HOF := Lib.hid (rrof_any (HO.out.rd 0 rfl (R := R2) HL2.out))
  rw [HHO.out, show fltV (R2.no, 129, R2.ea) = .agg #[.int .i64 (R2.no : Int), .int .i64 (129 : Int), .int .i64 (R2.ea : Int)] from rfl] at HOF
  go_wp2_with (first | (refine wpo_ldc (HO.out.get 0 rfl) tyE _ rfl rfl rfl rfl ?_) | (refine wpo_zero HT.out rfl rfl ?_))
  refine HOF.out.mono ?_
  rintro x V7 ⟨rfl, hb⟩
  have HB := Lib.hid (HO.out.below hb)
  clear HO hb HOF
  have HO := HB
  clear HB
  go_wp2_with (first | (refine wpo_store (k := k2) HO.out 2 HT.out rfl _ _ rfl rfl rfl rfl rfl rfl HT.out.one ?_; clear HO; rintro Wk hO; have HO := Lib.hid hO; clear hO; simp only [Act.put]) | (refine wpo_store (k := k3) HO.out 1 tyX rfl _ _ rfl rfl rfl rfl rfl rfl rfl ?_; clear HO; rintro Wl hO; have HO := Lib.hid hO; clear hO; simp only [Act.put]))
  exact bodyPost_ret (v := .tuple #[.agg z, fltV (R2.no, 129, R2.ea)]) (res_own2 2 1 HO.out HT.out tyX rfl rfl rfl rfl rfl rfl rfl) rfl ⟨z, HZS.out, HT.out.one, by rw [HQ2.out] <;> rfl, HO.out.bel⟩
set_option maxHeartbeats 8000000 in
theorem rdec09_2 {w : World} {s : ByteArray} {a b : Nat} {R1 R2 : RV} (ha : rNum s 1 ⟨0, 0, 0⟩ = (a, R1)) (hb : rNum s 1 R1 = (b, R2)) (hs : s.size ≤ 900000) (h : R2.no = 0) (h1 : 1 < a) : Calls Tryz.prog 62 #[.agg #[.int .i64 32, .string s]] w (RDc w (dcC1 s a b R2).1) := by
  obtain ⟨z, hT, hz26, hz⟩ := tyP_ex
  obtain ⟨q, hq⟩ : ∃ q, q = (dcC1 s a b R2).1 := ⟨_, rfl⟩
  rw [← hq]
  unfold dcC1 at hq
  have HT := Lib.hid hT
  have HZS := Lib.hid hz26
  have HZ := Lib.hid hz
  have HQ := Lib.hid hq
  have HA := Lib.hid ha
  have HBB := Lib.hid hb
  have HSZ := Lib.hid hs
  have HO := Lib.hid (Own.start [] w)
  clear hT hz26 hz hq ha hb hs
  rw [show chkC a b R2 = (if 1 < a then ⟨2, 129, 0⟩ else if allowedB 2 b = true then (if a = 1 then (if b = 0 then e00 else ⟨3, 130, 0⟩) else e00) else ⟨2, 129, 1⟩) from by unfold chkC; rw [if_pos h]] at HQ
  rw [if_pos h1] at HQ
  have HQ2 := Lib.hid (show q = ⟨2, 129, 0⟩ from HQ.out)
  have hi : (1 : Int) < (a : Int) := by omega
  clear HQ h1
  have HE0 := Lib.hid h
  clear h
  go_enter Tryz.func62, Tryz.ntmps62
  go_upto_region 4 with (first | (refine wpo_box (t := 33) HO.out _ rfl rfl rfl ?_; clear HO; rintro k1 W1 hO; have HO := Lib.hid hO; clear hO; simp only [Act.put, List.setIfInBounds_toArray, List.set_cons_zero, List.set_cons_succ]) | (refine wpo_alloc HT.out HO.out rfl rfl ?_; clear HO; rintro k2 W2 hO; have HO := Lib.hid hO; clear hO; simp only [Act.put, List.setIfInBounds_toArray, List.set_cons_zero, List.set_cons_succ]) | (refine wpo_alloc tyX HO.out rfl rfl ?_; clear HO; rintro k3 W3 hO; have HO := Lib.hid hO; clear hO; simp only [Act.put, List.setIfInBounds_toArray, List.set_cons_zero, List.set_cons_succ]) | (refine wpo_ldc (HO.out.get 2 rfl) tyI _ rfl rfl rfl rfl ?_) | (refine wpo_box (t := 136) HO.out _ rfl rfl rfl ?_; clear HO; rintro k4 W4 hO; have HO := Lib.hid hO; clear hO; simp only [Act.put, List.setIfInBounds_toArray, List.set_cons_zero, List.set_cons_succ]) | (refine wpo_ldc (HO.out.get 2 rfl) tyS _ rfl rfl rfl rfl ?_))
  have HU := Lib.hid (rru8_any (HO.out.rd 0 rfl (R := ⟨0, 0, 0⟩) (Nat.zero_le _)) (by have := HSZ.out; omega))
  rw [HA.out] at HU
  go_wp2_with fail
  refine HU.out.mono ?_
  rintro x V5 ⟨rfl, hn⟩
  have HL1 := Lib.hid hn.obj.le
  have HB := Lib.hid (HO.out.rstep (R' := R1) 0 rfl hn)
  clear HO hn HU
  have HO := HB
  clear HB
  have HU := Lib.hid (rru8_any (HO.out.rd 0 rfl (R := R1) HL1.out) (by have := HSZ.out; omega))
  rw [HBB.out] at HU
  go_wp2_with fail
  refine HU.out.mono ?_
  rintro x V6 ⟨rfl, hn⟩
  have HL2 := Lib.hid hn.obj.le
  have HB := Lib.hid (HO.out.rstep (R' := R2) 0 rfl hn)
  clear HO hn HU
  have HO := HB
  clear HB
  have HRE := Lib.hid (HO.out.get 0 rfl)
  rw [HE0.out] at HRE
  go_upto_region 9 with (refine wpo_ldc HRE.out tyE _ rfl rfl rfl rfl ?_)
  clear HRE
  go_wp2_with (refine wpo_zero HT.out rfl rfl ?_)
  refine (rbad_any 0 _).mono ?_
  rintro x VB ⟨rfl, hb⟩
  have HB := Lib.hid (HO.out.below hb)
  clear HO hb
  have HO := HB
  clear HB
  go_wp2_with (first | (refine wpo_store (k := k2) HO.out 2 HT.out rfl _ _ rfl rfl rfl rfl rfl rfl HT.out.one ?_; clear HO; rintro WkB hO; have HO := Lib.hid hO; clear hO; simp only [Act.put]) | (refine wpo_store (k := k3) HO.out 1 tyX rfl _ _ rfl rfl rfl rfl rfl rfl rfl ?_; clear HO; rintro WlB hO; have HO := Lib.hid hO; clear hO; simp only [Act.put]))
  exact bodyPost_ret (v := .tuple #[.agg z, fltV (2, 129, 0)]) (res_own2 2 1 HO.out HT.out tyX rfl rfl rfl rfl rfl rfl rfl) rfl ⟨z, HZS.out, HT.out.one, by rw [HQ2.out] <;> rfl, HO.out.bel⟩
set_option maxHeartbeats 8000000 in
theorem rdec09_3 {w : World} {s : ByteArray} {a b : Nat} {R1 R2 : RV} (ha : rNum s 1 ⟨0, 0, 0⟩ = (a, R1)) (hb : rNum s 1 R1 = (b, R2)) (hs : s.size ≤ 900000) (h : R2.no = 0) (h1 : ¬ 1 < a) (h2 : allowedB 2 b = false) : Calls Tryz.prog 62 #[.agg #[.int .i64 32, .string s]] w (RDc w (dcC1 s a b R2).1) := by
  obtain ⟨z, hT, hz26, hz⟩ := tyP_ex
  obtain ⟨q, hq⟩ : ∃ q, q = (dcC1 s a b R2).1 := ⟨_, rfl⟩
  rw [← hq]
  unfold dcC1 at hq
  have HT := Lib.hid hT
  have HZS := Lib.hid hz26
  have HZ := Lib.hid hz
  have HQ := Lib.hid hq
  have HA := Lib.hid ha
  have HBB := Lib.hid hb
  have HSZ := Lib.hid hs
  have HO := Lib.hid (Own.start [] w)
  clear hT hz26 hz hq ha hb hs
  rw [show chkC a b R2 = ⟨2, 129, 1⟩ from by unfold chkC; rw [if_pos h, if_neg h1, if_neg (by rw [h2]; decide)]] at HQ
  have HQ2 := Lib.hid (show q = ⟨2, 129, 1⟩ from HQ.out)
  have hi : ¬ (1 : Int) < (a : Int) := by omega
  have HAL := Lib.hid (fun w => ref_allowed 2 (b : Int) w)
  rw [h2] at HAL
  clear HQ h1 h2
  have HE0 := Lib.hid h
  clear h
  go_enter Tryz.func62, Tryz.ntmps62
  go_upto_region 4 with (first | (refine wpo_box (t := 33) HO.out _ rfl rfl rfl ?_; clear HO; rintro k1 W1 hO; have HO := Lib.hid hO; clear hO; simp only [Act.put, List.setIfInBounds_toArray, List.set_cons_zero, List.set_cons_succ]) | (refine wpo_alloc HT.out HO.out rfl rfl ?_; clear HO; rintro k2 W2 hO; have HO := Lib.hid hO; clear hO; simp only [Act.put, List.setIfInBounds_toArray, List.set_cons_zero, List.set_cons_succ]) | (refine wpo_alloc tyX HO.out rfl rfl ?_; clear HO; rintro k3 W3 hO; have HO := Lib.hid hO; clear hO; simp only [Act.put, List.setIfInBounds_toArray, List.set_cons_zero, List.set_cons_succ]) | (refine wpo_ldc (HO.out.get 2 rfl) tyI _ rfl rfl rfl rfl ?_) | (refine wpo_box (t := 136) HO.out _ rfl rfl rfl ?_; clear HO; rintro k4 W4 hO; have HO := Lib.hid hO; clear hO; simp only [Act.put, List.setIfInBounds_toArray, List.set_cons_zero, List.set_cons_succ]) | (refine wpo_ldc (HO.out.get 2 rfl) tyS _ rfl rfl rfl rfl ?_))
  have HU := Lib.hid (rru8_any (HO.out.rd 0 rfl (R := ⟨0, 0, 0⟩) (Nat.zero_le _)) (by have := HSZ.out; omega))
  rw [HA.out] at HU
  go_wp2_with fail
  refine HU.out.mono ?_
  rintro x V5 ⟨rfl, hn⟩
  have HL1 := Lib.hid hn.obj.le
  have HB := Lib.hid (HO.out.rstep (R' := R1) 0 rfl hn)
  clear HO hn HU
  have HO := HB
  clear HB
  have HU := Lib.hid (rru8_any (HO.out.rd 0 rfl (R := R1) HL1.out) (by have := HSZ.out; omega))
  rw [HBB.out] at HU
  go_wp2_with fail
  refine HU.out.mono ?_
  rintro x V6 ⟨rfl, hn⟩
  have HL2 := Lib.hid hn.obj.le
  have HB := Lib.hid (HO.out.rstep (R' := R2) 0 rfl hn)
  clear HO hn HU
  have HO := HB
  clear HB
  have HRE := Lib.hid (HO.out.get 0 rfl)
  rw [HE0.out] at HRE
  go_wp2_with (refine wpo_ldc HRE.out tyE _ rfl rfl rfl rfl ?_)
  clear HRE
  refine (HAL.out _).mono ?_
  rintro x V8 ⟨rfl, hb⟩
  have HB := Lib.hid (HO.out.below hb)
  clear HO hb HAL
  have HO := HB
  clear HB
  go_wp2_with (refine wpo_zero HT.out rfl rfl ?_)
  refine (rbad_any 1 _).mono ?_
  rintro x VC ⟨rfl, hb⟩
  have HB := Lib.hid (HO.out.below hb)
  clear HO hb
  have HO := HB
  clear HB
  go_wp2_with (first | (refine wpo_store (k := k2) HO.out 2 HT.out rfl _ _ rfl rfl rfl rfl rfl rfl HT.out.one ?_; clear HO; rintro WkC hO; have HO := Lib.hid hO; clear hO; simp only [Act.put]) | (refine wpo_store (k := k3) HO.out 1 tyX rfl _ _ rfl rfl rfl rfl rfl rfl rfl ?_; clear HO; rintro WlC hO; have HO := Lib.hid hO; clear hO; simp only [Act.put]))
  exact bodyPost_ret (v := .tuple #[.agg z, fltV (2, 129, 1)]) (res_own2 2 1 HO.out HT.out tyX rfl rfl rfl rfl rfl rfl rfl) rfl ⟨z, HZS.out, HT.out.one, by rw [HQ2.out] <;> rfl, HO.out.bel⟩
set_option maxHeartbeats 8000000 in
theorem rdec09_4 {w : World} {s : ByteArray} {a b : Nat} {R1 R2 : RV} (ha : rNum s 1 ⟨0, 0, 0⟩ = (a, R1)) (hb : rNum s 1 R1 = (b, R2)) (hs : s.size ≤ 900000) (h : R2.no = 0) (h1 : ¬ 1 < a) (h2 : allowedB 2 b = true) (h3 : a = 1) (h4 : ¬ b = 0) : Calls Tryz.prog 62 #[.agg #[.int .i64 32, .string s]] w (RDc w (dcC1 s a b R2).1) := by
  obtain ⟨z, hT, hz26, hz⟩ := tyP_ex
  obtain ⟨q, hq⟩ : ∃ q, q = (dcC1 s a b R2).1 := ⟨_, rfl⟩
  rw [← hq]
  unfold dcC1 at hq
  have HT := Lib.hid hT
  have HZS := Lib.hid hz26
  have HZ := Lib.hid hz
  have HQ := Lib.hid hq
  have HA := Lib.hid ha
  have HBB := Lib.hid hb
  have HSZ := Lib.hid hs
  have HO := Lib.hid (Own.start [] w)
  clear hT hz26 hz hq ha hb hs
  rw [show chkC a b R2 = (if 1 < a then ⟨2, 129, 0⟩ else if allowedB 2 b = true then (if a = 1 then (if b = 0 then e00 else ⟨3, 130, 0⟩) else e00) else ⟨2, 129, 1⟩) from by unfold chkC; rw [if_pos h]] at HQ
  rw [if_neg h1, if_pos h2, if_pos h3, if_neg h4] at HQ
  have HQ2 := Lib.hid (show q = ⟨3, 130, 0⟩ from HQ.out)
  have hi : ¬ (1 : Int) < (a : Int) := by omega
  have hx : ((a : Int) == 1) = true := by rw [h3]; rfl
  have hy : ((b : Int) != 0) = true := by rw [bne_iff_ne]; omega
  have HAL := Lib.hid (fun w => ref_allowed 2 (b : Int) w)
  rw [h2] at HAL
  clear HQ h1 h2 h3 h4
  have HE0 := Lib.hid h
  clear h
  go_enter Tryz.func62, Tryz.ntmps62
  go_upto_region 4 with (first | (refine wpo_box (t := 33) HO.out _ rfl rfl rfl ?_; clear HO; rintro k1 W1 hO; have HO := Lib.hid hO; clear hO; simp only [Act.put, List.setIfInBounds_toArray, List.set_cons_zero, List.set_cons_succ]) | (refine wpo_alloc HT.out HO.out rfl rfl ?_; clear HO; rintro k2 W2 hO; have HO := Lib.hid hO; clear hO; simp only [Act.put, List.setIfInBounds_toArray, List.set_cons_zero, List.set_cons_succ]) | (refine wpo_alloc tyX HO.out rfl rfl ?_; clear HO; rintro k3 W3 hO; have HO := Lib.hid hO; clear hO; simp only [Act.put, List.setIfInBounds_toArray, List.set_cons_zero, List.set_cons_succ]) | (refine wpo_ldc (HO.out.get 2 rfl) tyI _ rfl rfl rfl rfl ?_) | (refine wpo_box (t := 136) HO.out _ rfl rfl rfl ?_; clear HO; rintro k4 W4 hO; have HO := Lib.hid hO; clear hO; simp only [Act.put, List.setIfInBounds_toArray, List.set_cons_zero, List.set_cons_succ]) | (refine wpo_ldc (HO.out.get 2 rfl) tyS _ rfl rfl rfl rfl ?_))
  have HU := Lib.hid (rru8_any (HO.out.rd 0 rfl (R := ⟨0, 0, 0⟩) (Nat.zero_le _)) (by have := HSZ.out; omega))
  rw [HA.out] at HU
  go_wp2_with fail
  refine HU.out.mono ?_
  rintro x V5 ⟨rfl, hn⟩
  have HL1 := Lib.hid hn.obj.le
  have HB := Lib.hid (HO.out.rstep (R' := R1) 0 rfl hn)
  clear HO hn HU
  have HO := HB
  clear HB
  have HU := Lib.hid (rru8_any (HO.out.rd 0 rfl (R := R1) HL1.out) (by have := HSZ.out; omega))
  rw [HBB.out] at HU
  go_wp2_with fail
  refine HU.out.mono ?_
  rintro x V6 ⟨rfl, hn⟩
  have HL2 := Lib.hid hn.obj.le
  have HB := Lib.hid (HO.out.rstep (R' := R2) 0 rfl hn)
  clear HO hn HU
  have HO := HB
  clear HB
  have HRE := Lib.hid (HO.out.get 0 rfl)
  rw [HE0.out] at HRE
  go_wp2_with (refine wpo_ldc HRE.out tyE _ rfl rfl rfl rfl ?_)
  clear HRE
  refine (HAL.out _).mono ?_
  rintro x V8 ⟨rfl, hb⟩
  have HB := Lib.hid (HO.out.below hb)
  clear HO hb HAL
  have HO := HB
  clear HB
  go_upto_region 13 with fail
  clear hi hx hy
  go_wp2_with (refine wpo_zero HT.out rfl rfl ?_)
  refine (ragainst_any 0 _).mono ?_
  rintro x VD ⟨rfl, hb⟩
  have HB := Lib.hid (HO.out.below hb)
  clear HO hb
  have HO := HB
  clear HB
  go_wp2_with (first | (refine wpo_store (k := k2) HO.out 2 HT.out rfl _ _ rfl rfl rfl rfl rfl rfl HT.out.one ?_; clear HO; rintro WkD hO; have HO := Lib.hid hO; clear hO; simp only [Act.put]) | (refine wpo_store (k := k3) HO.out 1 tyX rfl _ _ rfl rfl rfl rfl rfl rfl rfl ?_; clear HO; rintro WlD hO; have HO := Lib.hid hO; clear hO; simp only [Act.put]))
  exact bodyPost_ret (v := .tuple #[.agg z, fltV (3, 130, 0)]) (res_own2 2 1 HO.out HT.out tyX rfl rfl rfl rfl rfl rfl rfl) rfl ⟨z, HZS.out, HT.out.one, by rw [HQ2.out] <;> rfl, HO.out.bel⟩
end Go.Proofs.YtinhecggmakbnaaGreatDoor
namespace Go.Proofs.YtinhecggmakbnaaGreatDoor
set_option maxRecDepth 100000
open Go.RowKit Go.Extern.Stop Go.Stop Go.Extern
set_option maxHeartbeats 8000000 in
theorem rdec09_5e {w : World} {s : ByteArray} {a b : Nat} {R1 R2 : RV} (ha : rNum s 1 ⟨0, 0, 0⟩ = (a, R1)) (hb : rNum s 1 R1 = (b, R2)) (hs : s.size ≤ 900000) (h : R2.no = 0) (h1 : ¬ 1 < a) (h2 : allowedB 2 b = true) (h3 : ¬ a = 1) : Calls Tryz.prog 62 #[.agg #[.int .i64 32, .string s]] w (RDc w (dcC1 s a b R2).1) := by
  obtain ⟨z, hT, hz26, hz⟩ := tyP_ex
  obtain ⟨q, hq⟩ : ∃ q, q = (dcC1 s a b R2).1 := ⟨_, rfl⟩
  rw [← hq]
  unfold dcC1 at hq
  have HT := Lib.hid hT
  have HZS := Lib.hid hz26
  have HZ := Lib.hid hz
  have HQ := Lib.hid hq
  have HA := Lib.hid ha
  have HBB := Lib.hid hb
  have HSZ := Lib.hid hs
  have HO := Lib.hid (Own.start [] w)
  clear hT hz26 hz hq ha hb hs
  rw [show chkC a b R2 = (if 1 < a then ⟨2, 129, 0⟩ else if allowedB 2 b = true then (if a = 1 then (if b = 0 then e00 else ⟨3, 130, 0⟩) else e00) else ⟨2, 129, 1⟩) from by unfold chkC; rw [if_pos h]] at HQ
  rw [if_neg h1, if_pos h2, if_neg h3] at HQ
  have HQ1 := Lib.hid (show q = (dcC2 s a b R2).1 by rw [HQ.out, if_pos (show e00.no = 0 from rfl)])
  have hi : ¬ (1 : Int) < (a : Int) := by omega
  have hx : ((a : Int) == 1) = false := by rw [beq_eq_false_iff_ne]; omega
  have HAL := Lib.hid (fun w => ref_allowed 2 (b : Int) w)
  rw [h2] at HAL
  clear HQ h1 h2 h3
  have HE0 := Lib.hid h
  clear h
  go_enter Tryz.func62, Tryz.ntmps62
  go_upto_region 4 with (first | (refine wpo_box (t := 33) HO.out _ rfl rfl rfl ?_; clear HO; rintro k1 W1 hO; have HO := Lib.hid hO; clear hO; simp only [Act.put, List.setIfInBounds_toArray, List.set_cons_zero, List.set_cons_succ]) | (refine wpo_alloc HT.out HO.out rfl rfl ?_; clear HO; rintro k2 W2 hO; have HO := Lib.hid hO; clear hO; simp only [Act.put, List.setIfInBounds_toArray, List.set_cons_zero, List.set_cons_succ]) | (refine wpo_alloc tyX HO.out rfl rfl ?_; clear HO; rintro k3 W3 hO; have HO := Lib.hid hO; clear hO; simp only [Act.put, List.setIfInBounds_toArray, List.set_cons_zero, List.set_cons_succ]) | (refine wpo_ldc (HO.out.get 2 rfl) tyI _ rfl rfl rfl rfl ?_) | (refine wpo_box (t := 136) HO.out _ rfl rfl rfl ?_; clear HO; rintro k4 W4 hO; have HO := Lib.hid hO; clear hO; simp only [Act.put, List.setIfInBounds_toArray, List.set_cons_zero, List.set_cons_succ]) | (refine wpo_ldc (HO.out.get 2 rfl) tyS _ rfl rfl rfl rfl ?_))
  have HU := Lib.hid (rru8_any (HO.out.rd 0 rfl (R := ⟨0, 0, 0⟩) (Nat.zero_le _)) (by have := HSZ.out; omega))
  rw [HA.out] at HU
  go_wp2_with fail
  refine HU.out.mono ?_
  rintro x V5 ⟨rfl, hn⟩
  have HL1 := Lib.hid hn.obj.le
  have HB := Lib.hid (HO.out.rstep (R' := R1) 0 rfl hn)
  clear HO hn HU
  have HO := HB
  clear HB
  have HU := Lib.hid (rru8_any (HO.out.rd 0 rfl (R := R1) HL1.out) (by have := HSZ.out; omega))
  rw [HBB.out] at HU
  go_wp2_with fail
  refine HU.out.mono ?_
  rintro x V6 ⟨rfl, hn⟩
  have HL2 := Lib.hid hn.obj.le
  have HB := Lib.hid (HO.out.rstep (R' := R2) 0 rfl hn)
  clear HO hn HU
  have HO := HB
  clear HB
  have HRE := Lib.hid (HO.out.get 0 rfl)
  rw [HE0.out] at HRE
  go_wp2_with (refine wpo_ldc HRE.out tyE _ rfl rfl rfl rfl ?_)
  clear HRE
  refine (HAL.out _).mono ?_
  rintro x V8 ⟨rfl, hb⟩
  have HB := Lib.hid (HO.out.below hb)
  clear HO hb HAL
  have HO := HB
  clear HB
  go_upto_region 14 with fail
  have HRD := Lib.hid (rread_any (HO.out.rd 0 rfl (R := R2) HL2.out) HSZ.out 2)
  have hno := readF_no (k := 2) (s := s) (R := R2)
  have hq := HQ1.out
  unfold dcC2 at hq
  obtain ⟨⟨⟨rn, rr, ra, rL⟩, R3⟩, hF⟩ : ∃ F, F = readF 2 s R2 := ⟨_, rfl⟩
  rw [← hF] at HRD hno hq
  simp only at hno hq
  have HNO := Lib.hid hno
  have HQ3 := Lib.hid hq
  clear hF hno hq HQ1 hi
  go_wp2_with fail
  refine HRD.out.mono ?_
  rintro x V10 ⟨v5, rfl, hv5, hn⟩
  have HLE := Lib.hid hn.obj.le
  have HB := Lib.hid (HO.out.rstep (R' := R3) 0 rfl hn)
  clear HO hn HRD
  have HO := HB
  clear HB
  obtain ⟨a5, n5, c5, rfl, -, -⟩ := hv5.some_form
  clear hv5
  by_cases hr : rn = 0
  · subst hr
    have hz2 := (by first | exact HNO.out rfl | exact HNO.out trivial : R3.no = 0)
    have hq := HQ3.out
    rw [if_pos rfl] at hq
    go_upto_region 17 with (first | (refine wpo_alloc tyX HO.out rfl rfl ?_; clear HO; rintro k8 W11 hO; have HO := Lib.hid hO; clear hO; simp only [Act.put, List.setIfInBounds_toArray, List.set_cons_zero, List.set_cons_succ]) | (refine wpo_store (k := k8) HO.out 0 tyX rfl _ _ rfl rfl rfl rfl rfl rfl rfl ?_; clear HO; rintro W12 hO; have HO := Lib.hid hO; clear hO; simp only [Act.put]) | (refine wpo_ldc (HO.out.get 0 rfl) tyE _ rfl rfl rfl rfl ?_))
    by_cases h2 : R3.p < s.size
    · have HQ2 := Lib.hid (show q = ⟨2, 129, R3.p⟩ by rw [hq, if_pos h2])
      have HHO := Lib.hid (show ofR (dnR s R3) = (2, 129, R3.p) by unfold dnR; rw [if_pos hz2, if_pos h2]; rfl)
      clear hq HQ3 hz2 h2 hx
      have HOF := Lib.hid (rrof_any (HO.out.rd 1 rfl (R := R3) HLE.out))
      rw [HHO.out, show fltV (2, 129, R3.p) = .agg #[.int .i64 (2 : Int), .int .i64 (129 : Int), .int .i64 (R3.p : Int)] from rfl] at HOF
      go_wp2_with fail
      refine HOF.out.mono ?_
      rintro x V13 ⟨rfl, hb⟩
      have HB := Lib.hid (HO.out.below hb)
      clear HO hb HOF
      have HO := HB
      clear HB
      go_upto_region 19 with (first | (refine wpo_alloc tyX HO.out rfl rfl ?_; clear HO; rintro kf Wf hO; have HO := Lib.hid hO; clear hO; simp only [Act.put, List.setIfInBounds_toArray, List.set_cons_zero, List.set_cons_succ]) | (refine wpo_store (k := kf) HO.out 0 tyX rfl _ _ rfl rfl rfl rfl rfl rfl rfl ?_; clear HO; rintro Wg hO; have HO := Lib.hid hO; clear hO; simp only [Act.put]) | (refine wpo_ldc (HO.out.get 0 rfl) tyE _ rfl rfl rfl rfl ?_))
      refine wpo_y2 (yA := (k2, 29, z)) (yB := (k3, 40, #[.int .i64 (2 : Int), .int .i64 (129 : Int), .int .i64 (R3.p : Int)])) [(67, .agg z), (68, .agg #[.int .i64 (2 : Int), .int .i64 (129 : Int), .int .i64 (R3.p : Int)])] 4 3 mixed (by kernel_rfl) HO.out rfl rfl (by decide) (fun _ _ _ _ _ h => h) ?_ rfl rfl ?_ ?_ ?_
      · refine ⟨⟨_, rfl, rfl, yo_zero rfl HT.out rfl⟩, ?_⟩
        simp only [Act.put, List.setIfInBounds_toArray, List.set_cons_zero, List.set_cons_succ]
        refine ⟨⟨_, rfl, rfl, yo_load rfl tyX (fun _ h => h.get 0 (by decide) (by decide) rfl) rfl _ rfl rfl⟩, ?_⟩
        exact trivial
      · simp only [putD, Act.put, List.setIfInBounds_toArray, List.set_cons_zero, List.set_cons_succ]
        exact sto_row HT.out _ _ rfl rfl rfl rfl rfl rfl rfl HT.out.one
      · simp only [putD, Act.put, List.setIfInBounds_toArray, List.set_cons_zero, List.set_cons_succ]
        exact sto_row tyX _ _ rfl rfl rfl rfl rfl rfl rfl rfl
      intro WjE hO
      clear HO
      have HO := Lib.hid hO
      clear hO
      simp only [putD, Act.put, List.setIfInBounds_toArray, List.set_cons_zero, List.set_cons_succ]
      go_wp2_with fail
      exact bodyPost_ret (v := .tuple #[.agg z, fltV (2, 129, R3.p)]) (res_own2 4 3 HO.out HT.out tyX rfl rfl rfl rfl rfl rfl rfl) rfl ⟨z, HZS.out, HT.out.one, by rw [HQ2.out] <;> rfl, HO.out.bel⟩
    · have HQ2 := Lib.hid (show q = e00 by rw [hq, if_neg h2])
      have HHO := Lib.hid (show ofR (dnR s R3) = (0, 0, 0) by unfold dnR; rw [if_pos hz2, if_neg h2]; rfl)
      clear hq HQ3 hz2 h2
      obtain ⟨y, hy⟩ : ∃ y, y = (((z.setIfInBounds 0 (.int .i64 2)).setIfInBounds 17 (.bool false)).setIfInBounds 2 (.int .i64 (b : Int))).setIfInBounds 3 (.slice a5 n5 c5) := ⟨_, rfl⟩
      have HBY := Lib.hid (rbuilt9 HZ.out hy)
      have HYS := Lib.hid (show y.size = z.size by rw [hy]; simp)
      have HY1 := Lib.hid (show y.toList.all (·.oneCell') = true by rw [hy]; exact one_put (one_put (one_put (one_put HT.out.one _ _ rfl) _ _ rfl) _ _ rfl) _ _ rfl)
      clear hy
      have HOF := Lib.hid (rrof_any (HO.out.rd 1 rfl (R := R3) HLE.out))
      rw [HHO.out, show fltV (0, 0, 0) = .agg #[.int .i64 (0 : Int), .int .i64 (0 : Int), .int .i64 (0 : Int)] from rfl] at HOF
      go_wp2_with fail
      refine HOF.out.mono ?_
      rintro x V13 ⟨rfl, hb⟩
      have HB := Lib.hid (HO.out.below hb)
      clear HO hb HOF
      have HO := HB
      clear HB
      go_wp2_with (first | (refine wpo_alloc tyX HO.out rfl rfl ?_; clear HO; rintro kf Wf hO; have HO := Lib.hid hO; clear hO; simp only [Act.put, List.setIfInBounds_toArray, List.set_cons_zero, List.set_cons_succ]) | (refine wpo_store (k := kf) HO.out 0 tyX rfl _ _ rfl rfl rfl rfl rfl rfl rfl ?_; clear HO; rintro Wg hO; have HO := Lib.hid hO; clear hO; simp only [Act.put]) | (refine wpo_ldc (HO.out.get 0 rfl) tyE _ rfl rfl rfl rfl ?_) | (refine wpo_built HBY.out rfl rfl rfl ?_) | (refine wpo_store (k := k2) HO.out 4 HT.out rfl _ _ rfl rfl rfl rfl rfl HYS.out HY1.out ?_; clear HO; rintro Wh hO; have HO := Lib.hid hO; clear hO; simp only [Act.put]) | (refine wpo_store (k := k3) HO.out 3 tyX rfl _ _ rfl rfl rfl rfl rfl rfl rfl ?_; clear HO; rintro Wi hO; have HO := Lib.hid hO; clear hO; simp only [Act.put]))
      exact bodyPost_ret (v := .tuple #[.agg y, fltV (0, 0, 0)]) (res_own2 4 3 HO.out HT.out tyX rfl rfl rfl rfl rfl HYS.out rfl) rfl ⟨y, HYS.out.trans HZS.out, HY1.out, by rw [HQ2.out] <;> rfl, HO.out.bel⟩
  · have HQ2 := Lib.hid (show q = ⟨rn, rr, ra⟩ by rw [HQ3.out, if_neg hr])
    have hri : ¬ (rn : Int) = 0 := by omega
    clear HQ3 hx
    go_upto_region 16 with (first | (refine wpo_alloc tyX HO.out rfl rfl ?_; clear HO; rintro k8 W11 hO; have HO := Lib.hid hO; clear hO; simp only [Act.put, List.setIfInBounds_toArray, List.set_cons_zero, List.set_cons_succ]) | (refine wpo_store (k := k8) HO.out 0 tyX rfl _ _ rfl rfl rfl rfl rfl rfl rfl ?_; clear HO; rintro W12 hO; have HO := Lib.hid hO; clear hO; simp only [Act.put]) | (refine wpo_ldc (HO.out.get 0 rfl) tyE _ rfl rfl rfl rfl ?_))
    refine wpo_y2 (yA := (k2, 29, z)) (yB := (k3, 40, #[.int .i64 (rn : Int), .int .i64 (rr : Int), .int .i64 (ra : Int)])) [(60, .agg z), (61, .agg #[.int .i64 (rn : Int), .int .i64 (rr : Int), .int .i64 (ra : Int)])] 3 2 mixed (by kernel_rfl) HO.out rfl rfl (by decide) (fun _ _ _ _ _ h => h) ?_ rfl rfl ?_ ?_ ?_
    · refine ⟨⟨_, rfl, rfl, yo_zero rfl HT.out rfl⟩, ?_⟩
      simp only [Act.put, List.setIfInBounds_toArray, List.set_cons_zero, List.set_cons_succ]
      refine ⟨⟨_, rfl, rfl, yo_load rfl tyX (fun _ h => h.get 0 (by decide) (by decide) rfl) rfl _ rfl rfl⟩, ?_⟩
      exact trivial
    · simp only [putD, Act.put, List.setIfInBounds_toArray, List.set_cons_zero, List.set_cons_succ]
      exact sto_row HT.out _ _ rfl rfl rfl rfl rfl rfl rfl HT.out.one
    · simp only [putD, Act.put, List.setIfInBounds_toArray, List.set_cons_zero, List.set_cons_succ]
      exact sto_row tyX _ _ rfl rfl rfl rfl rfl rfl rfl rfl
    intro WjF hO
    clear HO
    have HO := Lib.hid hO
    clear hO
    simp only [putD, Act.put, List.setIfInBounds_toArray, List.set_cons_zero, List.set_cons_succ]
    go_wp2_with fail
    exact bodyPost_ret (v := .tuple #[.agg z, fltV (rn, rr, ra)]) (res_own2 3 2 HO.out HT.out tyX rfl rfl rfl rfl rfl rfl rfl) rfl ⟨z, HZS.out, HT.out.one, by rw [HQ2.out] <;> rfl, HO.out.bel⟩
end Go.Proofs.YtinhecggmakbnaaGreatDoor
namespace Go.Proofs.YtinhecggmakbnaaGreatDoor
set_option maxRecDepth 100000
open Go.RowKit Go.Extern.Stop Go.Stop Go.Extern
set_option maxHeartbeats 8000000 in
theorem rdec09_5f {w : World} {s : ByteArray} {a b : Nat} {R1 R2 : RV} (ha : rNum s 1 ⟨0, 0, 0⟩ = (a, R1)) (hb : rNum s 1 R1 = (b, R2)) (hs : s.size ≤ 900000) (h : R2.no = 0) (h1 : ¬ 1 < a) (h2 : allowedB 2 b = true) (h3 : a = 1) (h4 : b = 0) : Calls Tryz.prog 62 #[.agg #[.int .i64 32, .string s]] w (RDc w (dcC1 s a b R2).1) := by
  obtain ⟨z, hT, hz26, hz⟩ := tyP_ex
  obtain ⟨q, hq⟩ : ∃ q, q = (dcC1 s a b R2).1 := ⟨_, rfl⟩
  rw [← hq]
  unfold dcC1 at hq
  have HT := Lib.hid hT
  have HZS := Lib.hid hz26
  have HZ := Lib.hid hz
  have HQ := Lib.hid hq
  have HA := Lib.hid ha
  have HBB := Lib.hid hb
  have HSZ := Lib.hid hs
  have HO := Lib.hid (Own.start [] w)
  clear hT hz26 hz hq ha hb hs
  rw [show chkC a b R2 = (if 1 < a then ⟨2, 129, 0⟩ else if allowedB 2 b = true then (if a = 1 then (if b = 0 then e00 else ⟨3, 130, 0⟩) else e00) else ⟨2, 129, 1⟩) from by unfold chkC; rw [if_pos h]] at HQ
  rw [if_neg h1, if_pos h2, if_pos h3, if_pos h4] at HQ
  have HQ1 := Lib.hid (show q = (dcC2 s a b R2).1 by rw [HQ.out, if_pos (show e00.no = 0 from rfl)])
  have hi : ¬ (1 : Int) < (a : Int) := by omega
  have hx : ((a : Int) == 1) = true := by rw [h3]; rfl
  have hy : ((b : Int) != 0) = false := by rw [h4]; rfl
  have HAL := Lib.hid (fun w => ref_allowed 2 (b : Int) w)
  rw [h2] at HAL
  clear HQ h1 h2 h3 h4
  have HE0 := Lib.hid h
  clear h
  go_enter Tryz.func62, Tryz.ntmps62
  go_upto_region 4 with (first | (refine wpo_box (t := 33) HO.out _ rfl rfl rfl ?_; clear HO; rintro k1 W1 hO; have HO := Lib.hid hO; clear hO; simp only [Act.put, List.setIfInBounds_toArray, List.set_cons_zero, List.set_cons_succ]) | (refine wpo_alloc HT.out HO.out rfl rfl ?_; clear HO; rintro k2 W2 hO; have HO := Lib.hid hO; clear hO; simp only [Act.put, List.setIfInBounds_toArray, List.set_cons_zero, List.set_cons_succ]) | (refine wpo_alloc tyX HO.out rfl rfl ?_; clear HO; rintro k3 W3 hO; have HO := Lib.hid hO; clear hO; simp only [Act.put, List.setIfInBounds_toArray, List.set_cons_zero, List.set_cons_succ]) | (refine wpo_ldc (HO.out.get 2 rfl) tyI _ rfl rfl rfl rfl ?_) | (refine wpo_box (t := 136) HO.out _ rfl rfl rfl ?_; clear HO; rintro k4 W4 hO; have HO := Lib.hid hO; clear hO; simp only [Act.put, List.setIfInBounds_toArray, List.set_cons_zero, List.set_cons_succ]) | (refine wpo_ldc (HO.out.get 2 rfl) tyS _ rfl rfl rfl rfl ?_))
  have HU := Lib.hid (rru8_any (HO.out.rd 0 rfl (R := ⟨0, 0, 0⟩) (Nat.zero_le _)) (by have := HSZ.out; omega))
  rw [HA.out] at HU
  go_wp2_with fail
  refine HU.out.mono ?_
  rintro x V5 ⟨rfl, hn⟩
  have HL1 := Lib.hid hn.obj.le
  have HB := Lib.hid (HO.out.rstep (R' := R1) 0 rfl hn)
  clear HO hn HU
  have HO := HB
  clear HB
  have HU := Lib.hid (rru8_any (HO.out.rd 0 rfl (R := R1) HL1.out) (by have := HSZ.out; omega))
  rw [HBB.out] at HU
  go_wp2_with fail
  refine HU.out.mono ?_
  rintro x V6 ⟨rfl, hn⟩
  have HL2 := Lib.hid hn.obj.le
  have HB := Lib.hid (HO.out.rstep (R' := R2) 0 rfl hn)
  clear HO hn HU
  have HO := HB
  clear HB
  have HRE := Lib.hid (HO.out.get 0 rfl)
  rw [HE0.out] at HRE
  go_wp2_with (refine wpo_ldc HRE.out tyE _ rfl rfl rfl rfl ?_)
  clear HRE
  refine (HAL.out _).mono ?_
  rintro x V8 ⟨rfl, hb⟩
  have HB := Lib.hid (HO.out.below hb)
  clear HO hb HAL
  have HO := HB
  clear HB
  go_upto_region 14 with fail
  have HRD := Lib.hid (rread_any (HO.out.rd 0 rfl (R := R2) HL2.out) HSZ.out 2)
  have hno := readF_no (k := 2) (s := s) (R := R2)
  have hq := HQ1.out
  unfold dcC2 at hq
  obtain ⟨⟨⟨rn, rr, ra, rL⟩, R3⟩, hF⟩ : ∃ F, F = readF 2 s R2 := ⟨_, rfl⟩
  rw [← hF] at HRD hno hq
  simp only at hno hq
  have HNO := Lib.hid hno
  have HQ3 := Lib.hid hq
  clear hF hno hq HQ1 hi hy
  go_wp2_with fail
  refine HRD.out.mono ?_
  rintro x V10 ⟨v5, rfl, hv5, hn⟩
  have HLE := Lib.hid hn.obj.le
  have HB := Lib.hid (HO.out.rstep (R' := R3) 0 rfl hn)
  clear HO hn HRD
  have HO := HB
  clear HB
  obtain ⟨a5, n5, c5, rfl, -, -⟩ := hv5.some_form
  clear hv5
  by_cases hr : rn = 0
  · subst hr
    have hz2 := (by first | exact HNO.out rfl | exact HNO.out trivial : R3.no = 0)
    have hq := HQ3.out
    rw [if_pos rfl] at hq
    go_upto_region 17 with (first | (refine wpo_alloc tyX HO.out rfl rfl ?_; clear HO; rintro k8 W11 hO; have HO := Lib.hid hO; clear hO; simp only [Act.put, List.setIfInBounds_toArray, List.set_cons_zero, List.set_cons_succ]) | (refine wpo_store (k := k8) HO.out 0 tyX rfl _ _ rfl rfl rfl rfl rfl rfl rfl ?_; clear HO; rintro W12 hO; have HO := Lib.hid hO; clear hO; simp only [Act.put]) | (refine wpo_ldc (HO.out.get 0 rfl) tyE _ rfl rfl rfl rfl ?_))
    by_cases h2 : R3.p < s.size
    · have HQ2 := Lib.hid (show q = ⟨2, 129, R3.p⟩ by rw [hq, if_pos h2])
      have HHO := Lib.hid (show ofR (dnR s R3) = (2, 129, R3.p) by unfold dnR; rw [if_pos hz2, if_pos h2]; rfl)
      clear hq HQ3 hz2 h2 hx
      have HOF := Lib.hid (rrof_any (HO.out.rd 1 rfl (R := R3) HLE.out))
      rw [HHO.out, show fltV (2, 129, R3.p) = .agg #[.int .i64 (2 : Int), .int .i64 (129 : Int), .int .i64 (R3.p : Int)] from rfl] at HOF
      go_wp2_with fail
      refine HOF.out.mono ?_
      rintro x V13 ⟨rfl, hb⟩
      have HB := Lib.hid (HO.out.below hb)
      clear HO hb HOF
      have HO := HB
      clear HB
      go_upto_region 19 with (first | (refine wpo_alloc tyX HO.out rfl rfl ?_; clear HO; rintro kf Wf hO; have HO := Lib.hid hO; clear hO; simp only [Act.put, List.setIfInBounds_toArray, List.set_cons_zero, List.set_cons_succ]) | (refine wpo_store (k := kf) HO.out 0 tyX rfl _ _ rfl rfl rfl rfl rfl rfl rfl ?_; clear HO; rintro Wg hO; have HO := Lib.hid hO; clear hO; simp only [Act.put]) | (refine wpo_ldc (HO.out.get 0 rfl) tyE _ rfl rfl rfl rfl ?_))
      refine wpo_y2 (yA := (k2, 29, z)) (yB := (k3, 40, #[.int .i64 (2 : Int), .int .i64 (129 : Int), .int .i64 (R3.p : Int)])) [(67, .agg z), (68, .agg #[.int .i64 (2 : Int), .int .i64 (129 : Int), .int .i64 (R3.p : Int)])] 4 3 mixed (by kernel_rfl) HO.out rfl rfl (by decide) (fun _ _ _ _ _ h => h) ?_ rfl rfl ?_ ?_ ?_
      · refine ⟨⟨_, rfl, rfl, yo_zero rfl HT.out rfl⟩, ?_⟩
        simp only [Act.put, List.setIfInBounds_toArray, List.set_cons_zero, List.set_cons_succ]
        refine ⟨⟨_, rfl, rfl, yo_load rfl tyX (fun _ h => h.get 0 (by decide) (by decide) rfl) rfl _ rfl rfl⟩, ?_⟩
        exact trivial
      · simp only [putD, Act.put, List.setIfInBounds_toArray, List.set_cons_zero, List.set_cons_succ]
        exact sto_row HT.out _ _ rfl rfl rfl rfl rfl rfl rfl HT.out.one
      · simp only [putD, Act.put, List.setIfInBounds_toArray, List.set_cons_zero, List.set_cons_succ]
        exact sto_row tyX _ _ rfl rfl rfl rfl rfl rfl rfl rfl
      intro WjE hO
      clear HO
      have HO := Lib.hid hO
      clear hO
      simp only [putD, Act.put, List.setIfInBounds_toArray, List.set_cons_zero, List.set_cons_succ]
      go_wp2_with fail
      exact bodyPost_ret (v := .tuple #[.agg z, fltV (2, 129, R3.p)]) (res_own2 4 3 HO.out HT.out tyX rfl rfl rfl rfl rfl rfl rfl) rfl ⟨z, HZS.out, HT.out.one, by rw [HQ2.out] <;> rfl, HO.out.bel⟩
    · have HQ2 := Lib.hid (show q = e00 by rw [hq, if_neg h2])
      have HHO := Lib.hid (show ofR (dnR s R3) = (0, 0, 0) by unfold dnR; rw [if_pos hz2, if_neg h2]; rfl)
      clear hq HQ3 hz2 h2
      obtain ⟨y, hy⟩ : ∃ y, y = (((z.setIfInBounds 0 (.int .i64 2)).setIfInBounds 17 (.bool true)).setIfInBounds 2 (.int .i64 (b : Int))).setIfInBounds 3 (.slice a5 n5 c5) := ⟨_, rfl⟩
      have HBY := Lib.hid (rbuilt9 HZ.out hy)
      have HYS := Lib.hid (show y.size = z.size by rw [hy]; simp)
      have HY1 := Lib.hid (show y.toList.all (·.oneCell') = true by rw [hy]; exact one_put (one_put (one_put (one_put HT.out.one _ _ rfl) _ _ rfl) _ _ rfl) _ _ rfl)
      clear hy
      have HOF := Lib.hid (rrof_any (HO.out.rd 1 rfl (R := R3) HLE.out))
      rw [HHO.out, show fltV (0, 0, 0) = .agg #[.int .i64 (0 : Int), .int .i64 (0 : Int), .int .i64 (0 : Int)] from rfl] at HOF
      go_wp2_with fail
      refine HOF.out.mono ?_
      rintro x V13 ⟨rfl, hb⟩
      have HB := Lib.hid (HO.out.below hb)
      clear HO hb HOF
      have HO := HB
      clear HB
      go_wp2_with (first | (refine wpo_alloc tyX HO.out rfl rfl ?_; clear HO; rintro kf Wf hO; have HO := Lib.hid hO; clear hO; simp only [Act.put, List.setIfInBounds_toArray, List.set_cons_zero, List.set_cons_succ]) | (refine wpo_store (k := kf) HO.out 0 tyX rfl _ _ rfl rfl rfl rfl rfl rfl rfl ?_; clear HO; rintro Wg hO; have HO := Lib.hid hO; clear hO; simp only [Act.put]) | (refine wpo_ldc (HO.out.get 0 rfl) tyE _ rfl rfl rfl rfl ?_) | (refine wpo_built HBY.out rfl rfl rfl ?_) | (refine wpo_store (k := k2) HO.out 4 HT.out rfl _ _ rfl rfl rfl rfl rfl HYS.out HY1.out ?_; clear HO; rintro Wh hO; have HO := Lib.hid hO; clear hO; simp only [Act.put]) | (refine wpo_store (k := k3) HO.out 3 tyX rfl _ _ rfl rfl rfl rfl rfl rfl rfl ?_; clear HO; rintro Wi hO; have HO := Lib.hid hO; clear hO; simp only [Act.put]))
      exact bodyPost_ret (v := .tuple #[.agg y, fltV (0, 0, 0)]) (res_own2 4 3 HO.out HT.out tyX rfl rfl rfl rfl rfl HYS.out rfl) rfl ⟨y, HYS.out.trans HZS.out, HY1.out, by rw [HQ2.out] <;> rfl, HO.out.bel⟩
  · have HQ2 := Lib.hid (show q = ⟨rn, rr, ra⟩ by rw [HQ3.out, if_neg hr])
    have hri : ¬ (rn : Int) = 0 := by omega
    clear HQ3 hx
    go_upto_region 16 with (first | (refine wpo_alloc tyX HO.out rfl rfl ?_; clear HO; rintro k8 W11 hO; have HO := Lib.hid hO; clear hO; simp only [Act.put, List.setIfInBounds_toArray, List.set_cons_zero, List.set_cons_succ]) | (refine wpo_store (k := k8) HO.out 0 tyX rfl _ _ rfl rfl rfl rfl rfl rfl rfl ?_; clear HO; rintro W12 hO; have HO := Lib.hid hO; clear hO; simp only [Act.put]) | (refine wpo_ldc (HO.out.get 0 rfl) tyE _ rfl rfl rfl rfl ?_))
    refine wpo_y2 (yA := (k2, 29, z)) (yB := (k3, 40, #[.int .i64 (rn : Int), .int .i64 (rr : Int), .int .i64 (ra : Int)])) [(60, .agg z), (61, .agg #[.int .i64 (rn : Int), .int .i64 (rr : Int), .int .i64 (ra : Int)])] 3 2 mixed (by kernel_rfl) HO.out rfl rfl (by decide) (fun _ _ _ _ _ h => h) ?_ rfl rfl ?_ ?_ ?_
    · refine ⟨⟨_, rfl, rfl, yo_zero rfl HT.out rfl⟩, ?_⟩
      simp only [Act.put, List.setIfInBounds_toArray, List.set_cons_zero, List.set_cons_succ]
      refine ⟨⟨_, rfl, rfl, yo_load rfl tyX (fun _ h => h.get 0 (by decide) (by decide) rfl) rfl _ rfl rfl⟩, ?_⟩
      exact trivial
    · simp only [putD, Act.put, List.setIfInBounds_toArray, List.set_cons_zero, List.set_cons_succ]
      exact sto_row HT.out _ _ rfl rfl rfl rfl rfl rfl rfl HT.out.one
    · simp only [putD, Act.put, List.setIfInBounds_toArray, List.set_cons_zero, List.set_cons_succ]
      exact sto_row tyX _ _ rfl rfl rfl rfl rfl rfl rfl rfl
    intro WjF hO
    clear HO
    have HO := Lib.hid hO
    clear hO
    simp only [putD, Act.put, List.setIfInBounds_toArray, List.set_cons_zero, List.set_cons_succ]
    go_wp2_with fail
    exact bodyPost_ret (v := .tuple #[.agg z, fltV (rn, rr, ra)]) (res_own2 3 2 HO.out HT.out tyX rfl rfl rfl rfl rfl rfl rfl) rfl ⟨z, HZS.out, HT.out.one, by rw [HQ2.out] <;> rfl, HO.out.bel⟩
theorem rdec09 (w : World) {s : ByteArray} (hs : s.size ≤ 900000) : Calls Tryz.prog 62 #[.agg #[.int .i64 32, .string s]] w (RDc w (dcC 32 s).1) := by
  unfold dcC
  rw [if_pos rfl]
  obtain ⟨⟨a, R1⟩, ha⟩ : ∃ x, x = rNum s 1 ⟨0, 0, 0⟩ := ⟨_, rfl⟩
  rw [← ha]
  obtain ⟨⟨b, R2⟩, hb⟩ : ∃ x, x = rNum s 1 R1 := ⟨_, rfl⟩
  simp only
  rw [← hb]
  by_cases h : R2.no = 0
  · by_cases h1 : 1 < a
    · exact rdec09_2 ha.symm hb.symm hs h h1
    · cases h2 : allowedB 2 (b : Int) with
      | false => exact rdec09_3 ha.symm hb.symm hs h h1 h2
      | true =>
        by_cases h3 : a = 1
        · by_cases h4 : b = 0
          · exact rdec09_5f ha.symm hb.symm hs h h1 h2 h3 h4
          · exact rdec09_4 ha.symm hb.symm hs h h1 h2 h3 h4
        · exact rdec09_5e ha.symm hb.symm hs h h1 h2 h3
  · exact rdec09_1 ha.symm hb.symm hs h
end Go.Proofs.YtinhecggmakbnaaGreatDoor
