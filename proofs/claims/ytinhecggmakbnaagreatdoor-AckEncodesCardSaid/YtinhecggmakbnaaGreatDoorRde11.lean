/- What is proved here: what the document's Decode of layer 11 tells as its fault. Conditions: few bytes. What is proved here: what the document's Decode of layer 11 tells as its fault. Conditions: few bytes. What is proved here: what the document's Decode of layer 11 tells as its fault. Conditions: few bytes. -/
import Derived.Test.YtinhecggmakbnaaGreatDoorRda11
import Derived.Deep.QuietTactic
import Derived.BigQuiet
namespace Go.Proofs.YtinhecggmakbnaaGreatDoor
set_option maxRecDepth 100000
open Go.RowKit Go.Extern.Stop Go.Stop Go.Extern
set_option maxHeartbeats 8000000 in
theorem rdec11_a {w : World} {s : ByteArray} {F kd : Int} (hk : kA F = kd) (hkd : ¬ kd = 0) (h0 : 0 < F) (h1 : F ≤ 255) (hd : F / 16 = kd) (hff : ∀ w, Calls Tryz.prog 66 #[.int .i64 kd] w fun x w' => x = .returned (.int .i64 F) ∧ w' = w) (hal0 : allowedB kd 0 = true) (hs : s.size ≤ 900000) (hs2 : s.size < 2) : Calls Tryz.prog 67 #[.agg #[.int .i64 F, .string s]] w (RDc w (dcA F s).1) := by
  obtain ⟨z, hT, hz26, hz⟩ := tyP_ex
  obtain ⟨q, hq⟩ : ∃ q, q = (dcA F s).1 := ⟨_, rfl⟩
  rw [← hq]
  have HT := Lib.hid hT
  have HZS := Lib.hid hz26
  have HZ := Lib.hid hz
  have HQ := Lib.hid hq
  have HK := Lib.hid hk
  have HKD := Lib.hid hkd
  have HFF := Lib.hid hff
  have HA0 := Lib.hid hal0
  have HSZ := Lib.hid hs
  have HO := Lib.hid (Own.start [] w)
  have hz0 : decide (F ≤ 0) = false := by simp; omega
  clear hT hz26 hz hq hk hkd hff hal0 hs
  have HQ2 := Lib.hid (HQ.out.trans (dcA_short (by rw [HK.out]; exact HKD.out) hs2))
  have HHO := Lib.hid (show ofR (dnR s ⟨0, 1, s.size⟩) = (1, 129, s.size) from rfl)
  have hsh := rNum2_short (s := s) (R := ⟨0, 0, 0⟩) rfl (show s.size < 0 + 2 by omega)
  have HSH := Lib.hid hsh
  have d2 : ¬ (2 : Nat) < s.size := by omega
  have d3 : ¬ (3 : Nat) < s.size := by omega
  clear hsh hs2 HQ
  obtain ⟨y, hy⟩ : ∃ y, y = (z.setIfInBounds 0 (.int .i64 kd)).setIfInBounds 1 (.int .i64 ((0 : Nat) : Int)) := ⟨_, rfl⟩
  have HBY := Lib.hid (rbuilt2 HZ.out hy)
  have HYS := Lib.hid (show y.size = z.size by rw [hy]; simp)
  have HY1 := Lib.hid (show y.toList.all (·.oneCell') = true by rw [hy]; exact one_put (one_put HT.out.one _ _ rfl) _ _ rfl)
  have HYR := Lib.hid (show y[2]? = some (.int .i64 0) by rw [hy, HZ.out]; rfl)
  have HYI := Lib.hid (show y[1]? = some (.int .i64 ((0 : Nat) : Int)) by rw [hy, HZ.out]; rfl)
  clear hy
  go_enter Tryz.func67, Tryz.ntmps67
  go_upto_region 2 with (first | (refine wpo_box (t := 33) HO.out _ rfl rfl rfl ?_; clear HO; rintro k1 W1 hO; have HO := Lib.hid hO; clear hO; simp only [Act.put, List.setIfInBounds_toArray, List.set_cons_zero, List.set_cons_succ]) | (refine wpo_alloc HT.out HO.out rfl rfl ?_; clear HO; rintro k2 W2 hO; have HO := Lib.hid hO; clear hO; simp only [Act.put, List.setIfInBounds_toArray, List.set_cons_zero, List.set_cons_succ]) | (refine wpo_alloc tyX HO.out rfl rfl ?_; clear HO; rintro k3 W3 hO; have HO := Lib.hid hO; clear hO; simp only [Act.put, List.setIfInBounds_toArray, List.set_cons_zero, List.set_cons_succ]) | (refine wpo_ldc (HO.out.get 2 rfl) tyI _ rfl rfl rfl rfl ?_))
  have f0 : W3.cell? ⟨k1, 0, none⟩ = some (.int .i64 F) := (HO.out.get 2 rfl).cell 0
  go_quiet ((go_at_call 66; exact Calls.quiet_of_same (HFF.out _)))
  have HB := Lib.hid (HO.out.drewN nq)
  generalize W3.drewN nq = W4 at *
  clear f0 HO hz0 h0 h1
  have HO := HB
  clear HB
  go_upto_region 5 with (first | (refine wpo_box (t := 136) HO.out _ rfl rfl rfl ?_; clear HO; rintro k4 W5 hO; have HO := Lib.hid hO; clear hO; simp only [Act.put, List.setIfInBounds_toArray, List.set_cons_zero, List.set_cons_succ]) | (refine wpo_ldc (HO.out.get 2 rfl) tyS _ rfl rfl rfl rfl ?_))
  have HU := Lib.hid (rru16_any (HO.out.rd 0 rfl (R := ⟨0, 0, 0⟩) (Nat.zero_le _)) (by have := HSZ.out; omega))
  rw [HSH.out] at HU
  go_wp2_with fail
  refine HU.out.mono ?_
  rintro x V5 ⟨rfl, hn⟩
  have HB := Lib.hid (HO.out.rstep (R' := ⟨0, 1, s.size⟩) 0 rfl hn)
  clear HO hn HU
  have HO := HB
  clear HB
  go_upto_region 6 with (first | (refine wpo_built HBY.out rfl rfl rfl ?_) | (refine wpo_alloc HT.out HO.out rfl rfl ?_; clear HO; rintro k5 W6 hO; have HO := Lib.hid hO; clear hO; simp only [Act.put, List.setIfInBounds_toArray, List.set_cons_zero, List.set_cons_succ]) | (refine wpo_store (k := k5) HO.out 0 HT.out rfl _ _ rfl rfl rfl rfl rfl HYS.out HY1.out ?_; clear HO; rintro W7 hO; have HO := Lib.hid hO; clear hO; simp only [Act.put]))
  go_upto_region 17 with (first | (refine wpo_ldc (HO.out.get 1 rfl) tyE _ rfl rfl rfl rfl ?_) | (refine wpo_ldc (HO.out.get 4 rfl) tyS _ rfl rfl rfl rfl ?_))
  clear d2 d3
  have HOF := Lib.hid (rrof_any (HO.out.rd 1 rfl (R := ⟨0, 1, s.size⟩) (Nat.zero_le _)))
  rw [HHO.out, show fltV (1, 129, s.size) = .agg #[.int .i64 (1 : Int), .int .i64 (129 : Int), .int .i64 (s.size : Int)] from rfl] at HOF
  go_wp2_with fail
  refine HOF.out.mono ?_
  rintro x VA ⟨rfl, hb⟩
  have HB := Lib.hid (HO.out.below hb)
  clear HO hb HOF
  have HO := HB
  clear HB
  go_upto_region 19 with (first | (refine wpo_alloc tyX HO.out rfl rfl ?_; clear HO; rintro kfA WfA hO; have HO := Lib.hid hO; clear hO; simp only [Act.put, List.setIfInBounds_toArray, List.set_cons_zero, List.set_cons_succ]) | (refine wpo_store (k := kfA) HO.out 0 tyX rfl _ _ rfl rfl rfl rfl rfl rfl rfl ?_; clear HO; rintro WgA hO; have HO := Lib.hid hO; clear hO; simp only [Act.put]) | (refine wpo_ldc (HO.out.get 0 rfl) tyE _ rfl rfl rfl rfl ?_))
  refine wpo_y2 (yA := (k2, 29, z)) (yB := (k3, 40, #[.int .i64 (1 : Int), .int .i64 (129 : Int), .int .i64 (s.size : Int)])) [(88, .agg z), (89, .agg #[.int .i64 (1 : Int), .int .i64 (129 : Int), .int .i64 (s.size : Int)])] 4 3 mixed (by kernel_rfl) HO.out rfl rfl (by decide) (fun _ _ _ _ _ h => h) ?_ rfl rfl ?_ ?_ ?_
  · refine ⟨⟨_, rfl, rfl, yo_zero rfl HT.out rfl⟩, ?_⟩
    simp only [Act.put, List.setIfInBounds_toArray, List.set_cons_zero, List.set_cons_succ]
    refine ⟨⟨_, rfl, rfl, yo_load rfl tyX (fun _ h => h.get 0 (by decide) (by decide) rfl) rfl _ rfl rfl⟩, ?_⟩
    exact trivial
  · simp only [putD, Act.put, List.setIfInBounds_toArray, List.set_cons_zero, List.set_cons_succ]
    exact sto_row HT.out _ _ rfl rfl rfl rfl rfl rfl rfl HT.out.one
  · simp only [putD, Act.put, List.setIfInBounds_toArray, List.set_cons_zero, List.set_cons_succ]
    exact sto_row tyX _ _ rfl rfl rfl rfl rfl rfl rfl rfl
  intro WjA hO
  clear HO
  have HO := Lib.hid hO
  clear hO
  simp only [putD, Act.put, List.setIfInBounds_toArray, List.set_cons_zero, List.set_cons_succ]
  go_wp2_with fail
  exact bodyPost_ret (v := .tuple #[.agg z, fltV (1, 129, s.size)]) (res_own2 4 3 HO.out HT.out tyX rfl rfl rfl rfl rfl rfl rfl) rfl ⟨z, HZS.out, HT.out.one, by rw [HQ2.out] <;> rfl, HO.out.bel⟩
set_option maxHeartbeats 8000000 in
theorem rdec11_b {w : World} {s : ByteArray} {F kd : Int} (hk : kA F = kd) (hkd : ¬ kd = 0) (h0 : 0 < F) (h1 : F ≤ 255) (hd : F / 16 = kd) (hff : ∀ w, Calls Tryz.prog 66 #[.int .i64 kd] w fun x w' => x = .returned (.int .i64 F) ∧ w' = w) (hal0 : allowedB kd 0 = true) (hs : s.size ≤ 900000) (hs2 : 2 ≤ s.size) (hi : (rNum s 2 ⟨0, 0, 0⟩).1 = 0) : Calls Tryz.prog 67 #[.agg #[.int .i64 F, .string s]] w (RDc w (dcA F s).1) := by
  obtain ⟨z, hT, hz26, hz⟩ := tyP_ex
  obtain ⟨q, hq⟩ : ∃ q, q = (dcA F s).1 := ⟨_, rfl⟩
  rw [← hq]
  have HT := Lib.hid hT
  have HZS := Lib.hid hz26
  have HZ := Lib.hid hz
  have HQ := Lib.hid hq
  have HK := Lib.hid hk
  have HKD := Lib.hid hkd
  have HFF := Lib.hid hff
  have HA0 := Lib.hid hal0
  have HSZ := Lib.hid hs
  have HO := Lib.hid (Own.start [] w)
  have hz0 : decide (F ≤ 0) = false := by simp; omega
  clear hT hz26 hz hq hk hkd hff hal0 hs
  have HQ2 := Lib.hid (HQ.out.trans (dcA_zero (by rw [HK.out]; exact HKD.out) hs2 hi))
  have hr2 : (rNum s 2 ⟨0, 0, 0⟩).2 = ⟨2, 0, 0⟩ := rNum2_ok rfl (show 0 + 2 ≤ s.size by omega)
  have HR2 := Lib.hid hr2
  clear hr2
  obtain ⟨id, hid⟩ : ∃ id, id = (rNum s 2 ⟨0, 0, 0⟩).1 := ⟨_, rfl⟩
  rw [← hid] at hi
  have HID := Lib.hid hid
  clear hid
  subst hi
  clear hs2 HQ
  obtain ⟨y, hy⟩ : ∃ y, y = (z.setIfInBounds 0 (.int .i64 kd)).setIfInBounds 1 (.int .i64 ((0 : Nat) : Int)) := ⟨_, rfl⟩
  have HBY := Lib.hid (rbuilt2 HZ.out hy)
  have HYS := Lib.hid (show y.size = z.size by rw [hy]; simp)
  have HY1 := Lib.hid (show y.toList.all (·.oneCell') = true by rw [hy]; exact one_put (one_put HT.out.one _ _ rfl) _ _ rfl)
  have HYR := Lib.hid (show y[2]? = some (.int .i64 0) by rw [hy, HZ.out]; rfl)
  have HYI := Lib.hid (show y[1]? = some (.int .i64 ((0 : Nat) : Int)) by rw [hy, HZ.out]; rfl)
  clear hy
  go_enter Tryz.func67, Tryz.ntmps67
  go_upto_region 2 with (first | (refine wpo_box (t := 33) HO.out _ rfl rfl rfl ?_; clear HO; rintro k1 W1 hO; have HO := Lib.hid hO; clear hO; simp only [Act.put, List.setIfInBounds_toArray, List.set_cons_zero, List.set_cons_succ]) | (refine wpo_alloc HT.out HO.out rfl rfl ?_; clear HO; rintro k2 W2 hO; have HO := Lib.hid hO; clear hO; simp only [Act.put, List.setIfInBounds_toArray, List.set_cons_zero, List.set_cons_succ]) | (refine wpo_alloc tyX HO.out rfl rfl ?_; clear HO; rintro k3 W3 hO; have HO := Lib.hid hO; clear hO; simp only [Act.put, List.setIfInBounds_toArray, List.set_cons_zero, List.set_cons_succ]) | (refine wpo_ldc (HO.out.get 2 rfl) tyI _ rfl rfl rfl rfl ?_))
  have f0 : W3.cell? ⟨k1, 0, none⟩ = some (.int .i64 F) := (HO.out.get 2 rfl).cell 0
  go_quiet ((go_at_call 66; exact Calls.quiet_of_same (HFF.out _)))
  have HB := Lib.hid (HO.out.drewN nq)
  generalize W3.drewN nq = W4 at *
  clear f0 HO hz0 h0 h1
  have HO := HB
  clear HB
  go_upto_region 5 with (first | (refine wpo_box (t := 136) HO.out _ rfl rfl rfl ?_; clear HO; rintro k4 W5 hO; have HO := Lib.hid hO; clear hO; simp only [Act.put, List.setIfInBounds_toArray, List.set_cons_zero, List.set_cons_succ]) | (refine wpo_ldc (HO.out.get 2 rfl) tyS _ rfl rfl rfl rfl ?_))
  have HU := Lib.hid (rru16_any (HO.out.rd 0 rfl (R := ⟨0, 0, 0⟩) (Nat.zero_le _)) (by have := HSZ.out; omega))
  rw [HR2.out, ← HID.out] at HU
  go_wp2_with fail
  refine HU.out.mono ?_
  rintro x V5 ⟨rfl, hn⟩
  have HB := Lib.hid (HO.out.rstep (R' := ⟨2, 0, 0⟩) 0 rfl hn)
  clear HO hn HU
  have HO := HB
  clear HB
  go_upto_region 6 with (first | (refine wpo_built HBY.out rfl rfl rfl ?_) | (refine wpo_alloc HT.out HO.out rfl rfl ?_; clear HO; rintro k5 W6 hO; have HO := Lib.hid hO; clear hO; simp only [Act.put, List.setIfInBounds_toArray, List.set_cons_zero, List.set_cons_succ]) | (refine wpo_store (k := k5) HO.out 0 HT.out rfl _ _ rfl rfl rfl rfl rfl HYS.out HY1.out ?_; clear HO; rintro W7 hO; have HO := Lib.hid hO; clear hO; simp only [Act.put]))
  have c1 : W7.cell? ⟨k5, 1, none⟩ = some (.int .i64 ((0 : Nat) : Int)) := ((HO.out.get 0 rfl).cell 1).trans HYI.out
  go_upto_region 7 with (refine wpo_ldc (HO.out.get 1 rfl) tyE _ rfl rfl rfl rfl ?_)
  clear c1
  go_wp2_with (refine wpo_zero HT.out rfl rfl ?_)
  refine (ragainst_any 0 _).mono ?_
  rintro x VB ⟨rfl, hb⟩
  have HB := Lib.hid (HO.out.below hb)
  clear HO hb
  have HO := HB
  clear HB
  go_wp2_with (first | (refine wpo_store (k := k2) HO.out 3 HT.out rfl _ _ rfl rfl rfl rfl rfl rfl HT.out.one ?_; clear HO; rintro WkB hO; have HO := Lib.hid hO; clear hO; simp only [Act.put]) | (refine wpo_store (k := k3) HO.out 2 tyX rfl _ _ rfl rfl rfl rfl rfl rfl rfl ?_; clear HO; rintro WlB hO; have HO := Lib.hid hO; clear hO; simp only [Act.put]))
  exact bodyPost_ret (v := .tuple #[.agg z, fltV (3, 130, 0)]) (res_own2 3 2 HO.out HT.out tyX rfl rfl rfl rfl rfl rfl rfl) rfl ⟨z, HZS.out, HT.out.one, by rw [HQ2.out] <;> rfl, HO.out.bel⟩
set_option maxHeartbeats 8000000 in
theorem rdec11_c {w : World} {s : ByteArray} {F kd : Int} (hk : kA F = kd) (hkd : ¬ kd = 0) (h0 : 0 < F) (h1 : F ≤ 255) (hd : F / 16 = kd) (hff : ∀ w, Calls Tryz.prog 66 #[.int .i64 kd] w fun x w' => x = .returned (.int .i64 F) ∧ w' = w) (hal0 : allowedB kd 0 = true) (hs : s.size ≤ 900000) (hs2 : 2 ≤ s.size) (hi : ¬ (rNum s 2 ⟨0, 0, 0⟩).1 = 0) (hs3 : s.size ≤ 2) : Calls Tryz.prog 67 #[.agg #[.int .i64 F, .string s]] w (RDc w (dcA F s).1) := by
  obtain ⟨z, hT, hz26, hz⟩ := tyP_ex
  obtain ⟨q, hq⟩ : ∃ q, q = (dcA F s).1 := ⟨_, rfl⟩
  rw [← hq]
  have HT := Lib.hid hT
  have HZS := Lib.hid hz26
  have HZ := Lib.hid hz
  have HQ := Lib.hid hq
  have HK := Lib.hid hk
  have HKD := Lib.hid hkd
  have HFF := Lib.hid hff
  have HA0 := Lib.hid hal0
  have HSZ := Lib.hid hs
  have HO := Lib.hid (Own.start [] w)
  have hz0 : decide (F ≤ 0) = false := by simp; omega
  clear hT hz26 hz hq hk hkd hff hal0 hs
  rw [dcA_id HK.out HKD.out hs2 hi] at HQ
  have hr2 : (rNum s 2 ⟨0, 0, 0⟩).2 = ⟨2, 0, 0⟩ := rNum2_ok rfl (show 0 + 2 ≤ s.size by omega)
  have HR2 := Lib.hid hr2
  clear hr2
  obtain ⟨id, hid⟩ : ∃ id, id = (rNum s 2 ⟨0, 0, 0⟩).1 := ⟨_, rfl⟩
  rw [← hid] at hi
  have HID := Lib.hid hid
  clear hid
  have hib : ((id : Int) == 0) = false := by rw [beq_eq_false_iff_ne]; omega
  clear hi
  obtain ⟨y, hy⟩ : ∃ y, y = (z.setIfInBounds 0 (.int .i64 kd)).setIfInBounds 1 (.int .i64 (id : Int)) := ⟨_, rfl⟩
  have HBY := Lib.hid (rbuilt2 HZ.out hy)
  have HYS := Lib.hid (show y.size = z.size by rw [hy]; simp)
  have HY1 := Lib.hid (show y.toList.all (·.oneCell') = true by rw [hy]; exact one_put (one_put HT.out.one _ _ rfl) _ _ rfl)
  have HYR := Lib.hid (show y[2]? = some (.int .i64 0) by rw [hy, HZ.out]; rfl)
  have HYI := Lib.hid (show y[1]? = some (.int .i64 (id : Int)) by rw [hy, HZ.out]; rfl)
  clear hy
  have HQ2 := Lib.hid (show q = e00 by rw [HQ.out]; unfold tkR; rw [if_pos (by simp only; omega)])
  have HHO := Lib.hid (show ofR (dnR s ⟨2, 0, 0⟩) = (0, 0, 0) by unfold dnR; rw [if_pos rfl, if_neg (by simp only; omega)]; rfl)
  have d2 : ¬ (2 : Nat) < s.size := by omega
  have d3 : ¬ (3 : Nat) < s.size := by omega
  have HLE := Lib.hid hs2
  clear HQ hs2 hs3
  go_enter Tryz.func67, Tryz.ntmps67
  go_upto_region 2 with (first | (refine wpo_box (t := 33) HO.out _ rfl rfl rfl ?_; clear HO; rintro k1 W1 hO; have HO := Lib.hid hO; clear hO; simp only [Act.put, List.setIfInBounds_toArray, List.set_cons_zero, List.set_cons_succ]) | (refine wpo_alloc HT.out HO.out rfl rfl ?_; clear HO; rintro k2 W2 hO; have HO := Lib.hid hO; clear hO; simp only [Act.put, List.setIfInBounds_toArray, List.set_cons_zero, List.set_cons_succ]) | (refine wpo_alloc tyX HO.out rfl rfl ?_; clear HO; rintro k3 W3 hO; have HO := Lib.hid hO; clear hO; simp only [Act.put, List.setIfInBounds_toArray, List.set_cons_zero, List.set_cons_succ]) | (refine wpo_ldc (HO.out.get 2 rfl) tyI _ rfl rfl rfl rfl ?_))
  have f0 : W3.cell? ⟨k1, 0, none⟩ = some (.int .i64 F) := (HO.out.get 2 rfl).cell 0
  go_quiet ((go_at_call 66; exact Calls.quiet_of_same (HFF.out _)))
  have HB := Lib.hid (HO.out.drewN nq)
  generalize W3.drewN nq = W4 at *
  clear f0 HO hz0 h0 h1
  have HO := HB
  clear HB
  go_upto_region 5 with (first | (refine wpo_box (t := 136) HO.out _ rfl rfl rfl ?_; clear HO; rintro k4 W5 hO; have HO := Lib.hid hO; clear hO; simp only [Act.put, List.setIfInBounds_toArray, List.set_cons_zero, List.set_cons_succ]) | (refine wpo_ldc (HO.out.get 2 rfl) tyS _ rfl rfl rfl rfl ?_))
  have HU := Lib.hid (rru16_any (HO.out.rd 0 rfl (R := ⟨0, 0, 0⟩) (Nat.zero_le _)) (by have := HSZ.out; omega))
  rw [HR2.out, ← HID.out] at HU
  go_wp2_with fail
  refine HU.out.mono ?_
  rintro x V5 ⟨rfl, hn⟩
  have HB := Lib.hid (HO.out.rstep (R' := ⟨2, 0, 0⟩) 0 rfl hn)
  clear HO hn HU
  have HO := HB
  clear HB
  go_upto_region 6 with (first | (refine wpo_built HBY.out rfl rfl rfl ?_) | (refine wpo_alloc HT.out HO.out rfl rfl ?_; clear HO; rintro k5 W6 hO; have HO := Lib.hid hO; clear hO; simp only [Act.put, List.setIfInBounds_toArray, List.set_cons_zero, List.set_cons_succ]) | (refine wpo_store (k := k5) HO.out 0 HT.out rfl _ _ rfl rfl rfl rfl rfl HYS.out HY1.out ?_; clear HO; rintro W7 hO; have HO := Lib.hid hO; clear hO; simp only [Act.put]))
  have c1 : W7.cell? ⟨k5, 1, none⟩ = some (.int .i64 (id : Int)) := ((HO.out.get 0 rfl).cell 1).trans HYI.out
  go_upto_region 10 with (first | (refine wpo_ldc (HO.out.get 1 rfl) tyE _ rfl rfl rfl rfl ?_) | (refine wpo_ldc (HO.out.get 4 rfl) tyS _ rfl rfl rfl rfl ?_))
  clear c1 hib
  have c2 : W7.cell? ⟨k5, 2, none⟩ = some (.int .i64 0) := ((HO.out.get 0 rfl).cell 2).trans HYR.out
  have HAL := Lib.hid (fun w => ref_allowed kd 0 w)
  rw [HA0.out] at HAL
  go_wp2_with (refine wpo_ldc (HO.out.get 1 rfl) tyE _ rfl rfl rfl rfl ?_)
  refine (HAL.out _).mono ?_
  rintro x V8 ⟨rfl, hb⟩
  clear c2
  have HB := Lib.hid (HO.out.below hb)
  clear HO hb HAL
  have HO := HB
  clear HB
  go_upto_region 17 with (refine wpo_ldc (HO.out.get 4 rfl) tyS _ rfl rfl rfl rfl ?_)
  clear d2 d3
  have HOF := Lib.hid (rrof_any (HO.out.rd 1 rfl (R := ⟨2, 0, 0⟩) HLE.out))
  rw [HHO.out, show fltV (0, 0, 0) = .agg #[.int .i64 (0 : Int), .int .i64 (0 : Int), .int .i64 (0 : Int)] from rfl] at HOF
  go_wp2_with fail
  refine HOF.out.mono ?_
  rintro x VC ⟨rfl, hb⟩
  have HB := Lib.hid (HO.out.below hb)
  clear HO hb HOF
  have HO := HB
  clear HB
  go_wp2_with (first | (refine wpo_alloc tyX HO.out rfl rfl ?_; clear HO; rintro kfC WfC hO; have HO := Lib.hid hO; clear hO; simp only [Act.put, List.setIfInBounds_toArray, List.set_cons_zero, List.set_cons_succ]) | (refine wpo_store (k := kfC) HO.out 0 tyX rfl _ _ rfl rfl rfl rfl rfl rfl rfl ?_; clear HO; rintro WgC hO; have HO := Lib.hid hO; clear hO; simp only [Act.put]) | (refine wpo_ldc (HO.out.get 0 rfl) tyE _ rfl rfl rfl rfl ?_) | (refine wpo_load HO.out 1 HT.out rfl HYS.out _ rfl rfl rfl ?_) | (refine wpo_store (k := k2) HO.out 4 HT.out rfl _ _ rfl rfl rfl rfl rfl HYS.out HY1.out ?_; clear HO; rintro WhC hO; have HO := Lib.hid hO; clear hO; simp only [Act.put]) | (refine wpo_store (k := k3) HO.out 3 tyX rfl _ _ rfl rfl rfl rfl rfl rfl rfl ?_; clear HO; rintro WiC hO; have HO := Lib.hid hO; clear hO; simp only [Act.put]))
  exact bodyPost_ret (v := .tuple #[.agg y, fltV (0, 0, 0)]) (res_own2 4 3 HO.out HT.out tyX rfl rfl rfl rfl rfl HYS.out rfl) rfl ⟨y, HYS.out.trans HZS.out, HY1.out, by rw [HQ2.out] <;> rfl, HO.out.bel⟩
end Go.Proofs.YtinhecggmakbnaaGreatDoor
namespace Go.Proofs.YtinhecggmakbnaaGreatDoor
set_option maxRecDepth 100000
open Go.RowKit Go.Extern.Stop Go.Stop Go.Extern
set_option maxHeartbeats 8000000 in
theorem rdec11_d {w : World} {s : ByteArray} {F kd : Int} (hk : kA F = kd) (hkd : ¬ kd = 0) (h0 : 0 < F) (h1 : F ≤ 255) (hd : F / 16 = kd) (hff : ∀ w, Calls Tryz.prog 66 #[.int .i64 kd] w fun x w' => x = .returned (.int .i64 F) ∧ w' = w) (hal0 : allowedB kd 0 = true) (hs : s.size ≤ 900000) (hs2 : 2 ≤ s.size) (hi : ¬ (rNum s 2 ⟨0, 0, 0⟩).1 = 0) (hs3 : ¬ s.size ≤ 2) : Calls Tryz.prog 67 #[.agg #[.int .i64 F, .string s]] w (RDc w (dcA F s).1) := by
  obtain ⟨z, hT, hz26, hz⟩ := tyP_ex
  obtain ⟨q, hq⟩ : ∃ q, q = (dcA F s).1 := ⟨_, rfl⟩
  rw [← hq]
  have HT := Lib.hid hT
  have HZS := Lib.hid hz26
  have HZ := Lib.hid hz
  have HQ := Lib.hid hq
  have HK := Lib.hid hk
  have HKD := Lib.hid hkd
  have HFF := Lib.hid hff
  have HA0 := Lib.hid hal0
  have HSZ := Lib.hid hs
  have HO := Lib.hid (Own.start [] w)
  have hz0 : decide (F ≤ 0) = false := by simp; omega
  clear hT hz26 hz hq hk hkd hff hal0 hs
  rw [dcA_id HK.out HKD.out hs2 hi] at HQ
  have hr2 : (rNum s 2 ⟨0, 0, 0⟩).2 = ⟨2, 0, 0⟩ := rNum2_ok rfl (show 0 + 2 ≤ s.size by omega)
  have HR2 := Lib.hid hr2
  clear hr2
  obtain ⟨id, hid⟩ : ∃ id, id = (rNum s 2 ⟨0, 0, 0⟩).1 := ⟨_, rfl⟩
  rw [← hid] at hi
  have HID := Lib.hid hid
  clear hid
  have hib : ((id : Int) == 0) = false := by rw [beq_eq_false_iff_ne]; omega
  clear hi
  obtain ⟨y, hy⟩ : ∃ y, y = (z.setIfInBounds 0 (.int .i64 kd)).setIfInBounds 1 (.int .i64 (id : Int)) := ⟨_, rfl⟩
  have HBY := Lib.hid (rbuilt2 HZ.out hy)
  have HYS := Lib.hid (show y.size = z.size by rw [hy]; simp)
  have HY1 := Lib.hid (show y.toList.all (·.oneCell') = true by rw [hy]; exact one_put (one_put HT.out.one _ _ rfl) _ _ rfl)
  have HYR := Lib.hid (show y[2]? = some (.int .i64 0) by rw [hy, HZ.out]; rfl)
  have HYI := Lib.hid (show y[1]? = some (.int .i64 (id : Int)) by rw [hy, HZ.out]; rfl)
  clear hy
  have d2 : (2 : Nat) < s.size := by omega
  have HD2 := Lib.hid d2
  clear hs2 hs3
  go_enter Tryz.func67, Tryz.ntmps67
  go_upto_region 2 with (first | (refine wpo_box (t := 33) HO.out _ rfl rfl rfl ?_; clear HO; rintro k1 W1 hO; have HO := Lib.hid hO; clear hO; simp only [Act.put, List.setIfInBounds_toArray, List.set_cons_zero, List.set_cons_succ]) | (refine wpo_alloc HT.out HO.out rfl rfl ?_; clear HO; rintro k2 W2 hO; have HO := Lib.hid hO; clear hO; simp only [Act.put, List.setIfInBounds_toArray, List.set_cons_zero, List.set_cons_succ]) | (refine wpo_alloc tyX HO.out rfl rfl ?_; clear HO; rintro k3 W3 hO; have HO := Lib.hid hO; clear hO; simp only [Act.put, List.setIfInBounds_toArray, List.set_cons_zero, List.set_cons_succ]) | (refine wpo_ldc (HO.out.get 2 rfl) tyI _ rfl rfl rfl rfl ?_))
  have f0 : W3.cell? ⟨k1, 0, none⟩ = some (.int .i64 F) := (HO.out.get 2 rfl).cell 0
  go_quiet ((go_at_call 66; exact Calls.quiet_of_same (HFF.out _)))
  have HB := Lib.hid (HO.out.drewN nq)
  generalize W3.drewN nq = W4 at *
  clear f0 HO hz0 h0 h1
  have HO := HB
  clear HB
  go_upto_region 5 with (first | (refine wpo_box (t := 136) HO.out _ rfl rfl rfl ?_; clear HO; rintro k4 W5 hO; have HO := Lib.hid hO; clear hO; simp only [Act.put, List.setIfInBounds_toArray, List.set_cons_zero, List.set_cons_succ]) | (refine wpo_ldc (HO.out.get 2 rfl) tyS _ rfl rfl rfl rfl ?_))
  have HU := Lib.hid (rru16_any (HO.out.rd 0 rfl (R := ⟨0, 0, 0⟩) (Nat.zero_le _)) (by have := HSZ.out; omega))
  rw [HR2.out, ← HID.out] at HU
  go_wp2_with fail
  refine HU.out.mono ?_
  rintro x V5 ⟨rfl, hn⟩
  have HB := Lib.hid (HO.out.rstep (R' := ⟨2, 0, 0⟩) 0 rfl hn)
  clear HO hn HU
  have HO := HB
  clear HB
  go_upto_region 6 with (first | (refine wpo_built HBY.out rfl rfl rfl ?_) | (refine wpo_alloc HT.out HO.out rfl rfl ?_; clear HO; rintro k5 W6 hO; have HO := Lib.hid hO; clear hO; simp only [Act.put, List.setIfInBounds_toArray, List.set_cons_zero, List.set_cons_succ]) | (refine wpo_store (k := k5) HO.out 0 HT.out rfl _ _ rfl rfl rfl rfl rfl HYS.out HY1.out ?_; clear HO; rintro W7 hO; have HO := Lib.hid hO; clear hO; simp only [Act.put]))
  have c1 : W7.cell? ⟨k5, 1, none⟩ = some (.int .i64 (id : Int)) := ((HO.out.get 0 rfl).cell 1).trans HYI.out
  go_upto_region 9 with (first | (refine wpo_ldc (HO.out.get 1 rfl) tyE _ rfl rfl rfl rfl ?_) | (refine wpo_ldc (HO.out.get 4 rfl) tyS _ rfl rfl rfl rfl ?_))
  clear c1 hib
  have HU := Lib.hid (rru8_any (HO.out.rd 1 rfl (R := ⟨2, 0, 0⟩) (by have := HD2.out; simp only; omega)) (by have := HSZ.out; omega))
  have hR1 := rNum_left (s := s) (R := ⟨2, 0, 0⟩) rfl d2
  have HTK := Lib.hid (show tkR kd s ⟨2, 0, 0⟩ = (if allowedB kd ((rNum s 1 ⟨2, 0, 0⟩).1 : Int) = false then ⟨⟨2, 129, 2⟩, 0, []⟩ else if s.size ≤ 3 then ⟨e00, (rNum s 1 ⟨2, 0, 0⟩).1, []⟩ else if (readF kd s ⟨3, 0, 0⟩).1.no = 0 then if (readF kd s ⟨3, 0, 0⟩).2.p < s.size then ⟨⟨2, 129, (readF kd s ⟨3, 0, 0⟩).2.p⟩, 0, []⟩ else ⟨e00, (rNum s 1 ⟨2, 0, 0⟩).1, (readF kd s ⟨3, 0, 0⟩).1.L⟩ else ⟨⟨(readF kd s ⟨3, 0, 0⟩).1.no, (readF kd s ⟨3, 0, 0⟩).1.r, (readF kd s ⟨3, 0, 0⟩).1.at_⟩, 0, []⟩) by unfold tkR; rw [if_neg (by simp only; omega), hR1])
  rw [hR1] at HU
  obtain ⟨c, hc⟩ : ∃ c, c = (rNum s 1 ⟨2, 0, 0⟩).1 := ⟨_, rfl⟩
  rw [← hc] at HU HTK
  clear hR1 hc
  have HY2S := Lib.hid (show (y.setIfInBounds 2 (.int .i64 (c : Int))).size = z.size by simpa using HYS.out)
  have HY21 := Lib.hid (one_put HY1.out 2 (.int .i64 (c : Int)) rfl)
  have HY2g := Lib.hid (show (y.setIfInBounds 2 (.int .i64 (c : Int)))[2]? = some (.int .i64 (c : Int)) by simp [HYS.out, HZS.out])
  have HYJ := Lib.hid (show 2 < y.size by rw [HYS.out, HZS.out]; omega)
  go_wp2_with fail
  refine HU.out.mono ?_
  rintro x V8 ⟨rfl, hn⟩
  have HB := Lib.hid (HO.out.rstep (R' := ⟨3, 0, 0⟩) 1 rfl hn)
  clear HO hn HU d2
  have HO := HB
  clear HB
  have HAL := Lib.hid (fun w => ref_allowed kd (c : Int) w)
  go_upto_region 10 with (refine wpo_cell HO.out 0 2 tyI.ip rfl _ _ rfl rfl rfl rfl HYJ.out rfl ?_; clear HO; rintro W8 hO; have HO := Lib.hid hO; clear hO; simp only [Act.put])
  have c2 : W8.cell? ⟨k5, 2, none⟩ = some (.int .i64 (c : Int)) := ((HO.out.get 0 rfl).cell 2).trans HY2g.out
  cases hal : allowedB kd (c : Int) with
  | false =>
    have HQ2 := Lib.hid (show q = ⟨2, 129, 2⟩ by rw [HQ.out, HTK.out, if_pos hal])
    clear HQ HTK
    rw [hal] at HAL
    go_wp2_with (refine wpo_ldc (HO.out.get 1 rfl) tyE _ rfl rfl rfl rfl ?_)
    refine (HAL.out _).mono ?_
    rintro x V9 ⟨rfl, hb⟩
    clear c2
    have HB := Lib.hid (HO.out.below hb)
    clear HO hb HAL
    have HO := HB
    clear HB
    go_wp2_with (refine wpo_zero HT.out rfl rfl ?_)
    refine (rbad_any 2 _).mono ?_
    rintro x VD ⟨rfl, hb⟩
    have HB := Lib.hid (HO.out.below hb)
    clear HO hb
    have HO := HB
    clear HB
    go_wp2_with (first | (refine wpo_store (k := k2) HO.out 3 HT.out rfl _ _ rfl rfl rfl rfl rfl rfl HT.out.one ?_; clear HO; rintro WkD hO; have HO := Lib.hid hO; clear hO; simp only [Act.put]) | (refine wpo_store (k := k3) HO.out 2 tyX rfl _ _ rfl rfl rfl rfl rfl rfl rfl ?_; clear HO; rintro WlD hO; have HO := Lib.hid hO; clear hO; simp only [Act.put]))
    exact bodyPost_ret (v := .tuple #[.agg z, fltV (2, 129, 2)]) (res_own2 3 2 HO.out HT.out tyX rfl rfl rfl rfl rfl rfl rfl) rfl ⟨z, HZS.out, HT.out.one, by rw [HQ2.out] <;> rfl, HO.out.bel⟩
  | true =>
    rw [if_neg (by rw [hal]; decide)] at HTK
    rw [hal] at HAL
    go_wp2_with (refine wpo_ldc (HO.out.get 1 rfl) tyE _ rfl rfl rfl rfl ?_)
    refine (HAL.out _).mono ?_
    rintro x V9 ⟨rfl, hb⟩
    clear c2
    have HB := Lib.hid (HO.out.below hb)
    clear HO hb HAL
    have HO := HB
    clear HB
    by_cases h3 : s.size ≤ 3
    · have HQ2 := Lib.hid (show q = e00 by rw [HQ.out, HTK.out, if_pos h3])
      have HHO := Lib.hid (show ofR (dnR s ⟨3, 0, 0⟩) = (0, 0, 0) by unfold dnR; rw [if_pos rfl, if_neg (by simp only; omega)]; rfl)
      have d3 : ¬ (3 : Nat) < s.size := by omega
      have HLE := Lib.hid (show 3 ≤ s.size by have := HD2.out; omega)
      clear HQ HTK h3 hal
      go_upto_region 17 with (refine wpo_ldc (HO.out.get 4 rfl) tyS _ rfl rfl rfl rfl ?_)
      clear d3
      have HOF := Lib.hid (rrof_any (HO.out.rd 1 rfl (R := ⟨3, 0, 0⟩) HLE.out))
      rw [HHO.out, show fltV (0, 0, 0) = .agg #[.int .i64 (0 : Int), .int .i64 (0 : Int), .int .i64 (0 : Int)] from rfl] at HOF
      go_wp2_with fail
      refine HOF.out.mono ?_
      rintro x VE ⟨rfl, hb⟩
      have HB := Lib.hid (HO.out.below hb)
      clear HO hb HOF
      have HO := HB
      clear HB
      go_wp2_with (first | (refine wpo_alloc tyX HO.out rfl rfl ?_; clear HO; rintro kfE WfE hO; have HO := Lib.hid hO; clear hO; simp only [Act.put, List.setIfInBounds_toArray, List.set_cons_zero, List.set_cons_succ]) | (refine wpo_store (k := kfE) HO.out 0 tyX rfl _ _ rfl rfl rfl rfl rfl rfl rfl ?_; clear HO; rintro WgE hO; have HO := Lib.hid hO; clear hO; simp only [Act.put]) | (refine wpo_ldc (HO.out.get 0 rfl) tyE _ rfl rfl rfl rfl ?_) | (refine wpo_load HO.out 1 HT.out rfl HY2S.out _ rfl rfl rfl ?_) | (refine wpo_store (k := k2) HO.out 4 HT.out rfl _ _ rfl rfl rfl rfl rfl HY2S.out HY21.out ?_; clear HO; rintro WhE hO; have HO := Lib.hid hO; clear hO; simp only [Act.put]) | (refine wpo_store (k := k3) HO.out 3 tyX rfl _ _ rfl rfl rfl rfl rfl rfl rfl ?_; clear HO; rintro WiE hO; have HO := Lib.hid hO; clear hO; simp only [Act.put]))
      exact bodyPost_ret (v := .tuple #[.agg (y.setIfInBounds 2 (.int .i64 (c : Int))), fltV (0, 0, 0)]) (res_own2 4 3 HO.out HT.out tyX rfl rfl rfl rfl rfl HY2S.out rfl) rfl ⟨(y.setIfInBounds 2 (.int .i64 (c : Int))), HY2S.out.trans HZS.out, HY21.out, by rw [HQ2.out] <;> rfl, HO.out.bel⟩
    · rw [if_neg h3] at HTK
      have d3 : (3 : Nat) < s.size := by omega
      have HRD := Lib.hid (rread_any (HO.out.rd 1 rfl (R := ⟨3, 0, 0⟩) (by simp only; omega)) HSZ.out kd)
      have hno := readF_no (k := kd) (s := s) (R := ⟨3, 0, 0⟩)
      obtain ⟨⟨⟨rn, rr, ra, rL⟩, R2⟩, hF⟩ : ∃ F, F = readF kd s ⟨3, 0, 0⟩ := ⟨_, rfl⟩
      rw [← hF] at HRD HTK hno
      clear hF h3 hal
      simp only at hno
      have HNO := Lib.hid hno
      clear hno
      go_wp2_with (refine wpo_ldc (HO.out.get 4 rfl) tyS _ rfl rfl rfl rfl ?_)
      refine HRD.out.mono ?_
      rintro x V10 ⟨v5, rfl, hv5, hn⟩
      have HLE := Lib.hid hn.obj.le
      have HB := Lib.hid (HO.out.rstep 1 rfl hn)
      clear HO hn HRD d3
      have HO := HB
      clear HB
      obtain ⟨a5, n5, c5, rfl, -, -⟩ := hv5.some_form
      clear hv5
      by_cases hr : rn = 0
      · subst hr
        rw [if_pos rfl] at HTK
        have HY3S := Lib.hid (show ((y.setIfInBounds 2 (.int .i64 (c : Int))).setIfInBounds 3 (.slice a5 n5 c5)).size = z.size by simpa using HYS.out)
        have HY31 := Lib.hid (one_put HY21.out 3 (.slice a5 n5 c5) rfl)
        have HYJ3 := Lib.hid (show 3 < (y.setIfInBounds 2 (.int .i64 (c : Int))).size by rw [HY2S.out, HZS.out]; omega)
        go_upto_region 17 with (first | (refine wpo_alloc tyX HO.out rfl rfl ?_; clear HO; rintro k8 W11 hO; have HO := Lib.hid hO; clear hO; simp only [Act.put, List.setIfInBounds_toArray, List.set_cons_zero, List.set_cons_succ]) | (refine wpo_store (k := k8) HO.out 0 tyX rfl _ _ rfl rfl rfl rfl rfl rfl rfl ?_; clear HO; rintro W12 hO; have HO := Lib.hid hO; clear hO; simp only [Act.put]) | (refine wpo_ldc (HO.out.get 0 rfl) tyE _ rfl rfl rfl rfl ?_) | (refine wpo_cell HO.out 1 3 tyL.ip rfl _ _ rfl rfl rfl rfl HYJ3.out rfl ?_; clear HO; rintro W13 hO; have HO := Lib.hid hO; clear hO; simp only [Act.put]))
        have hz2 := (by first | exact HNO.out rfl | exact HNO.out trivial : R2.no = 0)
        by_cases h2 : R2.p < s.size
        · have HQ2 := Lib.hid (show q = ⟨2, 129, R2.p⟩ by rw [HQ.out, HTK.out, if_pos h2])
          have HHO := Lib.hid (show ofR (dnR s R2) = (2, 129, R2.p) by unfold dnR; rw [if_pos hz2, if_pos h2]; rfl)
          clear HQ HTK hz2 h2
          have HOF := Lib.hid (rrof_any (HO.out.rd 2 rfl (R := R2) HLE.out))
          rw [HHO.out, show fltV (2, 129, R2.p) = .agg #[.int .i64 (2 : Int), .int .i64 (129 : Int), .int .i64 (R2.p : Int)] from rfl] at HOF
          go_wp2_with fail
          refine HOF.out.mono ?_
          rintro x VF ⟨rfl, hb⟩
          have HB := Lib.hid (HO.out.below hb)
          clear HO hb HOF
          have HO := HB
          clear HB
          go_upto_region 19 with (first | (refine wpo_alloc tyX HO.out rfl rfl ?_; clear HO; rintro kfF WfF hO; have HO := Lib.hid hO; clear hO; simp only [Act.put, List.setIfInBounds_toArray, List.set_cons_zero, List.set_cons_succ]) | (refine wpo_store (k := kfF) HO.out 0 tyX rfl _ _ rfl rfl rfl rfl rfl rfl rfl ?_; clear HO; rintro WgF hO; have HO := Lib.hid hO; clear hO; simp only [Act.put]) | (refine wpo_ldc (HO.out.get 0 rfl) tyE _ rfl rfl rfl rfl ?_))
          refine wpo_y2 (yA := (k2, 29, z)) (yB := (k3, 40, #[.int .i64 (2 : Int), .int .i64 (129 : Int), .int .i64 (R2.p : Int)])) [(88, .agg z), (89, .agg #[.int .i64 (2 : Int), .int .i64 (129 : Int), .int .i64 (R2.p : Int)])] 5 4 mixed (by kernel_rfl) HO.out rfl rfl (by decide) (fun _ _ _ _ _ h => h) ?_ rfl rfl ?_ ?_ ?_
          · refine ⟨⟨_, rfl, rfl, yo_zero rfl HT.out rfl⟩, ?_⟩
            simp only [Act.put, List.setIfInBounds_toArray, List.set_cons_zero, List.set_cons_succ]
            refine ⟨⟨_, rfl, rfl, yo_load rfl tyX (fun _ h => h.get 0 (by decide) (by decide) rfl) rfl _ rfl rfl⟩, ?_⟩
            exact trivial
          · simp only [putD, Act.put, List.setIfInBounds_toArray, List.set_cons_zero, List.set_cons_succ]
            exact sto_row HT.out _ _ rfl rfl rfl rfl rfl rfl rfl HT.out.one
          · simp only [putD, Act.put, List.setIfInBounds_toArray, List.set_cons_zero, List.set_cons_succ]
            exact sto_row tyX _ _ rfl rfl rfl rfl rfl rfl rfl rfl
          intro WjF hO
          clear HO
          have HO := Lib.hid hO
          clear hO
          simp only [putD, Act.put, List.setIfInBounds_toArray, List.set_cons_zero, List.set_cons_succ]
          go_wp2_with fail
          exact bodyPost_ret (v := .tuple #[.agg z, fltV (2, 129, R2.p)]) (res_own2 5 4 HO.out HT.out tyX rfl rfl rfl rfl rfl rfl rfl) rfl ⟨z, HZS.out, HT.out.one, by rw [HQ2.out] <;> rfl, HO.out.bel⟩
        · have HQ2 := Lib.hid (show q = e00 by rw [HQ.out, HTK.out, if_neg h2])
          have HHO := Lib.hid (show ofR (dnR s R2) = (0, 0, 0) by unfold dnR; rw [if_pos hz2, if_neg h2]; rfl)
          clear HQ HTK hz2 h2
          have HOF := Lib.hid (rrof_any (HO.out.rd 2 rfl (R := R2) HLE.out))
          rw [HHO.out, show fltV (0, 0, 0) = .agg #[.int .i64 (0 : Int), .int .i64 (0 : Int), .int .i64 (0 : Int)] from rfl] at HOF
          go_wp2_with fail
          refine HOF.out.mono ?_
          rintro x VG ⟨rfl, hb⟩
          have HB := Lib.hid (HO.out.below hb)
          clear HO hb HOF
          have HO := HB
          clear HB
          go_wp2_with (first | (refine wpo_alloc tyX HO.out rfl rfl ?_; clear HO; rintro kfG WfG hO; have HO := Lib.hid hO; clear hO; simp only [Act.put, List.setIfInBounds_toArray, List.set_cons_zero, List.set_cons_succ]) | (refine wpo_store (k := kfG) HO.out 0 tyX rfl _ _ rfl rfl rfl rfl rfl rfl rfl ?_; clear HO; rintro WgG hO; have HO := Lib.hid hO; clear hO; simp only [Act.put]) | (refine wpo_ldc (HO.out.get 0 rfl) tyE _ rfl rfl rfl rfl ?_) | (refine wpo_load HO.out 2 HT.out rfl HY3S.out _ rfl rfl rfl ?_) | (refine wpo_store (k := k2) HO.out 5 HT.out rfl _ _ rfl rfl rfl rfl rfl HY3S.out HY31.out ?_; clear HO; rintro WhG hO; have HO := Lib.hid hO; clear hO; simp only [Act.put]) | (refine wpo_store (k := k3) HO.out 4 tyX rfl _ _ rfl rfl rfl rfl rfl rfl rfl ?_; clear HO; rintro WiG hO; have HO := Lib.hid hO; clear hO; simp only [Act.put]))
          exact bodyPost_ret (v := .tuple #[.agg ((y.setIfInBounds 2 (.int .i64 (c : Int))).setIfInBounds 3 (.slice a5 n5 c5)), fltV (0, 0, 0)]) (res_own2 5 4 HO.out HT.out tyX rfl rfl rfl rfl rfl HY3S.out rfl) rfl ⟨((y.setIfInBounds 2 (.int .i64 (c : Int))).setIfInBounds 3 (.slice a5 n5 c5)), HY3S.out.trans HZS.out, HY31.out, by rw [HQ2.out] <;> rfl, HO.out.bel⟩
      · have HQ2 := Lib.hid (show q = ⟨rn, rr, ra⟩ by rw [HQ.out, HTK.out, if_neg hr])
        have hri : ¬ (rn : Int) = 0 := by omega
        clear HQ HTK
        go_upto_region 15 with (first | (refine wpo_alloc tyX HO.out rfl rfl ?_; clear HO; rintro k8 W11 hO; have HO := Lib.hid hO; clear hO; simp only [Act.put, List.setIfInBounds_toArray, List.set_cons_zero, List.set_cons_succ]) | (refine wpo_store (k := k8) HO.out 0 tyX rfl _ _ rfl rfl rfl rfl rfl rfl rfl ?_; clear HO; rintro W12 hO; have HO := Lib.hid hO; clear hO; simp only [Act.put]) | (refine wpo_ldc (HO.out.get 0 rfl) tyE _ rfl rfl rfl rfl ?_))
        refine wpo_y2 (yA := (k2, 29, z)) (yB := (k3, 40, #[.int .i64 (rn : Int), .int .i64 (rr : Int), .int .i64 (ra : Int)])) [(79, .agg z), (80, .agg #[.int .i64 (rn : Int), .int .i64 (rr : Int), .int .i64 (ra : Int)])] 4 3 mixed (by kernel_rfl) HO.out rfl rfl (by decide) (fun _ _ _ _ _ h => h) ?_ rfl rfl ?_ ?_ ?_
        · refine ⟨⟨_, rfl, rfl, yo_zero rfl HT.out rfl⟩, ?_⟩
          simp only [Act.put, List.setIfInBounds_toArray, List.set_cons_zero, List.set_cons_succ]
          refine ⟨⟨_, rfl, rfl, yo_load rfl tyX (fun _ h => h.get 0 (by decide) (by decide) rfl) rfl _ rfl rfl⟩, ?_⟩
          exact trivial
        · simp only [putD, Act.put, List.setIfInBounds_toArray, List.set_cons_zero, List.set_cons_succ]
          exact sto_row HT.out _ _ rfl rfl rfl rfl rfl rfl rfl HT.out.one
        · simp only [putD, Act.put, List.setIfInBounds_toArray, List.set_cons_zero, List.set_cons_succ]
          exact sto_row tyX _ _ rfl rfl rfl rfl rfl rfl rfl rfl
        intro WjH hO
        clear HO
        have HO := Lib.hid hO
        clear hO
        simp only [putD, Act.put, List.setIfInBounds_toArray, List.set_cons_zero, List.set_cons_succ]
        go_wp2_with fail
        exact bodyPost_ret (v := .tuple #[.agg z, fltV (rn, rr, ra)]) (res_own2 4 3 HO.out HT.out tyX rfl rfl rfl rfl rfl rfl rfl) rfl ⟨z, HZS.out, HT.out.one, by rw [HQ2.out] <;> rfl, HO.out.bel⟩
end Go.Proofs.YtinhecggmakbnaaGreatDoor
namespace Go.Proofs.YtinhecggmakbnaaGreatDoor
set_option maxRecDepth 100000
open Go.RowKit Go.Extern.Stop Go.Stop Go.Extern
theorem rf11_4 (w : World) : Calls Tryz.prog 66 #[.int .i64 4] w fun x w' => x = .returned (.int .i64 64) ∧ w' = w := (rfirst11_any 4 w).mono fun _ _ h => ⟨h.1, h.2.symm⟩
theorem rf11_5 (w : World) : Calls Tryz.prog 66 #[.int .i64 5] w fun x w' => x = .returned (.int .i64 80) ∧ w' = w := (rfirst11_any 5 w).mono fun _ _ h => ⟨h.1, h.2.symm⟩
theorem rf11_6 (w : World) : Calls Tryz.prog 66 #[.int .i64 6] w fun x w' => x = .returned (.int .i64 98) ∧ w' = w := (rfirst11_any 6 w).mono fun _ _ h => ⟨h.1, h.2.symm⟩
theorem rf11_7 (w : World) : Calls Tryz.prog 66 #[.int .i64 7] w fun x w' => x = .returned (.int .i64 112) ∧ w' = w := (rfirst11_any 7 w).mono fun _ _ h => ⟨h.1, h.2.symm⟩
theorem rdec11_any {w : World} {s : ByteArray} {F kd : Int} (hk : kA F = kd) (hkd : ¬ kd = 0) (h0 : 0 < F) (h1 : F ≤ 255) (hd : F / 16 = kd) (hff : ∀ w, Calls Tryz.prog 66 #[.int .i64 kd] w fun x w' => x = .returned (.int .i64 F) ∧ w' = w) (hal0 : allowedB kd 0 = true) (hs : s.size ≤ 900000) : Calls Tryz.prog 67 #[.agg #[.int .i64 F, .string s]] w (RDc w (dcA F s).1) := by
  by_cases c1 : s.size < 2
  · exact rdec11_a hk hkd h0 h1 hd hff hal0 hs c1
  · by_cases c2 : (rNum s 2 ⟨0, 0, 0⟩).1 = 0
    · exact rdec11_b hk hkd h0 h1 hd hff hal0 hs (by omega) c2
    · by_cases c3 : s.size ≤ 2
      · exact rdec11_c hk hkd h0 h1 hd hff hal0 hs (by omega) c2 c3
      · exact rdec11_d hk hkd h0 h1 hd hff hal0 hs (by omega) c2 c3
theorem fA_cases {k : Int} (h : ¬ fA k = 0) : k = 4 ∧ fA k = 64 ∨ k = 5 ∧ fA k = 80 ∨ k = 6 ∧ fA k = 98 ∨ k = 7 ∧ fA k = 112 := by
  unfold fA at h ⊢
  by_cases h4 : k = 4
  · subst h4; exact .inl ⟨rfl, rfl⟩
  by_cases h5 : k = 5
  · subst h5; exact .inr (.inl ⟨rfl, rfl⟩)
  by_cases h6 : k = 6
  · subst h6; exact .inr (.inr (.inl ⟨rfl, rfl⟩))
  by_cases h7 : k = 7
  · subst h7; exact .inr (.inr (.inr ⟨rfl, rfl⟩))
  rw [if_neg h4, if_neg h5, if_neg h6, if_neg h7] at h
  exact absurd rfl h
theorem rdec11 {k : Int} (hk : ¬ fA k = 0) (w : World) {s : ByteArray} (hs : s.size ≤ 900000) : Calls Tryz.prog 67 #[.agg #[.int .i64 (fA k), .string s]] w (RDc w (dcA (fA k) s).1) := by
  rcases fA_cases hk with ⟨rfl, e⟩ | ⟨rfl, e⟩ | ⟨rfl, e⟩ | ⟨rfl, e⟩
  · exact rdec11_any (kd := 4) rfl (by decide) (by decide) (by decide) (by decide) rf11_4 (by decide) hs
  · exact rdec11_any (kd := 5) rfl (by decide) (by decide) (by decide) (by decide) rf11_5 (by decide) hs
  · exact rdec11_any (kd := 6) rfl (by decide) (by decide) (by decide) (by decide) rf11_6 (by decide) hs
  · exact rdec11_any (kd := 7) rfl (by decide) (by decide) (by decide) (by decide) rf11_7 (by decide) hs
end Go.Proofs.YtinhecggmakbnaaGreatDoor
