/- What is proved here: what the document's Decode of layer 14 tells as its fault. Conditions: few bytes. What is proved here: what the document's Decode of layer 14 tells as its fault. Conditions: few bytes. What is proved here: what the document's Decode of layer 14 tells as its fault. Conditions: few bytes. -/
import Derived.Test.YtinhecggmakbnaaGreatDoorMad08
import Derived.Test.YtinhecggmakbnaaGreatDoorRre06
import Derived.Test.YtinhecggmakbnaaGreatDoorEnm14
import Derived.Test.YtinhecggmakbnaaGreatDoorRsa05
import Derived.Deep.QuietTactic
import Derived.BigQuiet
namespace Go.Proofs.YtinhecggmakbnaaGreatDoor
set_option maxRecDepth 100000
open Go.RowKit Go.Extern.Stop Go.Stop Go.Extern
section
variable {X : List Nat} {w0 w w' : World} {L : OL} {g : Nat} {s : ByteArray} {R R' : RV} {c : Array Value}
theorem Own.rd (h : Own X w0 w L) (i : Nat) (hi : L[i]? = some (g, 136, #[.string s, .int .i64 R.p, .int .i64 R.no, .int .i64 R.ea])) (hle : R.p ≤ s.size) : RRObj w g s R := ⟨h.get i hi, hle⟩
theorem Own.rstep (h : Own X w0 w L) (i : Nat) (hi : L[i]? = some (g, 136, c)) (hn : RRNext w w' g s R') : Own X w0 w' (L.set i (g, 136, #[.string s, .int .i64 R'.p, .int .i64 R'.no, .int .i64 R'.ea])) := h.put i hi hn.fr hn.obj.blk
theorem rbuilt1 {z y : Array Value} (hz : z = pk0.cells pa0) {kd : Int} (hy : y = z.setIfInBounds 0 (.int .i64 kd)) : Tryz.prog.built 29 [(0, .int .i64 kd)] = some y := by rw [hy, hz]; exact built1 kd
theorem one_put {c : Array Value} (h : c.toList.all (·.oneCell') = true) (i : Nat) (u : Value) (hu : u.oneCell' = true) : (c.setIfInBounds i u).toList.all (·.oneCell') = true := by
  rw [List.all_eq_true] at *
  intro v hv
  rw [Array.toList_setIfInBounds] at hv
  rcases List.mem_or_eq_of_mem_set hv with h1 | h1
  · exact h v h1
  · rw [h1]; exact hu
end
theorem tkR_e {k : Int} {s : ByteArray} {R : RV} (h : (tkR k s R).e.no = 0) : (tkR k s R).e = e00 := by
  unfold tkR at h ⊢
  (repeat' split) <;> first | rfl | (exfalso; simp_all)
theorem dcM_e {F : Int} {s : ByteArray} {kd : Int} (hk : kM F = kd) (h14 : ¬ kd < 14) : (dcM F s).1 = (tkR kd s ⟨0, 0, 0⟩).e := by
  unfold dcM
  rw [hk, if_neg (by omega), if_neg h14]
  by_cases h : (tkR kd s ⟨0, 0, 0⟩).e.no = 0
  · rw [if_pos h, tkR_e h]
  · rw [if_neg h]
section
variable {w : World} {s : ByteArray}
theorem rf14_12 (w : World) : Calls Tryz.prog 78 #[.int .i64 12] w fun x w' => x = .returned (.int .i64 192) ∧ w' = w := (rfirst14_any 12 w).mono fun _ _ h => ⟨h.1, h.2.symm⟩
theorem rf14_13 (w : World) : Calls Tryz.prog 78 #[.int .i64 13] w fun x w' => x = .returned (.int .i64 208) ∧ w' = w := (rfirst14_any 13 w).mono fun _ _ h => ⟨h.1, h.2.symm⟩
theorem rf14_14 (w : World) : Calls Tryz.prog 78 #[.int .i64 14] w fun x w' => x = .returned (.int .i64 224) ∧ w' = w := (rfirst14_any 14 w).mono fun _ _ h => ⟨h.1, h.2.symm⟩
theorem rf14_15 (w : World) : Calls Tryz.prog 78 #[.int .i64 15] w fun x w' => x = .returned (.int .i64 240) ∧ w' = w := (rfirst14_any 15 w).mono fun _ _ h => ⟨h.1, h.2.symm⟩
set_option maxHeartbeats 4000000 in
theorem rdec14_192 (hs : s.size ≤ 900000) : Calls Tryz.prog 79 #[.agg #[.int .i64 192, .string s]] w (RDc w (dcM 192 s).1) := by
  obtain ⟨z, hT, hz26, hz⟩ := tyP_ex
  obtain ⟨q, hq⟩ : ∃ q, q = (dcM 192 s).1 := ⟨_, rfl⟩
  rw [← hq]
  have HT := Lib.hid hT
  have HZ := Lib.hid hz
  have HZS := Lib.hid hz26
  have HQ := Lib.hid hq
  have HSZ := Lib.hid hs
  have HO := Lib.hid (Own.start [] w)
  clear hT hz hz26 hq hs
  obtain ⟨y, hy⟩ : ∃ y, y = z.setIfInBounds 0 (.int .i64 12) := ⟨_, rfl⟩
  have HBY := Lib.hid (rbuilt1 HZ.out hy)
  have HYS := Lib.hid (show y.size = z.size by rw [hy]; simp)
  have HY1 := Lib.hid (show y.toList.all (·.oneCell') = true by rw [hy]; exact one_put HT.out.one _ _ rfl)
  clear hy
  go_enter Tryz.func79, Tryz.ntmps79
  go_upto_region 2 with (first | (refine wpo_box (t := 33) HO.out _ rfl rfl rfl ?_; clear HO; rintro k1 W1 hO; have HO := Lib.hid hO; clear hO) | (refine wpo_alloc HT.out HO.out rfl rfl ?_; clear HO; rintro k2 W2 hO; have HO := Lib.hid hO; clear hO) | (refine wpo_alloc tyX HO.out rfl rfl ?_; clear HO; rintro k3 W3 hO; have HO := Lib.hid hO; clear hO) | (refine wpo_ldc (HO.out.get 2 rfl) tyI _ rfl rfl rfl rfl ?_))
  have f0 : W3.cell? ⟨k1, 0, none⟩ = some (.int .i64 192) := (HO.out.get 2 rfl).cell 0
  go_quiet ((go_at_call 78; exact Calls.quiet_of_same (rf14_12 _)))
  clear f0
  have HB := Lib.hid (HO.out.drewN nq)
  generalize W3.drewN nq = W4 at *
  clear HO
  have HO := HB
  clear HB
  go_upto_region 6 with (first | (refine wpo_box (t := 136) HO.out _ rfl rfl rfl ?_; clear HO; rintro k4 W5 hO; have HO := Lib.hid hO; clear hO) | (refine wpo_ldc (HO.out.get 2 rfl) tyS _ rfl rfl rfl rfl ?_) | (refine wpo_built HBY.out rfl rfl rfl ?_) | (refine wpo_alloc HT.out HO.out rfl rfl ?_; clear HO; rintro k5 W6 hO; have HO := Lib.hid hO; clear hO) | (refine wpo_store HO.out 0 HT.out rfl _ _ rfl rfl rfl rfl rfl HYS.out HY1.out ?_; clear HO; rintro W7 hO; have HO := Lib.hid hO; clear hO))
  have f1 : W7.cell? ⟨k1, 1, none⟩ = some (.string s) := (HO.out.get 4 rfl).cell 1
  have hq := HQ.out
  unfold dcM at hq
  rw [show kM 192 = 12 from rfl, if_neg (by decide), if_pos (by decide)] at hq
  by_cases h0 : s.size = 0
  · rw [if_pos h0] at hq
    have HQ2 := Lib.hid hq
    have HH0 := Lib.hid (show dnR s ⟨0, 0, 0⟩ = (0, 0) by unfold dnR; rw [if_pos rfl, if_neg (by simp only; omega)])
    clear hq HQ h0
    go_upto_region 15 with fail
    clear f1
    have HOF := Lib.hid (rrof_any (HO.out.rd 1 rfl (R := ⟨0, 0, 0⟩) (Nat.zero_le _)))
    rw [HH0.out, show fltV (ofR (0, 0)) = .agg #[.int .i64 (0 : Int), .int .i64 (0 : Int), .int .i64 (0 : Int)] from rfl] at HOF
    go_wp2_with fail
    refine HOF.out.mono ?_
    rintro x VA ⟨rfl, hb⟩
    have HB := Lib.hid (HO.out.below hb)
    clear HO hb HOF
    have HO := Lib.hid HB.out
    clear HB
    go_wp2_with (first | (refine wpo_alloc tyX HO.out rfl rfl ?_; clear HO; rintro kfA WfA hO; have HO := Lib.hid hO; clear hO) | (refine wpo_ldc (HO.out.get 0 rfl) tyE _ rfl rfl rfl rfl ?_) | (refine wpo_store HO.out 0 tyX (k := kfA) rfl _ _ rfl rfl rfl rfl rfl rfl rfl ?_; clear HO; rintro WfA hO; have HO := Lib.hid hO; clear hO) | (refine wpo_load HO.out 1 HT.out rfl HYS.out _ rfl rfl rfl ?_) | (refine wpo_store HO.out 4 HT.out rfl _ _ rfl rfl rfl rfl rfl HYS.out HY1.out ?_; clear HO; rintro WgA hO; have HO := Lib.hid hO; clear hO) | (refine wpo_store HO.out 3 tyX rfl _ _ rfl rfl rfl rfl rfl rfl rfl ?_; clear HO; rintro WhA hO; have HO := Lib.hid hO; clear hO))
    exact bodyPost_ret (v := .tuple #[.agg y, fltV (0, 0, 0)]) (res_own2 4 3 HO.out HT.out tyX rfl rfl rfl rfl rfl HYS.out rfl) rfl ⟨y, HYS.out.trans HZS.out, HY1.out, by rw [HQ2.out] <;> rfl, HO.out.bel⟩
  · rw [if_neg h0] at hq
    have HQ2 := Lib.hid hq
    have HH0 := Lib.hid (show dnR s ⟨0, 0, 0⟩ = (2, 0) by unfold dnR; rw [if_pos rfl, if_pos (by simp only; omega)])
    clear hq HQ h0
    go_upto_region 15 with fail
    clear f1
    have HOF := Lib.hid (rrof_any (HO.out.rd 1 rfl (R := ⟨0, 0, 0⟩) (Nat.zero_le _)))
    rw [HH0.out, show fltV (ofR (2, 0)) = .agg #[.int .i64 (2 : Int), .int .i64 (129 : Int), .int .i64 (0 : Int)] from rfl] at HOF
    go_wp2_with fail
    refine HOF.out.mono ?_
    rintro x VB ⟨rfl, hb⟩
    have HB := Lib.hid (HO.out.below hb)
    clear HO hb HOF
    have HO := Lib.hid HB.out
    clear HB
    go_upto_region 17 with (first | (refine wpo_alloc tyX HO.out rfl rfl ?_; clear HO; rintro kfB WfB hO; have HO := Lib.hid hO; clear hO) | (refine wpo_ldc (HO.out.get 0 rfl) tyE _ rfl rfl rfl rfl ?_) | (refine wpo_store HO.out 0 tyX (k := kfB) rfl _ _ rfl rfl rfl rfl rfl rfl rfl ?_; clear HO; rintro WfB hO; have HO := Lib.hid hO; clear hO))
    refine wpo_y2 (yA := (k2, 29, z)) (yB := (k3, 40, #[.int .i64 2, .int .i64 129, .int .i64 0])) [(75, .agg z), (76, .agg #[.int .i64 2, .int .i64 129, .int .i64 0])] 4 3 mixed (by kernel_rfl) HO.out rfl rfl (by decide) (fun _ _ _ _ _ h => h) ?_ rfl rfl ?_ ?_ ?_
    · refine ⟨⟨_, rfl, rfl, yo_zero rfl HT.out rfl⟩, ?_⟩
      simp only [Act.put, List.setIfInBounds_toArray, List.set_cons_zero, List.set_cons_succ]
      refine ⟨⟨_, rfl, rfl, yo_load rfl tyX (fun _ h => h.get 0 (by decide) (by decide) rfl) rfl _ rfl rfl⟩, ?_⟩
      exact trivial
    · simp only [putD, Act.put, List.setIfInBounds_toArray, List.set_cons_zero, List.set_cons_succ]
      exact sto_row HT.out _ _ rfl rfl rfl rfl rfl rfl rfl HT.out.one
    · simp only [putD, Act.put, List.setIfInBounds_toArray, List.set_cons_zero, List.set_cons_succ]
      exact sto_row tyX _ _ rfl rfl rfl rfl rfl rfl rfl rfl
    intro WeB hO
    clear HO
    have HO := Lib.hid hO
    clear hO
    simp only [putD, Act.put, List.setIfInBounds_toArray, List.set_cons_zero, List.set_cons_succ]
    go_wp2_with fail
    exact bodyPost_ret (v := .tuple #[.agg z, fltV (2, 129, 0)]) (res_own2 4 3 HO.out HT.out tyX rfl rfl rfl rfl rfl rfl rfl) rfl ⟨z, HZS.out, HT.out.one, by rw [HQ2.out] <;> rfl, HO.out.bel⟩
set_option maxHeartbeats 4000000 in
theorem rdec14_208 (hs : s.size ≤ 900000) : Calls Tryz.prog 79 #[.agg #[.int .i64 208, .string s]] w (RDc w (dcM 208 s).1) := by
  obtain ⟨z, hT, hz26, hz⟩ := tyP_ex
  obtain ⟨q, hq⟩ : ∃ q, q = (dcM 208 s).1 := ⟨_, rfl⟩
  rw [← hq]
  have HT := Lib.hid hT
  have HZ := Lib.hid hz
  have HZS := Lib.hid hz26
  have HQ := Lib.hid hq
  have HSZ := Lib.hid hs
  have HO := Lib.hid (Own.start [] w)
  clear hT hz hz26 hq hs
  obtain ⟨y, hy⟩ : ∃ y, y = z.setIfInBounds 0 (.int .i64 13) := ⟨_, rfl⟩
  have HBY := Lib.hid (rbuilt1 HZ.out hy)
  have HYS := Lib.hid (show y.size = z.size by rw [hy]; simp)
  have HY1 := Lib.hid (show y.toList.all (·.oneCell') = true by rw [hy]; exact one_put HT.out.one _ _ rfl)
  clear hy
  go_enter Tryz.func79, Tryz.ntmps79
  go_upto_region 2 with (first | (refine wpo_box (t := 33) HO.out _ rfl rfl rfl ?_; clear HO; rintro k1 W1 hO; have HO := Lib.hid hO; clear hO) | (refine wpo_alloc HT.out HO.out rfl rfl ?_; clear HO; rintro k2 W2 hO; have HO := Lib.hid hO; clear hO) | (refine wpo_alloc tyX HO.out rfl rfl ?_; clear HO; rintro k3 W3 hO; have HO := Lib.hid hO; clear hO) | (refine wpo_ldc (HO.out.get 2 rfl) tyI _ rfl rfl rfl rfl ?_))
  have f0 : W3.cell? ⟨k1, 0, none⟩ = some (.int .i64 208) := (HO.out.get 2 rfl).cell 0
  go_quiet ((go_at_call 78; exact Calls.quiet_of_same (rf14_13 _)))
  clear f0
  have HB := Lib.hid (HO.out.drewN nq)
  generalize W3.drewN nq = W4 at *
  clear HO
  have HO := HB
  clear HB
  go_upto_region 6 with (first | (refine wpo_box (t := 136) HO.out _ rfl rfl rfl ?_; clear HO; rintro k4 W5 hO; have HO := Lib.hid hO; clear hO) | (refine wpo_ldc (HO.out.get 2 rfl) tyS _ rfl rfl rfl rfl ?_) | (refine wpo_built HBY.out rfl rfl rfl ?_) | (refine wpo_alloc HT.out HO.out rfl rfl ?_; clear HO; rintro k5 W6 hO; have HO := Lib.hid hO; clear hO) | (refine wpo_store HO.out 0 HT.out rfl _ _ rfl rfl rfl rfl rfl HYS.out HY1.out ?_; clear HO; rintro W7 hO; have HO := Lib.hid hO; clear hO))
  have f1 : W7.cell? ⟨k1, 1, none⟩ = some (.string s) := (HO.out.get 4 rfl).cell 1
  have hq := HQ.out
  unfold dcM at hq
  rw [show kM 208 = 13 from rfl, if_neg (by decide), if_pos (by decide)] at hq
  by_cases h0 : s.size = 0
  · rw [if_pos h0] at hq
    have HQ2 := Lib.hid hq
    have HH0 := Lib.hid (show dnR s ⟨0, 0, 0⟩ = (0, 0) by unfold dnR; rw [if_pos rfl, if_neg (by simp only; omega)])
    clear hq HQ h0
    go_upto_region 15 with fail
    clear f1
    have HOF := Lib.hid (rrof_any (HO.out.rd 1 rfl (R := ⟨0, 0, 0⟩) (Nat.zero_le _)))
    rw [HH0.out, show fltV (ofR (0, 0)) = .agg #[.int .i64 (0 : Int), .int .i64 (0 : Int), .int .i64 (0 : Int)] from rfl] at HOF
    go_wp2_with fail
    refine HOF.out.mono ?_
    rintro x VA ⟨rfl, hb⟩
    have HB := Lib.hid (HO.out.below hb)
    clear HO hb HOF
    have HO := Lib.hid HB.out
    clear HB
    go_wp2_with (first | (refine wpo_alloc tyX HO.out rfl rfl ?_; clear HO; rintro kfA WfA hO; have HO := Lib.hid hO; clear hO) | (refine wpo_ldc (HO.out.get 0 rfl) tyE _ rfl rfl rfl rfl ?_) | (refine wpo_store HO.out 0 tyX (k := kfA) rfl _ _ rfl rfl rfl rfl rfl rfl rfl ?_; clear HO; rintro WfA hO; have HO := Lib.hid hO; clear hO) | (refine wpo_load HO.out 1 HT.out rfl HYS.out _ rfl rfl rfl ?_) | (refine wpo_store HO.out 4 HT.out rfl _ _ rfl rfl rfl rfl rfl HYS.out HY1.out ?_; clear HO; rintro WgA hO; have HO := Lib.hid hO; clear hO) | (refine wpo_store HO.out 3 tyX rfl _ _ rfl rfl rfl rfl rfl rfl rfl ?_; clear HO; rintro WhA hO; have HO := Lib.hid hO; clear hO))
    exact bodyPost_ret (v := .tuple #[.agg y, fltV (0, 0, 0)]) (res_own2 4 3 HO.out HT.out tyX rfl rfl rfl rfl rfl HYS.out rfl) rfl ⟨y, HYS.out.trans HZS.out, HY1.out, by rw [HQ2.out] <;> rfl, HO.out.bel⟩
  · rw [if_neg h0] at hq
    have HQ2 := Lib.hid hq
    have HH0 := Lib.hid (show dnR s ⟨0, 0, 0⟩ = (2, 0) by unfold dnR; rw [if_pos rfl, if_pos (by simp only; omega)])
    clear hq HQ h0
    go_upto_region 15 with fail
    clear f1
    have HOF := Lib.hid (rrof_any (HO.out.rd 1 rfl (R := ⟨0, 0, 0⟩) (Nat.zero_le _)))
    rw [HH0.out, show fltV (ofR (2, 0)) = .agg #[.int .i64 (2 : Int), .int .i64 (129 : Int), .int .i64 (0 : Int)] from rfl] at HOF
    go_wp2_with fail
    refine HOF.out.mono ?_
    rintro x VB ⟨rfl, hb⟩
    have HB := Lib.hid (HO.out.below hb)
    clear HO hb HOF
    have HO := Lib.hid HB.out
    clear HB
    go_upto_region 17 with (first | (refine wpo_alloc tyX HO.out rfl rfl ?_; clear HO; rintro kfB WfB hO; have HO := Lib.hid hO; clear hO) | (refine wpo_ldc (HO.out.get 0 rfl) tyE _ rfl rfl rfl rfl ?_) | (refine wpo_store HO.out 0 tyX (k := kfB) rfl _ _ rfl rfl rfl rfl rfl rfl rfl ?_; clear HO; rintro WfB hO; have HO := Lib.hid hO; clear hO))
    refine wpo_y2 (yA := (k2, 29, z)) (yB := (k3, 40, #[.int .i64 2, .int .i64 129, .int .i64 0])) [(75, .agg z), (76, .agg #[.int .i64 2, .int .i64 129, .int .i64 0])] 4 3 mixed (by kernel_rfl) HO.out rfl rfl (by decide) (fun _ _ _ _ _ h => h) ?_ rfl rfl ?_ ?_ ?_
    · refine ⟨⟨_, rfl, rfl, yo_zero rfl HT.out rfl⟩, ?_⟩
      simp only [Act.put, List.setIfInBounds_toArray, List.set_cons_zero, List.set_cons_succ]
      refine ⟨⟨_, rfl, rfl, yo_load rfl tyX (fun _ h => h.get 0 (by decide) (by decide) rfl) rfl _ rfl rfl⟩, ?_⟩
      exact trivial
    · simp only [putD, Act.put, List.setIfInBounds_toArray, List.set_cons_zero, List.set_cons_succ]
      exact sto_row HT.out _ _ rfl rfl rfl rfl rfl rfl rfl HT.out.one
    · simp only [putD, Act.put, List.setIfInBounds_toArray, List.set_cons_zero, List.set_cons_succ]
      exact sto_row tyX _ _ rfl rfl rfl rfl rfl rfl rfl rfl
    intro WeB hO
    clear HO
    have HO := Lib.hid hO
    clear hO
    simp only [putD, Act.put, List.setIfInBounds_toArray, List.set_cons_zero, List.set_cons_succ]
    go_wp2_with fail
    exact bodyPost_ret (v := .tuple #[.agg z, fltV (2, 129, 0)]) (res_own2 4 3 HO.out HT.out tyX rfl rfl rfl rfl rfl rfl rfl) rfl ⟨z, HZS.out, HT.out.one, by rw [HQ2.out] <;> rfl, HO.out.bel⟩
end
end Go.Proofs.YtinhecggmakbnaaGreatDoor
namespace Go.Proofs.YtinhecggmakbnaaGreatDoor
set_option maxRecDepth 100000
open Go.RowKit Go.Extern.Stop Go.Stop Go.Extern
section
variable {w : World} {s : ByteArray}
set_option maxHeartbeats 4000000 in
theorem rdec14_224 (hs : s.size ≤ 900000) : Calls Tryz.prog 79 #[.agg #[.int .i64 224, .string s]] w (RDc w (dcM 224 s).1) := by
  obtain ⟨z, hT, hz26, hz⟩ := tyP_ex
  obtain ⟨q, hq⟩ : ∃ q, q = (dcM 224 s).1 := ⟨_, rfl⟩
  rw [← hq]
  have HT := Lib.hid hT
  have HZ := Lib.hid hz
  have HZS := Lib.hid hz26
  have HQ := Lib.hid hq
  have HSZ := Lib.hid hs
  have HO := Lib.hid (Own.start [] w)
  clear hT hz hz26 hq hs
  obtain ⟨y, hy⟩ : ∃ y, y = z.setIfInBounds 0 (.int .i64 14) := ⟨_, rfl⟩
  have HBY := Lib.hid (rbuilt1 HZ.out hy)
  have HYS := Lib.hid (show y.size = z.size by rw [hy]; simp)
  have HY1 := Lib.hid (show y.toList.all (·.oneCell') = true by rw [hy]; exact one_put HT.out.one _ _ rfl)
  clear hy
  go_enter Tryz.func79, Tryz.ntmps79
  go_upto_region 2 with (first | (refine wpo_box (t := 33) HO.out _ rfl rfl rfl ?_; clear HO; rintro k1 W1 hO; have HO := Lib.hid hO; clear hO) | (refine wpo_alloc HT.out HO.out rfl rfl ?_; clear HO; rintro k2 W2 hO; have HO := Lib.hid hO; clear hO) | (refine wpo_alloc tyX HO.out rfl rfl ?_; clear HO; rintro k3 W3 hO; have HO := Lib.hid hO; clear hO) | (refine wpo_ldc (HO.out.get 2 rfl) tyI _ rfl rfl rfl rfl ?_))
  have f0 : W3.cell? ⟨k1, 0, none⟩ = some (.int .i64 224) := (HO.out.get 2 rfl).cell 0
  go_quiet ((go_at_call 78; exact Calls.quiet_of_same (rf14_14 _)))
  clear f0
  have HB := Lib.hid (HO.out.drewN nq)
  generalize W3.drewN nq = W4 at *
  clear HO
  have HO := HB
  clear HB
  go_upto_region 6 with (first | (refine wpo_box (t := 136) HO.out _ rfl rfl rfl ?_; clear HO; rintro k4 W5 hO; have HO := Lib.hid hO; clear hO) | (refine wpo_ldc (HO.out.get 2 rfl) tyS _ rfl rfl rfl rfl ?_) | (refine wpo_built HBY.out rfl rfl rfl ?_) | (refine wpo_alloc HT.out HO.out rfl rfl ?_; clear HO; rintro k5 W6 hO; have HO := Lib.hid hO; clear hO) | (refine wpo_store HO.out 0 HT.out rfl _ _ rfl rfl rfl rfl rfl HYS.out HY1.out ?_; clear HO; rintro W7 hO; have HO := Lib.hid hO; clear hO))
  have f1 : W7.cell? ⟨k1, 1, none⟩ = some (.string s) := (HO.out.get 4 rfl).cell 1
  rw [dcM_e (kd := 14) rfl (by decide)] at HQ
  by_cases h0 : s.size = 0
  · have HQ2 := Lib.hid (show q = e00 by rw [HQ.out]; unfold tkR; rw [if_pos (by simp only; omega)])
    have HH0 := Lib.hid (show dnR s ⟨0, 0, 0⟩ = (0, 0) by unfold dnR; rw [if_pos rfl, if_neg (by simp only; omega)])
    have d0 : ¬ (0 : Nat) < s.size := by omega
    have d1 : ¬ (1 : Nat) < s.size := by omega
    clear HQ h0
    go_upto_region 10 with fail
    clear f1 d0
    have f1 : W7.cell? ⟨k1, 1, none⟩ = some (.string s) := (HO.out.get 4 rfl).cell 1
    go_upto_region 15 with fail
    clear f1 d1
    have HOF := Lib.hid (rrof_any (HO.out.rd 1 rfl (R := ⟨0, 0, 0⟩) (Nat.zero_le _)))
    rw [HH0.out, show fltV (ofR (0, 0)) = .agg #[.int .i64 (0 : Int), .int .i64 (0 : Int), .int .i64 (0 : Int)] from rfl] at HOF
    go_wp2_with fail
    refine HOF.out.mono ?_
    rintro x VA ⟨rfl, hb⟩
    have HB := Lib.hid (HO.out.below hb)
    clear HO hb HOF
    have HO := Lib.hid HB.out
    clear HB
    go_wp2_with (first | (refine wpo_alloc tyX HO.out rfl rfl ?_; clear HO; rintro kfA WfA hO; have HO := Lib.hid hO; clear hO) | (refine wpo_ldc (HO.out.get 0 rfl) tyE _ rfl rfl rfl rfl ?_) | (refine wpo_store HO.out 0 tyX (k := kfA) rfl _ _ rfl rfl rfl rfl rfl rfl rfl ?_; clear HO; rintro WfA hO; have HO := Lib.hid hO; clear hO) | (refine wpo_load HO.out 1 HT.out rfl HYS.out _ rfl rfl rfl ?_) | (refine wpo_store HO.out 4 HT.out rfl _ _ rfl rfl rfl rfl rfl HYS.out HY1.out ?_; clear HO; rintro WgA hO; have HO := Lib.hid hO; clear hO) | (refine wpo_store HO.out 3 tyX rfl _ _ rfl rfl rfl rfl rfl rfl rfl ?_; clear HO; rintro WhA hO; have HO := Lib.hid hO; clear hO))
    exact bodyPost_ret (v := .tuple #[.agg y, fltV (0, 0, 0)]) (res_own2 4 3 HO.out HT.out tyX rfl rfl rfl rfl rfl HYS.out rfl) rfl ⟨y, HYS.out.trans HZS.out, HY1.out, by rw [HQ2.out] <;> rfl, HO.out.bel⟩
  · have d0 : (0 : Nat) < s.size := by omega
    have HU := Lib.hid (rru8_any (HO.out.rd 1 rfl (R := ⟨0, 0, 0⟩) (Nat.zero_le _)) (by have := HSZ.out; omega))
    have hR1 := rNum_left (s := s) (R := ⟨0, 0, 0⟩) rfl d0
    have hcl : (rNum s 1 ⟨0, 0, 0⟩).1 < 256 := (rNum_is rfl (by rw [hR1])).1
    have HTK := Lib.hid (show tkR 14 s ⟨0, 0, 0⟩ = (if allowedB 14 ((rNum s 1 ⟨0, 0, 0⟩).1 : Int) = false then ⟨⟨2, 129, 0⟩, 0, []⟩ else if s.size ≤ 1 then ⟨e00, (rNum s 1 ⟨0, 0, 0⟩).1, []⟩ else if (readF 14 s ⟨1, 0, 0⟩).1.no = 0 then if (readF 14 s ⟨1, 0, 0⟩).2.p < s.size then ⟨⟨2, 129, (readF 14 s ⟨1, 0, 0⟩).2.p⟩, 0, []⟩ else ⟨e00, (rNum s 1 ⟨0, 0, 0⟩).1, (readF 14 s ⟨1, 0, 0⟩).1.L⟩ else ⟨⟨(readF 14 s ⟨1, 0, 0⟩).1.no, (readF 14 s ⟨1, 0, 0⟩).1.r, (readF 14 s ⟨1, 0, 0⟩).1.at_⟩, 0, []⟩) by unfold tkR; rw [if_neg (by simp only; omega), hR1])
    rw [hR1] at HU
    obtain ⟨c, hc⟩ : ∃ c, c = (rNum s 1 ⟨0, 0, 0⟩).1 := ⟨_, rfl⟩
    rw [← hc] at HU HTK hcl
    clear hR1 hc
    have HCL := Lib.hid hcl
    clear hcl
    have HY2S := Lib.hid (show (y.setIfInBounds 2 (.int .i64 (c : Int))).size = z.size by simpa using HYS.out)
    have HY21 := Lib.hid (one_put HY1.out 2 (.int .i64 (c : Int)) rfl)
    have HY2g := Lib.hid (show (y.setIfInBounds 2 (.int .i64 (c : Int)))[2]? = some (.int .i64 (c : Int)) by simp [HYS.out, HZS.out])
    have HYJ := Lib.hid (show 2 < y.size by rw [HYS.out, HZS.out]; omega)
    go_wp2_with fail
    refine HU.out.mono ?_
    rintro x V1 ⟨rfl, hn⟩
    have HB := Lib.hid (HO.out.rstep 1 rfl hn)
    clear HO hn HU f1 d0
    have HO := HB
    clear HB
    have HAL := Lib.hid (fun w => ref_allowed 14 (c : Int) w)
    go_upto_region 8 with (refine wpo_cell HO.out 0 2 tyI.ip rfl _ _ rfl rfl rfl rfl HYJ.out rfl ?_; clear HO; rintro W8 hO; have HO := Lib.hid hO; clear hO)
    cases hal : allowedB 14 (c : Int) with
    | false =>
      have HQ2 := Lib.hid (show q = ⟨2, 129, 0⟩ by rw [HQ.out, HTK.out, if_pos hal])
      clear HQ HTK
      rw [hal] at HAL
      go_wp2_with (refine wpo_ldc (HO.out.get 0 rfl) tyI _ rfl rfl rfl HY2g.out ?_)
      refine (HAL.out _).mono ?_
      rintro x V2 ⟨rfl, hb⟩
      have HB := Lib.hid (HO.out.below hb)
      clear HO hb HAL
      have HO := HB
      clear HB
      go_wp2_with (refine wpo_zero HT.out rfl rfl ?_)
      refine (rbad_any 0 _).mono ?_
      rintro x V3 ⟨rfl, hb⟩
      have HB := Lib.hid (HO.out.below hb)
      clear HO hb
      have HO := Lib.hid HB.out
      clear HB
      go_wp2_with (first | (refine wpo_store HO.out 3 HT.out rfl _ _ rfl rfl rfl rfl rfl rfl HT.out.one ?_; clear HO; rintro Wa3 hO; have HO := Lib.hid hO; clear hO) | (refine wpo_store HO.out 2 tyX rfl _ _ rfl rfl rfl rfl rfl rfl rfl ?_; clear HO; rintro Wb3 hO; have HO := Lib.hid hO; clear hO))
      exact bodyPost_ret (v := .tuple #[.agg z, fltV (2, 129, 0)]) (res_own2 3 2 HO.out HT.out tyX rfl rfl rfl rfl rfl rfl rfl) rfl ⟨z, HZS.out, HT.out.one, by rw [HQ2.out] <;> rfl, HO.out.bel⟩
    | true =>
      rw [if_neg (by rw [hal]; decide)] at HTK
      rw [hal] at HAL
      go_wp2_with (refine wpo_ldc (HO.out.get 0 rfl) tyI _ rfl rfl rfl HY2g.out ?_)
      refine (HAL.out _).mono ?_
      rintro x V4 ⟨rfl, hb⟩
      have HB := Lib.hid (HO.out.below hb)
      clear HO hb HAL
      have HO := HB
      clear HB
      have f1 : V4.cell? ⟨k1, 1, none⟩ = some (.string s) := (HO.out.get 4 rfl).cell 1
      by_cases h1 : s.size ≤ 1
      · have HQ2 := Lib.hid (show q = e00 by rw [HQ.out, HTK.out, if_pos h1])
        have HH0 := Lib.hid (show dnR s ⟨1, 0, 0⟩ = (0, 0) by unfold dnR; rw [if_pos rfl, if_neg (by simp only; omega)])
        have d1 : ¬ (1 : Nat) < s.size := by omega
        have HLE := Lib.hid (show 1 ≤ s.size by omega)
        clear HQ HTK h1 hal
        go_upto_region 15 with fail
        clear f1 d1
        have HOF := Lib.hid (rrof_any (HO.out.rd 1 rfl (R := ⟨1, 0, 0⟩) HLE.out))
        rw [HH0.out, show fltV (ofR (0, 0)) = .agg #[.int .i64 (0 : Int), .int .i64 (0 : Int), .int .i64 (0 : Int)] from rfl] at HOF
        go_wp2_with fail
        refine HOF.out.mono ?_
        rintro x VC ⟨rfl, hb⟩
        have HB := Lib.hid (HO.out.below hb)
        clear HO hb HOF
        have HO := Lib.hid HB.out
        clear HB
        go_wp2_with (first | (refine wpo_alloc tyX HO.out rfl rfl ?_; clear HO; rintro kfC WfC hO; have HO := Lib.hid hO; clear hO) | (refine wpo_ldc (HO.out.get 0 rfl) tyE _ rfl rfl rfl rfl ?_) | (refine wpo_store HO.out 0 tyX (k := kfC) rfl _ _ rfl rfl rfl rfl rfl rfl rfl ?_; clear HO; rintro WfC hO; have HO := Lib.hid hO; clear hO) | (refine wpo_load HO.out 1 HT.out rfl HY2S.out _ rfl rfl rfl ?_) | (refine wpo_store HO.out 4 HT.out rfl _ _ rfl rfl rfl rfl rfl HY2S.out HY21.out ?_; clear HO; rintro WgC hO; have HO := Lib.hid hO; clear hO) | (refine wpo_store HO.out 3 tyX rfl _ _ rfl rfl rfl rfl rfl rfl rfl ?_; clear HO; rintro WhC hO; have HO := Lib.hid hO; clear hO))
        exact bodyPost_ret (v := .tuple #[.agg (y.setIfInBounds 2 (.int .i64 (c : Int))), fltV (0, 0, 0)]) (res_own2 4 3 HO.out HT.out tyX rfl rfl rfl rfl rfl HY2S.out rfl) rfl ⟨(y.setIfInBounds 2 (.int .i64 (c : Int))), HY2S.out.trans HZS.out, HY21.out, by rw [HQ2.out] <;> rfl, HO.out.bel⟩
      · rw [if_neg h1] at HTK
        have d1 : (1 : Nat) < s.size := by omega
        have HD1 := Lib.hid d1
        have HRD := Lib.hid (rread_any (HO.out.rd 1 rfl (R := ⟨1, 0, 0⟩) (by simp only; omega)) HSZ.out 14)
        have hno := readF_no (k := 14) (s := s) (R := ⟨1, 0, 0⟩)
        obtain ⟨⟨⟨rn, rr, ra, rL⟩, R2⟩, hF⟩ : ∃ F, F = readF 14 s ⟨1, 0, 0⟩ := ⟨_, rfl⟩
        rw [← hF] at HRD HTK hno
        clear hF h1 hal
        simp only at hno
        have HNO := Lib.hid hno
        clear hno
        go_wp2_with fail
        refine HRD.out.mono ?_
        rintro x V5 ⟨v5, rfl, hv5, hn⟩
        have HLE := Lib.hid hn.obj.le
        have HB := Lib.hid (HO.out.rstep 1 rfl hn)
        clear HO hn HRD f1 d1
        have HO := HB
        clear HB
        obtain ⟨a5, n5, c5, rfl, -, -⟩ := hv5.some_form
        clear hv5
        by_cases hr : rn = 0
        · subst hr
          rw [if_pos rfl] at HTK
          have HY3S := Lib.hid (show ((y.setIfInBounds 2 (.int .i64 (c : Int))).setIfInBounds 3 (.slice a5 n5 c5)).size = z.size by simpa using HYS.out)
          have HY31 := Lib.hid (one_put HY21.out 3 (.slice a5 n5 c5) rfl)
          have HYJ3 := Lib.hid (show 3 < (y.setIfInBounds 2 (.int .i64 (c : Int))).size by rw [HY2S.out, HZS.out]; omega)
          go_upto_region 15 with (first | (refine wpo_alloc tyX HO.out rfl rfl ?_; clear HO; rintro k8 W8 hO; have HO := Lib.hid hO; clear hO) | (refine wpo_store HO.out 0 tyX (k := k8) rfl _ _ rfl rfl rfl rfl rfl rfl rfl ?_; clear HO; rintro W9 hO; have HO := Lib.hid hO; clear hO) | (refine wpo_ldc (HO.out.get 0 rfl) tyE _ rfl rfl rfl rfl ?_) | (refine wpo_cell HO.out 1 3 tyL.ip rfl _ _ rfl rfl rfl rfl HYJ3.out rfl ?_; clear HO; rintro W10 hO; have HO := Lib.hid hO; clear hO))
          have hz2 := (by first | exact HNO.out rfl | exact HNO.out trivial : R2.no = 0)
          by_cases h2 : R2.p < s.size
          · have HQ2 := Lib.hid (show q = ⟨2, 129, R2.p⟩ by rw [HQ.out, HTK.out, if_pos h2])
            have HH0 := Lib.hid (show dnR s R2 = (2, R2.p) by unfold dnR; rw [if_pos hz2, if_pos h2])
            clear HQ HTK hz2 h2
            have HOF := Lib.hid (rrof_any (HO.out.rd 2 rfl (R := R2) HLE.out))
            rw [HH0.out, show fltV (ofR (2, R2.p)) = .agg #[.int .i64 (2 : Int), .int .i64 (129 : Int), .int .i64 (R2.p : Int)] from rfl] at HOF
            go_wp2_with fail
            refine HOF.out.mono ?_
            rintro x VD ⟨rfl, hb⟩
            have HB := Lib.hid (HO.out.below hb)
            clear HO hb HOF
            have HO := Lib.hid HB.out
            clear HB
            go_upto_region 17 with (first | (refine wpo_alloc tyX HO.out rfl rfl ?_; clear HO; rintro kfD WfD hO; have HO := Lib.hid hO; clear hO) | (refine wpo_ldc (HO.out.get 0 rfl) tyE _ rfl rfl rfl rfl ?_) | (refine wpo_store HO.out 0 tyX (k := kfD) rfl _ _ rfl rfl rfl rfl rfl rfl rfl ?_; clear HO; rintro WfD hO; have HO := Lib.hid hO; clear hO))
            refine wpo_y2 (yA := (k2, 29, z)) (yB := (k3, 40, #[.int .i64 2, .int .i64 129, .int .i64 R2.p])) [(75, .agg z), (76, .agg #[.int .i64 2, .int .i64 129, .int .i64 R2.p])] 5 4 mixed (by kernel_rfl) HO.out rfl rfl (by decide) (fun _ _ _ _ _ h => h) ?_ rfl rfl ?_ ?_ ?_
            · refine ⟨⟨_, rfl, rfl, yo_zero rfl HT.out rfl⟩, ?_⟩
              simp only [Act.put, List.setIfInBounds_toArray, List.set_cons_zero, List.set_cons_succ]
              refine ⟨⟨_, rfl, rfl, yo_load rfl tyX (fun _ h => h.get 0 (by decide) (by decide) rfl) rfl _ rfl rfl⟩, ?_⟩
              exact trivial
            · simp only [putD, Act.put, List.setIfInBounds_toArray, List.set_cons_zero, List.set_cons_succ]
              exact sto_row HT.out _ _ rfl rfl rfl rfl rfl rfl rfl HT.out.one
            · simp only [putD, Act.put, List.setIfInBounds_toArray, List.set_cons_zero, List.set_cons_succ]
              exact sto_row tyX _ _ rfl rfl rfl rfl rfl rfl rfl rfl
            intro WeD hO
            clear HO
            have HO := Lib.hid hO
            clear hO
            simp only [putD, Act.put, List.setIfInBounds_toArray, List.set_cons_zero, List.set_cons_succ]
            go_wp2_with fail
            exact bodyPost_ret (v := .tuple #[.agg z, fltV (2, 129, R2.p)]) (res_own2 5 4 HO.out HT.out tyX rfl rfl rfl rfl rfl rfl rfl) rfl ⟨z, HZS.out, HT.out.one, by rw [HQ2.out] <;> rfl, HO.out.bel⟩
          · have HQ2 := Lib.hid (show q = e00 by rw [HQ.out, HTK.out, if_neg h2])
            have HH0 := Lib.hid (show ofR (dnR s R2) = (0, 0, 0) by unfold dnR; rw [if_pos hz2, if_neg h2]; rfl)
            clear HQ HTK hz2 h2
            have HOF := Lib.hid (rrof_any (HO.out.rd 2 rfl (R := R2) HLE.out))
            rw [HH0.out, show fltV (0, 0, 0) = .agg #[.int .i64 (0 : Int), .int .i64 (0 : Int), .int .i64 (0 : Int)] from rfl] at HOF
            go_wp2_with fail
            refine HOF.out.mono ?_
            rintro x VE ⟨rfl, hb⟩
            have HB := Lib.hid (HO.out.below hb)
            clear HO hb HOF
            have HO := Lib.hid HB.out
            clear HB
            go_wp2_with (first | (refine wpo_alloc tyX HO.out rfl rfl ?_; clear HO; rintro kfE WfE hO; have HO := Lib.hid hO; clear hO) | (refine wpo_ldc (HO.out.get 0 rfl) tyE _ rfl rfl rfl rfl ?_) | (refine wpo_store HO.out 0 tyX (k := kfE) rfl _ _ rfl rfl rfl rfl rfl rfl rfl ?_; clear HO; rintro WfE hO; have HO := Lib.hid hO; clear hO) | (refine wpo_load HO.out 2 HT.out rfl HY3S.out _ rfl rfl rfl ?_) | (refine wpo_store HO.out 5 HT.out rfl _ _ rfl rfl rfl rfl rfl HY3S.out HY31.out ?_; clear HO; rintro WgE hO; have HO := Lib.hid hO; clear hO) | (refine wpo_store HO.out 4 tyX rfl _ _ rfl rfl rfl rfl rfl rfl rfl ?_; clear HO; rintro WhE hO; have HO := Lib.hid hO; clear hO))
            exact bodyPost_ret (v := .tuple #[.agg ((y.setIfInBounds 2 (.int .i64 (c : Int))).setIfInBounds 3 (.slice a5 n5 c5)), fltV (0, 0, 0)]) (res_own2 5 4 HO.out HT.out tyX rfl rfl rfl rfl rfl HY3S.out rfl) rfl ⟨((y.setIfInBounds 2 (.int .i64 (c : Int))).setIfInBounds 3 (.slice a5 n5 c5)), HY3S.out.trans HZS.out, HY31.out, by rw [HQ2.out] <;> rfl, HO.out.bel⟩
        · have HQ2 := Lib.hid (show q = ⟨rn, rr, ra⟩ by rw [HQ.out, HTK.out, if_neg hr])
          have hri : ¬ (rn : Int) = 0 := by omega
          clear HQ HTK
          go_upto_region 13 with (first | (refine wpo_alloc tyX HO.out rfl rfl ?_; clear HO; rintro k8 W8 hO; have HO := Lib.hid hO; clear hO) | (refine wpo_store HO.out 0 tyX (k := k8) rfl _ _ rfl rfl rfl rfl rfl rfl rfl ?_; clear HO; rintro W9 hO; have HO := Lib.hid hO; clear hO) | (refine wpo_ldc (HO.out.get 0 rfl) tyE _ rfl rfl rfl rfl ?_))
          refine wpo_y2 (yA := (k2, 29, z)) (yB := (k3, 40, #[.int .i64 (rn : Int), .int .i64 rr, .int .i64 (ra : Int)])) [(66, .agg z), (67, .agg #[.int .i64 (rn : Int), .int .i64 rr, .int .i64 (ra : Int)])] 4 3 mixed (by kernel_rfl) HO.out rfl rfl (by decide) (fun _ _ _ _ _ h => h) ?_ rfl rfl ?_ ?_ ?_
          · refine ⟨⟨_, rfl, rfl, yo_zero rfl HT.out rfl⟩, ?_⟩
            simp only [Act.put, List.setIfInBounds_toArray, List.set_cons_zero, List.set_cons_succ]
            refine ⟨⟨_, rfl, rfl, yo_load rfl tyX (fun _ h => h.get 0 (by decide) (by decide) rfl) rfl _ rfl rfl⟩, ?_⟩
            exact trivial
          · simp only [putD, Act.put, List.setIfInBounds_toArray, List.set_cons_zero, List.set_cons_succ]
            exact sto_row HT.out _ _ rfl rfl rfl rfl rfl rfl rfl HT.out.one
          · simp only [putD, Act.put, List.setIfInBounds_toArray, List.set_cons_zero, List.set_cons_succ]
            exact sto_row tyX _ _ rfl rfl rfl rfl rfl rfl rfl rfl
          intro WeF hO
          clear HO
          have HO := Lib.hid hO
          clear hO
          simp only [putD, Act.put, List.setIfInBounds_toArray, List.set_cons_zero, List.set_cons_succ]
          go_wp2_with fail
          exact bodyPost_ret (v := .tuple #[.agg z, fltV (rn, rr, ra)]) (res_own2 4 3 HO.out HT.out tyX rfl rfl rfl rfl rfl rfl rfl) rfl ⟨z, HZS.out, HT.out.one, by rw [HQ2.out] <;> rfl, HO.out.bel⟩
end
end Go.Proofs.YtinhecggmakbnaaGreatDoor
namespace Go.Proofs.YtinhecggmakbnaaGreatDoor
set_option maxRecDepth 100000
open Go.RowKit Go.Extern.Stop Go.Stop Go.Extern
section
variable {w : World} {s : ByteArray}
set_option maxHeartbeats 4000000 in
theorem rdec14_240 (hs : s.size ≤ 900000) : Calls Tryz.prog 79 #[.agg #[.int .i64 240, .string s]] w (RDc w (dcM 240 s).1) := by
  obtain ⟨z, hT, hz26, hz⟩ := tyP_ex
  obtain ⟨q, hq⟩ : ∃ q, q = (dcM 240 s).1 := ⟨_, rfl⟩
  rw [← hq]
  have HT := Lib.hid hT
  have HZ := Lib.hid hz
  have HZS := Lib.hid hz26
  have HQ := Lib.hid hq
  have HSZ := Lib.hid hs
  have HO := Lib.hid (Own.start [] w)
  clear hT hz hz26 hq hs
  obtain ⟨y, hy⟩ : ∃ y, y = z.setIfInBounds 0 (.int .i64 15) := ⟨_, rfl⟩
  have HBY := Lib.hid (rbuilt1 HZ.out hy)
  have HYS := Lib.hid (show y.size = z.size by rw [hy]; simp)
  have HY1 := Lib.hid (show y.toList.all (·.oneCell') = true by rw [hy]; exact one_put HT.out.one _ _ rfl)
  clear hy
  go_enter Tryz.func79, Tryz.ntmps79
  go_upto_region 2 with (first | (refine wpo_box (t := 33) HO.out _ rfl rfl rfl ?_; clear HO; rintro k1 W1 hO; have HO := Lib.hid hO; clear hO) | (refine wpo_alloc HT.out HO.out rfl rfl ?_; clear HO; rintro k2 W2 hO; have HO := Lib.hid hO; clear hO) | (refine wpo_alloc tyX HO.out rfl rfl ?_; clear HO; rintro k3 W3 hO; have HO := Lib.hid hO; clear hO) | (refine wpo_ldc (HO.out.get 2 rfl) tyI _ rfl rfl rfl rfl ?_))
  have f0 : W3.cell? ⟨k1, 0, none⟩ = some (.int .i64 240) := (HO.out.get 2 rfl).cell 0
  go_quiet ((go_at_call 78; exact Calls.quiet_of_same (rf14_15 _)))
  clear f0
  have HB := Lib.hid (HO.out.drewN nq)
  generalize W3.drewN nq = W4 at *
  clear HO
  have HO := HB
  clear HB
  go_upto_region 6 with (first | (refine wpo_box (t := 136) HO.out _ rfl rfl rfl ?_; clear HO; rintro k4 W5 hO; have HO := Lib.hid hO; clear hO) | (refine wpo_ldc (HO.out.get 2 rfl) tyS _ rfl rfl rfl rfl ?_) | (refine wpo_built HBY.out rfl rfl rfl ?_) | (refine wpo_alloc HT.out HO.out rfl rfl ?_; clear HO; rintro k5 W6 hO; have HO := Lib.hid hO; clear hO) | (refine wpo_store HO.out 0 HT.out rfl _ _ rfl rfl rfl rfl rfl HYS.out HY1.out ?_; clear HO; rintro W7 hO; have HO := Lib.hid hO; clear hO))
  have f1 : W7.cell? ⟨k1, 1, none⟩ = some (.string s) := (HO.out.get 4 rfl).cell 1
  rw [dcM_e (kd := 15) rfl (by decide)] at HQ
  by_cases h0 : s.size = 0
  · have HQ2 := Lib.hid (show q = e00 by rw [HQ.out]; unfold tkR; rw [if_pos (by simp only; omega)])
    have HH0 := Lib.hid (show dnR s ⟨0, 0, 0⟩ = (0, 0) by unfold dnR; rw [if_pos rfl, if_neg (by simp only; omega)])
    have d0 : ¬ (0 : Nat) < s.size := by omega
    have d1 : ¬ (1 : Nat) < s.size := by omega
    clear HQ h0
    go_upto_region 10 with fail
    clear f1 d0
    have f1 : W7.cell? ⟨k1, 1, none⟩ = some (.string s) := (HO.out.get 4 rfl).cell 1
    go_upto_region 15 with fail
    clear f1 d1
    have HOF := Lib.hid (rrof_any (HO.out.rd 1 rfl (R := ⟨0, 0, 0⟩) (Nat.zero_le _)))
    rw [HH0.out, show fltV (ofR (0, 0)) = .agg #[.int .i64 (0 : Int), .int .i64 (0 : Int), .int .i64 (0 : Int)] from rfl] at HOF
    go_wp2_with fail
    refine HOF.out.mono ?_
    rintro x VA ⟨rfl, hb⟩
    have HB := Lib.hid (HO.out.below hb)
    clear HO hb HOF
    have HO := Lib.hid HB.out
    clear HB
    go_wp2_with (first | (refine wpo_alloc tyX HO.out rfl rfl ?_; clear HO; rintro kfA WfA hO; have HO := Lib.hid hO; clear hO) | (refine wpo_ldc (HO.out.get 0 rfl) tyE _ rfl rfl rfl rfl ?_) | (refine wpo_store HO.out 0 tyX (k := kfA) rfl _ _ rfl rfl rfl rfl rfl rfl rfl ?_; clear HO; rintro WfA hO; have HO := Lib.hid hO; clear hO) | (refine wpo_load HO.out 1 HT.out rfl HYS.out _ rfl rfl rfl ?_) | (refine wpo_store HO.out 4 HT.out rfl _ _ rfl rfl rfl rfl rfl HYS.out HY1.out ?_; clear HO; rintro WgA hO; have HO := Lib.hid hO; clear hO) | (refine wpo_store HO.out 3 tyX rfl _ _ rfl rfl rfl rfl rfl rfl rfl ?_; clear HO; rintro WhA hO; have HO := Lib.hid hO; clear hO))
    exact bodyPost_ret (v := .tuple #[.agg y, fltV (0, 0, 0)]) (res_own2 4 3 HO.out HT.out tyX rfl rfl rfl rfl rfl HYS.out rfl) rfl ⟨y, HYS.out.trans HZS.out, HY1.out, by rw [HQ2.out] <;> rfl, HO.out.bel⟩
  · have d0 : (0 : Nat) < s.size := by omega
    have HU := Lib.hid (rru8_any (HO.out.rd 1 rfl (R := ⟨0, 0, 0⟩) (Nat.zero_le _)) (by have := HSZ.out; omega))
    have hR1 := rNum_left (s := s) (R := ⟨0, 0, 0⟩) rfl d0
    have hcl : (rNum s 1 ⟨0, 0, 0⟩).1 < 256 := (rNum_is rfl (by rw [hR1])).1
    have HTK := Lib.hid (show tkR 15 s ⟨0, 0, 0⟩ = (if allowedB 15 ((rNum s 1 ⟨0, 0, 0⟩).1 : Int) = false then ⟨⟨2, 129, 0⟩, 0, []⟩ else if s.size ≤ 1 then ⟨e00, (rNum s 1 ⟨0, 0, 0⟩).1, []⟩ else if (readF 15 s ⟨1, 0, 0⟩).1.no = 0 then if (readF 15 s ⟨1, 0, 0⟩).2.p < s.size then ⟨⟨2, 129, (readF 15 s ⟨1, 0, 0⟩).2.p⟩, 0, []⟩ else ⟨e00, (rNum s 1 ⟨0, 0, 0⟩).1, (readF 15 s ⟨1, 0, 0⟩).1.L⟩ else ⟨⟨(readF 15 s ⟨1, 0, 0⟩).1.no, (readF 15 s ⟨1, 0, 0⟩).1.r, (readF 15 s ⟨1, 0, 0⟩).1.at_⟩, 0, []⟩) by unfold tkR; rw [if_neg (by simp only; omega), hR1])
    rw [hR1] at HU
    obtain ⟨c, hc⟩ : ∃ c, c = (rNum s 1 ⟨0, 0, 0⟩).1 := ⟨_, rfl⟩
    rw [← hc] at HU HTK hcl
    clear hR1 hc
    have HCL := Lib.hid hcl
    clear hcl
    have HY2S := Lib.hid (show (y.setIfInBounds 2 (.int .i64 (c : Int))).size = z.size by simpa using HYS.out)
    have HY21 := Lib.hid (one_put HY1.out 2 (.int .i64 (c : Int)) rfl)
    have HY2g := Lib.hid (show (y.setIfInBounds 2 (.int .i64 (c : Int)))[2]? = some (.int .i64 (c : Int)) by simp [HYS.out, HZS.out])
    have HYJ := Lib.hid (show 2 < y.size by rw [HYS.out, HZS.out]; omega)
    go_wp2_with fail
    refine HU.out.mono ?_
    rintro x V1 ⟨rfl, hn⟩
    have HB := Lib.hid (HO.out.rstep 1 rfl hn)
    clear HO hn HU f1 d0
    have HO := HB
    clear HB
    have HAL := Lib.hid (fun w => ref_allowed 15 (c : Int) w)
    go_upto_region 8 with (refine wpo_cell HO.out 0 2 tyI.ip rfl _ _ rfl rfl rfl rfl HYJ.out rfl ?_; clear HO; rintro W8 hO; have HO := Lib.hid hO; clear hO)
    cases hal : allowedB 15 (c : Int) with
    | false =>
      have HQ2 := Lib.hid (show q = ⟨2, 129, 0⟩ by rw [HQ.out, HTK.out, if_pos hal])
      clear HQ HTK
      rw [hal] at HAL
      go_wp2_with (refine wpo_ldc (HO.out.get 0 rfl) tyI _ rfl rfl rfl HY2g.out ?_)
      refine (HAL.out _).mono ?_
      rintro x V2 ⟨rfl, hb⟩
      have HB := Lib.hid (HO.out.below hb)
      clear HO hb HAL
      have HO := HB
      clear HB
      go_wp2_with (refine wpo_zero HT.out rfl rfl ?_)
      refine (rbad_any 0 _).mono ?_
      rintro x V3 ⟨rfl, hb⟩
      have HB := Lib.hid (HO.out.below hb)
      clear HO hb
      have HO := Lib.hid HB.out
      clear HB
      go_wp2_with (first | (refine wpo_store HO.out 3 HT.out rfl _ _ rfl rfl rfl rfl rfl rfl HT.out.one ?_; clear HO; rintro Wa3 hO; have HO := Lib.hid hO; clear hO) | (refine wpo_store HO.out 2 tyX rfl _ _ rfl rfl rfl rfl rfl rfl rfl ?_; clear HO; rintro Wb3 hO; have HO := Lib.hid hO; clear hO))
      exact bodyPost_ret (v := .tuple #[.agg z, fltV (2, 129, 0)]) (res_own2 3 2 HO.out HT.out tyX rfl rfl rfl rfl rfl rfl rfl) rfl ⟨z, HZS.out, HT.out.one, by rw [HQ2.out] <;> rfl, HO.out.bel⟩
    | true =>
      rw [if_neg (by rw [hal]; decide)] at HTK
      rw [hal] at HAL
      go_wp2_with (refine wpo_ldc (HO.out.get 0 rfl) tyI _ rfl rfl rfl HY2g.out ?_)
      refine (HAL.out _).mono ?_
      rintro x V4 ⟨rfl, hb⟩
      have HB := Lib.hid (HO.out.below hb)
      clear HO hb HAL
      have HO := HB
      clear HB
      have f1 : V4.cell? ⟨k1, 1, none⟩ = some (.string s) := (HO.out.get 4 rfl).cell 1
      by_cases h1 : s.size ≤ 1
      · have HQ2 := Lib.hid (show q = e00 by rw [HQ.out, HTK.out, if_pos h1])
        have HH0 := Lib.hid (show dnR s ⟨1, 0, 0⟩ = (0, 0) by unfold dnR; rw [if_pos rfl, if_neg (by simp only; omega)])
        have d1 : ¬ (1 : Nat) < s.size := by omega
        have HLE := Lib.hid (show 1 ≤ s.size by omega)
        clear HQ HTK h1 hal
        go_upto_region 15 with fail
        clear f1 d1
        have HOF := Lib.hid (rrof_any (HO.out.rd 1 rfl (R := ⟨1, 0, 0⟩) HLE.out))
        rw [HH0.out, show fltV (ofR (0, 0)) = .agg #[.int .i64 (0 : Int), .int .i64 (0 : Int), .int .i64 (0 : Int)] from rfl] at HOF
        go_wp2_with fail
        refine HOF.out.mono ?_
        rintro x VC ⟨rfl, hb⟩
        have HB := Lib.hid (HO.out.below hb)
        clear HO hb HOF
        have HO := Lib.hid HB.out
        clear HB
        go_wp2_with (first | (refine wpo_alloc tyX HO.out rfl rfl ?_; clear HO; rintro kfC WfC hO; have HO := Lib.hid hO; clear hO) | (refine wpo_ldc (HO.out.get 0 rfl) tyE _ rfl rfl rfl rfl ?_) | (refine wpo_store HO.out 0 tyX (k := kfC) rfl _ _ rfl rfl rfl rfl rfl rfl rfl ?_; clear HO; rintro WfC hO; have HO := Lib.hid hO; clear hO) | (refine wpo_load HO.out 1 HT.out rfl HY2S.out _ rfl rfl rfl ?_) | (refine wpo_store HO.out 4 HT.out rfl _ _ rfl rfl rfl rfl rfl HY2S.out HY21.out ?_; clear HO; rintro WgC hO; have HO := Lib.hid hO; clear hO) | (refine wpo_store HO.out 3 tyX rfl _ _ rfl rfl rfl rfl rfl rfl rfl ?_; clear HO; rintro WhC hO; have HO := Lib.hid hO; clear hO))
        exact bodyPost_ret (v := .tuple #[.agg (y.setIfInBounds 2 (.int .i64 (c : Int))), fltV (0, 0, 0)]) (res_own2 4 3 HO.out HT.out tyX rfl rfl rfl rfl rfl HY2S.out rfl) rfl ⟨(y.setIfInBounds 2 (.int .i64 (c : Int))), HY2S.out.trans HZS.out, HY21.out, by rw [HQ2.out] <;> rfl, HO.out.bel⟩
      · rw [if_neg h1] at HTK
        have d1 : (1 : Nat) < s.size := by omega
        have HD1 := Lib.hid d1
        have HRD := Lib.hid (rread_any (HO.out.rd 1 rfl (R := ⟨1, 0, 0⟩) (by simp only; omega)) HSZ.out 15)
        have hno := readF_no (k := 15) (s := s) (R := ⟨1, 0, 0⟩)
        obtain ⟨⟨⟨rn, rr, ra, rL⟩, R2⟩, hF⟩ : ∃ F, F = readF 15 s ⟨1, 0, 0⟩ := ⟨_, rfl⟩
        rw [← hF] at HRD HTK hno
        clear hF h1 hal
        simp only at hno
        have HNO := Lib.hid hno
        clear hno
        go_wp2_with fail
        refine HRD.out.mono ?_
        rintro x V5 ⟨v5, rfl, hv5, hn⟩
        have HLE := Lib.hid hn.obj.le
        have HB := Lib.hid (HO.out.rstep 1 rfl hn)
        clear HO hn HRD f1 d1
        have HO := HB
        clear HB
        obtain ⟨a5, n5, c5, rfl, -, -⟩ := hv5.some_form
        clear hv5
        by_cases hr : rn = 0
        · subst hr
          rw [if_pos rfl] at HTK
          have HY3S := Lib.hid (show ((y.setIfInBounds 2 (.int .i64 (c : Int))).setIfInBounds 3 (.slice a5 n5 c5)).size = z.size by simpa using HYS.out)
          have HY31 := Lib.hid (one_put HY21.out 3 (.slice a5 n5 c5) rfl)
          have HYJ3 := Lib.hid (show 3 < (y.setIfInBounds 2 (.int .i64 (c : Int))).size by rw [HY2S.out, HZS.out]; omega)
          go_upto_region 15 with (first | (refine wpo_alloc tyX HO.out rfl rfl ?_; clear HO; rintro k8 W8 hO; have HO := Lib.hid hO; clear hO) | (refine wpo_store HO.out 0 tyX (k := k8) rfl _ _ rfl rfl rfl rfl rfl rfl rfl ?_; clear HO; rintro W9 hO; have HO := Lib.hid hO; clear hO) | (refine wpo_ldc (HO.out.get 0 rfl) tyE _ rfl rfl rfl rfl ?_) | (refine wpo_cell HO.out 1 3 tyL.ip rfl _ _ rfl rfl rfl rfl HYJ3.out rfl ?_; clear HO; rintro W10 hO; have HO := Lib.hid hO; clear hO))
          have hz2 := (by first | exact HNO.out rfl | exact HNO.out trivial : R2.no = 0)
          by_cases h2 : R2.p < s.size
          · have HQ2 := Lib.hid (show q = ⟨2, 129, R2.p⟩ by rw [HQ.out, HTK.out, if_pos h2])
            have HH0 := Lib.hid (show dnR s R2 = (2, R2.p) by unfold dnR; rw [if_pos hz2, if_pos h2])
            clear HQ HTK hz2 h2
            have HOF := Lib.hid (rrof_any (HO.out.rd 2 rfl (R := R2) HLE.out))
            rw [HH0.out, show fltV (ofR (2, R2.p)) = .agg #[.int .i64 (2 : Int), .int .i64 (129 : Int), .int .i64 (R2.p : Int)] from rfl] at HOF
            go_wp2_with fail
            refine HOF.out.mono ?_
            rintro x VD ⟨rfl, hb⟩
            have HB := Lib.hid (HO.out.below hb)
            clear HO hb HOF
            have HO := Lib.hid HB.out
            clear HB
            go_upto_region 17 with (first | (refine wpo_alloc tyX HO.out rfl rfl ?_; clear HO; rintro kfD WfD hO; have HO := Lib.hid hO; clear hO) | (refine wpo_ldc (HO.out.get 0 rfl) tyE _ rfl rfl rfl rfl ?_) | (refine wpo_store HO.out 0 tyX (k := kfD) rfl _ _ rfl rfl rfl rfl rfl rfl rfl ?_; clear HO; rintro WfD hO; have HO := Lib.hid hO; clear hO))
            refine wpo_y2 (yA := (k2, 29, z)) (yB := (k3, 40, #[.int .i64 2, .int .i64 129, .int .i64 R2.p])) [(75, .agg z), (76, .agg #[.int .i64 2, .int .i64 129, .int .i64 R2.p])] 5 4 mixed (by kernel_rfl) HO.out rfl rfl (by decide) (fun _ _ _ _ _ h => h) ?_ rfl rfl ?_ ?_ ?_
            · refine ⟨⟨_, rfl, rfl, yo_zero rfl HT.out rfl⟩, ?_⟩
              simp only [Act.put, List.setIfInBounds_toArray, List.set_cons_zero, List.set_cons_succ]
              refine ⟨⟨_, rfl, rfl, yo_load rfl tyX (fun _ h => h.get 0 (by decide) (by decide) rfl) rfl _ rfl rfl⟩, ?_⟩
              exact trivial
            · simp only [putD, Act.put, List.setIfInBounds_toArray, List.set_cons_zero, List.set_cons_succ]
              exact sto_row HT.out _ _ rfl rfl rfl rfl rfl rfl rfl HT.out.one
            · simp only [putD, Act.put, List.setIfInBounds_toArray, List.set_cons_zero, List.set_cons_succ]
              exact sto_row tyX _ _ rfl rfl rfl rfl rfl rfl rfl rfl
            intro WeD hO
            clear HO
            have HO := Lib.hid hO
            clear hO
            simp only [putD, Act.put, List.setIfInBounds_toArray, List.set_cons_zero, List.set_cons_succ]
            go_wp2_with fail
            exact bodyPost_ret (v := .tuple #[.agg z, fltV (2, 129, R2.p)]) (res_own2 5 4 HO.out HT.out tyX rfl rfl rfl rfl rfl rfl rfl) rfl ⟨z, HZS.out, HT.out.one, by rw [HQ2.out] <;> rfl, HO.out.bel⟩
          · have HQ2 := Lib.hid (show q = e00 by rw [HQ.out, HTK.out, if_neg h2])
            have HH0 := Lib.hid (show ofR (dnR s R2) = (0, 0, 0) by unfold dnR; rw [if_pos hz2, if_neg h2]; rfl)
            clear HQ HTK hz2 h2
            have HOF := Lib.hid (rrof_any (HO.out.rd 2 rfl (R := R2) HLE.out))
            rw [HH0.out, show fltV (0, 0, 0) = .agg #[.int .i64 (0 : Int), .int .i64 (0 : Int), .int .i64 (0 : Int)] from rfl] at HOF
            go_wp2_with fail
            refine HOF.out.mono ?_
            rintro x VE ⟨rfl, hb⟩
            have HB := Lib.hid (HO.out.below hb)
            clear HO hb HOF
            have HO := Lib.hid HB.out
            clear HB
            go_wp2_with (first | (refine wpo_alloc tyX HO.out rfl rfl ?_; clear HO; rintro kfE WfE hO; have HO := Lib.hid hO; clear hO) | (refine wpo_ldc (HO.out.get 0 rfl) tyE _ rfl rfl rfl rfl ?_) | (refine wpo_store HO.out 0 tyX (k := kfE) rfl _ _ rfl rfl rfl rfl rfl rfl rfl ?_; clear HO; rintro WfE hO; have HO := Lib.hid hO; clear hO) | (refine wpo_load HO.out 2 HT.out rfl HY3S.out _ rfl rfl rfl ?_) | (refine wpo_store HO.out 5 HT.out rfl _ _ rfl rfl rfl rfl rfl HY3S.out HY31.out ?_; clear HO; rintro WgE hO; have HO := Lib.hid hO; clear hO) | (refine wpo_store HO.out 4 tyX rfl _ _ rfl rfl rfl rfl rfl rfl rfl ?_; clear HO; rintro WhE hO; have HO := Lib.hid hO; clear hO))
            exact bodyPost_ret (v := .tuple #[.agg ((y.setIfInBounds 2 (.int .i64 (c : Int))).setIfInBounds 3 (.slice a5 n5 c5)), fltV (0, 0, 0)]) (res_own2 5 4 HO.out HT.out tyX rfl rfl rfl rfl rfl HY3S.out rfl) rfl ⟨((y.setIfInBounds 2 (.int .i64 (c : Int))).setIfInBounds 3 (.slice a5 n5 c5)), HY3S.out.trans HZS.out, HY31.out, by rw [HQ2.out] <;> rfl, HO.out.bel⟩
        · have HQ2 := Lib.hid (show q = ⟨rn, rr, ra⟩ by rw [HQ.out, HTK.out, if_neg hr])
          have hri : ¬ (rn : Int) = 0 := by omega
          clear HQ HTK
          go_upto_region 13 with (first | (refine wpo_alloc tyX HO.out rfl rfl ?_; clear HO; rintro k8 W8 hO; have HO := Lib.hid hO; clear hO) | (refine wpo_store HO.out 0 tyX (k := k8) rfl _ _ rfl rfl rfl rfl rfl rfl rfl ?_; clear HO; rintro W9 hO; have HO := Lib.hid hO; clear hO) | (refine wpo_ldc (HO.out.get 0 rfl) tyE _ rfl rfl rfl rfl ?_))
          refine wpo_y2 (yA := (k2, 29, z)) (yB := (k3, 40, #[.int .i64 (rn : Int), .int .i64 rr, .int .i64 (ra : Int)])) [(66, .agg z), (67, .agg #[.int .i64 (rn : Int), .int .i64 rr, .int .i64 (ra : Int)])] 4 3 mixed (by kernel_rfl) HO.out rfl rfl (by decide) (fun _ _ _ _ _ h => h) ?_ rfl rfl ?_ ?_ ?_
          · refine ⟨⟨_, rfl, rfl, yo_zero rfl HT.out rfl⟩, ?_⟩
            simp only [Act.put, List.setIfInBounds_toArray, List.set_cons_zero, List.set_cons_succ]
            refine ⟨⟨_, rfl, rfl, yo_load rfl tyX (fun _ h => h.get 0 (by decide) (by decide) rfl) rfl _ rfl rfl⟩, ?_⟩
            exact trivial
          · simp only [putD, Act.put, List.setIfInBounds_toArray, List.set_cons_zero, List.set_cons_succ]
            exact sto_row HT.out _ _ rfl rfl rfl rfl rfl rfl rfl HT.out.one
          · simp only [putD, Act.put, List.setIfInBounds_toArray, List.set_cons_zero, List.set_cons_succ]
            exact sto_row tyX _ _ rfl rfl rfl rfl rfl rfl rfl rfl
          intro WeF hO
          clear HO
          have HO := Lib.hid hO
          clear hO
          simp only [putD, Act.put, List.setIfInBounds_toArray, List.set_cons_zero, List.set_cons_succ]
          go_wp2_with fail
          exact bodyPost_ret (v := .tuple #[.agg z, fltV (rn, rr, ra)]) (res_own2 4 3 HO.out HT.out tyX rfl rfl rfl rfl rfl rfl rfl) rfl ⟨z, HZS.out, HT.out.one, by rw [HQ2.out] <;> rfl, HO.out.bel⟩
end
end Go.Proofs.YtinhecggmakbnaaGreatDoor
