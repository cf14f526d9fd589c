/- What is proved here: the small functions of package script and of the document. Conditions: those that each theorem names. What is proved here: the small functions of package script and of the document. Conditions: those that each theorem names. -/
import Derived.Test.YtaoaoobabjepnaaDoorRtm43
import Derived.Deep.QuietTactic
import Derived.BigQuiet
import Derived.Deep.DeepMust
import Derived.Deep.DeepCutAuto
namespace Go.Proofs.YtaoaoobabjepnaaDoor
set_option maxRecDepth 100000
open Go.ChangeShapes Go.WideShapes Go.RowKit Go.Deep Go.Extern.Stop Go.Stop Go.Extern
section
variable {X : List Nat} {w0 w w' : World} {L : OL} {g : Nat} {s : ByteArray} {R R' : RV} {c : Array Value}
theorem Own.rd (h : Own X w0 w L) (i : Nat) (hi : L[i]? = some (g, 54, #[.string s, .int .i64 R.p, .int .i64 R.no, .int .i64 R.ea])) (hle : R.p ≤ s.size) : RRObj w g s R := ⟨h.get i hi, hle⟩
theorem Own.rstep (h : Own X w0 w L) (i : Nat) (hi : L[i]? = some (g, 54, c)) (hn : RRNext w w' g s R') : Own X w0 w' (L.set i (g, 54, #[.string s, .int .i64 R'.p, .int .i64 R'.no, .int .i64 R'.ea])) := h.put i hi hn.fr hn.obj.blk
theorem own_rd1 (h : RRObj w g s R) : Own [g] w w [(g, 54, #[.string s, .int .i64 R.p, .int .i64 R.no, .int .i64 R.ea])] := (Own.start [g] w).elder h.blk (List.mem_singleton_self g) (fun _ h => by cases h)
theorem res_blk1 {P : Program} {fn : Func} {tmps : Array Value} {i : Nat} {tA : TypeId} {zA cA : Array Value} (hTA : Ty P tA zA) (hb : Blk w g tA cA) (hr : fn.results = #[.cell i tA]) (hi : tmps.getD i undef = .pointer (some ⟨g, 0, none⟩)) (nA : cA.size = zA.size) : (results fn tmps).run P w = .ok (.agg cA) w := by
  have h1 := run_load_own hTA hb nA
  have hi' : tmps[i]?.getD undef = .pointer (some ⟨g, 0, none⟩) := by simpa using hi
  simp [results, hr, hi', asAddr, h1]
theorem own_rr (h : Own [g] w0 w L) (i : Nat) (hi : L[i]? = some (g, 54, #[.string s, .int .i64 R.p, .int .i64 R.no, .int .i64 R.ea])) (hle : R.p ≤ s.size) : RRNext w0 w g s R := ⟨h.rd i hi hle, h.fr⟩
end
section
variable {w w' : World} {g : Nat} {s : ByteArray} {R : RV}
set_option maxHeartbeats 4000000 in
theorem sof_any (C : Nat → Int) (w : World) : Calls Tryd.prog 31 #[.agg (cfgC C)] w fun x w' => x = .returned (.agg (cfgC C)) ∧ Below w.heap.size w w' := by
  unfold cfgC
  generalize C 0 = c0
  generalize C 1 = c1
  generalize C 2 = c2
  generalize C 3 = c3
  generalize C 4 = c4
  generalize C 5 = c5
  generalize C 6 = c6
  generalize C 7 = c7
  generalize C 8 = c8
  generalize C 9 = c9
  generalize C 10 = c10
  generalize C 11 = c11
  generalize C 12 = c12
  go_enter Tryd.func31, Tryd.ntmps31
  go_wp2
  exact bodyPost_ret (res_blk1 tyBd blk_made2 rfl rfl rfl) rfl ⟨rfl, ((Below.refl _ _).alloc (Nat.le_refl _) _).alloc (by simp) _⟩
set_option maxHeartbeats 4000000 in
theorem sconfig_any (C : Nat → Int) (w : World) : Calls Tryd.prog 44 #[.agg (cfgC C)] w fun x w' => x = .returned (.agg (cfgC C)) ∧ Below w.heap.size w w' := by
  unfold cfgC
  generalize C 0 = c0
  generalize C 1 = c1
  generalize C 2 = c2
  generalize C 3 = c3
  generalize C 4 = c4
  generalize C 5 = c5
  generalize C 6 = c6
  generalize C 7 = c7
  generalize C 8 = c8
  generalize C 9 = c9
  generalize C 10 = c10
  generalize C 11 = c11
  generalize C 12 = c12
  go_enter Tryd.func44, Tryd.ntmps44
  go_wp2
  exact bodyPost_ret (res_blk1 tyC blk_made2 rfl rfl rfl) rfl ⟨rfl, ((Below.refl _ _).alloc (Nat.le_refl _) _).alloc (by simp) _⟩
theorem sk_any (k : Int) (w : World) : Calls Tryd.prog 34 #[.int .i64 k] w fun x w' => x = .returned (.bool (decide (kOk k))) ∧ w = w' := by
  by_cases h1 : 1 ≤ k
  · by_cases h2 : k ≤ 7
    · rw [decide_eq_true (show kOk k from ⟨h1, h2⟩)]
      go_enter Tryd.func34, Tryd.ntmps34
      go_wp2
      go_ret
      exact ⟨rfl, rfl⟩
    · rw [decide_eq_false (show ¬ kOk k from fun h => h2 h.2)]
      go_enter Tryd.func34, Tryd.ntmps34
      go_wp2
      go_ret
      exact ⟨rfl, rfl⟩
  · rw [decide_eq_false (show ¬ kOk k from fun h => h1 h.1)]
    go_enter Tryd.func34, Tryd.ntmps34
    go_wp2
    go_ret
    exact ⟨rfl, rfl⟩
theorem rk_any (k : Int) (w : World) : Calls Tryd.prog 25 #[.int .i64 k] w fun x w' => x = .returned (.bool (decide (kOk k))) ∧ w = w' := by
  by_cases h1 : 1 ≤ k
  · by_cases h2 : k ≤ 7
    · rw [decide_eq_true (show kOk k from ⟨h1, h2⟩)]
      go_enter Tryd.func25, Tryd.ntmps25
      go_wp2
      go_ret
      exact ⟨rfl, rfl⟩
    · rw [decide_eq_false (show ¬ kOk k from fun h => h2 h.2)]
      go_enter Tryd.func25, Tryd.ntmps25
      go_wp2
      go_ret
      exact ⟨rfl, rfl⟩
  · rw [decide_eq_false (show ¬ kOk k from fun h => h1 h.1)]
    go_enter Tryd.func25, Tryd.ntmps25
    go_wp2
    go_ret
    exact ⟨rfl, rfl⟩
theorem rof_any (h : RRObj w g s R) : Calls Tryd.prog 19 #[.pointer (some ⟨g, 0, none⟩)] w fun x w' => x = .returned (fltV (ofR (dnR s R))) ∧ Below w.heap.size w w' := by
  have HO := Lib.hid (Own.start [] w)
  have HR := Lib.hid h
  obtain ⟨q, hq⟩ : ∃ q, q = dnR s R := ⟨_, rfl⟩
  have HD := Lib.hid (fun W (h : RRObj W g s R) => rrdone_any h)
  rw [← hq] at HD ⊢
  clear h hq
  obtain ⟨no, a⟩ := q
  simp only at HD
  go_enter Tryd.func19, Tryd.ntmps19
  go_upto_region 1 with (refine wpo_alloc tyX HO.out rfl rfl ?_; clear HO; rintro k2 W1 hO; have HO := Lib.hid hO; clear hO; simp only [Act.put, List.setIfInBounds_toArray, List.set_cons_zero, List.set_cons_succ])
  have HD2 := Lib.hid (HD.out _ (HR.out.below HO.out.bel))
  clear HD
  go_wp2_with fail
  refine HD2.out.mono ?_
  rintro x V1 ⟨rfl, hb⟩
  have HB := Lib.hid (HO.out.below hb)
  clear HO hb HD2
  have HO := HB
  clear HB
  by_cases h0 : no = 0
  · subst h0
    go_wp2_with (first | (refine wpo_zero tyX rfl rfl ?_) | (refine wpo_store (k := k2) HO.out 0 tyX rfl _ _ rfl rfl rfl rfl rfl rfl rfl ?_; clear HO; rintro W2 hO; have HO := Lib.hid hO; clear hO; simp only [Act.put]))
    exact bodyPost_ret (v := fltV (ofR (0, a))) (res_own1 0 HO.out tyX rfl rfl rfl rfl) rfl ⟨rfl, HO.out.bel⟩
  · have hni : ¬ (no : Int) = 0 := by omega
    have HQ2 := Lib.hid (show ofR (no, a) = (no, 129, a) by unfold ofR; rw [if_neg h0])
    clear h0
    go_wp2_with (refine wpo_store (k := k2) HO.out 0 tyX rfl _ _ rfl rfl rfl rfl rfl rfl rfl ?_; clear HO; rintro W2 hO; have HO := Lib.hid hO; clear hO; simp only [Act.put])
    exact bodyPost_ret (v := fltV (no, 129, a)) (res_own1 0 HO.out tyX rfl rfl rfl rfl) rfl ⟨by rw [HQ2.out], HO.out.bel⟩
end
end Go.Proofs.YtaoaoobabjepnaaDoor
namespace Go.Proofs.YtaoaoobabjepnaaDoor
set_option maxRecDepth 100000
open Go.ChangeShapes Go.WideShapes Go.RowKit Go.Deep Go.Extern.Stop Go.Stop Go.Extern
section
variable {w w' : World} {g : Nat} {s : ByteArray} {R : RV}
set_option maxHeartbeats 8000000 in
theorem rconfig_any (h : RRObj w g s R) (hs : s.size ≤ 900000) : Calls Tryd.prog 18 #[.pointer (some ⟨g, 0, none⟩)] w fun x w' => x = .returned (.agg (cfgC (rdC s R))) ∧ RRNext w w' g s (rdR s R 13) := by
  have HO := Lib.hid (own_rd1 h)
  have HL0 := Lib.hid h.le
  have HSZ := Lib.hid hs
  obtain ⟨⟨n0, R1⟩, h0⟩ : ∃ V, V = rNum s 4 R := ⟨_, rfl⟩
  obtain ⟨⟨n1, R2⟩, h1⟩ : ∃ V, V = rNum s 4 R1 := ⟨_, rfl⟩
  obtain ⟨⟨n2, R3⟩, h2⟩ : ∃ V, V = rNum s 4 R2 := ⟨_, rfl⟩
  obtain ⟨⟨n3, R4⟩, h3⟩ : ∃ V, V = rNum s 4 R3 := ⟨_, rfl⟩
  obtain ⟨⟨n4, R5⟩, h4⟩ : ∃ V, V = rNum s 4 R4 := ⟨_, rfl⟩
  obtain ⟨⟨n5, R6⟩, h5⟩ : ∃ V, V = rNum s 4 R5 := ⟨_, rfl⟩
  obtain ⟨⟨n6, R7⟩, h6⟩ : ∃ V, V = rNum s 4 R6 := ⟨_, rfl⟩
  obtain ⟨⟨n7, R8⟩, h7⟩ : ∃ V, V = rNum s 4 R7 := ⟨_, rfl⟩
  obtain ⟨⟨n8, R9⟩, h8⟩ : ∃ V, V = rNum s 4 R8 := ⟨_, rfl⟩
  obtain ⟨⟨n9, R10⟩, h9⟩ : ∃ V, V = rNum s 4 R9 := ⟨_, rfl⟩
  obtain ⟨⟨n10, R11⟩, h10⟩ : ∃ V, V = rNum s 4 R10 := ⟨_, rfl⟩
  obtain ⟨⟨n11, R12⟩, h11⟩ : ∃ V, V = rNum s 4 R11 := ⟨_, rfl⟩
  obtain ⟨⟨n12, R13⟩, h12⟩ : ∃ V, V = rNum s 4 R12 := ⟨_, rfl⟩
  have r1 : rdR s R 1 = R1 := by rw [show rdR s R 1 = (rNum s 4 R).2 from rfl, ← h0]
  have r2 : rdR s R 2 = R2 := by rw [show rdR s R 2 = (rNum s 4 (rdR s R 1)).2 from rfl, r1, ← h1]
  have r3 : rdR s R 3 = R3 := by rw [show rdR s R 3 = (rNum s 4 (rdR s R 2)).2 from rfl, r2, ← h2]
  have r4 : rdR s R 4 = R4 := by rw [show rdR s R 4 = (rNum s 4 (rdR s R 3)).2 from rfl, r3, ← h3]
  have r5 : rdR s R 5 = R5 := by rw [show rdR s R 5 = (rNum s 4 (rdR s R 4)).2 from rfl, r4, ← h4]
  have r6 : rdR s R 6 = R6 := by rw [show rdR s R 6 = (rNum s 4 (rdR s R 5)).2 from rfl, r5, ← h5]
  have r7 : rdR s R 7 = R7 := by rw [show rdR s R 7 = (rNum s 4 (rdR s R 6)).2 from rfl, r6, ← h6]
  have r8 : rdR s R 8 = R8 := by rw [show rdR s R 8 = (rNum s 4 (rdR s R 7)).2 from rfl, r7, ← h7]
  have r9 : rdR s R 9 = R9 := by rw [show rdR s R 9 = (rNum s 4 (rdR s R 8)).2 from rfl, r8, ← h8]
  have r10 : rdR s R 10 = R10 := by rw [show rdR s R 10 = (rNum s 4 (rdR s R 9)).2 from rfl, r9, ← h9]
  have r11 : rdR s R 11 = R11 := by rw [show rdR s R 11 = (rNum s 4 (rdR s R 10)).2 from rfl, r10, ← h10]
  have r12 : rdR s R 12 = R12 := by rw [show rdR s R 12 = (rNum s 4 (rdR s R 11)).2 from rfl, r11, ← h11]
  have r13 : rdR s R 13 = R13 := by rw [show rdR s R 13 = (rNum s 4 (rdR s R 12)).2 from rfl, r12, ← h12]
  have e0 : rdC s R 0 = (n0 : Int) := by rw [show rdC s R 0 = (((rNum s 4 R).1 : Nat) : Int) from rfl, ← h0]
  have e1 : rdC s R 1 = (n1 : Int) := by rw [show rdC s R 1 = (((rNum s 4 (rdR s R 1)).1 : Nat) : Int) from rfl, r1, ← h1]
  have e2 : rdC s R 2 = (n2 : Int) := by rw [show rdC s R 2 = (((rNum s 4 (rdR s R 2)).1 : Nat) : Int) from rfl, r2, ← h2]
  have e3 : rdC s R 3 = (n3 : Int) := by rw [show rdC s R 3 = (((rNum s 4 (rdR s R 3)).1 : Nat) : Int) from rfl, r3, ← h3]
  have e4 : rdC s R 4 = (n4 : Int) := by rw [show rdC s R 4 = (((rNum s 4 (rdR s R 4)).1 : Nat) : Int) from rfl, r4, ← h4]
  have e5 : rdC s R 5 = (n5 : Int) := by rw [show rdC s R 5 = (((rNum s 4 (rdR s R 5)).1 : Nat) : Int) from rfl, r5, ← h5]
  have e6 : rdC s R 6 = (n6 : Int) := by rw [show rdC s R 6 = (((rNum s 4 (rdR s R 6)).1 : Nat) : Int) from rfl, r6, ← h6]
  have e7 : rdC s R 7 = (n7 : Int) := by rw [show rdC s R 7 = (((rNum s 4 (rdR s R 7)).1 : Nat) : Int) from rfl, r7, ← h7]
  have e8 : rdC s R 8 = (n8 : Int) := by rw [show rdC s R 8 = (((rNum s 4 (rdR s R 8)).1 : Nat) : Int) from rfl, r8, ← h8]
  have e9 : rdC s R 9 = (n9 : Int) := by rw [show rdC s R 9 = (((rNum s 4 (rdR s R 9)).1 : Nat) : Int) from rfl, r9, ← h9]
  have e10 : rdC s R 10 = (n10 : Int) := by rw [show rdC s R 10 = (((rNum s 4 (rdR s R 10)).1 : Nat) : Int) from rfl, r10, ← h10]
  have e11 : rdC s R 11 = (n11 : Int) := by rw [show rdC s R 11 = (((rNum s 4 (rdR s R 11)).1 : Nat) : Int) from rfl, r11, ← h11]
  have e12 : rdC s R 12 = (n12 : Int) := by rw [show rdC s R 12 = (((rNum s 4 (rdR s R 12)).1 : Nat) : Int) from rfl, r12, ← h12]
  have HC := Lib.hid (show cfgC (rdC s R) = #[.int .i64 (n0 : Int), .int .i64 (n1 : Int), .int .i64 (n2 : Int), .int .i64 (n3 : Int), .int .i64 (n4 : Int), .int .i64 (n5 : Int), .int .i64 (n6 : Int), .int .i64 (n7 : Int), .int .i64 (n8 : Int), .int .i64 (n9 : Int), .int .i64 (n10 : Int), .int .i64 (n11 : Int), .int .i64 (n12 : Int)] by unfold cfgC; rw [e0, e1, e2, e3, e4, e5, e6, e7, e8, e9, e10, e11, e12])
  rw [HC.out, r13]
  have H0 := Lib.hid h0
  have H1 := Lib.hid h1
  have H2 := Lib.hid h2
  have H3 := Lib.hid h3
  have H4 := Lib.hid h4
  have H5 := Lib.hid h5
  have H6 := Lib.hid h6
  have H7 := Lib.hid h7
  have H8 := Lib.hid h8
  have H9 := Lib.hid h9
  have H10 := Lib.hid h10
  have H11 := Lib.hid h11
  have H12 := Lib.hid h12
  clear h0 r1 e0 h1 r2 e1 h2 r3 e2 h3 r4 e3 h4 r5 e4 h5 r6 e5 h6 r7 e6 h7 r8 e7 h8 r9 e8 h9 r10 e9 h10 r11 e10 h11 r12 e11 h12 r13 e12 h hs HC
  go_enter Tryd.func18, Tryd.ntmps18
  go_upto_region 2 with (first | (refine wpo_alloc tyC HO.out rfl rfl ?_; clear HO; rintro ka Wa hO; have HO := Lib.hid hO; clear hO; simp only [Act.put, List.setIfInBounds_toArray, List.set_cons_zero, List.set_cons_succ]) | (refine wpo_zero tyC rfl rfl ?_) | (refine wpo_store (c := cfgC zC) HO.out 0 tyC rfl _ _ rfl rfl rfl rfl rfl rfl rfl ?_; clear HO; rintro Ws hO; have HO := Lib.hid hO; clear hO; simp only [Act.put]))
  simp only [List.set_cons_zero, cfgC, zC] at HO
  have HU := Lib.hid (rru32_any (HO.out.rd 2 rfl (R := R) HL0.out) (by have := HSZ.out; omega))
  rw [← H0.out] at HU
  go_wp2_with fail
  refine HU.out.mono ?_
  rintro x V0 ⟨rfl, hn⟩
  have HL1 := Lib.hid hn.obj.le
  have HB := Lib.hid (HO.out.rstep (R' := R1) 2 rfl hn)
  clear HO hn HU
  have HO := HB
  clear HB
  simp only [List.set_cons_zero, List.set_cons_succ] at HO
  go_upto_region 3 with (refine wpo_cell (v := .int .i64 (n0 : Int)) HO.out 0 0 tyI.ip rfl _ _ rfl rfl rfl rfl (by decide : (0 : Nat) < 13) rfl ?_; clear HO; rintro W0 hO; have HO := Lib.hid hO; clear hO; simp only [Act.put])
  simp only [List.setIfInBounds_toArray, List.set_cons_zero] at HO
  have HU := Lib.hid (rru32_any (HO.out.rd 2 rfl (R := R1) HL1.out) (by have := HSZ.out; omega))
  rw [← H1.out] at HU
  go_wp2_with fail
  refine HU.out.mono ?_
  rintro x V1 ⟨rfl, hn⟩
  have HL2 := Lib.hid hn.obj.le
  have HB := Lib.hid (HO.out.rstep (R' := R2) 2 rfl hn)
  clear HO hn HU
  have HO := HB
  clear HB
  simp only [List.set_cons_zero, List.set_cons_succ] at HO
  go_upto_region 4 with (refine wpo_cell (v := .int .i64 (n1 : Int)) HO.out 0 1 tyI.ip rfl _ _ rfl rfl rfl rfl (by decide : (1 : Nat) < 13) rfl ?_; clear HO; rintro W1 hO; have HO := Lib.hid hO; clear hO; simp only [Act.put])
  simp only [List.setIfInBounds_toArray, List.set_cons_zero, List.set_cons_succ] at HO
  have HU := Lib.hid (rru32_any (HO.out.rd 2 rfl (R := R2) HL2.out) (by have := HSZ.out; omega))
  rw [← H2.out] at HU
  go_wp2_with fail
  refine HU.out.mono ?_
  rintro x V2 ⟨rfl, hn⟩
  have HL3 := Lib.hid hn.obj.le
  have HB := Lib.hid (HO.out.rstep (R' := R3) 2 rfl hn)
  clear HO hn HU
  have HO := HB
  clear HB
  simp only [List.set_cons_zero, List.set_cons_succ] at HO
  go_upto_region 5 with (refine wpo_cell (v := .int .i64 (n2 : Int)) HO.out 0 2 tyI.ip rfl _ _ rfl rfl rfl rfl (by decide : (2 : Nat) < 13) rfl ?_; clear HO; rintro W2 hO; have HO := Lib.hid hO; clear hO; simp only [Act.put])
  simp only [List.setIfInBounds_toArray, List.set_cons_zero, List.set_cons_succ] at HO
  have HU := Lib.hid (rru32_any (HO.out.rd 2 rfl (R := R3) HL3.out) (by have := HSZ.out; omega))
  rw [← H3.out] at HU
  go_wp2_with fail
  refine HU.out.mono ?_
  rintro x V3 ⟨rfl, hn⟩
  have HL4 := Lib.hid hn.obj.le
  have HB := Lib.hid (HO.out.rstep (R' := R4) 2 rfl hn)
  clear HO hn HU
  have HO := HB
  clear HB
  simp only [List.set_cons_zero, List.set_cons_succ] at HO
  go_upto_region 6 with (refine wpo_cell (v := .int .i64 (n3 : Int)) HO.out 0 3 tyI.ip rfl _ _ rfl rfl rfl rfl (by decide : (3 : Nat) < 13) rfl ?_; clear HO; rintro W3 hO; have HO := Lib.hid hO; clear hO; simp only [Act.put])
  simp only [List.setIfInBounds_toArray, List.set_cons_zero, List.set_cons_succ] at HO
  have HU := Lib.hid (rru32_any (HO.out.rd 2 rfl (R := R4) HL4.out) (by have := HSZ.out; omega))
  rw [← H4.out] at HU
  go_wp2_with fail
  refine HU.out.mono ?_
  rintro x V4 ⟨rfl, hn⟩
  have HL5 := Lib.hid hn.obj.le
  have HB := Lib.hid (HO.out.rstep (R' := R5) 2 rfl hn)
  clear HO hn HU
  have HO := HB
  clear HB
  simp only [List.set_cons_zero, List.set_cons_succ] at HO
  go_upto_region 7 with (refine wpo_cell (v := .int .i64 (n4 : Int)) HO.out 0 4 tyI.ip rfl _ _ rfl rfl rfl rfl (by decide : (4 : Nat) < 13) rfl ?_; clear HO; rintro W4 hO; have HO := Lib.hid hO; clear hO; simp only [Act.put])
  simp only [List.setIfInBounds_toArray, List.set_cons_zero, List.set_cons_succ] at HO
  have HU := Lib.hid (rru32_any (HO.out.rd 2 rfl (R := R5) HL5.out) (by have := HSZ.out; omega))
  rw [← H5.out] at HU
  go_wp2_with fail
  refine HU.out.mono ?_
  rintro x V5 ⟨rfl, hn⟩
  have HL6 := Lib.hid hn.obj.le
  have HB := Lib.hid (HO.out.rstep (R' := R6) 2 rfl hn)
  clear HO hn HU
  have HO := HB
  clear HB
  simp only [List.set_cons_zero, List.set_cons_succ] at HO
  go_upto_region 8 with (refine wpo_cell (v := .int .i64 (n5 : Int)) HO.out 0 5 tyI.ip rfl _ _ rfl rfl rfl rfl (by decide : (5 : Nat) < 13) rfl ?_; clear HO; rintro W5 hO; have HO := Lib.hid hO; clear hO; simp only [Act.put])
  simp only [List.setIfInBounds_toArray, List.set_cons_zero, List.set_cons_succ] at HO
  have HU := Lib.hid (rru32_any (HO.out.rd 2 rfl (R := R6) HL6.out) (by have := HSZ.out; omega))
  rw [← H6.out] at HU
  go_wp2_with fail
  refine HU.out.mono ?_
  rintro x V6 ⟨rfl, hn⟩
  have HL7 := Lib.hid hn.obj.le
  have HB := Lib.hid (HO.out.rstep (R' := R7) 2 rfl hn)
  clear HO hn HU
  have HO := HB
  clear HB
  simp only [List.set_cons_zero, List.set_cons_succ] at HO
  go_upto_region 9 with (refine wpo_cell (v := .int .i64 (n6 : Int)) HO.out 0 6 tyI.ip rfl _ _ rfl rfl rfl rfl (by decide : (6 : Nat) < 13) rfl ?_; clear HO; rintro W6 hO; have HO := Lib.hid hO; clear hO; simp only [Act.put])
  simp only [List.setIfInBounds_toArray, List.set_cons_zero, List.set_cons_succ] at HO
  have HU := Lib.hid (rru32_any (HO.out.rd 2 rfl (R := R7) HL7.out) (by have := HSZ.out; omega))
  rw [← H7.out] at HU
  go_wp2_with fail
  refine HU.out.mono ?_
  rintro x V7 ⟨rfl, hn⟩
  have HL8 := Lib.hid hn.obj.le
  have HB := Lib.hid (HO.out.rstep (R' := R8) 2 rfl hn)
  clear HO hn HU
  have HO := HB
  clear HB
  simp only [List.set_cons_zero, List.set_cons_succ] at HO
  go_upto_region 10 with (refine wpo_cell (v := .int .i64 (n7 : Int)) HO.out 0 7 tyI.ip rfl _ _ rfl rfl rfl rfl (by decide : (7 : Nat) < 13) rfl ?_; clear HO; rintro W7 hO; have HO := Lib.hid hO; clear hO; simp only [Act.put])
  simp only [List.setIfInBounds_toArray, List.set_cons_zero, List.set_cons_succ] at HO
  have HU := Lib.hid (rru32_any (HO.out.rd 2 rfl (R := R8) HL8.out) (by have := HSZ.out; omega))
  rw [← H8.out] at HU
  go_wp2_with fail
  refine HU.out.mono ?_
  rintro x V8 ⟨rfl, hn⟩
  have HL9 := Lib.hid hn.obj.le
  have HB := Lib.hid (HO.out.rstep (R' := R9) 2 rfl hn)
  clear HO hn HU
  have HO := HB
  clear HB
  simp only [List.set_cons_zero, List.set_cons_succ] at HO
  go_upto_region 11 with (refine wpo_cell (v := .int .i64 (n8 : Int)) HO.out 0 8 tyI.ip rfl _ _ rfl rfl rfl rfl (by decide : (8 : Nat) < 13) rfl ?_; clear HO; rintro W8 hO; have HO := Lib.hid hO; clear hO; simp only [Act.put])
  simp only [List.setIfInBounds_toArray, List.set_cons_zero, List.set_cons_succ] at HO
  have HU := Lib.hid (rru32_any (HO.out.rd 2 rfl (R := R9) HL9.out) (by have := HSZ.out; omega))
  rw [← H9.out] at HU
  go_wp2_with fail
  refine HU.out.mono ?_
  rintro x V9 ⟨rfl, hn⟩
  have HL10 := Lib.hid hn.obj.le
  have HB := Lib.hid (HO.out.rstep (R' := R10) 2 rfl hn)
  clear HO hn HU
  have HO := HB
  clear HB
  simp only [List.set_cons_zero, List.set_cons_succ] at HO
  go_upto_region 12 with (refine wpo_cell (v := .int .i64 (n9 : Int)) HO.out 0 9 tyI.ip rfl _ _ rfl rfl rfl rfl (by decide : (9 : Nat) < 13) rfl ?_; clear HO; rintro W9 hO; have HO := Lib.hid hO; clear hO; simp only [Act.put])
  simp only [List.setIfInBounds_toArray, List.set_cons_zero, List.set_cons_succ] at HO
  have HU := Lib.hid (rru32_any (HO.out.rd 2 rfl (R := R10) HL10.out) (by have := HSZ.out; omega))
  rw [← H10.out] at HU
  go_wp2_with fail
  refine HU.out.mono ?_
  rintro x V10 ⟨rfl, hn⟩
  have HL11 := Lib.hid hn.obj.le
  have HB := Lib.hid (HO.out.rstep (R' := R11) 2 rfl hn)
  clear HO hn HU
  have HO := HB
  clear HB
  simp only [List.set_cons_zero, List.set_cons_succ] at HO
  go_upto_region 13 with (refine wpo_cell (v := .int .i64 (n10 : Int)) HO.out 0 10 tyI.ip rfl _ _ rfl rfl rfl rfl (by decide : (10 : Nat) < 13) rfl ?_; clear HO; rintro W10 hO; have HO := Lib.hid hO; clear hO; simp only [Act.put])
  simp only [List.setIfInBounds_toArray, List.set_cons_zero, List.set_cons_succ] at HO
  have HU := Lib.hid (rru32_any (HO.out.rd 2 rfl (R := R11) HL11.out) (by have := HSZ.out; omega))
  rw [← H11.out] at HU
  go_wp2_with fail
  refine HU.out.mono ?_
  rintro x V11 ⟨rfl, hn⟩
  have HL12 := Lib.hid hn.obj.le
  have HB := Lib.hid (HO.out.rstep (R' := R12) 2 rfl hn)
  clear HO hn HU
  have HO := HB
  clear HB
  simp only [List.set_cons_zero, List.set_cons_succ] at HO
  go_upto_region 14 with (refine wpo_cell (v := .int .i64 (n11 : Int)) HO.out 0 11 tyI.ip rfl _ _ rfl rfl rfl rfl (by decide : (11 : Nat) < 13) rfl ?_; clear HO; rintro W11 hO; have HO := Lib.hid hO; clear hO; simp only [Act.put])
  simp only [List.setIfInBounds_toArray, List.set_cons_zero, List.set_cons_succ] at HO
  have HU := Lib.hid (rru32_any (HO.out.rd 2 rfl (R := R12) HL12.out) (by have := HSZ.out; omega))
  rw [← H12.out] at HU
  go_wp2_with fail
  refine HU.out.mono ?_
  rintro x V12 ⟨rfl, hn⟩
  have HL13 := Lib.hid hn.obj.le
  have HB := Lib.hid (HO.out.rstep (R' := R13) 2 rfl hn)
  clear HO hn HU
  have HO := HB
  clear HB
  simp only [List.set_cons_zero, List.set_cons_succ] at HO
  go_upto_region 15 with (refine wpo_cell (v := .int .i64 (n12 : Int)) HO.out 0 12 tyI.ip rfl _ _ rfl rfl rfl rfl (by decide : (12 : Nat) < 13) rfl ?_; clear HO; rintro W12 hO; have HO := Lib.hid hO; clear hO; simp only [Act.put])
  simp only [List.setIfInBounds_toArray, List.set_cons_zero, List.set_cons_succ] at HO
  go_wp2_with (first | (refine wpo_load HO.out 0 tyC rfl rfl _ rfl rfl rfl ?_) | (refine wpo_store HO.out 1 tyC rfl _ _ rfl rfl rfl rfl rfl rfl rfl ?_; clear HO; rintro Wz hO; have HO := Lib.hid hO; clear hO; simp only [Act.put]))
  exact bodyPost_ret (res_own1 1 HO.out tyC rfl rfl rfl rfl) rfl ⟨rfl, own_rr HO.out 2 rfl HL13.out⟩
end
end Go.Proofs.YtaoaoobabjepnaaDoor
