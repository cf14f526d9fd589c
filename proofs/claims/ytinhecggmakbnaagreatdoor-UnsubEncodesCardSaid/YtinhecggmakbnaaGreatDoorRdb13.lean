/- What is proved here: the document reads a number and its faults. Conditions: the reader is there, with few bytes. What is proved here: what a decoder of parts tells, on plain values. Conditions: few bytes. What is proved here: the document reads filters that follow one another. Conditions: the reader is there, with few bytes. What is proved here: the document reads codes that follow one another. Conditions: the reader is there, with few bytes. What is proved here: what the document's Decode of layer 13 tells as its fault. Conditions: few bytes. What is proved here: what the document's Decode of layer 13 tells as its fault. Conditions: few bytes. -/
import Derived.Test.YtinhecggmakbnaaGreatDoorRdx08
import Derived.Test.YtinhecggmakbnaaGreatDoorPar08
import Derived.Deep.QuietTactic
import Derived.BigQuiet
import Derived.Deep.DeepMust
import Derived.Test.YtinhecggmakbnaaGreatDoorPlc13
namespace Go.Proofs.YtinhecggmakbnaaGreatDoor
set_option maxRecDepth 100000
open Go.ChangeShapes Go.WideShapes Go.RowKit Go.Deep Go.Extern.Stop Go.Stop Go.Extern
/-- Parts and a fault, as the document answers them. -/
def PfSays (w : World) (g : Nat) (s : ByteArray) (q : Er) (x : Ending) (w' : World) : Prop := ∃ (a : Option Addr) (n c : Nat) (R' : RV), x = .returned (.tuple #[.slice a n c, fltV (q.no, q.r, q.at_)]) ∧ RRNext w w' g s R'
section
variable {B0 : Nat} {X : List Nat} {w0 w w' : World} {L : OL} {g : Nat} {s : ByteArray} {R : RV} {v : Value} {te : TypeId} {M : List ByteArray} {I : List Int} {V : List SV} {P : Program}
theorem own_rd1 (h : RRObj w g s R) : Own [g] w w [(g, 136, #[.string s, .int .i64 R.p, .int .i64 R.no, .int .i64 R.ea])] := (Own.start [g] w).elder h.blk (List.mem_singleton_self g) (fun _ h => by cases h)
theorem Own.grown (h : Own X w0 w L) (hg : w.grownBy w' v.ownBlock) (ht : ∀ k, v.ownBlock = some k → w0.heap.size ≤ k ∧ ∃ cs, w.heap[k]? = some (.cells cs te (0, 0))) (hL : ∀ x ∈ L, x.2.1 ≠ te) : Own X w0 w' L := by
  refine ⟨h.fr.grown hg fun k hk => .inr (ht k hk).1, fun x hx => (h.blk x hx).grown hg fun he => ?_, h.new, h.nd⟩
  obtain ⟨_, cs, hh⟩ := ht _ he.symm
  exact (h.blk x hx).other hh (hL x hx) rfl
theorem t8_rstep (hr : T8Row w B0 v M) (hO : RRObj w g s R) (hf : Fr [g] w w') : T8Row w' B0 v M := hr.fr hf fun k hk hm => by
  rw [List.mem_singleton] at hm
  subst hm
  obtain ⟨_, _, cs, hh⟩ := hr.lt k hk
  exact hO.blk.other hh (by decide) rfl
theorem i8_rstep (hr : I8Row w B0 v I) (hO : RRObj w g s R) (hf : Fr [g] w w') : I8Row w' B0 v I := hr.fr hf fun k hk hm => by
  rw [List.mem_singleton] at hm
  subst hm
  obtain ⟨_, _, cs, hh⟩ := hr.lt k hk
  exact hO.blk.other hh (by decide) rfl
theorem v8_rstep (hr : V8Row w B0 v V) (hO : RRObj w g s R) (hf : Fr [g] w w') : V8Row w' B0 v V := hr.fr hf fun k hk hm => by
  rw [List.mem_singleton] at hm
  subst hm
  obtain ⟨_, _, cs, hh⟩ := hr.lt k hk
  exact hO.blk.other hh (by decide) rfl
/-- What stands in a slot, and a struct, as results. -/
theorem res_own01 {fn : Func} {tmps : Array Value} {i j h : Nat} {tB : TypeId} {zB cB : Array Value} (n : Nat) (hO : Own X w0 w L) (hTB : Ty P tB zB) (hr : fn.results = #[.tmp i, .cell j tB]) {u : Value} (hi : tmps.getD i undef = u) (hj : tmps.getD j undef = .pointer (some ⟨h, 0, none⟩))
    (hn : L[n]? = some (h, tB, cB)) (nB : cB.size = zB.size) : (results fn tmps).run P w = .ok (.tuple #[u, .agg cB]) w := by
  subst hi
  have h2 := run_load_own hTB (hO.get n hn) nB
  have hj' : tmps[j]?.getD undef = .pointer (some ⟨h, 0, none⟩) := by simpa using hj
  simp [results, hr, hj', asAddr, h2]
theorem own_rr (h : Own [g] w0 w L) (i : Nat) (hi : L[i]? = some (g, 136, #[.string s, .int .i64 R.p, .int .i64 R.no, .int .i64 R.ea])) (hle : R.p ≤ s.size) : RRNext w0 w g s R := ⟨h.rd i hi hle, h.fr⟩
end
/-- What Id tells of a reader. -/
def idQ (s : ByteArray) (R : RV) : Er × Nat × RV := if (rNum s 2 R).2.no = 0 then if (rNum s 2 R).1 = 0 then (⟨3, 130, 0⟩, 0, (rNum s 2 R).2) else (e00, (rNum s 2 R).1, (rNum s 2 R).2) else (⟨(rNum s 2 R).2.no, 129, (rNum s 2 R).2.ea⟩, 0, (rNum s 2 R).2)
def IdF (w : World) (g : Nat) (s : ByteArray) (q : Er × Nat × RV) (x : Ending) (w' : World) : Prop := x = .returned (.tuple #[.int .i64 (q.2.1 : Int), fltV (q.1.no, q.1.r, q.1.at_)]) ∧ RRNext w w' g s q.2.2
set_option maxHeartbeats 4000000 in
theorem rid_any {w : World} {g : Nat} {s : ByteArray} {R : RV} (h : RRObj w g s R) (hs : s.size ≤ 900000) : Calls Tryz.prog 145 #[.pointer (some ⟨g, 0, none⟩)] w (IdF w g s (idQ s R)) := by
  obtain ⟨q, hq⟩ : ∃ q, q = idQ s R := ⟨_, rfl⟩
  rw [← hq]
  unfold idQ at hq
  obtain ⟨⟨id, R1⟩, hr⟩ : ∃ r, r = rNum s 2 R := ⟨_, rfl⟩
  rw [← hr] at hq
  simp only at hq
  have HO := Lib.hid (own_rd1 h)
  have HLE := Lib.hid h.le
  have HSZ := Lib.hid hs
  have HR := Lib.hid hr
  have HQ := Lib.hid hq
  clear h hs hr hq
  go_enter Tryz.func145, Tryz.ntmps145
  go_wp2_with (refine wpo_alloc tyX HO.out rfl rfl ?_; clear HO; rintro k3 W1 hO; have HO := Lib.hid hO; clear hO; simp only [Act.put, List.setIfInBounds_toArray, List.set_cons_zero, List.set_cons_succ])
  have HU := Lib.hid (rru16_any (HO.out.rd 1 rfl HLE.out) (by have := HSZ.out; omega))
  rw [← HR.out] at HU
  refine HU.out.mono ?_
  rintro x V2 ⟨rfl, hn⟩
  have HL1 := Lib.hid hn.obj.le
  have HB := Lib.hid (HO.out.rstep (R' := R1) 1 rfl hn)
  clear HO hn HU
  have HO := HB
  clear HB
  by_cases h0 : R1.no = 0
  · have hq := HQ.out
    rw [if_pos h0] at hq
    have HRE := Lib.hid (HO.out.get 1 rfl)
    rw [h0] at HRE
    clear HQ
    by_cases hi : id = 0
    · rw [if_pos hi] at hq
      have HQ2 := Lib.hid hq
      subst hi
      clear hq
      go_wp2_with (refine wpo_ldc HRE.out tyE _ rfl rfl rfl rfl ?_)
      clear HRE
      refine (ragainst_any 0 _).mono ?_
      rintro x V3 ⟨rfl, hb⟩
      have HB := Lib.hid (HO.out.below hb)
      clear HO hb
      have HO := HB
      clear HB
      go_wp2_with (refine wpo_store (k := k3) HO.out 0 tyX rfl _ _ rfl rfl rfl rfl rfl rfl rfl ?_; clear HO; rintro W4 hO; have HO := Lib.hid hO; clear hO; simp only [Act.put])
      exact bodyPost_ret (v := .tuple #[.int .i64 0, fltV (3, 130, 0)]) (res_own01 0 HO.out tyX rfl rfl rfl rfl rfl) rfl (by rw [HQ2.out]; exact ⟨rfl, own_rr HO.out 1 rfl HL1.out⟩)
    · rw [if_neg hi] at hq
      have HQ2 := Lib.hid hq
      have hib : ((id : Int) == 0) = false := by rw [beq_eq_false_iff_ne]; omega
      clear hq hi
      go_wp2_with (first | (refine wpo_ldc HRE.out tyE _ rfl rfl rfl rfl ?_) | (refine wpo_store (k := k3) HO.out 0 tyX rfl _ _ rfl rfl rfl rfl rfl rfl rfl ?_; clear HO; rintro W4 hO; have HO := Lib.hid hO; clear hO; simp only [Act.put]))
      exact bodyPost_ret (v := .tuple #[.int .i64 (id : Int), fltV (0, 0, 0)]) (res_own01 0 HO.out tyX rfl rfl rfl rfl rfl) rfl (by rw [HQ2.out]; exact ⟨rfl, own_rr HO.out 1 rfl HL1.out⟩)
  · have hq := HQ.out
    rw [if_neg h0] at hq
    have HQ2 := Lib.hid hq
    have hi : ¬ (R1.no : Int) = 0 := by omega
    have HHO := Lib.hid (show ofR (dnR s R1) = (R1.no, 129, R1.ea) by unfold dnR; rw [if_neg h0]; unfold ofR; rw [if_neg h0])
    clear hq HQ h0
    have HOF := Lib.hid (rrof_any (HO.out.rd 1 rfl (R := R1) HL1.out))
    rw [HHO.out, show fltV (R1.no, 129, R1.ea) = .agg #[.int .i64 (R1.no : Int), .int .i64 (129 : Int), .int .i64 (R1.ea : Int)] from rfl] at HOF
    go_wp2_with (refine wpo_ldc (HO.out.get 1 rfl) tyE _ rfl rfl rfl rfl ?_)
    refine HOF.out.mono ?_
    rintro x V3 ⟨rfl, hb⟩
    have HB := Lib.hid (HO.out.below hb)
    clear HO hb HOF
    have HO := HB
    clear HB
    go_wp2_with (refine wpo_store (k := k3) HO.out 0 tyX rfl _ _ rfl rfl rfl rfl rfl rfl rfl ?_; clear HO; rintro W4 hO; have HO := Lib.hid hO; clear hO; simp only [Act.put])
    exact bodyPost_ret (v := .tuple #[.int .i64 0, fltV (R1.no, 129, R1.ea)]) (res_own01 0 HO.out tyX rfl rfl rfl rfl rfl) rfl (by rw [HQ2.out]; exact ⟨rfl, own_rr HO.out 1 rfl HL1.out⟩)
end Go.Proofs.YtinhecggmakbnaaGreatDoor
namespace Go.Proofs.YtinhecggmakbnaaGreatDoor
set_option maxRecDepth 100000
open Go.RowKit Go.Extern.Stop Go.Stop Go.Extern
theorem ptL_e00 {Y : Type} {rd : RV → Er × Y × RV} {s : ByteArray} : ∀ (f : Nat) (L : List Y) (R : RV), (ptL rd s f L R).1.no = 0 → (ptL rd s f L R).1 = e00
  | 0, L, R, h => by
    unfold ptL at h ⊢
    by_cases h1 : s.size ≤ R.p
    · rw [if_pos h1] at h ⊢
      by_cases h2 : L.length = 0
      · rw [if_pos h2] at h; cases h
      · rw [if_neg h2]
    · rw [if_neg h1] at h; cases h
  | f + 1, L, R, h => by
    unfold ptL at h ⊢
    by_cases h1 : s.size ≤ R.p
    · rw [if_pos h1] at h ⊢
      by_cases h2 : L.length = 0
      · rw [if_pos h2] at h; cases h
      · rw [if_neg h2]
    · rw [if_neg h1] at h ⊢
      by_cases h2 : (rd R).1.no = 0
      · rw [if_pos h2] at h ⊢
        exact ptL_e00 f _ _ h
      · rw [if_neg h2] at h
        exact absurd h h2
theorem th_badQ {k : Int} {s : ByteArray} (h : ¬ (idQ s ⟨0, 0, 0⟩).1.no = 0) : (thF k s).e = (idQ s ⟨0, 0, 0⟩).1 := by
  unfold idQ at h ⊢
  unfold thF
  by_cases h1 : (rNum s 2 ⟨0, 0, 0⟩).2.no = 0
  · rw [if_pos h1] at h ⊢
    rw [if_pos h1]
    by_cases h2 : (rNum s 2 ⟨0, 0, 0⟩).1 = 0
    · rw [if_pos h2, if_pos h2]
    · rw [if_neg h2] at h; exact absurd rfl h
  · rw [if_neg h1, if_neg h1]
theorem th_atQ {k : Int} {s : ByteArray} (h : (idQ s ⟨0, 0, 0⟩).1.no = 0) : (idQ s ⟨0, 0, 0⟩).1 = e00 ∧ ((readF k s (idQ s ⟨0, 0, 0⟩).2.2).1.no = 0 → (thF k s).e = e00 ∧ (thF k s).R = (readF k s (idQ s ⟨0, 0, 0⟩).2.2).2) ∧
    (¬ (readF k s (idQ s ⟨0, 0, 0⟩).2.2).1.no = 0 → (thF k s).e = ⟨(readF k s (idQ s ⟨0, 0, 0⟩).2.2).1.no, (readF k s (idQ s ⟨0, 0, 0⟩).2.2).1.r, (readF k s (idQ s ⟨0, 0, 0⟩).2.2).1.at_⟩) := by
  have e : idQ s ⟨0, 0, 0⟩ = (e00, (rNum s 2 ⟨0, 0, 0⟩).1, (rNum s 2 ⟨0, 0, 0⟩).2) ∧ (rNum s 2 ⟨0, 0, 0⟩).2.no = 0 ∧ ¬ (rNum s 2 ⟨0, 0, 0⟩).1 = 0 := by
    unfold idQ at h ⊢
    by_cases h1 : (rNum s 2 ⟨0, 0, 0⟩).2.no = 0
    · rw [if_pos h1] at h ⊢
      by_cases h2 : (rNum s 2 ⟨0, 0, 0⟩).1 = 0
      · rw [if_pos h2] at h; cases h
      · rw [if_neg h2]; exact ⟨rfl, h1, h2⟩
    · rw [if_neg h1] at h; exact absurd h h1
  obtain ⟨e1, e2, e3⟩ := e
  rw [e1]
  refine ⟨rfl, fun h4 => ?_, fun h4 => ?_⟩
  · unfold thF
    rw [if_pos e2, if_neg e3, if_pos h4]
    exact ⟨rfl, rfl⟩
  · unfold thF
    rw [if_pos e2, if_neg e3, if_neg h4]
/-- What a decoder of parts tells. -/
def dQ {Y : Type} (k : Int) (s : ByteArray) (rd : RV → Er × Y × RV) : Er :=
  if (idQ s ⟨0, 0, 0⟩).1.no = 0 then if (readF k s (idQ s ⟨0, 0, 0⟩).2.2).1.no = 0 then (ptL rd s 32 [] (readF k s (idQ s ⟨0, 0, 0⟩).2.2).2).1 else ⟨(readF k s (idQ s ⟨0, 0, 0⟩).2.2).1.no, (readF k s (idQ s ⟨0, 0, 0⟩).2.2).1.r, (readF k s (idQ s ⟨0, 0, 0⟩).2.2).1.at_⟩ else (idQ s ⟨0, 0, 0⟩).1
theorem dQ_of {Y : Type} {k : Int} {s : ByteArray} {rd : RV → Er × Y × RV} {e : Er} (hb : ¬ (thF k s).e.no = 0 → e = (thF k s).e) (hg : (thF k s).e.no = 0 → e = (ptL rd s 32 [] (thF k s).R).1) : e = dQ k s rd := by
  unfold dQ
  by_cases h : (idQ s ⟨0, 0, 0⟩).1.no = 0
  · rw [if_pos h]
    obtain ⟨_, h1, h2⟩ := th_atQ (k := k) h
    by_cases h3 : (readF k s (idQ s ⟨0, 0, 0⟩).2.2).1.no = 0
    · rw [if_pos h3]
      obtain ⟨h4, h5⟩ := h1 h3
      rw [hg (by rw [h4]; rfl), h5]
    · rw [if_neg h3]
      have h4 := h2 h3
      rw [hb (by rw [h4]; exact h3), h4]
  · rw [if_neg h]
    have h1 := th_badQ (k := k) h
    rw [hb (by rw [h1]; exact h), h1]
end Go.Proofs.YtinhecggmakbnaaGreatDoor
namespace Go.Proofs.YtinhecggmakbnaaGreatDoor
set_option maxRecDepth 100000
open Go.ChangeShapes Go.WideShapes Go.RowKit Go.Deep Go.Extern.Stop Go.Stop Go.Extern
set_option maxHeartbeats 8000000 in
theorem rfilters_any {w : World} {g : Nat} {s : ByteArray} {R : RV} (h : RRObj w g s R) (h0 : R.no = 0) (hs : s.size ≤ 900000) : Calls Tryz.prog 150 #[.pointer (some ⟨g, 0, none⟩)] w (PfSays w g s (ptL (rdT s) s 32 [] R).1) := by
  obtain ⟨q, hq⟩ : ∃ q, q = (ptL (rdT s) s 32 [] R).1 := ⟨_, rfl⟩
  rw [← hq]
  have HO := Lib.hid (own_rd1 h)
  have HLE := Lib.hid h.le
  have HSZ := Lib.hid hs
  have H00 := Lib.hid h0
  have HQ := Lib.hid hq
  clear h hs h0 hq
  go_enter Tryz.func150, Tryz.ntmps150
  go_wp2_with (refine wpo_alloc tyX HO.out rfl rfl ?_; clear HO; rintro k3 W1 hO; have HO := Lib.hid hO; clear hO; simp only [Act.put, List.setIfInBounds_toArray, List.set_cons_zero, List.set_cons_succ])
  go_loopg [4] 33 (fun f u wr => ∃ (L : List ByteArray) (Rt : RV), f + L.length = 33 ∧ 0 < f ∧ Rt.no = 0 ∧ Rt.p ≤ s.size ∧ Hid (Own [g] w wr [(k3, 40, #[.int .i64 0, .int .i64 0, .int .i64 0]), (g, 136, #[.string s, .int .i64 Rt.p, .int .i64 Rt.no, .int .i64 Rt.ea])] ∧ T8Row wr w.heap.size u L ∧ q = (ptL (rdT s) s (f - 1) L Rt).1))
  case atStart => exact ⟨[], R, rfl, by decide, H00.out, HLE.out, Lib.hid ⟨HO.out, T8Row.nil _ _, HQ.out⟩⟩
  case round =>
    obtain ⟨L, Rt, hf, hf0, hno, hp, HJ⟩ := hrel
    obtain ⟨ho, hr, hqq⟩ := HJ.out
    obtain ⟨av, nv, cv, rfl, rfl, hcap⟩ := hr.some_form
    clear HO
    have HO := Lib.hid ho
    have HROW := Lib.hid hr
    have HNO := Lib.hid hno
    have HPL := Lib.hid hp
    obtain ⟨f, rfl⟩ : ∃ f, gk = f + 1 := ⟨gk - 1, by omega⟩
    rw [show f + 1 - 1 = f from rfl] at hqq
    have hL32 : L.length ≤ 32 := by omega
    have d0 : wr.cell? ⟨g, 0, none⟩ = some (.string s) := (ho.get 1 rfl).cell 0
    have d1 : wr.cell? ⟨g, 1, none⟩ = some (.int .i64 (Rt.p : Int)) := (ho.get 1 rfl).cell 1
    have d2 : wr.cell? ⟨g, 2, none⟩ = some (.int .i64 (Rt.no : Int)) := (ho.get 1 rfl).cell 2
    rw [hno] at d2
    clear ho hr HJ HQ
    by_cases hend : s.size ≤ Rt.p
    · have hq2 : q = (if L.length = 0 then (⟨3, 130, Rt.p⟩ : Er) else e00) := by
        cases f <;> (unfold ptL at hqq; rw [if_pos hend] at hqq; rw [hqq]; split <;> rfl)
      have hlt : decide ((Rt.p : Int) < (s.size : Int)) = false := by simp; omega
      have hlt2 : decide (Rt.p < s.size) = false := by simp; omega
      have HQ2 := Lib.hid hq2
      clear hqq hq2 hend
      go_wp2_with fail
      go_quiet (fail)
      clear d0 d1 d2 hlt hlt2
      have HB := Lib.hid (HO.out.drewN nq)
      have HR2 := Lib.hid (HROW.out.below (below_drewN (Below.refl _ _) nq))
      clear HO HROW
      have HO := HB
      have HROW := HR2
      clear HB HR2
      generalize wr.drewN nq = wq at *
      by_cases hl0 : L.length = 0
      · have hq2 := HQ2.out
        rw [if_pos hl0] at hq2
        have HQ3 := Lib.hid hq2
        rw [hl0]
        clear hq2 HQ2 hl0
        go_upto_region 10 with fail
        go_wp2_with (refine wpo_ldc (HO.out.get 1 rfl) tyI _ rfl rfl rfl rfl ?_)
        refine (ragainst_any (Rt.p : Int) _).mono ?_
        rintro x V3 ⟨rfl, hb⟩
        have HB := Lib.hid (HO.out.below hb)
        clear HO hb
        have HO := HB
        clear HB
        go_wp2_with (refine wpo_store (k := k3) HO.out 0 tyX rfl _ _ rfl rfl rfl rfl rfl rfl rfl ?_; clear HO; rintro W4 hO; have HO := Lib.hid hO; clear hO; simp only [Act.put])
        exact bodyPost_ret (v := .tuple #[.slice none 0 0, fltV (3, 130, Rt.p)]) (res_own01 0 HO.out tyX rfl rfl rfl rfl rfl) rfl ⟨none, 0, 0, Rt, by rw [HQ3.out] <;> rfl, own_rr HO.out 1 rfl HPL.out⟩
      · have hq2 := HQ2.out
        rw [if_neg hl0] at hq2
        have HQ3 := Lib.hid hq2
        have hl1 : ((L.length : Int) == 0) = false := by rw [beq_eq_false_iff_ne]; omega
        clear hq2 HQ2 hl0
        go_wp2_with (refine wpo_store (k := k3) HO.out 0 tyX rfl _ _ rfl rfl rfl rfl rfl rfl rfl ?_; clear HO; rintro W4 hO; have HO := Lib.hid hO; clear hO; simp only [Act.put])
        exact bodyPost_ret (v := .tuple #[.slice av L.length cv, fltV (0, 0, 0)]) (res_own01 0 HO.out tyX rfl rfl rfl rfl rfl) rfl ⟨av, L.length, cv, Rt, by rw [HQ3.out] <;> rfl, own_rr HO.out 1 rfl HPL.out⟩
    · have hlt : decide ((Rt.p : Int) < (s.size : Int)) = true := by simp; omega
      have hlt2 : decide (Rt.p < s.size) = true := by simp; omega
      have HEN := Lib.hid hend
      have HQQ := Lib.hid hqq
      clear hqq hend
      go_wp2_with fail
      go_quiet (fail)
      clear d0 d1 d2 hlt hlt2
      have HB := Lib.hid (HO.out.drewN nq)
      have HR2 := Lib.hid (HROW.out.below (below_drewN (Below.refl _ _) nq))
      clear HO HROW
      have HO := HB
      have HROW := HR2
      clear HB HR2
      generalize wr.drewN nq = wq at *
      by_cases hl3 : L.length = 32
      · obtain rfl : f = 0 := by omega
        have hq2 := HQQ.out
        unfold ptL at hq2
        rw [if_neg HEN.out] at hq2
        have HQ3 := Lib.hid (show q = ⟨4, 149, Rt.p⟩ from hq2)
        rw [hl3]
        clear hq2 HQQ hl3
        go_upto_region 4 with fail
        refine wpo_y1 (yA := (k3, 40, #[.int .i64 4, .int .i64 149, .int .i64 (Rt.p : Int)])) [(19, .pointer (some ⟨g, 0, none⟩)), (20, .pointer (some ⟨g, 0, none⟩)), (21, .pointer (some ⟨g, 1, none⟩)), (22, .int .i64 (Rt.p : Int)), (23, .agg #[.int .i64 4, .int .i64 149, .int .i64 (Rt.p : Int)]), (2, .slice none 0 0)] 0 mixed (by kernel_rfl) HO.out rfl (fun _ _ _ _ _ h => h) ?_ rfl ?_ ?_
        · refine ⟨⟨_, rfl, rfl, Or.inl ⟨rfl, fun w' _ => ?_⟩⟩, ?_⟩
          · go_simp
          simp only [Act.put, List.setIfInBounds_toArray, List.set_cons_zero, List.set_cons_succ]
          refine ⟨⟨_, rfl, rfl, Or.inl ⟨rfl, fun w' _ => ?_⟩⟩, ?_⟩
          · go_simp
          simp only [Act.put, List.setIfInBounds_toArray, List.set_cons_zero, List.set_cons_succ]
          refine ⟨⟨_, rfl, rfl, Or.inl ⟨rfl, fun w' _ => ?_⟩⟩, ?_⟩
          · go_simp
          simp only [Act.put, List.setIfInBounds_toArray, List.set_cons_zero, List.set_cons_succ]
          refine ⟨⟨_, rfl, rfl, yo_ldc rfl (fun _ ⟨M, hM, he⟩ => hM.get 1 ((he 1 (by decide)).trans rfl)) tyI _ rfl rfl rfl⟩, ?_⟩
          simp only [Act.put, List.setIfInBounds_toArray, List.set_cons_zero, List.set_cons_succ]
          refine ⟨⟨_, rfl, rfl, Or.inl ⟨rfl, fun w' _ => ?_⟩⟩, ?_⟩
          · go_simp
          simp only [Act.put, List.setIfInBounds_toArray, List.set_cons_zero, List.set_cons_succ]
          refine ⟨⟨_, rfl, rfl, Or.inl ⟨rfl, fun w' _ => ?_⟩⟩, ?_⟩
          · go_simp
          exact trivial
        · simp only [putD, Act.put, List.setIfInBounds_toArray, List.set_cons_zero, List.set_cons_succ]
          exact sto_row tyX _ _ rfl rfl rfl rfl rfl rfl rfl rfl
        intro W4 hO
        clear HO
        have HO := Lib.hid hO
        clear hO
        simp only [putD, Act.put, List.setIfInBounds_toArray, List.set_cons_zero, List.set_cons_succ]
        go_wp2_with fail
        exact bodyPost_ret (v := .tuple #[.slice none 0 0, fltV (4, 149, Rt.p)]) (res_own01 0 HO.out tyX rfl rfl rfl rfl rfl) rfl ⟨none, 0, 0, Rt, by rw [HQ3.out] <;> rfl, own_rr HO.out 1 rfl HPL.out⟩
      · have hl4 : ((L.length : Int) == 32) = false := by rw [beq_eq_false_iff_ne]; omega
        have hl5 : ¬ L.length = 32 := hl3
        obtain ⟨f', rfl⟩ : ∃ f', f = f' + 1 := ⟨f - 1, by omega⟩
        have hq2 := HQQ.out
        unfold ptL at hq2
        rw [if_neg HEN.out] at hq2
        have HQ3 := Lib.hid hq2
        clear hq2 HQQ hl3
        have HT := Lib.hid (rrtext_any (HO.out.rd 1 rfl (R := Rt) HPL.out) HSZ.out)
        have hRd : rdT s Rt = if (rText s Rt).2.no = 0 then (e00, (rText s Rt).1, (rText s Rt).2) else (⟨(rText s Rt).2.no, 129, (rText s Rt).2.ea⟩, ⟨#[]⟩, (rText s Rt).2) := rfl
        obtain ⟨⟨t, R1⟩, hT⟩ : ∃ T, T = rText s Rt := ⟨_, rfl⟩
        rw [← hT] at HT hRd
        simp only at hRd
        have HRD := Lib.hid hRd
        clear hT hRd
        go_wp2_with fail
        refine HT.out.mono ?_
        rintro x w5 ⟨rfl, hn⟩
        have HL1 := Lib.hid hn.obj.le
        have HR2 := Lib.hid (t8_rstep HROW.out (HO.out.rd 1 rfl (R := Rt) HPL.out) hn.fr)
        have HB := Lib.hid (HO.out.rstep (R' := R1) 1 rfl hn)
        clear HO hn HT HROW
        have HO := HB
        have HROW := HR2
        clear HB HR2
        by_cases h1 : R1.no = 0
        · have hrd := HRD.out
          rw [if_pos h1] at hrd
          have hq2 := HQ3.out
          rw [hrd, if_pos (show e00.no = 0 from rfl)] at hq2
          have HQ4 := Lib.hid hq2
          have HRE := Lib.hid (HO.out.get 1 rfl)
          rw [h1] at HRE
          have HS6 := Lib.hid HO.out.size
          have HDL := Lib.hid (show L.length ≤ 1000 by omega)
          clear hrd hq2 HQ3 HRD hl4
          go_wp2_with (first | (refine wpo_ldc HRE.out tyE _ rfl rfl rfl rfl ?_) | (at_builtin; go_must (refine T8_append t rfl _ _ rfl HROW.out HS6.out rfl w5.heap.size 1 rfl rfl HDL.out rfl ?_)))
          intro v7 w7 hn7
          have HO7 := Lib.hid (HO.out.grown (te := 9) hn7.grown (fun k hk => ⟨(HROW.out.lt k hk).1, (HROW.out.lt k hk).2.2⟩) (by simp))
          have HR7 := Lib.hid hn7.row
          clear hn7
          go_wp2_with fail
          go_roundg (f' + 1)
          case rel => exact ⟨L ++ [t], R1, by rw [List.length_append, List.length_singleton]; omega, by omega, h1, HL1.out, Lib.hid ⟨HO7.out, HR7.out, HQ4.out⟩⟩
          case measure => omega
        · have hrd := HRD.out
          rw [if_neg h1] at hrd
          have hq2 := HQ3.out
          rw [hrd, if_neg (show ¬ R1.no = 0 from h1)] at hq2
          have HQ4 := Lib.hid (show q = ⟨R1.no, 129, R1.ea⟩ from hq2)
          have hi : ¬ (R1.no : Int) = 0 := by omega
          have HHO := Lib.hid (show ofR (dnR s R1) = (R1.no, 129, R1.ea) by unfold dnR; rw [if_neg h1]; unfold ofR; rw [if_neg h1])
          clear hrd hq2 HQ3 HRD h1 hl4
          have HOF := Lib.hid (rrof_any (HO.out.rd 1 rfl (R := R1) HL1.out))
          rw [HHO.out, show fltV (R1.no, 129, R1.ea) = .agg #[.int .i64 (R1.no : Int), .int .i64 (129 : Int), .int .i64 (R1.ea : Int)] from rfl] at HOF
          go_wp2_with (refine wpo_ldc (HO.out.get 1 rfl) tyE _ rfl rfl rfl rfl ?_)
          refine HOF.out.mono ?_
          rintro x V8 ⟨rfl, hb⟩
          have HB := Lib.hid (HO.out.below hb)
          clear HO hb HOF
          have HO := HB
          clear HB
          go_wp2_with (refine wpo_store (k := k3) HO.out 0 tyX rfl _ _ rfl rfl rfl rfl rfl rfl rfl ?_; clear HO; rintro W9 hO; have HO := Lib.hid hO; clear hO; simp only [Act.put])
          exact bodyPost_ret (v := .tuple #[.slice none 0 0, fltV (R1.no, 129, R1.ea)]) (res_own01 0 HO.out tyX rfl rfl rfl rfl rfl) rfl ⟨none, 0, 0, R1, by rw [HQ4.out] <;> rfl, own_rr HO.out 1 rfl HL1.out⟩
end Go.Proofs.YtinhecggmakbnaaGreatDoor
namespace Go.Proofs.YtinhecggmakbnaaGreatDoor
set_option maxRecDepth 100000
open Go.ChangeShapes Go.WideShapes Go.RowKit Go.Deep Go.Extern.Stop Go.Stop Go.Extern
set_option maxHeartbeats 8000000 in
theorem rcodes_any {w : World} {g : Nat} {s : ByteArray} {R : RV} {k : Int} (h : RRObj w g s R) (h0 : R.no = 0) (hs : s.size ≤ 900000) : Calls Tryz.prog 146 #[.pointer (some ⟨g, 0, none⟩), .int .i64 k] w (PfSays w g s (ptL (rdC k s) s 32 [] R).1) := by
  obtain ⟨q, hq⟩ : ∃ q, q = (ptL (rdC k s) s 32 [] R).1 := ⟨_, rfl⟩
  rw [← hq]
  have HO := Lib.hid (own_rd1 h)
  have HLE := Lib.hid h.le
  have HSZ := Lib.hid hs
  have H00 := Lib.hid h0
  have HQ := Lib.hid hq
  clear h hs h0 hq
  go_enter Tryz.func146, Tryz.ntmps146
  go_wp2_with (refine wpo_alloc tyX HO.out rfl rfl ?_; clear HO; rintro k3 W1 hO; have HO := Lib.hid hO; clear hO; simp only [Act.put, List.setIfInBounds_toArray, List.set_cons_zero, List.set_cons_succ])
  go_loopg [6] 33 (fun f u wr => ∃ (L : List Int) (Rt : RV), f + L.length = 33 ∧ 0 < f ∧ Rt.no = 0 ∧ Rt.p ≤ s.size ∧ Hid (Own [g] w wr [(k3, 40, #[.int .i64 0, .int .i64 0, .int .i64 0]), (g, 136, #[.string s, .int .i64 Rt.p, .int .i64 Rt.no, .int .i64 Rt.ea])] ∧ I8Row wr w.heap.size u L ∧ q = (ptL (rdC k s) s (f - 1) L Rt).1))
  case atStart => exact ⟨[], R, rfl, by decide, H00.out, HLE.out, Lib.hid ⟨HO.out, I8Row.nil _ _, HQ.out⟩⟩
  case round =>
    obtain ⟨L, Rt, hf, hf0, hno, hp, HJ⟩ := hrel
    obtain ⟨ho, hr, hqq⟩ := HJ.out
    obtain ⟨av, nv, cv, rfl, rfl, hcap⟩ := hr.some_form
    clear HO
    have HO := Lib.hid ho
    have HROW := Lib.hid hr
    have HNO := Lib.hid hno
    have HPL := Lib.hid hp
    obtain ⟨f, rfl⟩ : ∃ f, gk = f + 1 := ⟨gk - 1, by omega⟩
    rw [show f + 1 - 1 = f from rfl] at hqq
    have hL32 : L.length ≤ 32 := by omega
    have d0 : wr.cell? ⟨g, 0, none⟩ = some (.string s) := (ho.get 1 rfl).cell 0
    have d1 : wr.cell? ⟨g, 1, none⟩ = some (.int .i64 (Rt.p : Int)) := (ho.get 1 rfl).cell 1
    have d2 : wr.cell? ⟨g, 2, none⟩ = some (.int .i64 (Rt.no : Int)) := (ho.get 1 rfl).cell 2
    rw [hno] at d2
    clear ho hr HJ HQ
    by_cases hend : s.size ≤ Rt.p
    · have hq2 : q = (if L.length = 0 then (⟨3, 130, Rt.p⟩ : Er) else e00) := by
        cases f <;> (unfold ptL at hqq; rw [if_pos hend] at hqq; rw [hqq]; split <;> rfl)
      have hlt : decide ((Rt.p : Int) < (s.size : Int)) = false := by simp; omega
      have hlt2 : decide (Rt.p < s.size) = false := by simp; omega
      have HQ2 := Lib.hid hq2
      clear hqq hq2 hend
      go_wp2_with fail
      go_quiet (fail)
      clear d0 d1 d2 hlt hlt2
      have HB := Lib.hid (HO.out.drewN nq)
      have HR2 := Lib.hid (HROW.out.below (below_drewN (Below.refl _ _) nq))
      clear HO HROW
      have HO := HB
      have HROW := HR2
      clear HB HR2
      generalize wr.drewN nq = wq at *
      by_cases hl0 : L.length = 0
      · have hq2 := HQ2.out
        rw [if_pos hl0] at hq2
        have HQ3 := Lib.hid hq2
        rw [hl0]
        clear hq2 HQ2 hl0
        go_upto_region 11 with fail
        go_wp2_with (refine wpo_ldc (HO.out.get 1 rfl) tyI _ rfl rfl rfl rfl ?_)
        refine (ragainst_any (Rt.p : Int) _).mono ?_
        rintro x V3 ⟨rfl, hb⟩
        have HB := Lib.hid (HO.out.below hb)
        clear HO hb
        have HO := HB
        clear HB
        go_wp2_with (refine wpo_store (k := k3) HO.out 0 tyX rfl _ _ rfl rfl rfl rfl rfl rfl rfl ?_; clear HO; rintro W4 hO; have HO := Lib.hid hO; clear hO; simp only [Act.put])
        exact bodyPost_ret (v := .tuple #[.slice none 0 0, fltV (3, 130, Rt.p)]) (res_own01 0 HO.out tyX rfl rfl rfl rfl rfl) rfl ⟨none, 0, 0, Rt, by rw [HQ3.out] <;> rfl, own_rr HO.out 1 rfl HPL.out⟩
      · have hq2 := HQ2.out
        rw [if_neg hl0] at hq2
        have HQ3 := Lib.hid hq2
        have hl1 : ((L.length : Int) == 0) = false := by rw [beq_eq_false_iff_ne]; omega
        clear hq2 HQ2 hl0
        go_wp2_with (refine wpo_store (k := k3) HO.out 0 tyX rfl _ _ rfl rfl rfl rfl rfl rfl rfl ?_; clear HO; rintro W4 hO; have HO := Lib.hid hO; clear hO; simp only [Act.put])
        exact bodyPost_ret (v := .tuple #[.slice av L.length cv, fltV (0, 0, 0)]) (res_own01 0 HO.out tyX rfl rfl rfl rfl rfl) rfl ⟨av, L.length, cv, Rt, by rw [HQ3.out] <;> rfl, own_rr HO.out 1 rfl HPL.out⟩
    · have hlt : decide ((Rt.p : Int) < (s.size : Int)) = true := by simp; omega
      have hlt2 : decide (Rt.p < s.size) = true := by simp; omega
      have HEN := Lib.hid hend
      have HQQ := Lib.hid hqq
      clear hqq hend
      go_wp2_with fail
      go_quiet (fail)
      clear d0 d1 d2 hlt hlt2
      have HB := Lib.hid (HO.out.drewN nq)
      have HR2 := Lib.hid (HROW.out.below (below_drewN (Below.refl _ _) nq))
      clear HO HROW
      have HO := HB
      have HROW := HR2
      clear HB HR2
      generalize wr.drewN nq = wq at *
      by_cases hl3 : L.length = 32
      · obtain rfl : f = 0 := by omega
        have hq2 := HQQ.out
        unfold ptL at hq2
        rw [if_neg HEN.out] at hq2
        have HQ3 := Lib.hid (show q = ⟨4, 149, Rt.p⟩ from hq2)
        rw [hl3]
        clear hq2 HQQ hl3
        go_upto_region 5 with (refine wpo_ldc (HO.out.get 1 rfl) tyI _ rfl rfl rfl rfl ?_)
        go_wp2_with (refine wpo_store (k := k3) HO.out 0 tyX rfl _ _ rfl rfl rfl rfl rfl rfl rfl ?_; clear HO; rintro W4 hO; have HO := Lib.hid hO; clear hO; simp only [Act.put])
        exact bodyPost_ret (v := .tuple #[.slice none 0 0, fltV (4, 149, Rt.p)]) (res_own01 0 HO.out tyX rfl rfl rfl rfl rfl) rfl ⟨none, 0, 0, Rt, by rw [HQ3.out] <;> rfl, own_rr HO.out 1 rfl HPL.out⟩
      · have hl4 : ((L.length : Int) == 32) = false := by rw [beq_eq_false_iff_ne]; omega
        have hl5 : ¬ L.length = 32 := hl3
        obtain ⟨f', rfl⟩ : ∃ f', f = f' + 1 := ⟨f - 1, by omega⟩
        have hq2 := HQQ.out
        unfold ptL at hq2
        rw [if_neg HEN.out] at hq2
        have HQ3 := Lib.hid hq2
        clear hq2 HQQ hl3
        have hR1 := rNum_left (s := s) (R := Rt) HNO.out (by have := HEN.out; omega)
        have HU := Lib.hid (rru8_any (HO.out.rd 1 rfl (R := Rt) HPL.out) (by have := HSZ.out; omega))
        have hRd : rdC k s Rt = if allowedB k ((rNum s 1 Rt).1 : Int) = true then (e00, ((rNum s 1 Rt).1 : Int), (rNum s 1 Rt).2) else (⟨2, 129, Rt.p⟩, 0, (rNum s 1 Rt).2) := rfl
        obtain ⟨⟨c, R1⟩, hT⟩ : ∃ T, T = rNum s 1 Rt := ⟨_, rfl⟩
        rw [← hT] at HU hRd hR1
        simp only at hRd hR1
        have h1 : R1.no = 0 := by rw [hR1]
        have HRD := Lib.hid hRd
        have HN1 := Lib.hid h1
        clear hT hRd hR1 h1
        have HAL := Lib.hid (fun w => ref_allowed k (c : Int) w)
        go_wp2_with (refine wpo_ldc (HO.out.get 1 rfl) tyI _ rfl rfl rfl rfl ?_)
        refine HU.out.mono ?_
        rintro x w5 ⟨rfl, hn⟩
        have HL1 := Lib.hid hn.obj.le
        have HR2 := Lib.hid (i8_rstep HROW.out (HO.out.rd 1 rfl (R := Rt) HPL.out) hn.fr)
        have HB := Lib.hid (HO.out.rstep (R' := R1) 1 rfl hn)
        clear HO hn HU HROW
        have HO := HB
        have HROW := HR2
        clear HB HR2 hl4
        cases hal : allowedB k (c : Int) with
        | true =>
          have hq2 := HQ3.out
          rw [HRD.out, if_pos hal, if_pos (show e00.no = 0 from rfl)] at hq2
          have HQ4 := Lib.hid hq2
          have HS6 := Lib.hid HO.out.size
          have HDL := Lib.hid (show L.length ≤ 1000 by omega)
          clear hq2 HQ3 HRD
          rw [hal] at HAL
          go_wp2_with fail
          refine (HAL.out _).mono ?_
          rintro x w6 ⟨rfl, hb⟩
          have HR2 := Lib.hid (HROW.out.below hb)
          have HB := Lib.hid (HO.out.below hb)
          clear HO hb HAL HROW
          have HO := HB
          clear HB
          have HROW := HR2
          clear HR2
          go_wp2_with (at_builtin; go_must (refine I8_append (c : Int) rfl _ _ rfl HROW.out (HO.out.size) rfl w6.heap.size 1 rfl rfl HDL.out rfl ?_))
          intro v7 w7 hn7
          have HO7 := Lib.hid (HO.out.grown (te := 3) hn7.grown (fun k hk => ⟨(HROW.out.lt k hk).1, (HROW.out.lt k hk).2.2⟩) (by simp))
          have HR7 := Lib.hid hn7.row
          clear hn7 hal
          go_wp2_with fail
          go_roundg (f' + 1)
          case rel => exact ⟨L ++ [(c : Int)], R1, by rw [List.length_append, List.length_singleton]; omega, by omega, HN1.out, HL1.out, Lib.hid ⟨HO7.out, HR7.out, HQ4.out⟩⟩
          case measure => omega
        | false =>
          have hrd := HRD.out
          rw [if_neg (by rw [hal]; decide)] at hrd
          have hq2 := HQ3.out
          rw [hrd, if_neg (show ¬ ((2 : Nat) = 0) by decide)] at hq2
          clear hrd
          have HQ4 := Lib.hid (show q = ⟨2, 129, Rt.p⟩ from hq2)
          clear hq2 HQ3 HRD
          rw [hal] at HAL
          go_wp2_with fail
          refine (HAL.out _).mono ?_
          rintro x w6 ⟨rfl, hb⟩
          have HR2 := Lib.hid (HROW.out.below hb)
          have HB := Lib.hid (HO.out.below hb)
          clear HO hb HAL HROW
          have HO := HB
          clear HB
          have HROW := HR2
          clear HR2
          go_wp2_with fail
          refine (rbad_any (Rt.p : Int) _).mono ?_
          rintro x V8 ⟨rfl, hb⟩
          clear HROW
          have HB := Lib.hid (HO.out.below hb)
          clear HO hb
          have HO := HB
          clear HB
          go_wp2_with (refine wpo_store (k := k3) HO.out 0 tyX rfl _ _ rfl rfl rfl rfl rfl rfl rfl ?_; clear HO; rintro W9 hO; have HO := Lib.hid hO; clear hO; simp only [Act.put])
          exact bodyPost_ret (v := .tuple #[.slice none 0 0, fltV (2, 129, Rt.p)]) (res_own01 0 HO.out tyX rfl rfl rfl rfl rfl) rfl ⟨none, 0, 0, R1, by rw [HQ4.out] <;> rfl, own_rr HO.out 1 rfl HL1.out⟩
end Go.Proofs.YtinhecggmakbnaaGreatDoor
namespace Go.Proofs.YtinhecggmakbnaaGreatDoor
set_option maxRecDepth 100000
open Go.RowKit Go.Extern.Stop Go.Stop Go.Extern
theorem d13_a {s : ByteArray} : (dcU 162 s).1 = dQ 10 s (rdT s) := dQ_of (fun h => by
    unfold dcU
    rw [if_neg (by decide), show kU 162 = 10 from rfl, if_neg h]) (fun h => by
    unfold dcU
    rw [if_neg (by decide), show kU 162 = 10 from rfl, if_pos h, if_pos rfl]
    unfold dcU10
    by_cases h2 : (ptL (rdT s) s 32 [] (thF 10 s).R).1.no = 0
    · rw [if_pos h2, ptL_e00 _ _ _ h2]
    · rw [if_neg h2])
theorem d13_b {s : ByteArray} : (dcU 176 s).1 = dQ 11 s (rdC 11 s) := dQ_of (fun h => by
    unfold dcU
    rw [if_neg (by decide), show kU 176 = 11 from rfl, if_neg h]) (fun h => by
    unfold dcU
    rw [if_neg (by decide), show kU 176 = 11 from rfl, if_pos h, if_neg (by decide)]
    unfold dcU11
    by_cases h2 : (ptL (rdC 11 s) s 32 [] (thF 11 s).R).1.no = 0
    · rw [if_pos h2, ptL_e00 _ _ _ h2]
    · rw [if_neg h2])
set_option maxHeartbeats 8000000 in
theorem rdec13_10 {w : World} {s : ByteArray} (hs : s.size ≤ 900000) : Calls Tryz.prog 75 #[.agg #[.int .i64 162, .string s]] w (RDc w (dQ 10 s (rdT s))) := by
  obtain ⟨z, hT, hz26, hz⟩ := tyP_ex
  obtain ⟨q, hq⟩ : ∃ q, q = dQ 10 s (rdT s) := ⟨_, rfl⟩
  rw [← hq]
  unfold dQ at hq
  obtain ⟨⟨e, id, R1⟩, hi⟩ : ∃ i, i = idQ s ⟨0, 0, 0⟩ := ⟨_, rfl⟩
  rw [← hi] at hq
  simp only at hq
  obtain ⟨⟨⟨rn, rr, ra, rL⟩, R2⟩, hF⟩ : ∃ F, F = readF 10 s R1 := ⟨_, rfl⟩
  have hno := readF_no (k := 10) (s := s) (R := R1)
  rw [← hF] at hq hno
  simp only at hq hno
  have HT := Lib.hid hT
  have HZS := Lib.hid hz26
  have HZ := Lib.hid hz
  have HQ := Lib.hid hq
  have HI := Lib.hid hi
  have HFF := Lib.hid hF
  have HNO := Lib.hid hno
  have HSZ := Lib.hid hs
  have HO := Lib.hid (Own.start [] w)
  obtain ⟨y, hy⟩ : ∃ y, y = z.setIfInBounds 0 (.int .i64 10) := ⟨_, rfl⟩
  have HBY := Lib.hid (rbuilt1 HZ.out hy)
  have HYS := Lib.hid (show y.size = z.size by rw [hy]; simp)
  have HY1 := Lib.hid (show y.toList.all (·.oneCell') = true by rw [hy]; exact one_put HT.out.one _ _ rfl)
  have HY0 := Lib.hid (show y[0]? = some (.int .i64 10) by rw [hy, HZ.out]; rfl)
  clear hT hz26 hz hq hi hF hno hs hy
  go_enter Tryz.func75, Tryz.ntmps75
  go_upto_region 1 with (first | (refine wpo_box (t := 33) HO.out _ rfl rfl rfl ?_; clear HO; rintro k1 W1 hO; have HO := Lib.hid hO; clear hO; simp only [Act.put, List.setIfInBounds_toArray, List.set_cons_zero, List.set_cons_succ]) | (refine wpo_alloc HT.out HO.out rfl rfl ?_; clear HO; rintro k2 W2 hO; have HO := Lib.hid hO; clear hO; simp only [Act.put, List.setIfInBounds_toArray, List.set_cons_zero, List.set_cons_succ]) | (refine wpo_alloc tyX HO.out rfl rfl ?_; clear HO; rintro k3 W3 hO; have HO := Lib.hid hO; clear hO; simp only [Act.put, List.setIfInBounds_toArray, List.set_cons_zero, List.set_cons_succ]))
  go_upto_region 5 with (first | (refine wpo_ldc (HO.out.get 2 rfl) tyI _ rfl rfl rfl rfl ?_) | (refine wpo_box (t := 136) HO.out _ rfl rfl rfl ?_; clear HO; rintro k4 W4 hO; have HO := Lib.hid hO; clear hO; simp only [Act.put, List.setIfInBounds_toArray, List.set_cons_zero, List.set_cons_succ]) | (refine wpo_ldc (HO.out.get 2 rfl) tyS _ rfl rfl rfl rfl ?_) | (refine wpo_ldc (HO.out.get 3 rfl) tyI _ rfl rfl rfl rfl ?_) | (refine wpo_built HBY.out rfl rfl rfl ?_) | (refine wpo_store (k := k5) HO.out 0 HT.out rfl _ _ rfl rfl rfl rfl rfl HYS.out HY1.out ?_; clear HO; rintro W6 hO; have HO := Lib.hid hO; clear hO; simp only [Act.put]) | (refine wpo_alloc HT.out HO.out rfl rfl ?_; clear HO; rintro k5 W5 hO; have HO := Lib.hid hO; clear hO; simp only [Act.put, List.setIfInBounds_toArray, List.set_cons_zero, List.set_cons_succ]))
  have HID := Lib.hid (rid_any (HO.out.rd 1 rfl (R := ⟨0, 0, 0⟩) (Nat.zero_le _)) HSZ.out)
  rw [← HI.out] at HID
  go_wp2_with fail
  refine HID.out.mono ?_
  rintro x V5 ⟨rfl, hn⟩
  have HL1 := Lib.hid hn.obj.le
  have HB := Lib.hid (HO.out.rstep (R' := R1) 1 rfl hn)
  clear HO hn HID
  have HO := HB
  clear HB
  simp only
  obtain ⟨en, er, ea⟩ := e
  simp only at HQ
  by_cases he : en = 0
  · subst he
    rw [if_pos rfl] at HQ
    have HY1S := Lib.hid (show (y.setIfInBounds 1 (.int .i64 (id : Int))).size = z.size by simpa using HYS.out)
    have HY11 := Lib.hid (one_put HY1.out 1 (.int .i64 (id : Int)) rfl)
    have HYJ1 := Lib.hid (show 1 < y.size by rw [HYS.out, HZS.out]; omega)
    have HY10 := Lib.hid (show (y.setIfInBounds 1 (.int .i64 (id : Int)))[0]? = some (.int .i64 10) by rw [Array.getElem?_setIfInBounds_ne (by decide)]; exact HY0.out)
    go_upto_region 9 with (first | (refine wpo_alloc tyX HO.out rfl rfl ?_; clear HO; rintro k7 Wak7 hO; have HO := Lib.hid hO; clear hO; simp only [Act.put, List.setIfInBounds_toArray, List.set_cons_zero, List.set_cons_succ]) | (refine wpo_store (k := k7) HO.out 0 tyX rfl _ _ rfl rfl rfl rfl rfl rfl rfl ?_; clear HO; rintro Wbk7 hO; have HO := Lib.hid hO; clear hO; simp only [Act.put]) | (refine wpo_ldc (HO.out.get 0 rfl) tyE _ rfl rfl rfl rfl ?_) | (refine wpo_cell HO.out 1 1 tyI.ip rfl _ _ rfl rfl rfl rfl HYJ1.out rfl ?_; clear HO; rintro W8 hO; have HO := Lib.hid hO; clear hO; simp only [Act.put]))
    have HRD := Lib.hid (rread_any (HO.out.rd 2 rfl (R := R1) HL1.out) HSZ.out 10)
    rw [← HFF.out] at HRD
    go_wp2_with (refine wpo_ldc (HO.out.get 1 rfl) tyI _ rfl rfl rfl HY10.out ?_)
    refine HRD.out.mono ?_
    rintro x V9 ⟨v5, rfl, hv5, hn⟩
    have HL2 := Lib.hid hn.obj.le
    have HB := Lib.hid (HO.out.rstep (R' := R2) 2 rfl hn)
    clear HO hn HRD
    have HO := HB
    clear HB
    obtain ⟨a5, n5, c5, rfl, -, -⟩ := hv5.some_form
    clear hv5
    by_cases hr : rn = 0
    · subst hr
      rw [if_pos rfl] at HQ
      have hz2 := (by first | exact HNO.out rfl | exact HNO.out trivial : R2.no = 0)
      have HY2S := Lib.hid (show ((y.setIfInBounds 1 (.int .i64 (id : Int))).setIfInBounds 3 (.slice a5 n5 c5)).size = z.size by simpa using HYS.out)
      have HY21 := Lib.hid (one_put HY11.out 3 (.slice a5 n5 c5) rfl)
      have HYJ2 := Lib.hid (show 3 < (y.setIfInBounds 1 (.int .i64 (id : Int))).size by rw [HY1S.out, HZS.out]; omega)
      have HY20 := Lib.hid (show ((y.setIfInBounds 1 (.int .i64 (id : Int))).setIfInBounds 3 (.slice a5 n5 c5))[0]? = some (.int .i64 10) by rw [Array.getElem?_setIfInBounds_ne (by decide)]; exact HY10.out)
      have HZ2 := Lib.hid hz2
      clear hz2 HFF HNO
      go_upto_region 19 with (first | (refine wpo_alloc tyX HO.out rfl rfl ?_; clear HO; rintro k9 Wak9 hO; have HO := Lib.hid hO; clear hO; simp only [Act.put, List.setIfInBounds_toArray, List.set_cons_zero, List.set_cons_succ]) | (refine wpo_store (k := k9) HO.out 0 tyX rfl _ _ rfl rfl rfl rfl rfl rfl rfl ?_; clear HO; rintro Wbk9 hO; have HO := Lib.hid hO; clear hO; simp only [Act.put]) | (refine wpo_ldc (HO.out.get 0 rfl) tyE _ rfl rfl rfl rfl ?_) | (refine wpo_cell HO.out 2 3 tyL.ip rfl _ _ rfl rfl rfl rfl HYJ2.out rfl ?_; clear HO; rintro W12 hO; have HO := Lib.hid hO; clear hO; simp only [Act.put]) | (refine wpo_ldc (HO.out.get 2 rfl) tyI _ rfl rfl rfl HY20.out ?_))
      have HPA := Lib.hid (rfilters_any (HO.out.rd 3 rfl (R := R2) HL2.out) HZ2.out HSZ.out)
      have hpe := ptL_e00 (rd := rdT s) (s := s) 32 [] R2
      obtain ⟨P0, hP⟩ : ∃ P, P = (ptL (rdT s) s 32 [] R2).1 := ⟨_, rfl⟩
      rw [← hP] at HPA HQ hpe
      clear hP
      obtain ⟨pn, pr, pa⟩ := P0
      simp only at HPA hpe
      have HPE0 := Lib.hid hpe
      clear hpe
      go_wp2_with fail
      refine HPA.out.mono ?_
      rintro x V14 ⟨a6, n6, c6, R3, rfl, hn⟩
      have HB := Lib.hid (HO.out.rstep (R' := R3) 3 rfl hn)
      clear HO hn HPA
      have HO := HB
      clear HB
      have HY3S := Lib.hid (show (((y.setIfInBounds 1 (.int .i64 (id : Int))).setIfInBounds 3 (.slice a5 n5 c5)).setIfInBounds 24 (.slice a6 n6 c6)).size = z.size by simpa using HYS.out)
      have HY31 := Lib.hid (one_put HY21.out 24 (.slice a6 n6 c6) rfl)
      have HYJ3 := Lib.hid (show 24 < ((y.setIfInBounds 1 (.int .i64 (id : Int))).setIfInBounds 3 (.slice a5 n5 c5)).size by rw [HY2S.out, HZS.out]; omega)
      by_cases hp : pn = 0
      · subst hp
        have HPE := Lib.hid (by first | exact HPE0.out rfl | exact HPE0.out trivial : (⟨0, pr, pa⟩ : Er) = e00)
        have HQ2 := Lib.hid (show q = ⟨0, pr, pa⟩ from HQ.out)
        clear HQ HPE0
        go_wp2_with (first | (refine wpo_alloc tyX HO.out rfl rfl ?_; clear HO; rintro k11 Wak11 hO; have HO := Lib.hid hO; clear hO; simp only [Act.put, List.setIfInBounds_toArray, List.set_cons_zero, List.set_cons_succ]) | (refine wpo_store (k := k11) HO.out 0 tyX rfl _ _ rfl rfl rfl rfl rfl rfl rfl ?_; clear HO; rintro Wbk11 hO; have HO := Lib.hid hO; clear hO; simp only [Act.put]) | (refine wpo_ldc (HO.out.get 0 rfl) tyE _ rfl rfl rfl rfl ?_) | (refine wpo_cell HO.out 3 24 tyTx.ip rfl _ _ rfl rfl rfl rfl HYJ3.out rfl ?_; clear HO; rintro W15 hO; have HO := Lib.hid hO; clear hO; simp only [Act.put]) | (refine wpo_load HO.out 3 HT.out rfl HY3S.out _ rfl rfl rfl ?_) | (refine wpo_store (k := k2) HO.out 6 HT.out rfl _ _ rfl rfl rfl rfl rfl HY3S.out HY31.out ?_; clear HO; rintro W16 hO; have HO := Lib.hid hO; clear hO; simp only [Act.put]) | (refine wpo_store (k := k3) HO.out 5 tyX rfl _ _ rfl rfl rfl rfl rfl rfl rfl ?_; clear HO; rintro W17 hO; have HO := Lib.hid hO; clear hO; simp only [Act.put]))
        exact bodyPost_ret (v := .tuple #[.agg (((y.setIfInBounds 1 (.int .i64 (id : Int))).setIfInBounds 3 (.slice a5 n5 c5)).setIfInBounds 24 (.slice a6 n6 c6)), fltV (0, 0, 0)]) (res_own2 6 5 HO.out HT.out tyX rfl rfl rfl rfl rfl HY3S.out rfl) rfl ⟨(((y.setIfInBounds 1 (.int .i64 (id : Int))).setIfInBounds 3 (.slice a5 n5 c5)).setIfInBounds 24 (.slice a6 n6 c6)), HY3S.out.trans HZS.out, HY31.out, by rw [HQ2.out, HPE.out] <;> rfl, HO.out.bel⟩
      · have HQ2 := Lib.hid (show q = ⟨pn, pr, pa⟩ from HQ.out)
        have hpi : ¬ (pn : Int) = 0 := by omega
        clear HQ HPE0
        go_upto_region 22 with (first | (refine wpo_alloc tyX HO.out rfl rfl ?_; clear HO; rintro k11 Wak11 hO; have HO := Lib.hid hO; clear hO; simp only [Act.put, List.setIfInBounds_toArray, List.set_cons_zero, List.set_cons_succ]) | (refine wpo_store (k := k11) HO.out 0 tyX rfl _ _ rfl rfl rfl rfl rfl rfl rfl ?_; clear HO; rintro Wbk11 hO; have HO := Lib.hid hO; clear hO; simp only [Act.put]) | (refine wpo_ldc (HO.out.get 0 rfl) tyE _ rfl rfl rfl rfl ?_) | (refine wpo_cell HO.out 3 24 tyTx.ip rfl _ _ rfl rfl rfl rfl HYJ3.out rfl ?_; clear HO; rintro W15 hO; have HO := Lib.hid hO; clear hO; simp only [Act.put]))
        refine wpo_y2 (yA := (k2, 29, z)) (yB := (k3, 40, #[.int .i64 (pn : Int), .int .i64 (pr : Int), .int .i64 (pa : Int)])) [(85, .agg z), (86, .agg #[.int .i64 (pn : Int), .int .i64 (pr : Int), .int .i64 (pa : Int)])] 6 5 mixed (by kernel_rfl) HO.out rfl rfl (by decide) (fun _ _ _ _ _ h => h) ?_ rfl rfl ?_ ?_ ?_
        · refine ⟨⟨_, rfl, rfl, yo_zero rfl HT.out rfl⟩, ?_⟩
          simp only [Act.put, List.setIfInBounds_toArray, List.set_cons_zero, List.set_cons_succ]
          refine ⟨⟨_, rfl, rfl, yo_load rfl tyX (fun _ h => h.get 0 (by decide) (by decide) rfl) rfl _ rfl rfl⟩, ?_⟩
          exact trivial
        · simp only [putD, Act.put, List.setIfInBounds_toArray, List.set_cons_zero, List.set_cons_succ]
          exact sto_row HT.out _ _ rfl rfl rfl rfl rfl rfl rfl HT.out.one
        · simp only [putD, Act.put, List.setIfInBounds_toArray, List.set_cons_zero, List.set_cons_succ]
          exact sto_row tyX _ _ rfl rfl rfl rfl rfl rfl rfl rfl
        intro WjD hO
        clear HO
        have HO := Lib.hid hO
        clear hO
        simp only [putD, Act.put, List.setIfInBounds_toArray, List.set_cons_zero, List.set_cons_succ]
        go_wp2_with fail
        exact bodyPost_ret (v := .tuple #[.agg z, fltV (pn, pr, pa)]) (res_own2 6 5 HO.out HT.out tyX rfl rfl rfl rfl rfl rfl rfl) rfl ⟨z, HZS.out, HT.out.one, by rw [HQ2.out] <;> rfl, HO.out.bel⟩
    · have HQ2 := Lib.hid (show q = ⟨rn, rr, ra⟩ by rw [HQ.out, if_neg hr])
      have hri : ¬ (rn : Int) = 0 := by omega
      clear HQ HFF HNO
      go_upto_region 11 with (first | (refine wpo_alloc tyX HO.out rfl rfl ?_; clear HO; rintro k9 Wak9 hO; have HO := Lib.hid hO; clear hO; simp only [Act.put, List.setIfInBounds_toArray, List.set_cons_zero, List.set_cons_succ]) | (refine wpo_store (k := k9) HO.out 0 tyX rfl _ _ rfl rfl rfl rfl rfl rfl rfl ?_; clear HO; rintro Wbk9 hO; have HO := Lib.hid hO; clear hO; simp only [Act.put]) | (refine wpo_ldc (HO.out.get 0 rfl) tyE _ rfl rfl rfl rfl ?_))
      refine wpo_y2 (yA := (k2, 29, z)) (yB := (k3, 40, #[.int .i64 (rn : Int), .int .i64 (rr : Int), .int .i64 (ra : Int)])) [(54, .agg z), (55, .agg #[.int .i64 (rn : Int), .int .i64 (rr : Int), .int .i64 (ra : Int)])] 5 4 mixed (by kernel_rfl) HO.out rfl rfl (by decide) (fun _ _ _ _ _ h => h) ?_ rfl rfl ?_ ?_ ?_
      · refine ⟨⟨_, rfl, rfl, yo_zero rfl HT.out rfl⟩, ?_⟩
        simp only [Act.put, List.setIfInBounds_toArray, List.set_cons_zero, List.set_cons_succ]
        refine ⟨⟨_, rfl, rfl, yo_load rfl tyX (fun _ h => h.get 0 (by decide) (by decide) rfl) rfl _ rfl rfl⟩, ?_⟩
        exact trivial
      · simp only [putD, Act.put, List.setIfInBounds_toArray, List.set_cons_zero, List.set_cons_succ]
        exact sto_row HT.out _ _ rfl rfl rfl rfl rfl rfl rfl HT.out.one
      · simp only [putD, Act.put, List.setIfInBounds_toArray, List.set_cons_zero, List.set_cons_succ]
        exact sto_row tyX _ _ rfl rfl rfl rfl rfl rfl rfl rfl
      intro WjC hO
      clear HO
      have HO := Lib.hid hO
      clear hO
      simp only [putD, Act.put, List.setIfInBounds_toArray, List.set_cons_zero, List.set_cons_succ]
      go_wp2_with fail
      exact bodyPost_ret (v := .tuple #[.agg z, fltV (rn, rr, ra)]) (res_own2 5 4 HO.out HT.out tyX rfl rfl rfl rfl rfl rfl rfl) rfl ⟨z, HZS.out, HT.out.one, by rw [HQ2.out] <;> rfl, HO.out.bel⟩
  · have HQ2 := Lib.hid (show q = ⟨en, er, ea⟩ by rw [HQ.out, if_neg he])
    have hei : ¬ (en : Int) = 0 := by omega
    clear HQ HFF HNO he
    go_upto_region 7 with (first | (refine wpo_alloc tyX HO.out rfl rfl ?_; clear HO; rintro k7 Wak7 hO; have HO := Lib.hid hO; clear hO; simp only [Act.put, List.setIfInBounds_toArray, List.set_cons_zero, List.set_cons_succ]) | (refine wpo_store (k := k7) HO.out 0 tyX rfl _ _ rfl rfl rfl rfl rfl rfl rfl ?_; clear HO; rintro Wbk7 hO; have HO := Lib.hid hO; clear hO; simp only [Act.put]) | (refine wpo_ldc (HO.out.get 0 rfl) tyE _ rfl rfl rfl rfl ?_))
    refine wpo_y2 (yA := (k2, 29, z)) (yB := (k3, 40, #[.int .i64 (en : Int), .int .i64 (er : Int), .int .i64 (ea : Int)])) [(40, .agg z), (41, .agg #[.int .i64 (en : Int), .int .i64 (er : Int), .int .i64 (ea : Int)])] 4 3 mixed (by kernel_rfl) HO.out rfl rfl (by decide) (fun _ _ _ _ _ h => h) ?_ rfl rfl ?_ ?_ ?_
    · refine ⟨⟨_, rfl, rfl, yo_zero rfl HT.out rfl⟩, ?_⟩
      simp only [Act.put, List.setIfInBounds_toArray, List.set_cons_zero, List.set_cons_succ]
      refine ⟨⟨_, rfl, rfl, yo_load rfl tyX (fun _ h => h.get 0 (by decide) (by decide) rfl) rfl _ rfl rfl⟩, ?_⟩
      exact trivial
    · simp only [putD, Act.put, List.setIfInBounds_toArray, List.set_cons_zero, List.set_cons_succ]
      exact sto_row HT.out _ _ rfl rfl rfl rfl rfl rfl rfl HT.out.one
    · simp only [putD, Act.put, List.setIfInBounds_toArray, List.set_cons_zero, List.set_cons_succ]
      exact sto_row tyX _ _ rfl rfl rfl rfl rfl rfl rfl rfl
    intro WjB hO
    clear HO
    have HO := Lib.hid hO
    clear hO
    simp only [putD, Act.put, List.setIfInBounds_toArray, List.set_cons_zero, List.set_cons_succ]
    go_wp2_with fail
    exact bodyPost_ret (v := .tuple #[.agg z, fltV (en, er, ea)]) (res_own2 4 3 HO.out HT.out tyX rfl rfl rfl rfl rfl rfl rfl) rfl ⟨z, HZS.out, HT.out.one, by rw [HQ2.out] <;> rfl, HO.out.bel⟩
end Go.Proofs.YtinhecggmakbnaaGreatDoor
namespace Go.Proofs.YtinhecggmakbnaaGreatDoor
set_option maxRecDepth 100000
open Go.RowKit Go.Extern.Stop Go.Stop Go.Extern
set_option maxHeartbeats 8000000 in
theorem rdec13_11 {w : World} {s : ByteArray} (hs : s.size ≤ 900000) : Calls Tryz.prog 75 #[.agg #[.int .i64 176, .string s]] w (RDc w (dQ 11 s (rdC 11 s))) := by
  obtain ⟨z, hT, hz26, hz⟩ := tyP_ex
  obtain ⟨q, hq⟩ : ∃ q, q = dQ 11 s (rdC 11 s) := ⟨_, rfl⟩
  rw [← hq]
  unfold dQ at hq
  obtain ⟨⟨e, id, R1⟩, hi⟩ : ∃ i, i = idQ s ⟨0, 0, 0⟩ := ⟨_, rfl⟩
  rw [← hi] at hq
  simp only at hq
  obtain ⟨⟨⟨rn, rr, ra, rL⟩, R2⟩, hF⟩ : ∃ F, F = readF 11 s R1 := ⟨_, rfl⟩
  have hno := readF_no (k := 11) (s := s) (R := R1)
  rw [← hF] at hq hno
  simp only at hq hno
  have HT := Lib.hid hT
  have HZS := Lib.hid hz26
  have HZ := Lib.hid hz
  have HQ := Lib.hid hq
  have HI := Lib.hid hi
  have HFF := Lib.hid hF
  have HNO := Lib.hid hno
  have HSZ := Lib.hid hs
  have HO := Lib.hid (Own.start [] w)
  obtain ⟨y, hy⟩ : ∃ y, y = z.setIfInBounds 0 (.int .i64 11) := ⟨_, rfl⟩
  have HBY := Lib.hid (rbuilt1 HZ.out hy)
  have HYS := Lib.hid (show y.size = z.size by rw [hy]; simp)
  have HY1 := Lib.hid (show y.toList.all (·.oneCell') = true by rw [hy]; exact one_put HT.out.one _ _ rfl)
  have HY0 := Lib.hid (show y[0]? = some (.int .i64 11) by rw [hy, HZ.out]; rfl)
  clear hT hz26 hz hq hi hF hno hs hy
  go_enter Tryz.func75, Tryz.ntmps75
  go_upto_region 1 with (first | (refine wpo_box (t := 33) HO.out _ rfl rfl rfl ?_; clear HO; rintro k1 W1 hO; have HO := Lib.hid hO; clear hO; simp only [Act.put, List.setIfInBounds_toArray, List.set_cons_zero, List.set_cons_succ]) | (refine wpo_alloc HT.out HO.out rfl rfl ?_; clear HO; rintro k2 W2 hO; have HO := Lib.hid hO; clear hO; simp only [Act.put, List.setIfInBounds_toArray, List.set_cons_zero, List.set_cons_succ]) | (refine wpo_alloc tyX HO.out rfl rfl ?_; clear HO; rintro k3 W3 hO; have HO := Lib.hid hO; clear hO; simp only [Act.put, List.setIfInBounds_toArray, List.set_cons_zero, List.set_cons_succ]))
  have f0 : W3.cell? ⟨k1, 0, none⟩ = some (.int .i64 176) := (HO.out.get 2 rfl).cell 0
  go_upto_region 3 with (refine wpo_ldc (HO.out.get 2 rfl) tyI _ rfl rfl rfl rfl ?_)
  clear f0
  go_upto_region 5 with (first | (refine wpo_ldc (HO.out.get 2 rfl) tyI _ rfl rfl rfl rfl ?_) | (refine wpo_box (t := 136) HO.out _ rfl rfl rfl ?_; clear HO; rintro k4 W4 hO; have HO := Lib.hid hO; clear hO; simp only [Act.put, List.setIfInBounds_toArray, List.set_cons_zero, List.set_cons_succ]) | (refine wpo_ldc (HO.out.get 2 rfl) tyS _ rfl rfl rfl rfl ?_) | (refine wpo_ldc (HO.out.get 3 rfl) tyI _ rfl rfl rfl rfl ?_) | (refine wpo_built HBY.out rfl rfl rfl ?_) | (refine wpo_store (k := k5) HO.out 0 HT.out rfl _ _ rfl rfl rfl rfl rfl HYS.out HY1.out ?_; clear HO; rintro W6 hO; have HO := Lib.hid hO; clear hO; simp only [Act.put]) | (refine wpo_alloc HT.out HO.out rfl rfl ?_; clear HO; rintro k5 W5 hO; have HO := Lib.hid hO; clear hO; simp only [Act.put, List.setIfInBounds_toArray, List.set_cons_zero, List.set_cons_succ]))
  have HID := Lib.hid (rid_any (HO.out.rd 1 rfl (R := ⟨0, 0, 0⟩) (Nat.zero_le _)) HSZ.out)
  rw [← HI.out] at HID
  go_wp2_with fail
  refine HID.out.mono ?_
  rintro x V5 ⟨rfl, hn⟩
  have HL1 := Lib.hid hn.obj.le
  have HB := Lib.hid (HO.out.rstep (R' := R1) 1 rfl hn)
  clear HO hn HID
  have HO := HB
  clear HB
  simp only
  obtain ⟨en, er, ea⟩ := e
  simp only at HQ
  by_cases he : en = 0
  · subst he
    rw [if_pos rfl] at HQ
    have HY1S := Lib.hid (show (y.setIfInBounds 1 (.int .i64 (id : Int))).size = z.size by simpa using HYS.out)
    have HY11 := Lib.hid (one_put HY1.out 1 (.int .i64 (id : Int)) rfl)
    have HYJ1 := Lib.hid (show 1 < y.size by rw [HYS.out, HZS.out]; omega)
    have HY10 := Lib.hid (show (y.setIfInBounds 1 (.int .i64 (id : Int)))[0]? = some (.int .i64 11) by rw [Array.getElem?_setIfInBounds_ne (by decide)]; exact HY0.out)
    go_upto_region 9 with (first | (refine wpo_alloc tyX HO.out rfl rfl ?_; clear HO; rintro k7 Wak7 hO; have HO := Lib.hid hO; clear hO; simp only [Act.put, List.setIfInBounds_toArray, List.set_cons_zero, List.set_cons_succ]) | (refine wpo_store (k := k7) HO.out 0 tyX rfl _ _ rfl rfl rfl rfl rfl rfl rfl ?_; clear HO; rintro Wbk7 hO; have HO := Lib.hid hO; clear hO; simp only [Act.put]) | (refine wpo_ldc (HO.out.get 0 rfl) tyE _ rfl rfl rfl rfl ?_) | (refine wpo_cell HO.out 1 1 tyI.ip rfl _ _ rfl rfl rfl rfl HYJ1.out rfl ?_; clear HO; rintro W8 hO; have HO := Lib.hid hO; clear hO; simp only [Act.put]))
    have HRD := Lib.hid (rread_any (HO.out.rd 2 rfl (R := R1) HL1.out) HSZ.out 11)
    rw [← HFF.out] at HRD
    go_wp2_with (refine wpo_ldc (HO.out.get 1 rfl) tyI _ rfl rfl rfl HY10.out ?_)
    refine HRD.out.mono ?_
    rintro x V9 ⟨v5, rfl, hv5, hn⟩
    have HL2 := Lib.hid hn.obj.le
    have HB := Lib.hid (HO.out.rstep (R' := R2) 2 rfl hn)
    clear HO hn HRD
    have HO := HB
    clear HB
    obtain ⟨a5, n5, c5, rfl, -, -⟩ := hv5.some_form
    clear hv5
    by_cases hr : rn = 0
    · subst hr
      rw [if_pos rfl] at HQ
      have hz2 := (by first | exact HNO.out rfl | exact HNO.out trivial : R2.no = 0)
      have HY2S := Lib.hid (show ((y.setIfInBounds 1 (.int .i64 (id : Int))).setIfInBounds 3 (.slice a5 n5 c5)).size = z.size by simpa using HYS.out)
      have HY21 := Lib.hid (one_put HY11.out 3 (.slice a5 n5 c5) rfl)
      have HYJ2 := Lib.hid (show 3 < (y.setIfInBounds 1 (.int .i64 (id : Int))).size by rw [HY1S.out, HZS.out]; omega)
      have HY20 := Lib.hid (show ((y.setIfInBounds 1 (.int .i64 (id : Int))).setIfInBounds 3 (.slice a5 n5 c5))[0]? = some (.int .i64 11) by rw [Array.getElem?_setIfInBounds_ne (by decide)]; exact HY10.out)
      have HZ2 := Lib.hid hz2
      clear hz2 HFF HNO
      go_upto_region 14 with (first | (refine wpo_alloc tyX HO.out rfl rfl ?_; clear HO; rintro k9 Wak9 hO; have HO := Lib.hid hO; clear hO; simp only [Act.put, List.setIfInBounds_toArray, List.set_cons_zero, List.set_cons_succ]) | (refine wpo_store (k := k9) HO.out 0 tyX rfl _ _ rfl rfl rfl rfl rfl rfl rfl ?_; clear HO; rintro Wbk9 hO; have HO := Lib.hid hO; clear hO; simp only [Act.put]) | (refine wpo_ldc (HO.out.get 0 rfl) tyE _ rfl rfl rfl rfl ?_) | (refine wpo_cell HO.out 2 3 tyL.ip rfl _ _ rfl rfl rfl rfl HYJ2.out rfl ?_; clear HO; rintro W12 hO; have HO := Lib.hid hO; clear hO; simp only [Act.put]) | (refine wpo_ldc (HO.out.get 2 rfl) tyI _ rfl rfl rfl HY20.out ?_))
      have HPA := Lib.hid (rcodes_any (k := 11) (HO.out.rd 3 rfl (R := R2) HL2.out) HZ2.out HSZ.out)
      have hpe := ptL_e00 (rd := rdC 11 s) (s := s) 32 [] R2
      obtain ⟨P0, hP⟩ : ∃ P, P = (ptL (rdC 11 s) s 32 [] R2).1 := ⟨_, rfl⟩
      rw [← hP] at HPA HQ hpe
      clear hP
      obtain ⟨pn, pr, pa⟩ := P0
      simp only at HPA hpe
      have HPE0 := Lib.hid hpe
      clear hpe
      go_wp2_with fail
      refine HPA.out.mono ?_
      rintro x V14 ⟨a6, n6, c6, R3, rfl, hn⟩
      have HB := Lib.hid (HO.out.rstep (R' := R3) 3 rfl hn)
      clear HO hn HPA
      have HO := HB
      clear HB
      have HY3S := Lib.hid (show (((y.setIfInBounds 1 (.int .i64 (id : Int))).setIfInBounds 3 (.slice a5 n5 c5)).setIfInBounds 25 (.slice a6 n6 c6)).size = z.size by simpa using HYS.out)
      have HY31 := Lib.hid (one_put HY21.out 25 (.slice a6 n6 c6) rfl)
      have HYJ3 := Lib.hid (show 25 < ((y.setIfInBounds 1 (.int .i64 (id : Int))).setIfInBounds 3 (.slice a5 n5 c5)).size by rw [HY2S.out, HZS.out]; omega)
      by_cases hp : pn = 0
      · subst hp
        have HPE := Lib.hid (by first | exact HPE0.out rfl | exact HPE0.out trivial : (⟨0, pr, pa⟩ : Er) = e00)
        have HQ2 := Lib.hid (show q = ⟨0, pr, pa⟩ from HQ.out)
        clear HQ HPE0
        go_wp2_with (first | (refine wpo_alloc tyX HO.out rfl rfl ?_; clear HO; rintro k11 Wak11 hO; have HO := Lib.hid hO; clear hO; simp only [Act.put, List.setIfInBounds_toArray, List.set_cons_zero, List.set_cons_succ]) | (refine wpo_store (k := k11) HO.out 0 tyX rfl _ _ rfl rfl rfl rfl rfl rfl rfl ?_; clear HO; rintro Wbk11 hO; have HO := Lib.hid hO; clear hO; simp only [Act.put]) | (refine wpo_ldc (HO.out.get 0 rfl) tyE _ rfl rfl rfl rfl ?_) | (refine wpo_cell HO.out 3 25 tyIs.ip rfl _ _ rfl rfl rfl rfl HYJ3.out rfl ?_; clear HO; rintro W15 hO; have HO := Lib.hid hO; clear hO; simp only [Act.put]) | (refine wpo_load HO.out 3 HT.out rfl HY3S.out _ rfl rfl rfl ?_) | (refine wpo_store (k := k2) HO.out 6 HT.out rfl _ _ rfl rfl rfl rfl rfl HY3S.out HY31.out ?_; clear HO; rintro W16 hO; have HO := Lib.hid hO; clear hO; simp only [Act.put]) | (refine wpo_store (k := k3) HO.out 5 tyX rfl _ _ rfl rfl rfl rfl rfl rfl rfl ?_; clear HO; rintro W17 hO; have HO := Lib.hid hO; clear hO; simp only [Act.put]))
        exact bodyPost_ret (v := .tuple #[.agg (((y.setIfInBounds 1 (.int .i64 (id : Int))).setIfInBounds 3 (.slice a5 n5 c5)).setIfInBounds 25 (.slice a6 n6 c6)), fltV (0, 0, 0)]) (res_own2 6 5 HO.out HT.out tyX rfl rfl rfl rfl rfl HY3S.out rfl) rfl ⟨(((y.setIfInBounds 1 (.int .i64 (id : Int))).setIfInBounds 3 (.slice a5 n5 c5)).setIfInBounds 25 (.slice a6 n6 c6)), HY3S.out.trans HZS.out, HY31.out, by rw [HQ2.out, HPE.out] <;> rfl, HO.out.bel⟩
      · have HQ2 := Lib.hid (show q = ⟨pn, pr, pa⟩ from HQ.out)
        have hpi : ¬ (pn : Int) = 0 := by omega
        clear HQ HPE0
        go_upto_region 17 with (first | (refine wpo_alloc tyX HO.out rfl rfl ?_; clear HO; rintro k11 Wak11 hO; have HO := Lib.hid hO; clear hO; simp only [Act.put, List.setIfInBounds_toArray, List.set_cons_zero, List.set_cons_succ]) | (refine wpo_store (k := k11) HO.out 0 tyX rfl _ _ rfl rfl rfl rfl rfl rfl rfl ?_; clear HO; rintro Wbk11 hO; have HO := Lib.hid hO; clear hO; simp only [Act.put]) | (refine wpo_ldc (HO.out.get 0 rfl) tyE _ rfl rfl rfl rfl ?_) | (refine wpo_cell HO.out 3 25 tyIs.ip rfl _ _ rfl rfl rfl rfl HYJ3.out rfl ?_; clear HO; rintro W15 hO; have HO := Lib.hid hO; clear hO; simp only [Act.put]))
        refine wpo_y2 (yA := (k2, 29, z)) (yB := (k3, 40, #[.int .i64 (pn : Int), .int .i64 (pr : Int), .int .i64 (pa : Int)])) [(71, .agg z), (72, .agg #[.int .i64 (pn : Int), .int .i64 (pr : Int), .int .i64 (pa : Int)])] 6 5 mixed (by kernel_rfl) HO.out rfl rfl (by decide) (fun _ _ _ _ _ h => h) ?_ rfl rfl ?_ ?_ ?_
        · refine ⟨⟨_, rfl, rfl, yo_zero rfl HT.out rfl⟩, ?_⟩
          simp only [Act.put, List.setIfInBounds_toArray, List.set_cons_zero, List.set_cons_succ]
          refine ⟨⟨_, rfl, rfl, yo_load rfl tyX (fun _ h => h.get 0 (by decide) (by decide) rfl) rfl _ rfl rfl⟩, ?_⟩
          exact trivial
        · simp only [putD, Act.put, List.setIfInBounds_toArray, List.set_cons_zero, List.set_cons_succ]
          exact sto_row HT.out _ _ rfl rfl rfl rfl rfl rfl rfl HT.out.one
        · simp only [putD, Act.put, List.setIfInBounds_toArray, List.set_cons_zero, List.set_cons_succ]
          exact sto_row tyX _ _ rfl rfl rfl rfl rfl rfl rfl rfl
        intro WjD hO
        clear HO
        have HO := Lib.hid hO
        clear hO
        simp only [putD, Act.put, List.setIfInBounds_toArray, List.set_cons_zero, List.set_cons_succ]
        go_wp2_with fail
        exact bodyPost_ret (v := .tuple #[.agg z, fltV (pn, pr, pa)]) (res_own2 6 5 HO.out HT.out tyX rfl rfl rfl rfl rfl rfl rfl) rfl ⟨z, HZS.out, HT.out.one, by rw [HQ2.out] <;> rfl, HO.out.bel⟩
    · have HQ2 := Lib.hid (show q = ⟨rn, rr, ra⟩ by rw [HQ.out, if_neg hr])
      have hri : ¬ (rn : Int) = 0 := by omega
      clear HQ HFF HNO
      go_upto_region 11 with (first | (refine wpo_alloc tyX HO.out rfl rfl ?_; clear HO; rintro k9 Wak9 hO; have HO := Lib.hid hO; clear hO; simp only [Act.put, List.setIfInBounds_toArray, List.set_cons_zero, List.set_cons_succ]) | (refine wpo_store (k := k9) HO.out 0 tyX rfl _ _ rfl rfl rfl rfl rfl rfl rfl ?_; clear HO; rintro Wbk9 hO; have HO := Lib.hid hO; clear hO; simp only [Act.put]) | (refine wpo_ldc (HO.out.get 0 rfl) tyE _ rfl rfl rfl rfl ?_))
      refine wpo_y2 (yA := (k2, 29, z)) (yB := (k3, 40, #[.int .i64 (rn : Int), .int .i64 (rr : Int), .int .i64 (ra : Int)])) [(54, .agg z), (55, .agg #[.int .i64 (rn : Int), .int .i64 (rr : Int), .int .i64 (ra : Int)])] 5 4 mixed (by kernel_rfl) HO.out rfl rfl (by decide) (fun _ _ _ _ _ h => h) ?_ rfl rfl ?_ ?_ ?_
      · refine ⟨⟨_, rfl, rfl, yo_zero rfl HT.out rfl⟩, ?_⟩
        simp only [Act.put, List.setIfInBounds_toArray, List.set_cons_zero, List.set_cons_succ]
        refine ⟨⟨_, rfl, rfl, yo_load rfl tyX (fun _ h => h.get 0 (by decide) (by decide) rfl) rfl _ rfl rfl⟩, ?_⟩
        exact trivial
      · simp only [putD, Act.put, List.setIfInBounds_toArray, List.set_cons_zero, List.set_cons_succ]
        exact sto_row HT.out _ _ rfl rfl rfl rfl rfl rfl rfl HT.out.one
      · simp only [putD, Act.put, List.setIfInBounds_toArray, List.set_cons_zero, List.set_cons_succ]
        exact sto_row tyX _ _ rfl rfl rfl rfl rfl rfl rfl rfl
      intro WjC hO
      clear HO
      have HO := Lib.hid hO
      clear hO
      simp only [putD, Act.put, List.setIfInBounds_toArray, List.set_cons_zero, List.set_cons_succ]
      go_wp2_with fail
      exact bodyPost_ret (v := .tuple #[.agg z, fltV (rn, rr, ra)]) (res_own2 5 4 HO.out HT.out tyX rfl rfl rfl rfl rfl rfl rfl) rfl ⟨z, HZS.out, HT.out.one, by rw [HQ2.out] <;> rfl, HO.out.bel⟩
  · have HQ2 := Lib.hid (show q = ⟨en, er, ea⟩ by rw [HQ.out, if_neg he])
    have hei : ¬ (en : Int) = 0 := by omega
    clear HQ HFF HNO he
    go_upto_region 7 with (first | (refine wpo_alloc tyX HO.out rfl rfl ?_; clear HO; rintro k7 Wak7 hO; have HO := Lib.hid hO; clear hO; simp only [Act.put, List.setIfInBounds_toArray, List.set_cons_zero, List.set_cons_succ]) | (refine wpo_store (k := k7) HO.out 0 tyX rfl _ _ rfl rfl rfl rfl rfl rfl rfl ?_; clear HO; rintro Wbk7 hO; have HO := Lib.hid hO; clear hO; simp only [Act.put]) | (refine wpo_ldc (HO.out.get 0 rfl) tyE _ rfl rfl rfl rfl ?_))
    refine wpo_y2 (yA := (k2, 29, z)) (yB := (k3, 40, #[.int .i64 (en : Int), .int .i64 (er : Int), .int .i64 (ea : Int)])) [(40, .agg z), (41, .agg #[.int .i64 (en : Int), .int .i64 (er : Int), .int .i64 (ea : Int)])] 4 3 mixed (by kernel_rfl) HO.out rfl rfl (by decide) (fun _ _ _ _ _ h => h) ?_ rfl rfl ?_ ?_ ?_
    · refine ⟨⟨_, rfl, rfl, yo_zero rfl HT.out rfl⟩, ?_⟩
      simp only [Act.put, List.setIfInBounds_toArray, List.set_cons_zero, List.set_cons_succ]
      refine ⟨⟨_, rfl, rfl, yo_load rfl tyX (fun _ h => h.get 0 (by decide) (by decide) rfl) rfl _ rfl rfl⟩, ?_⟩
      exact trivial
    · simp only [putD, Act.put, List.setIfInBounds_toArray, List.set_cons_zero, List.set_cons_succ]
      exact sto_row HT.out _ _ rfl rfl rfl rfl rfl rfl rfl HT.out.one
    · simp only [putD, Act.put, List.setIfInBounds_toArray, List.set_cons_zero, List.set_cons_succ]
      exact sto_row tyX _ _ rfl rfl rfl rfl rfl rfl rfl rfl
    intro WjB hO
    clear HO
    have HO := Lib.hid hO
    clear hO
    simp only [putD, Act.put, List.setIfInBounds_toArray, List.set_cons_zero, List.set_cons_succ]
    go_wp2_with fail
    exact bodyPost_ret (v := .tuple #[.agg z, fltV (en, er, ea)]) (res_own2 4 3 HO.out HT.out tyX rfl rfl rfl rfl rfl rfl rfl) rfl ⟨z, HZS.out, HT.out.one, by rw [HQ2.out] <;> rfl, HO.out.bel⟩
end Go.Proofs.YtinhecggmakbnaaGreatDoor
