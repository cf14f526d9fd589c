/- What is proved here: the document reads a number and its faults. Conditions: the reader is there, with few bytes. What is proved here: what a decoder of parts tells, on plain values. Conditions: few bytes. -/
import Derived.Test.YtinhecggmakbnaaGreatDoorRdx08
import Derived.Test.YtinhecggmakbnaaGreatDoorDcj08
import Derived.Test.YtinhecggmakbnaaGreatDoorRop12
import Derived.Deep.QuietTactic
import Derived.BigQuiet
import Derived.Deep.DeepMust
namespace Go.Proofs.YtinhecggmakbnaaGreatDoor
set_option maxRecDepth 100000
open Go.ChangeShapes Go.WideShapes Go.RowKit Go.Deep Go.Extern.Stop Go.Stop Go.Extern
/-- Parts and a fault, as the document answers them. -/
def PfSays (w : World) (g : Nat) (s : ByteArray) (q : Er) (x : Ending) (w' : World) : Prop := ∃ (a : Option Addr) (n c : Nat) (R' : RV), x = .returned (.tuple #[.slice a n c, fltV (q.no, q.r, q.at_)]) ∧ RRNext w w' g s R'
section
variable {B0 : Nat} {X : List Nat} {w0 w w' : World} {L : OL} {g : Nat} {s : ByteArray} {R : RV} {v : Value} {te : TypeId} {M : List ByteArray} {I : List Int} {V : List SV} {P : Program}
theorem own_rd1 (h : RRObj w g s R) : Own [g] w w [(g, 136, #[.string s, .int .i64 R.p, .int .i64 R.no, .int .i64 R.ea])] := (Own.start [g] w).elder h.blk (List.mem_singleton_self g) (fun _ h => by cases h)
theorem Own.grown (h : Own X w0 w L) (hg : w.grownBy w' v.ownBlock) (ht : ∀ k, v.ownBlock = some k → w0.heap.size ≤ k ∧ ∃ cs, w.heap[k]? = some (.cells cs te (0, 0))) (hL : ∀ x ∈ L, x.2.1 ≠ te) : Own X w0 w' L := by
  refine ⟨h.fr.grown hg fun k hk => .inr (ht k hk).1, fun x hx => (h.blk x hx).grown hg fun he => ?_, h.new, h.nd⟩
  obtain ⟨_, cs, hh⟩ := ht _ he.symm
  exact (h.blk x hx).other hh (hL x hx) rfl
theorem t8_rstep (hr : T8Row w B0 v M) (hO : RRObj w g s R) (hf : Fr [g] w w') : T8Row w' B0 v M := hr.fr hf fun k hk hm => by
  rw [List.mem_singleton] at hm
  subst hm
  obtain ⟨_, _, cs, hh⟩ := hr.lt k hk
  exact hO.blk.other hh (by decide) rfl
theorem i8_rstep (hr : I8Row w B0 v I) (hO : RRObj w g s R) (hf : Fr [g] w w') : I8Row w' B0 v I := hr.fr hf fun k hk hm => by
  rw [List.mem_singleton] at hm
  subst hm
  obtain ⟨_, _, cs, hh⟩ := hr.lt k hk
  exact hO.blk.other hh (by decide) rfl
theorem v8_rstep (hr : V8Row w B0 v V) (hO : RRObj w g s R) (hf : Fr [g] w w') : V8Row w' B0 v V := hr.fr hf fun k hk hm => by
  rw [List.mem_singleton] at hm
  subst hm
  obtain ⟨_, _, cs, hh⟩ := hr.lt k hk
  exact hO.blk.other hh (by decide) rfl
/-- What stands in a slot, and a struct, as results. -/
theorem res_own01 {fn : Func} {tmps : Array Value} {i j h : Nat} {tB : TypeId} {zB cB : Array Value} (n : Nat) (hO : Own X w0 w L) (hTB : Ty P tB zB) (hr : fn.results = #[.tmp i, .cell j tB]) {u : Value} (hi : tmps.getD i undef = u) (hj : tmps.getD j undef = .pointer (some ⟨h, 0, none⟩))
    (hn : L[n]? = some (h, tB, cB)) (nB : cB.size = zB.size) : (results fn tmps).run P w = .ok (.tuple #[u, .agg cB]) w := by
  subst hi
  have h2 := run_load_own hTB (hO.get n hn) nB
  have hj' : tmps[j]?.getD undef = .pointer (some ⟨h, 0, none⟩) := by simpa using hj
  simp [results, hr, hj', asAddr, h2]
theorem own_rr (h : Own [g] w0 w L) (i : Nat) (hi : L[i]? = some (g, 136, #[.string s, .int .i64 R.p, .int .i64 R.no, .int .i64 R.ea])) (hle : R.p ≤ s.size) : RRNext w0 w g s R := ⟨h.rd i hi hle, h.fr⟩
end
/-- What Id tells of a reader. -/
def idQ (s : ByteArray) (R : RV) : Er × Nat × RV := if (rNum s 2 R).2.no = 0 then if (rNum s 2 R).1 = 0 then (⟨3, 130, 0⟩, 0, (rNum s 2 R).2) else (e00, (rNum s 2 R).1, (rNum s 2 R).2) else (⟨(rNum s 2 R).2.no, 129, (rNum s 2 R).2.ea⟩, 0, (rNum s 2 R).2)
def IdF (w : World) (g : Nat) (s : ByteArray) (q : Er × Nat × RV) (x : Ending) (w' : World) : Prop := x = .returned (.tuple #[.int .i64 (q.2.1 : Int), fltV (q.1.no, q.1.r, q.1.at_)]) ∧ RRNext w w' g s q.2.2
set_option maxHeartbeats 4000000 in
theorem rid_any {w : World} {g : Nat} {s : ByteArray} {R : RV} (h : RRObj w g s R) (hs : s.size ≤ 900000) : Calls Tryz.prog 145 #[.pointer (some ⟨g, 0, none⟩)] w (IdF w g s (idQ s R)) := by
  obtain ⟨q, hq⟩ : ∃ q, q = idQ s R := ⟨_, rfl⟩
  rw [← hq]
  unfold idQ at hq
  obtain ⟨⟨id, R1⟩, hr⟩ : ∃ r, r = rNum s 2 R := ⟨_, rfl⟩
  rw [← hr] at hq
  simp only at hq
  have HO := Lib.hid (own_rd1 h)
  have HLE := Lib.hid h.le
  have HSZ := Lib.hid hs
  have HR := Lib.hid hr
  have HQ := Lib.hid hq
  clear h hs hr hq
  go_enter Tryz.func145, Tryz.ntmps145
  go_wp2_with (refine wpo_alloc tyX HO.out rfl rfl ?_; clear HO; rintro k3 W1 hO; have HO := Lib.hid hO; clear hO; simp only [Act.put, List.setIfInBounds_toArray, List.set_cons_zero, List.set_cons_succ])
  have HU := Lib.hid (rru16_any (HO.out.rd 1 rfl HLE.out) (by have := HSZ.out; omega))
  rw [← HR.out] at HU
  refine HU.out.mono ?_
  rintro x V2 ⟨rfl, hn⟩
  have HL1 := Lib.hid hn.obj.le
  have HB := Lib.hid (HO.out.rstep (R' := R1) 1 rfl hn)
  clear HO hn HU
  have HO := HB
  clear HB
  by_cases h0 : R1.no = 0
  · have hq := HQ.out
    rw [if_pos h0] at hq
    have HRE := Lib.hid (HO.out.get 1 rfl)
    rw [h0] at HRE
    clear HQ
    by_cases hi : id = 0
    · rw [if_pos hi] at hq
      have HQ2 := Lib.hid hq
      subst hi
      clear hq
      go_wp2_with (refine wpo_ldc HRE.out tyE _ rfl rfl rfl rfl ?_)
      clear HRE
      refine (ragainst_any 0 _).mono ?_
      rintro x V3 ⟨rfl, hb⟩
      have HB := Lib.hid (HO.out.below hb)
      clear HO hb
      have HO := HB
      clear HB
      go_wp2_with (refine wpo_store (k := k3) HO.out 0 tyX rfl _ _ rfl rfl rfl rfl rfl rfl rfl ?_; clear HO; rintro W4 hO; have HO := Lib.hid hO; clear hO; simp only [Act.put])
      exact bodyPost_ret (v := .tuple #[.int .i64 0, fltV (3, 130, 0)]) (res_own01 0 HO.out tyX rfl rfl rfl rfl rfl) rfl (by rw [HQ2.out]; exact ⟨rfl, own_rr HO.out 1 rfl HL1.out⟩)
    · rw [if_neg hi] at hq
      have HQ2 := Lib.hid hq
      have hib : ((id : Int) == 0) = false := by rw [beq_eq_false_iff_ne]; omega
      clear hq hi
      go_wp2_with (first | (refine wpo_ldc HRE.out tyE _ rfl rfl rfl rfl ?_) | (refine wpo_store (k := k3) HO.out 0 tyX rfl _ _ rfl rfl rfl rfl rfl rfl rfl ?_; clear HO; rintro W4 hO; have HO := Lib.hid hO; clear hO; simp only [Act.put]))
      exact bodyPost_ret (v := .tuple #[.int .i64 (id : Int), fltV (0, 0, 0)]) (res_own01 0 HO.out tyX rfl rfl rfl rfl rfl) rfl (by rw [HQ2.out]; exact ⟨rfl, own_rr HO.out 1 rfl HL1.out⟩)
  · have hq := HQ.out
    rw [if_neg h0] at hq
    have HQ2 := Lib.hid hq
    have hi : ¬ (R1.no : Int) = 0 := by omega
    have HHO := Lib.hid (show ofR (dnR s R1) = (R1.no, 129, R1.ea) by unfold dnR; rw [if_neg h0]; unfold ofR; rw [if_neg h0])
    clear hq HQ h0
    have HOF := Lib.hid (rrof_any (HO.out.rd 1 rfl (R := R1) HL1.out))
    rw [HHO.out, show fltV (R1.no, 129, R1.ea) = .agg #[.int .i64 (R1.no : Int), .int .i64 (129 : Int), .int .i64 (R1.ea : Int)] from rfl] at HOF
    go_wp2_with (refine wpo_ldc (HO.out.get 1 rfl) tyE _ rfl rfl rfl rfl ?_)
    refine HOF.out.mono ?_
    rintro x V3 ⟨rfl, hb⟩
    have HB := Lib.hid (HO.out.below hb)
    clear HO hb HOF
    have HO := HB
    clear HB
    go_wp2_with (refine wpo_store (k := k3) HO.out 0 tyX rfl _ _ rfl rfl rfl rfl rfl rfl rfl ?_; clear HO; rintro W4 hO; have HO := Lib.hid hO; clear hO; simp only [Act.put])
    exact bodyPost_ret (v := .tuple #[.int .i64 0, fltV (R1.no, 129, R1.ea)]) (res_own01 0 HO.out tyX rfl rfl rfl rfl rfl) rfl (by rw [HQ2.out]; exact ⟨rfl, own_rr HO.out 1 rfl HL1.out⟩)
end Go.Proofs.YtinhecggmakbnaaGreatDoor
namespace Go.Proofs.YtinhecggmakbnaaGreatDoor
set_option maxRecDepth 100000
open Go.RowKit Go.Extern.Stop Go.Stop Go.Extern
theorem ptL_e00 {Y : Type} {rd : RV → Er × Y × RV} {s : ByteArray} : ∀ (f : Nat) (L : List Y) (R : RV), (ptL rd s f L R).1.no = 0 → (ptL rd s f L R).1 = e00
  | 0, L, R, h => by
    unfold ptL at h ⊢
    by_cases h1 : s.size ≤ R.p
    · rw [if_pos h1] at h ⊢
      by_cases h2 : L.length = 0
      · rw [if_pos h2] at h; cases h
      · rw [if_neg h2]
    · rw [if_neg h1] at h; cases h
  | f + 1, L, R, h => by
    unfold ptL at h ⊢
    by_cases h1 : s.size ≤ R.p
    · rw [if_pos h1] at h ⊢
      by_cases h2 : L.length = 0
      · rw [if_pos h2] at h; cases h
      · rw [if_neg h2]
    · rw [if_neg h1] at h ⊢
      by_cases h2 : (rd R).1.no = 0
      · rw [if_pos h2] at h ⊢
        exact ptL_e00 f _ _ h
      · rw [if_neg h2] at h
        exact absurd h h2
theorem th_badQ {k : Int} {s : ByteArray} (h : ¬ (idQ s ⟨0, 0, 0⟩).1.no = 0) : (thF k s).e = (idQ s ⟨0, 0, 0⟩).1 := by
  unfold idQ at h ⊢
  unfold thF
  by_cases h1 : (rNum s 2 ⟨0, 0, 0⟩).2.no = 0
  · rw [if_pos h1] at h ⊢
    rw [if_pos h1]
    by_cases h2 : (rNum s 2 ⟨0, 0, 0⟩).1 = 0
    · rw [if_pos h2, if_pos h2]
    · rw [if_neg h2] at h; exact absurd rfl h
  · rw [if_neg h1, if_neg h1]
theorem th_atQ {k : Int} {s : ByteArray} (h : (idQ s ⟨0, 0, 0⟩).1.no = 0) : (idQ s ⟨0, 0, 0⟩).1 = e00 ∧ ((readF k s (idQ s ⟨0, 0, 0⟩).2.2).1.no = 0 → (thF k s).e = e00 ∧ (thF k s).R = (readF k s (idQ s ⟨0, 0, 0⟩).2.2).2) ∧
    (¬ (readF k s (idQ s ⟨0, 0, 0⟩).2.2).1.no = 0 → (thF k s).e = ⟨(readF k s (idQ s ⟨0, 0, 0⟩).2.2).1.no, (readF k s (idQ s ⟨0, 0, 0⟩).2.2).1.r, (readF k s (idQ s ⟨0, 0, 0⟩).2.2).1.at_⟩) := by
  have e : idQ s ⟨0, 0, 0⟩ = (e00, (rNum s 2 ⟨0, 0, 0⟩).1, (rNum s 2 ⟨0, 0, 0⟩).2) ∧ (rNum s 2 ⟨0, 0, 0⟩).2.no = 0 ∧ ¬ (rNum s 2 ⟨0, 0, 0⟩).1 = 0 := by
    unfold idQ at h ⊢
    by_cases h1 : (rNum s 2 ⟨0, 0, 0⟩).2.no = 0
    · rw [if_pos h1] at h ⊢
      by_cases h2 : (rNum s 2 ⟨0, 0, 0⟩).1 = 0
      · rw [if_pos h2] at h; cases h
      · rw [if_neg h2]; exact ⟨rfl, h1, h2⟩
    · rw [if_neg h1] at h; exact absurd h h1
  obtain ⟨e1, e2, e3⟩ := e
  rw [e1]
  refine ⟨rfl, fun h4 => ?_, fun h4 => ?_⟩
  · unfold thF
    rw [if_pos e2, if_neg e3, if_pos h4]
    exact ⟨rfl, rfl⟩
  · unfold thF
    rw [if_pos e2, if_neg e3, if_neg h4]
/-- What a decoder of parts tells. -/
def dQ {Y : Type} (k : Int) (s : ByteArray) (rd : RV → Er × Y × RV) : Er :=
  if (idQ s ⟨0, 0, 0⟩).1.no = 0 then if (readF k s (idQ s ⟨0, 0, 0⟩).2.2).1.no = 0 then (ptL rd s 32 [] (readF k s (idQ s ⟨0, 0, 0⟩).2.2).2).1 else ⟨(readF k s (idQ s ⟨0, 0, 0⟩).2.2).1.no, (readF k s (idQ s ⟨0, 0, 0⟩).2.2).1.r, (readF k s (idQ s ⟨0, 0, 0⟩).2.2).1.at_⟩ else (idQ s ⟨0, 0, 0⟩).1
theorem dQ_of {Y : Type} {k : Int} {s : ByteArray} {rd : RV → Er × Y × RV} {e : Er} (hb : ¬ (thF k s).e.no = 0 → e = (thF k s).e) (hg : (thF k s).e.no = 0 → e = (ptL rd s 32 [] (thF k s).R).1) : e = dQ k s rd := by
  unfold dQ
  by_cases h : (idQ s ⟨0, 0, 0⟩).1.no = 0
  · rw [if_pos h]
    obtain ⟨_, h1, h2⟩ := th_atQ (k := k) h
    by_cases h3 : (readF k s (idQ s ⟨0, 0, 0⟩).2.2).1.no = 0
    · rw [if_pos h3]
      obtain ⟨h4, h5⟩ := h1 h3
      rw [hg (by rw [h4]; rfl), h5]
    · rw [if_neg h3]
      have h4 := h2 h3
      rw [hb (by rw [h4]; exact h3), h4]
  · rw [if_neg h]
    have h1 := th_badQ (k := k) h
    rw [hb (by rw [h1]; exact h), h1]
end Go.Proofs.YtinhecggmakbnaaGreatDoor
