/- What is proved here: an acknowledgement is taken. Conditions: those that each theorem names. -/
import Derived.Test.YtkbinmjbbmejpaaOpe24
namespace Go.Proofs.Ytkbinmjbbmejpaa
open Go.RowKit Go.Extern.Stop Go.Stop Go.Extern Go.Maps
set_option maxRecDepth 100000
theorem tyPk : Ty Try.prog 49 (pk0.cells pa0) := ty_mk (n := 26) (by kernel_rfl) rfl Try.underlying49 rfl (by kernel_rfl) rfl
/-- One is in the state in which a Pubcomp is awaited. -/
def setS (i : Int) (L : FL) : FL := L.map (fun f => if f.id = i then { f with st := 3 } else f)
theorem setS_id (i : Int) (f : FV) : (if f.id = i then { f with st := 3 } else f : FV).id = f.id := by split <;> rfl
theorem setS_pl (i : Int) (f : FV) : (if f.id = i then { f with st := 3 } else f : FV).pl = f.pl := by split <;> rfl
theorem setS_q (i : Int) (f : FV) : (if f.id = i then { f with st := 3 } else f : FV).q = f.q := by split <;> rfl
theorem ids_setS (i : Int) (L : FL) : ids (setS i L) = ids L := by
  unfold ids setS
  rw [List.map_map]
  exact List.map_congr_left fun f _ => setS_id i f
theorem len_setS (i : Int) (L : FL) : (setS i L).length = L.length := List.length_map ..
theorem setS_perm {i : Int} {f : FV} {L : FL} (hf : f ∈ L) (hi : f.id = i) (hd : (L.map ent24).Pairwise (fun p q => p.1 ≠ q.1)) : ((i, { f with st := 3 }) :: wo i (L.map ent24)).Perm ((setS i L).map ent24) := by
  subst hi
  have h1 := (perm_pick (lt_of_mem hf) hd).map (fun p : Int × FV => if p.1 = f.id then (p.1, { p.2 with st := 3 }) else p)
  have e1 : (L.map ent24).map (fun p : Int × FV => if p.1 = f.id then (p.1, { p.2 with st := 3 }) else p) = (setS f.id L).map ent24 := by
    unfold setS
    rw [List.map_map, List.map_map]
    refine List.map_congr_left fun g _ => ?_
    show (if g.id = f.id then (g.id, { g with st := 3 }) else (g.id, g)) = ent24 (if g.id = f.id then { g with st := 3 } else g)
    by_cases h : g.id = f.id
    · rw [if_pos h, if_pos h]; rfl
    · rw [if_neg h, if_neg h]; rfl
  have e2 : (wo f.id (L.map ent24)).map (fun p : Int × FV => if p.1 = f.id then (p.1, { p.2 with st := 3 }) else p) = wo f.id (L.map ent24) := by
    conv => rhs; rw [← List.map_id (wo f.id (L.map ent24))]
    refine List.map_congr_left fun p hp => ?_
    have := (List.mem_filter.1 hp).2
    have h : p.1 ≠ f.id := by simpa using this
    rw [if_neg h]
    rfl
  rw [e1, List.map_cons, e2, if_pos rfl] at h1
  exact h1.symm
section
variable {w : World} {g gp bp bm B : Nat} {L : FL} {last sent : Nat}
theorem OutI.keys (h : OutI w g gp bp bm L last sent) : (L.map ent24).Pairwise (fun p q => p.1 ≠ q.1) := (h.map.apart KI).imp fun hne e => hne (congrArg intKE.kl e)
/-- The state of one is set. -/
theorem OutI.rel (h : OutI w g gp bp bm L last sent) {f : FV} (hf : f ∈ L) : ∃ W', (Instr.mapUpdate 30 (.map (some bm)) (.int .i64 f.id) (FV.agg { f with st := 3 })).run Try.prog w = .ok () W' ∧ Out3 w g gp bp bm (setS f.id L) last sent W' ∧ ∀ y t cs, Blk w y t cs → Blk W' y t cs := by
  have hi : f.id ∈ ids L := List.mem_map.2 ⟨f, hf, rfl⟩
  obtain ⟨n1, n2, n3, n4, n5⟩ := h.nef
  obtain ⟨W', hrun, hm, hg⟩ := h.map.put (x := f.id) KI Try.underlying30 intKE_inj (by rw [List.length_map]; have := h.len; have := h.few; unfold maxLen; omega) (intKE_ok Try.underlying3 (wf_id (h.range hi))) ({ f with st := 3 } : FV)
  have hm2 := hm.perm (setS_perm hf rfl h.keys)
  have hf1 : Fr [bm] w W' := (Fr.refl _ _).grown hg (fun b hb => by injection hb with hb; subst hb; exact .inl (List.mem_singleton_self _))
  have hfr : Fr [g, gp, bp, bm] w W' := hf1.mono (fun b hb _ => by simp at hb; subst hb; simp)
  refine ⟨W', hrun, ⟨⟨h.blk.fr hf1 (by simpa using n3), ?_, hm2, h.ne, ?_, ?_, ?_, h.few, ?_⟩, hfr⟩, fun y t cs hb => hb.fr hf1 (by simpa using h.map.ne hb)⟩
  · rw [ids_setS, len_setS]
    exact ⟨⟨h.pids.is.1.fr hf1 (by simpa using n5), h.pids.is.2.fr hf1 (by simpa using Ne.symm h.ne)⟩, h.pids.ok⟩
  · unfold setS
    rw [List.pairwise_map]
    exact h.ord.imp fun {a b} hab => by rw [setS_pl, setS_pl]; exact hab
  · intro x hx
    obtain ⟨y, hy, rfl⟩ := List.mem_map.1 hx
    rw [setS_pl]
    exact h.le y hy
  · rw [len_setS]
    exact h.len
  · intro x hx
    obtain ⟨y, hy, rfl⟩ := List.mem_map.1 hx
    rw [setS_q]
    exact h.props.fr hfr h.noprop y hy
/-- What an acknowledgement answers. -/
def AckR (w : World) (n : Int) (m : MV) (g gp bp bm : Nat) (L : FL) (last sent : Nat) (x : Ending) (w' : World) : Prop :=
  ∃ pa pc, x = .returned (.tuple #[.int .i64 n, QV.agg ⟨m, pa, pc⟩]) ∧ PIn w' 0 pa m.props ∧ Out3 w g gp bp bm L last sent w'
theorem OutI.same (h : OutI w g gp bp bm L last sent) {w' : World} (hb : Below w.heap.size w w') : Out3 w g gp bp bm L last sent w' := ⟨h.below hb, Fr.of_below hb⟩
set_option maxHeartbeats 4000000 in
/-- It is none's, or of another state. -/
theorem ack_no (h : OutI w g gp bp bm L last sent) (c : Array Value) (hc : c.size = 26) (k i r : Int) (h0 : c[0]? = some (.int .i64 k)) (h1 : c[1]? = some (.int .i64 i)) (h2 : c[2]? = some (.int .i64 r)) (hi : (Lit.int .i64 i).wf = true)
    {v : FV} {b : Bool} (hv : (b = true ∧ v ∈ L ∧ v.id = i) ∨ (b = false ∧ v = f0 ∧ i ∉ ids L)) {n : Int} (hn : n = ansR (endsOf k) r v.st b) (hn2 : n = 0 ∨ n = 5) :
    Calls Try.prog 12 #[.pointer (some ⟨g, 0, none⟩), .agg c] w (AckR w n m0 g gp bp bm L last sent) := by
  have HO := Lib.hid (Own.start [] w)
  have HH := Lib.hid h
  have HG := Lib.hid (fun W (hb : Below w.heap.size w W) => get_any (h.below hb) i hi hv)
  have HA := Lib.hid (fun W => ans_any c k r v.st b h0 h2 W)
  rw [← hn] at HA
  have H0 := Lib.hid (And.intro h0 (And.intro h1 h2))
  have HC := Lib.hid hc
  have HS : Hid (v.cells.toArray.size = f0.cells.toArray.size ∧ v.cells.toArray.toList.all (·.oneCell') = true) := Lib.hid ⟨rfl, by rw [List.all_eq_true]; exact fun u hu => fv_one v u (by simpa using hu)⟩
  have HST : Hid (v.cells.toArray[1]? = some (.int .i64 v.st)) := Lib.hid rfl
  rw [FV.agg_eq] at HG
  clear h h0 h1 h2 hi hv hn hc
  generalize v.cells.toArray = vc at *
  go_enter Try.func12, Try.ntmps12
  go_upto_region 1 with (first
    | (refine wpo_box HO.out _ rfl rfl rfl ?_; clear HO; rintro k2 W1 hO; have HO := Lib.hid hO; clear hO; simp only [Act.put, List.setIfInBounds_toArray, List.set_cons_zero, List.set_cons_succ])
    | (refine wpo_alloc tyMs HO.out rfl rfl ?_; clear HO; rintro k3 W1 hO; have HO := Lib.hid hO; clear hO; simp only [Act.put, List.setIfInBounds_toArray, List.set_cons_zero, List.set_cons_succ]))
  have c1 := ((HO.out.get 1 rfl).cell 1).trans H0.out.2.1
  have HG2 := Lib.hid (HG.out _ HO.out.bel)
  go_wp2_with fail
  refine HG2.out.mono ?_
  rintro x V1 ⟨rfl, hb⟩
  have HB := Lib.hid (HO.out.below hb)
  clear HO hb HG2 c1
  have HO := HB
  clear HB
  go_upto_region 2 with (first
    | (refine wpo_alloc tyFt HO.out rfl rfl ?_; clear HO; rintro k4 W2 hO; have HO := Lib.hid hO; clear hO; simp only [Act.put, List.setIfInBounds_toArray, List.set_cons_zero, List.set_cons_succ])
    | (refine wpo_store (k := k4) HO.out 0 tyFt rfl _ _ rfl rfl rfl rfl rfl HS.out.1 HS.out.2 ?_; clear HO; rintro W3 hO; have HO := Lib.hid hO; clear hO; simp only [Act.put]))
  have c1 := ((HO.out.get 0 rfl).cell 1).trans HST.out
  have HA2 := Lib.hid (HA.out W3)
  go_wp2_with (refine wpo_load (k := k2) HO.out 2 tyPk rfl HC.out _ rfl rfl rfl ?_; simp only [Act.put, List.setIfInBounds_toArray, List.set_cons_zero, List.set_cons_succ])
  refine HA2.out.mono ?_
  rintro x V2 ⟨rfl, hb⟩
  have HB := Lib.hid (HO.out.below hb)
  clear HO hb HA2 c1
  have HO := HB
  clear HB
  rcases hn2 with rfl | rfl
  all_goals
    go_wp2_with (first
      | (refine wpo_zero tyMs rfl rfl ?_)
      | (refine wpo_store (k := k3) HO.out 1 tyMs rfl _ _ rfl rfl rfl rfl rfl rfl rfl ?_; clear HO; rintro W5 hO; have HO := Lib.hid hO; clear hO; simp only [Act.put]))
    exact bodyPost_ret (v := .tuple #[.int .i64 _, .agg zq]) (res_own01 1 HO.out tyMs rfl rfl rfl rfl rfl) rfl ⟨none, 0, rfl, PIn.nil _ _ _, HH.out.same HO.out.bel⟩
end
end Go.Proofs.Ytkbinmjbbmejpaa
