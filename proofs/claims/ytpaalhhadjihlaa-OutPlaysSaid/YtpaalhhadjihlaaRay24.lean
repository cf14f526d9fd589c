/- What is proved here: the document takes an acknowledgement. Conditions: those that each theorem names. What is proved here: the document takes an acknowledgement: the walks. Conditions: those that each theorem names. What is proved here: the document takes whatever acknowledgement. Conditions: those that each theorem names. -/
import Derived.Test.YtpaalhhadjihlaaRsy24
namespace Go.Proofs.Ytpaalhhadjihlaa
open Go.RowKit Go.Extern.Stop Go.Stop Go.Extern Go.Maps Go.Deep
set_option maxRecDepth 100000
set_option linter.unusedSimpArgs false
/-- What an acknowledgement of this answer leaves, and gives. -/
def ackD (n i : Int) (D : FL) : FL := if n = 0 ∨ n = 5 then D else if n = 3 then setS i D else wof i D
def ackM (n : Int) (m : MV) : MV := if n = 0 ∨ n = 5 then m0 else m
def ackL (n i : Int) (LP : List Int) : List Int := if n = 0 ∨ n = 5 ∨ n = 3 then LP else without i LP
def RAckSays (w : World) (B x xp : Nat) (kd i r : Int) (D : FL) (last : Nat) (LP : List Int) (e : Ending) (w' : World) : Prop :=
  ∃ (f : FV) (b : Bool), ((b = true ∧ f ∈ D ∧ f.id = i) ∨ (b = false ∧ f = f0 ∧ i ∉ ids D)) ∧ ∃ (q : QV) (v' : Value), e = .returned (.tuple #[.int .i64 (ansR (endsOf kd) r f.st b), q.agg]) ∧ q.m = ackM (ansR (endsOf kd) r f.st b) f.q.m ∧ PIn w' B q.pa q.m.props ∧ RfI w' B x xp v' (ackD (ansR (endsOf kd) r f.st b) i D) last (ackL (ansR (endsOf kd) r f.st b) i LP) ∧ RN B w w'
theorem RN.keeps {B : Nat} {w w' : World} (h : RN B w w') {b : Nat} {t : TypeId} {cs : Array Value} (hb : Blk w b t cs) (h1 : t ≠ 60) (h2 : t ≠ 90) (h3 : t ≠ 71) (h4 : t ≠ 3) : Blk w' b t cs := by
  obtain ⟨X, hf, hX⟩ := h
  refine hb.fr hf fun hm => ?_
  obtain ⟨_, cur, t', f, hh, ht⟩ := hX b hm
  have h5 : w.heap[b]? = some (.cells cs t (0, 0)) := hb
  rw [h5] at hh
  injection hh with hh
  injection hh with _ hq _
  subst hq
  rcases ht with e | e | e | e
  · exact h1 e
  · exact h2 e
  · exact h3 e
  · exact h4 e
theorem RN.newer {B : Nat} {w W W' : World} {Y : List Nat} (h : RN B w W) (hf : Fr Y W W') (hY : ∀ y ∈ Y, w.heap.size ≤ y) : RN B w W' := by
  obtain ⟨X, h1, hX⟩ := h
  exact ⟨X, h1.trans hf fun b hb hlt => by have := hY b hb; omega, hX⟩
theorem yo_ldq {ops : Array Oper} {op : Oper} {a : Act} {S : World → Prop} {k of : Nat} {t : TypeId} {c : Array Value} (hw : Region.wanted op (yielded ops a.tmps) = true) (hS : ∀ w, S w → Blk w k t c) (q : QV) (hq : ∀ j u, q.cells[j]? = some u → c[of + j]? = some u) (x : Operand) (ho : op.op = .load 36 x) (hx : a.eval x = .pointer (some ⟨k, of, none⟩)) : YieldsIf Try.prog ops S op q.agg a :=
  .inl ⟨hw, fun w hw' => by
    obtain ⟨d, hu, hd⟩ := tyMs.un
    have hl := run_loadVar_mid (P := Try.prog) w k of 36 q.cells d (fun j v hv => by
      rw [(hS w hw').cell (of + j)]
      exact hq j v hv) hu hd tyMs.ip
    unfold execOp
    simp only [ho, hx, Instr.loadAt, Instr.sureAddr, Sem.run_bind, Sem.run_pure, Result.andThen_ok, hl]
    rfl⟩
theorem set_setS {D : FL} {k0 : Nat} (hk : k0 < D.length) (hd : (ids D).Nodup) : D.set k0 (st3 (D.getD k0 f0)) = setS (D.getD k0 f0).id D := by
  obtain ⟨g, hg⟩ : ∃ g, g = D.getD k0 f0 := ⟨_, rfl⟩
  rw [← hg]
  rw [getD_at2 hk] at hg
  unfold setS
  apply List.ext_getElem
  · rw [List.length_set, List.length_map]
  · intro j h1 h2
    have hj : j < D.length := by rwa [List.length_set] at h1
    rw [List.getElem_map, List.getElem_set]
    by_cases e : k0 = j
    · subst e
      have hc : D[k0].id = g.id := by rw [hg]
      rw [if_pos rfl, if_pos hc, ← hg]
      rfl
    · rw [if_neg e, if_neg]
      intro he
      have he2 : D[j].id = D[k0].id := he.trans (by rw [hg])
      have hp := List.pairwise_iff_getElem.1 hd
      rcases Nat.lt_or_gt_of_ne e with h | h
      · exact hp k0 j (by simpa [ids] using hk) (by simpa [ids] using hj) h (by simp [ids, he2])
      · exact hp j k0 (by simpa [ids] using hj) (by simpa [ids] using hk) h (by simp [ids, he2])
end Go.Proofs.Ytpaalhhadjihlaa
namespace Go.Proofs.Ytpaalhhadjihlaa
open Go.RowKit Go.Extern.Stop Go.Stop Go.Extern Go.Maps Go.Deep
set_option maxRecDepth 100000
set_option maxHeartbeats 4000000 in
theorem rack1_any {w : World} {B x xp last : Nat} {v : Value} {D : FL} {LP : List Int} (h : RfI w B x xp v D last LP) (hnd : (ids D).Nodup) (c : Array Value) (i r : Int) (h0 : c[0]? = some (.int .i64 4)) (h1 : c[1]? = some (.int .i64 i)) (h2 : c[2]? = some (.int .i64 r)) :
    Calls Try.prog 12 #[.pointer (some ⟨x, 0, none⟩), .agg c] w (RAckSays w B x xp 4 i r D last LP) := by
  obtain ⟨a0, c0, rfl⟩ := h.form
  have HR := Lib.hid h
  have HD := Lib.hid hnd
  have HC := Lib.hid (And.intro h0 (And.intro h1 h2))
  have HO := Lib.hid (Own.start [] w)
  have HL := Lib.hid h.few
  obtain ⟨n, hn⟩ : ∃ n, n = D.length := ⟨_, rfl⟩
  have HN := Lib.hid hn
  rw [← hn] at HR
  have hnm : n ≤ 1000 := by have := HL.out; omega
  clear h hnd h0 h1 h2 hn
  go_enter Try.func12, Try.ntmps12
  go_upto_region 1 with (first
    | (refine wpo_box (t := 49) HO.out _ rfl rfl rfl ?_; clear HO; rintro k3 W1 hO; have HO := Lib.hid hO; clear hO; simp only [Act.put, List.setIfInBounds_toArray, List.set_cons_zero, List.set_cons_succ])
    | (refine wpo_alloc tyMs HO.out rfl rfl ?_; clear HO; rintro k5 W2 hO; have HO := Lib.hid hO; clear hO; simp only [Act.put, List.setIfInBounds_toArray, List.set_cons_zero, List.set_cons_succ]))
  have b0 := ((HO.out.get 1 rfl).cell 0).trans HC.out.1
  go_wp2_with fail
  clear b0
  go_loopw [7] (fun ii wr => ∃ k : Nat, k ≤ n ∧ ii = .int .i64 k ∧ Hid (∀ j, j < k → (D.getD j f0).id ≠ i) ∧ Hid (Own [] w wr [(k5, 36, zq), (k3, 49, c)])) (fun ii _ => n - (intOf ii).toNat)
  case atStart => exact ⟨0, Nat.zero_le _, rfl, Lib.hid (fun j hj => by omega), HO⟩
  case round =>
    obtain ⟨k, hk, rfl, HNE, HO⟩ := hrel
    have HRr := Lib.hid (HR.out.below HO.out.bel)
    have x1 := HRr.out.blk.cell 1
    by_cases hlt : k < n
    · have HKL := Lib.hid (show k < D.length by have := HN.out; omega)
      obtain ⟨gr, rfl, hg, hcc⟩ := HRr.out.row.cell (by have := HKL.out; omega)
      obtain ⟨f, hf⟩ : ∃ f, f = D.getD k f0 := ⟨_, rfl⟩
      have HF := Lib.hid hf
      have HFM := Lib.hid (show f ∈ D from by rw [hf]; exact fmem HKL.out)
      have HS : Hid (f.gcells.size = f0.gcells.size ∧ f.gcells.toList.all (·.oneCell') = true) := Lib.hid ⟨rfl, by have := gv_one f; rwa [← Array.all_toList] at this⟩
      have HLD := Lib.hid (show (D.getD k f0).gcells = f.gcells from by rw [hf])
      have HC0 : Hid (f.gcells[0]? = some (.int .i64 f.id) ∧ f.gcells[1]? = some (.int .i64 f.st)) := Lib.hid ⟨rfl, rfl⟩
      have HQ := Lib.hid (gq_at f)
      have HQS : Hid (f.q.cells.toArray.size = zq.size ∧ f.q.cells.toArray.toList.all (·.oneCell') = true) := Lib.hid ⟨rfl, by simp [QV.cells, Value.oneCell']⟩
      generalize f.gcells = fc at *
      clear hcc hg hf
      go_upto_region 14 with (first
        | (refine wpl_load HRr.out.row HKL.out _ rfl rfl rfl (by omega) ?_; rw [HLD.out]; simp only [Act.put, List.setIfInBounds_toArray, List.set_cons_zero, List.set_cons_succ])
        | (refine wpo_alloc tyFl HO.out rfl rfl ?_; clear HO; rintro k8 W2 hO; have HO := Lib.hid hO; clear hO; simp only [Act.put, List.setIfInBounds_toArray, List.set_cons_zero, List.set_cons_succ])
        | (refine wpo_store (k := k8) HO.out 0 tyFl rfl _ _ rfl rfl rfl rfl rfl HS.out.1 HS.out.2 ?_; clear HO; rintro W3 hO; have HO := Lib.hid hO; clear hO; simp only [Act.put]))
      clear x1
      have c80 := ((HO.out.get 0 rfl).cell 0).trans HC0.out.1
      have c81 := ((HO.out.get 0 rfl).cell 1).trans HC0.out.2
      have c31 := ((HO.out.get 2 rfl).cell 1).trans HC.out.2.1
      have HR3 := Lib.hid (HR.out.below HO.out.bel)
      by_cases hid : f.id = i
      · have e1 : ((f.id : Int) != i) = false := by simp [hid]
        have HID := Lib.hid hid
        clear hid
        by_cases hst : f.st = 1
        · have HST := Lib.hid hst
          rw [hst] at c81
          clear hst
          have c32 := ((HO.out.get 2 rfl).cell 2).trans HC.out.2.2
          have HBA := Lib.hid (badr_any r W3)
          go_wp2_with fail
          refine HBA.out.mono ?_
          rintro e W9 ⟨rfl, rfl⟩
          clear HBA c32
          cases hbad : badI r with
          | true =>
            have HBAD := Lib.hid hbad
            clear hbad
            have HS := Lib.hid (rset0_any HR3.out HKL.out HD.out)
            rw [← HF.out] at HS
            go_wp2_with fail
            refine HS.out.mono ?_
            rintro e W4 ⟨rfl, v4, hr4, hrn, hfl⟩
            have b8 := hfl k8 fc (HO.out.get 0 rfl)
            have b5 := hrn.keeps (HO.out.get 1 rfl) (by decide) (by decide) (by decide) (by decide)
            have hk58 : k8 ∉ [k5] := by
              rw [List.mem_singleton]
              exact fun e => (HO.out.get 0 rfl).other (e ▸ HO.out.get 1 rfl) (by decide) rfl
            have hk5w : w.heap.size ≤ k5 := own_ge HO.out 1 rfl
            have HB8 := Lib.hid (And.intro b8 hk58)
            have HO4 := Lib.hid ((Own.start [k5] W4).elder b5 (List.mem_singleton_self _) (fun _ h => by cases h))
            have HR4 := Lib.hid (And.intro hr4 (And.intro ((RN.of_below HO.out.bel).trans hrn) (hrn.pin (HR3.out.ms f HFM.out).1 (Nat.le_refl _))))
            have HK5 := Lib.hid hk5w
            clear hr4 hrn hfl b8 b5 hk58 hk5w HS HO c80 c81 c31
            go_upto_region 22 with fail
            refine wpo_y1 (yA := (k5, 36, f.q.cells.toArray)) [(59, .pointer (some ⟨k8, 2, none⟩)), (60, .agg f.q.cells.toArray), (4, .int .i64 2)] 0 mixed (by kernel_rfl) HO4.out rfl (fun _ _ _ _ _ h => h) ?_ rfl ?_ ?_
            · refine ⟨⟨_, rfl, rfl, Or.inl ⟨rfl, fun w' _ => ?_⟩⟩, ?_⟩
              · go_simp
              simp only [Act.put, List.setIfInBounds_toArray, List.set_cons_zero, List.set_cons_succ]
              refine ⟨⟨_, rfl, rfl, yo_ldq rfl (fun W hS => by obtain ⟨M, hM, _⟩ := hS; exact hM.eld HB8.out.1 HB8.out.2) f.q HQ.out _ rfl rfl⟩, ?_⟩
              simp only [Act.put, List.setIfInBounds_toArray, List.set_cons_zero, List.set_cons_succ]
              refine ⟨⟨_, rfl, rfl, Or.inl ⟨rfl, fun w' _ => ?_⟩⟩, trivial⟩
              go_simp
            · simp only [putD, Act.put, List.setIfInBounds_toArray, List.set_cons_zero, List.set_cons_succ]
              exact sto_row tyMs _ _ rfl rfl rfl rfl rfl rfl HQS.out.1 HQS.out.2
            · intro W5 hO5
              simp only [putD, Act.put, List.setIfInBounds_toArray, List.set_cons_zero, List.set_cons_succ]
              have HO5 := Lib.hid hO5
              clear hO5
              go_wp2_with fail
              have hX : ∀ b ∈ [k5], B ≤ b ∧ ∀ t cur, W4.heap[b]? = some (.cells cur t (0, 0)) → t = 36 := fun b hb => by
                rw [List.mem_singleton] at hb
                subst hb
                refine ⟨Nat.le_trans HR.out.size HK5.out, fun t cur hc => ?_⟩
                have hh : W4.heap[b]? = some (.cells _ 36 (0, 0)) := HO4.out.get 0 rfl
                rw [hc] at hh
                injection hh with hh
                injection hh with _ ht _
              have hr5 := HR4.out.1.fr HO5.out.fr (fun b hb => ⟨(hX b hb).1, fun t cur hc => by
                have := (hX b hb).2 t cur hc
                subst this
                exact ⟨by decide, by decide, by decide, by decide, by decide⟩⟩)
              have hn : ansR (endsOf 4) r f.st true = 2 := by rw [HST.out]; simp [ansR, endsOf, HBAD.out]
              refine bodyPost_ret (v := .tuple #[.int .i64 2, .agg f.q.cells.toArray]) (res_own01 0 HO5.out tyMs rfl rfl rfl rfl rfl) rfl ⟨f, true, .inl ⟨rfl, HFM.out, HID.out⟩, f.q, v4, by rw [hn]; rfl, by rw [hn]; rfl, HR4.out.2.2.fr HO5.out.fr (fun b hb => ⟨(hX b hb).1, fun cs hc => absurd ((hX b hb).2 _ _ hc) (by decide)⟩), ?_, HR4.out.2.1.newer HO5.out.fr (fun b hb => by rw [List.mem_singleton] at hb; subst hb; exact HK5.out)⟩
              rw [hn, ← HID.out]
              exact hr5
          | false =>
            have HBAD := Lib.hid hbad
            clear hbad
            have HS := Lib.hid (rset0_any HR3.out HKL.out HD.out)
            rw [← HF.out] at HS
            go_wp2_with fail
            refine HS.out.mono ?_
            rintro e W4 ⟨rfl, v4, hr4, hrn, hfl⟩
            have b8 := hfl k8 fc (HO.out.get 0 rfl)
            have b5 := hrn.keeps (HO.out.get 1 rfl) (by decide) (by decide) (by decide) (by decide)
            have hk58 : k8 ∉ [k5] := by
              rw [List.mem_singleton]
              exact fun e => (HO.out.get 0 rfl).other (e ▸ HO.out.get 1 rfl) (by decide) rfl
            have hk5w : w.heap.size ≤ k5 := own_ge HO.out 1 rfl
            have HB8 := Lib.hid (And.intro b8 hk58)
            have HO4 := Lib.hid ((Own.start [k5] W4).elder b5 (List.mem_singleton_self _) (fun _ h => by cases h))
            have HR4 := Lib.hid (And.intro hr4 (And.intro ((RN.of_below HO.out.bel).trans hrn) (hrn.pin (HR3.out.ms f HFM.out).1 (Nat.le_refl _))))
            have HK5 := Lib.hid hk5w
            clear hr4 hrn hfl b8 b5 hk58 hk5w HS HO c80 c81 c31
            go_upto_region 27 with fail
            refine wpo_y1 (yA := (k5, 36, f.q.cells.toArray)) [(72, .pointer (some ⟨k8, 2, none⟩)), (73, .agg f.q.cells.toArray), (4, .int .i64 1)] 0 mixed (by kernel_rfl) HO4.out rfl (fun _ _ _ _ _ h => h) ?_ rfl ?_ ?_
            · refine ⟨⟨_, rfl, rfl, Or.inl ⟨rfl, fun w' _ => ?_⟩⟩, ?_⟩
              · go_simp
              simp only [Act.put, List.setIfInBounds_toArray, List.set_cons_zero, List.set_cons_succ]
              refine ⟨⟨_, rfl, rfl, yo_ldq rfl (fun W hS => by obtain ⟨M, hM, _⟩ := hS; exact hM.eld HB8.out.1 HB8.out.2) f.q HQ.out _ rfl rfl⟩, ?_⟩
              simp only [Act.put, List.setIfInBounds_toArray, List.set_cons_zero, List.set_cons_succ]
              refine ⟨⟨_, rfl, rfl, Or.inl ⟨rfl, fun w' _ => ?_⟩⟩, trivial⟩
              go_simp
            · simp only [putD, Act.put, List.setIfInBounds_toArray, List.set_cons_zero, List.set_cons_succ]
              exact sto_row tyMs _ _ rfl rfl rfl rfl rfl rfl HQS.out.1 HQS.out.2
            · intro W5 hO5
              simp only [putD, Act.put, List.setIfInBounds_toArray, List.set_cons_zero, List.set_cons_succ]
              have HO5 := Lib.hid hO5
              clear hO5
              go_wp2_with fail
              have hX : ∀ b ∈ [k5], B ≤ b ∧ ∀ t cur, W4.heap[b]? = some (.cells cur t (0, 0)) → t = 36 := fun b hb => by
                rw [List.mem_singleton] at hb
                subst hb
                refine ⟨Nat.le_trans HR.out.size HK5.out, fun t cur hc => ?_⟩
                have hh : W4.heap[b]? = some (.cells _ 36 (0, 0)) := HO4.out.get 0 rfl
                rw [hc] at hh
                injection hh with hh
                injection hh with _ ht _
              have hr5 := HR4.out.1.fr HO5.out.fr (fun b hb => ⟨(hX b hb).1, fun t cur hc => by
                have := (hX b hb).2 t cur hc
                subst this
                exact ⟨by decide, by decide, by decide, by decide, by decide⟩⟩)
              have hn : ansR (endsOf 4) r f.st true = 1 := by rw [HST.out]; simp [ansR, endsOf, HBAD.out]
              refine bodyPost_ret (v := .tuple #[.int .i64 1, .agg f.q.cells.toArray]) (res_own01 0 HO5.out tyMs rfl rfl rfl rfl rfl) rfl ⟨f, true, .inl ⟨rfl, HFM.out, HID.out⟩, f.q, v4, by rw [hn]; rfl, by rw [hn]; rfl, HR4.out.2.2.fr HO5.out.fr (fun b hb => ⟨(hX b hb).1, fun cs hc => absurd ((hX b hb).2 _ _ hc) (by decide)⟩), ?_, HR4.out.2.1.newer HO5.out.fr (fun b hb => by rw [List.mem_singleton] at hb; subst hb; exact HK5.out)⟩
              rw [hn, ← HID.out]
              exact hr5
        · have e2 : ((f.st : Int) != 1) = true := by simpa using hst
          have HST := Lib.hid hst
          clear hst
          go_wp2_with (first
            | (refine wpo_zero tyMs rfl rfl ?_)
            | (refine wpo_store (k := k5) HO.out 1 tyMs rfl _ _ rfl rfl rfl rfl rfl rfl rfl ?_; clear HO; rintro W5 hO; have HO := Lib.hid hO; clear hO; simp only [Act.put]))
          have hn : ansR (endsOf 4) r f.st true = 5 := by have := HST.out; simp [ansR, endsOf, this]
          refine bodyPost_ret (v := .tuple #[.int .i64 5, .agg zq]) (res_own01 1 HO.out tyMs rfl rfl rfl rfl rfl) rfl ⟨f, true, .inl ⟨rfl, HFM.out, HID.out⟩, q0, _, by rw [hn]; rfl, by rw [hn]; rfl, PIn.nil _ _ _, by rw [hn]; exact HR.out.below HO.out.bel, RN.of_below HO.out.bel⟩
      · have e1 : ((f.id : Int) != i) = true := by simpa using hid
        have HNI := Lib.hid (show ∀ j, j < k + 1 → (D.getD j f0).id ≠ i from fun j hj => by
          rcases Nat.lt_succ_iff_lt_or_eq.1 hj with hj | rfl
          · exact HNE.out j hj
          · rw [← HF.out]; exact hid)
        clear hid
        go_wp2_with fail
        go_roundw
        case rel => exact ⟨k + 1, by omega, by go_num, HNI, Lib.hid (HO.out.drop 0)⟩
        case measure => simp [intOf]; omega
    · have hni : i ∉ ids D := by
        intro hm
        obtain ⟨f, hf, rfl⟩ := List.mem_map.1 hm
        obtain ⟨j, hj, rfl⟩ := List.getElem_of_mem hf
        exact HNE.out j (by have := HN.out; omega) (by rw [getD_at2 hj])
      have HNI := Lib.hid hni
      clear hni
      go_wp2_with (first
        | (refine wpo_zero tyMs rfl rfl ?_)
        | (refine wpo_store (k := k5) HO.out 0 tyMs rfl _ _ rfl rfl rfl rfl rfl rfl rfl ?_; clear HO; rintro W5 hO; have HO := Lib.hid hO; clear hO; simp only [Act.put]))
      have hn : ansR (endsOf 4) r f0.st false = 0 := by simp [ansR, endsOf]
      refine bodyPost_ret (v := .tuple #[.int .i64 0, .agg zq]) (res_own01 0 HO.out tyMs rfl rfl rfl rfl rfl) rfl ⟨f0, false, .inr ⟨rfl, rfl, HNI.out⟩, q0, _, by rw [hn]; rfl, by rw [hn]; rfl, PIn.nil _ _ _, by rw [hn]; exact HR.out.below HO.out.bel, RN.of_below HO.out.bel⟩
set_option maxHeartbeats 4000000 in
theorem rack2_any {w : World} {B x xp last : Nat} {v : Value} {D : FL} {LP : List Int} (h : RfI w B x xp v D last LP) (hnd : (ids D).Nodup) (c : Array Value) (i r : Int) (h0 : c[0]? = some (.int .i64 5)) (h1 : c[1]? = some (.int .i64 i)) (h2 : c[2]? = some (.int .i64 r)) :
    Calls Try.prog 12 #[.pointer (some ⟨x, 0, none⟩), .agg c] w (RAckSays w B x xp 5 i r D last LP) := by
  obtain ⟨a0, c0, rfl⟩ := h.form
  have HR := Lib.hid h
  have HD := Lib.hid hnd
  have HC := Lib.hid (And.intro h0 (And.intro h1 h2))
  have HO := Lib.hid (Own.start [] w)
  have HL := Lib.hid h.few
  obtain ⟨n, hn⟩ : ∃ n, n = D.length := ⟨_, rfl⟩
  have HN := Lib.hid hn
  rw [← hn] at HR
  have hnm : n ≤ 1000 := by have := HL.out; omega
  clear h hnd h0 h1 h2 hn
  go_enter Try.func12, Try.ntmps12
  go_upto_region 1 with (first
    | (refine wpo_box (t := 49) HO.out _ rfl rfl rfl ?_; clear HO; rintro k3 W1 hO; have HO := Lib.hid hO; clear hO; simp only [Act.put, List.setIfInBounds_toArray, List.set_cons_zero, List.set_cons_succ])
    | (refine wpo_alloc tyMs HO.out rfl rfl ?_; clear HO; rintro k5 W2 hO; have HO := Lib.hid hO; clear hO; simp only [Act.put, List.setIfInBounds_toArray, List.set_cons_zero, List.set_cons_succ]))
  have b0 := ((HO.out.get 1 rfl).cell 0).trans HC.out.1
  go_wp2_with fail
  clear b0
  go_loopw [7] (fun ii wr => ∃ k : Nat, k ≤ n ∧ ii = .int .i64 k ∧ Hid (∀ j, j < k → (D.getD j f0).id ≠ i) ∧ Hid (Own [] w wr [(k5, 36, zq), (k3, 49, c)])) (fun ii _ => n - (intOf ii).toNat)
  case atStart => exact ⟨0, Nat.zero_le _, rfl, Lib.hid (fun j hj => by omega), HO⟩
  case round =>
    obtain ⟨k, hk, rfl, HNE, HO⟩ := hrel
    have HRr := Lib.hid (HR.out.below HO.out.bel)
    have x1 := HRr.out.blk.cell 1
    by_cases hlt : k < n
    · have HKL := Lib.hid (show k < D.length by have := HN.out; omega)
      obtain ⟨gr, rfl, hg, hcc⟩ := HRr.out.row.cell (by have := HKL.out; omega)
      obtain ⟨f, hf⟩ : ∃ f, f = D.getD k f0 := ⟨_, rfl⟩
      have HF := Lib.hid hf
      have HFM := Lib.hid (show f ∈ D from by rw [hf]; exact fmem HKL.out)
      have HS : Hid (f.gcells.size = f0.gcells.size ∧ f.gcells.toList.all (·.oneCell') = true) := Lib.hid ⟨rfl, by have := gv_one f; rwa [← Array.all_toList] at this⟩
      have HLD := Lib.hid (show (D.getD k f0).gcells = f.gcells from by rw [hf])
      have HC0 : Hid (f.gcells[0]? = some (.int .i64 f.id) ∧ f.gcells[1]? = some (.int .i64 f.st)) := Lib.hid ⟨rfl, rfl⟩
      have HQ := Lib.hid (gq_at f)
      have HQS : Hid (f.q.cells.toArray.size = zq.size ∧ f.q.cells.toArray.toList.all (·.oneCell') = true) := Lib.hid ⟨rfl, by simp [QV.cells, Value.oneCell']⟩
      generalize f.gcells = fc at *
      clear hcc hg hf
      go_upto_region 14 with (first
        | (refine wpl_load HRr.out.row HKL.out _ rfl rfl rfl (by omega) ?_; rw [HLD.out]; simp only [Act.put, List.setIfInBounds_toArray, List.set_cons_zero, List.set_cons_succ])
        | (refine wpo_alloc tyFl HO.out rfl rfl ?_; clear HO; rintro k8 W2 hO; have HO := Lib.hid hO; clear hO; simp only [Act.put, List.setIfInBounds_toArray, List.set_cons_zero, List.set_cons_succ])
        | (refine wpo_store (k := k8) HO.out 0 tyFl rfl _ _ rfl rfl rfl rfl rfl HS.out.1 HS.out.2 ?_; clear HO; rintro W3 hO; have HO := Lib.hid hO; clear hO; simp only [Act.put]))
      clear x1
      have c80 := ((HO.out.get 0 rfl).cell 0).trans HC0.out.1
      have c81 := ((HO.out.get 0 rfl).cell 1).trans HC0.out.2
      have c31 := ((HO.out.get 2 rfl).cell 1).trans HC.out.2.1
      have HR3 := Lib.hid (HR.out.below HO.out.bel)
      by_cases hid : f.id = i
      · have e1 : ((f.id : Int) != i) = false := by simp [hid]
        have HID := Lib.hid hid
        clear hid
        by_cases hst : f.st = 2
        · have HST := Lib.hid hst
          rw [hst] at c81
          clear hst
          have c32 := ((HO.out.get 2 rfl).cell 2).trans HC.out.2.2
          have HBA := Lib.hid (badr_any r W3)
          go_wp2_with fail
          refine HBA.out.mono ?_
          rintro e W9 ⟨rfl, rfl⟩
          clear HBA c32
          cases hbad : badI r with
          | true =>
            have HBAD := Lib.hid hbad
            clear hbad
            have HS := Lib.hid (rset0_any HR3.out HKL.out HD.out)
            rw [← HF.out] at HS
            go_wp2_with fail
            refine HS.out.mono ?_
            rintro e W4 ⟨rfl, v4, hr4, hrn, hfl⟩
            have b8 := hfl k8 fc (HO.out.get 0 rfl)
            have b5 := hrn.keeps (HO.out.get 1 rfl) (by decide) (by decide) (by decide) (by decide)
            have hk58 : k8 ∉ [k5] := by
              rw [List.mem_singleton]
              exact fun e => (HO.out.get 0 rfl).other (e ▸ HO.out.get 1 rfl) (by decide) rfl
            have hk5w : w.heap.size ≤ k5 := own_ge HO.out 1 rfl
            have HB8 := Lib.hid (And.intro b8 hk58)
            have HO4 := Lib.hid ((Own.start [k5] W4).elder b5 (List.mem_singleton_self _) (fun _ h => by cases h))
            have HR4 := Lib.hid (And.intro hr4 (And.intro ((RN.of_below HO.out.bel).trans hrn) (hrn.pin (HR3.out.ms f HFM.out).1 (Nat.le_refl _))))
            have HK5 := Lib.hid hk5w
            clear hr4 hrn hfl b8 b5 hk58 hk5w HS HO c80 c81 c31
            go_upto_region 22 with fail
            refine wpo_y1 (yA := (k5, 36, f.q.cells.toArray)) [(59, .pointer (some ⟨k8, 2, none⟩)), (60, .agg f.q.cells.toArray), (4, .int .i64 2)] 0 mixed (by kernel_rfl) HO4.out rfl (fun _ _ _ _ _ h => h) ?_ rfl ?_ ?_
            · refine ⟨⟨_, rfl, rfl, Or.inl ⟨rfl, fun w' _ => ?_⟩⟩, ?_⟩
              · go_simp
              simp only [Act.put, List.setIfInBounds_toArray, List.set_cons_zero, List.set_cons_succ]
              refine ⟨⟨_, rfl, rfl, yo_ldq rfl (fun W hS => by obtain ⟨M, hM, _⟩ := hS; exact hM.eld HB8.out.1 HB8.out.2) f.q HQ.out _ rfl rfl⟩, ?_⟩
              simp only [Act.put, List.setIfInBounds_toArray, List.set_cons_zero, List.set_cons_succ]
              refine ⟨⟨_, rfl, rfl, Or.inl ⟨rfl, fun w' _ => ?_⟩⟩, trivial⟩
              go_simp
            · simp only [putD, Act.put, List.setIfInBounds_toArray, List.set_cons_zero, List.set_cons_succ]
              exact sto_row tyMs _ _ rfl rfl rfl rfl rfl rfl HQS.out.1 HQS.out.2
            · intro W5 hO5
              simp only [putD, Act.put, List.setIfInBounds_toArray, List.set_cons_zero, List.set_cons_succ]
              have HO5 := Lib.hid hO5
              clear hO5
              go_wp2_with fail
              have hX : ∀ b ∈ [k5], B ≤ b ∧ ∀ t cur, W4.heap[b]? = some (.cells cur t (0, 0)) → t = 36 := fun b hb => by
                rw [List.mem_singleton] at hb
                subst hb
                refine ⟨Nat.le_trans HR.out.size HK5.out, fun t cur hc => ?_⟩
                have hh : W4.heap[b]? = some (.cells _ 36 (0, 0)) := HO4.out.get 0 rfl
                rw [hc] at hh
                injection hh with hh
                injection hh with _ ht _
              have hr5 := HR4.out.1.fr HO5.out.fr (fun b hb => ⟨(hX b hb).1, fun t cur hc => by
                have := (hX b hb).2 t cur hc
                subst this
                exact ⟨by decide, by decide, by decide, by decide, by decide⟩⟩)
              have hn : ansR (endsOf 5) r f.st true = 2 := by rw [HST.out]; simp [ansR, endsOf, HBAD.out]
              refine bodyPost_ret (v := .tuple #[.int .i64 2, .agg f.q.cells.toArray]) (res_own01 0 HO5.out tyMs rfl rfl rfl rfl rfl) rfl ⟨f, true, .inl ⟨rfl, HFM.out, HID.out⟩, f.q, v4, by rw [hn]; rfl, by rw [hn]; rfl, HR4.out.2.2.fr HO5.out.fr (fun b hb => ⟨(hX b hb).1, fun cs hc => absurd ((hX b hb).2 _ _ hc) (by decide)⟩), ?_, HR4.out.2.1.newer HO5.out.fr (fun b hb => by rw [List.mem_singleton] at hb; subst hb; exact HK5.out)⟩
              rw [hn, ← HID.out]
              exact hr5
          | false =>
            have HBAD := Lib.hid hbad
            clear hbad
            have HS := Lib.hid (rset3_any HR3.out HKL.out)
            rw [← HF.out] at HS
            go_wp2_with fail
            refine HS.out.mono ?_
            rintro e W4 ⟨rfl, v4, hr4, hrn, hfl⟩
            have b8 := hfl k8 fc (HO.out.get 0 rfl)
            have b5 := hrn.keeps (HO.out.get 1 rfl) (by decide) (by decide) (by decide) (by decide)
            have hk58 : k8 ∉ [k5] := by
              rw [List.mem_singleton]
              exact fun e => (HO.out.get 0 rfl).other (e ▸ HO.out.get 1 rfl) (by decide) rfl
            have hk5w : w.heap.size ≤ k5 := own_ge HO.out 1 rfl
            have HB8 := Lib.hid (And.intro b8 hk58)
            have HO4 := Lib.hid ((Own.start [k5] W4).elder b5 (List.mem_singleton_self _) (fun _ h => by cases h))
            have HR4 := Lib.hid (And.intro hr4 (And.intro ((RN.of_below HO.out.bel).trans hrn) (hrn.pin (HR3.out.ms f HFM.out).1 (Nat.le_refl _))))
            have HK5 := Lib.hid hk5w
            clear hr4 hrn hfl b8 b5 hk58 hk5w HS HO c80 c81 c31
            go_upto_region 25 with fail
            refine wpo_y1 (yA := (k5, 36, f.q.cells.toArray)) [(67, .pointer (some ⟨k8, 2, none⟩)), (68, .agg f.q.cells.toArray), (4, .int .i64 3)] 0 mixed (by kernel_rfl) HO4.out rfl (fun _ _ _ _ _ h => h) ?_ rfl ?_ ?_
            · refine ⟨⟨_, rfl, rfl, Or.inl ⟨rfl, fun w' _ => ?_⟩⟩, ?_⟩
              · go_simp
              simp only [Act.put, List.setIfInBounds_toArray, List.set_cons_zero, List.set_cons_succ]
              refine ⟨⟨_, rfl, rfl, yo_ldq rfl (fun W hS => by obtain ⟨M, hM, _⟩ := hS; exact hM.eld HB8.out.1 HB8.out.2) f.q HQ.out _ rfl rfl⟩, ?_⟩
              simp only [Act.put, List.setIfInBounds_toArray, List.set_cons_zero, List.set_cons_succ]
              refine ⟨⟨_, rfl, rfl, Or.inl ⟨rfl, fun w' _ => ?_⟩⟩, trivial⟩
              go_simp
            · simp only [putD, Act.put, List.setIfInBounds_toArray, List.set_cons_zero, List.set_cons_succ]
              exact sto_row tyMs _ _ rfl rfl rfl rfl rfl rfl HQS.out.1 HQS.out.2
            · intro W5 hO5
              simp only [putD, Act.put, List.setIfInBounds_toArray, List.set_cons_zero, List.set_cons_succ]
              have HO5 := Lib.hid hO5
              clear hO5
              go_wp2_with fail
              have hX : ∀ b ∈ [k5], B ≤ b ∧ ∀ t cur, W4.heap[b]? = some (.cells cur t (0, 0)) → t = 36 := fun b hb => by
                rw [List.mem_singleton] at hb
                subst hb
                refine ⟨Nat.le_trans HR.out.size HK5.out, fun t cur hc => ?_⟩
                have hh : W4.heap[b]? = some (.cells _ 36 (0, 0)) := HO4.out.get 0 rfl
                rw [hc] at hh
                injection hh with hh
                injection hh with _ ht _
              have hr5 := HR4.out.1.fr HO5.out.fr (fun b hb => ⟨(hX b hb).1, fun t cur hc => by
                have := (hX b hb).2 t cur hc
                subst this
                exact ⟨by decide, by decide, by decide, by decide, by decide⟩⟩)
              have hn : ansR (endsOf 5) r f.st true = 3 := by rw [HST.out]; simp [ansR, endsOf, HBAD.out]
              refine bodyPost_ret (v := .tuple #[.int .i64 3, .agg f.q.cells.toArray]) (res_own01 0 HO5.out tyMs rfl rfl rfl rfl rfl) rfl ⟨f, true, .inl ⟨rfl, HFM.out, HID.out⟩, f.q, v4, by rw [hn]; rfl, by rw [hn]; rfl, HR4.out.2.2.fr HO5.out.fr (fun b hb => ⟨(hX b hb).1, fun cs hc => absurd ((hX b hb).2 _ _ hc) (by decide)⟩), ?_, HR4.out.2.1.newer HO5.out.fr (fun b hb => by rw [List.mem_singleton] at hb; subst hb; exact HK5.out)⟩
              rw [hn, ← HID.out]
              have hs := set_setS HKL.out HD.out
              rw [← HF.out] at hs
              rw [hs] at hr5
              exact hr5
        · have e2 : ((f.st : Int) != 2) = true := by simpa using hst
          have HST := Lib.hid hst
          clear hst
          go_wp2_with (first
            | (refine wpo_zero tyMs rfl rfl ?_)
            | (refine wpo_store (k := k5) HO.out 1 tyMs rfl _ _ rfl rfl rfl rfl rfl rfl rfl ?_; clear HO; rintro W5 hO; have HO := Lib.hid hO; clear hO; simp only [Act.put]))
          have hn : ansR (endsOf 5) r f.st true = 5 := by have := HST.out; simp [ansR, endsOf, this]
          refine bodyPost_ret (v := .tuple #[.int .i64 5, .agg zq]) (res_own01 1 HO.out tyMs rfl rfl rfl rfl rfl) rfl ⟨f, true, .inl ⟨rfl, HFM.out, HID.out⟩, q0, _, by rw [hn]; rfl, by rw [hn]; rfl, PIn.nil _ _ _, by rw [hn]; exact HR.out.below HO.out.bel, RN.of_below HO.out.bel⟩
      · have e1 : ((f.id : Int) != i) = true := by simpa using hid
        have HNI := Lib.hid (show ∀ j, j < k + 1 → (D.getD j f0).id ≠ i from fun j hj => by
          rcases Nat.lt_succ_iff_lt_or_eq.1 hj with hj | rfl
          · exact HNE.out j hj
          · rw [← HF.out]; exact hid)
        clear hid
        go_wp2_with fail
        go_roundw
        case rel => exact ⟨k + 1, by omega, by go_num, HNI, Lib.hid (HO.out.drop 0)⟩
        case measure => simp [intOf]; omega
    · have hni : i ∉ ids D := by
        intro hm
        obtain ⟨f, hf, rfl⟩ := List.mem_map.1 hm
        obtain ⟨j, hj, rfl⟩ := List.getElem_of_mem hf
        exact HNE.out j (by have := HN.out; omega) (by rw [getD_at2 hj])
      have HNI := Lib.hid hni
      clear hni
      go_wp2_with (first
        | (refine wpo_zero tyMs rfl rfl ?_)
        | (refine wpo_store (k := k5) HO.out 0 tyMs rfl _ _ rfl rfl rfl rfl rfl rfl rfl ?_; clear HO; rintro W5 hO; have HO := Lib.hid hO; clear hO; simp only [Act.put]))
      have hn : ansR (endsOf 5) r f0.st false = 0 := by simp [ansR, endsOf]
      refine bodyPost_ret (v := .tuple #[.int .i64 0, .agg zq]) (res_own01 0 HO.out tyMs rfl rfl rfl rfl rfl) rfl ⟨f0, false, .inr ⟨rfl, rfl, HNI.out⟩, q0, _, by rw [hn]; rfl, by rw [hn]; rfl, PIn.nil _ _ _, by rw [hn]; exact HR.out.below HO.out.bel, RN.of_below HO.out.bel⟩
set_option maxHeartbeats 4000000 in
theorem rack3_any {w : World} {B x xp last : Nat} {v : Value} {D : FL} {LP : List Int} (h : RfI w B x xp v D last LP) (hnd : (ids D).Nodup) (c : Array Value) (i r : Int) (h0 : c[0]? = some (.int .i64 7)) (h1 : c[1]? = some (.int .i64 i)) (h2 : c[2]? = some (.int .i64 r)) :
    Calls Try.prog 12 #[.pointer (some ⟨x, 0, none⟩), .agg c] w (RAckSays w B x xp 7 i r D last LP) := by
  obtain ⟨a0, c0, rfl⟩ := h.form
  have HR := Lib.hid h
  have HD := Lib.hid hnd
  have HC := Lib.hid (And.intro h0 (And.intro h1 h2))
  have HO := Lib.hid (Own.start [] w)
  have HL := Lib.hid h.few
  obtain ⟨n, hn⟩ : ∃ n, n = D.length := ⟨_, rfl⟩
  have HN := Lib.hid hn
  rw [← hn] at HR
  have hnm : n ≤ 1000 := by have := HL.out; omega
  clear h hnd h0 h1 h2 hn
  go_enter Try.func12, Try.ntmps12
  go_upto_region 1 with (first
    | (refine wpo_box (t := 49) HO.out _ rfl rfl rfl ?_; clear HO; rintro k3 W1 hO; have HO := Lib.hid hO; clear hO; simp only [Act.put, List.setIfInBounds_toArray, List.set_cons_zero, List.set_cons_succ])
    | (refine wpo_alloc tyMs HO.out rfl rfl ?_; clear HO; rintro k5 W2 hO; have HO := Lib.hid hO; clear hO; simp only [Act.put, List.setIfInBounds_toArray, List.set_cons_zero, List.set_cons_succ]))
  have b0 := ((HO.out.get 1 rfl).cell 0).trans HC.out.1
  go_wp2_with fail
  clear b0
  go_loopw [7] (fun ii wr => ∃ k : Nat, k ≤ n ∧ ii = .int .i64 k ∧ Hid (∀ j, j < k → (D.getD j f0).id ≠ i) ∧ Hid (Own [] w wr [(k5, 36, zq), (k3, 49, c)])) (fun ii _ => n - (intOf ii).toNat)
  case atStart => exact ⟨0, Nat.zero_le _, rfl, Lib.hid (fun j hj => by omega), HO⟩
  case round =>
    obtain ⟨k, hk, rfl, HNE, HO⟩ := hrel
    have HRr := Lib.hid (HR.out.below HO.out.bel)
    have x1 := HRr.out.blk.cell 1
    by_cases hlt : k < n
    · have HKL := Lib.hid (show k < D.length by have := HN.out; omega)
      obtain ⟨gr, rfl, hg, hcc⟩ := HRr.out.row.cell (by have := HKL.out; omega)
      obtain ⟨f, hf⟩ : ∃ f, f = D.getD k f0 := ⟨_, rfl⟩
      have HF := Lib.hid hf
      have HFM := Lib.hid (show f ∈ D from by rw [hf]; exact fmem HKL.out)
      have HS : Hid (f.gcells.size = f0.gcells.size ∧ f.gcells.toList.all (·.oneCell') = true) := Lib.hid ⟨rfl, by have := gv_one f; rwa [← Array.all_toList] at this⟩
      have HLD := Lib.hid (show (D.getD k f0).gcells = f.gcells from by rw [hf])
      have HC0 : Hid (f.gcells[0]? = some (.int .i64 f.id) ∧ f.gcells[1]? = some (.int .i64 f.st)) := Lib.hid ⟨rfl, rfl⟩
      have HQ := Lib.hid (gq_at f)
      have HQS : Hid (f.q.cells.toArray.size = zq.size ∧ f.q.cells.toArray.toList.all (·.oneCell') = true) := Lib.hid ⟨rfl, by simp [QV.cells, Value.oneCell']⟩
      generalize f.gcells = fc at *
      clear hcc hg hf
      go_upto_region 14 with (first
        | (refine wpl_load HRr.out.row HKL.out _ rfl rfl rfl (by omega) ?_; rw [HLD.out]; simp only [Act.put, List.setIfInBounds_toArray, List.set_cons_zero, List.set_cons_succ])
        | (refine wpo_alloc tyFl HO.out rfl rfl ?_; clear HO; rintro k8 W2 hO; have HO := Lib.hid hO; clear hO; simp only [Act.put, List.setIfInBounds_toArray, List.set_cons_zero, List.set_cons_succ])
        | (refine wpo_store (k := k8) HO.out 0 tyFl rfl _ _ rfl rfl rfl rfl rfl HS.out.1 HS.out.2 ?_; clear HO; rintro W3 hO; have HO := Lib.hid hO; clear hO; simp only [Act.put]))
      clear x1
      have c80 := ((HO.out.get 0 rfl).cell 0).trans HC0.out.1
      have c81 := ((HO.out.get 0 rfl).cell 1).trans HC0.out.2
      have c31 := ((HO.out.get 2 rfl).cell 1).trans HC.out.2.1
      have HR3 := Lib.hid (HR.out.below HO.out.bel)
      by_cases hid : f.id = i
      · have e1 : ((f.id : Int) != i) = false := by simp [hid]
        have HID := Lib.hid hid
        clear hid
        by_cases hst : f.st = 3
        · have HST := Lib.hid hst
          rw [hst] at c81
          clear hst
          have HBAD := Lib.hid True.intro
          have HS := Lib.hid (rset0_any HR3.out HKL.out HD.out)
          rw [← HF.out] at HS
          go_wp2_with fail
          refine HS.out.mono ?_
          rintro e W4 ⟨rfl, v4, hr4, hrn, hfl⟩
          have b8 := hfl k8 fc (HO.out.get 0 rfl)
          have b5 := hrn.keeps (HO.out.get 1 rfl) (by decide) (by decide) (by decide) (by decide)
          have hk58 : k8 ∉ [k5] := by
            rw [List.mem_singleton]
            exact fun e => (HO.out.get 0 rfl).other (e ▸ HO.out.get 1 rfl) (by decide) rfl
          have hk5w : w.heap.size ≤ k5 := own_ge HO.out 1 rfl
          have HB8 := Lib.hid (And.intro b8 hk58)
          have HO4 := Lib.hid ((Own.start [k5] W4).elder b5 (List.mem_singleton_self _) (fun _ h => by cases h))
          have HR4 := Lib.hid (And.intro hr4 (And.intro ((RN.of_below HO.out.bel).trans hrn) (hrn.pin (HR3.out.ms f HFM.out).1 (Nat.le_refl _))))
          have HK5 := Lib.hid hk5w
          clear hr4 hrn hfl b8 b5 hk58 hk5w HS HO c80 c81 c31
          go_upto_region 19 with fail
          refine wpo_y1 (yA := (k5, 36, f.q.cells.toArray)) [(50, .pointer (some ⟨k8, 2, none⟩)), (51, .agg f.q.cells.toArray), (4, .int .i64 4)] 0 mixed (by kernel_rfl) HO4.out rfl (fun _ _ _ _ _ h => h) ?_ rfl ?_ ?_
          · refine ⟨⟨_, rfl, rfl, Or.inl ⟨rfl, fun w' _ => ?_⟩⟩, ?_⟩
            · go_simp
            simp only [Act.put, List.setIfInBounds_toArray, List.set_cons_zero, List.set_cons_succ]
            refine ⟨⟨_, rfl, rfl, yo_ldq rfl (fun W hS => by obtain ⟨M, hM, _⟩ := hS; exact hM.eld HB8.out.1 HB8.out.2) f.q HQ.out _ rfl rfl⟩, ?_⟩
            simp only [Act.put, List.setIfInBounds_toArray, List.set_cons_zero, List.set_cons_succ]
            refine ⟨⟨_, rfl, rfl, Or.inl ⟨rfl, fun w' _ => ?_⟩⟩, trivial⟩
            go_simp
          · simp only [putD, Act.put, List.setIfInBounds_toArray, List.set_cons_zero, List.set_cons_succ]
            exact sto_row tyMs _ _ rfl rfl rfl rfl rfl rfl HQS.out.1 HQS.out.2
          · intro W5 hO5
            simp only [putD, Act.put, List.setIfInBounds_toArray, List.set_cons_zero, List.set_cons_succ]
            have HO5 := Lib.hid hO5
            clear hO5
            go_wp2_with fail
            have hX : ∀ b ∈ [k5], B ≤ b ∧ ∀ t cur, W4.heap[b]? = some (.cells cur t (0, 0)) → t = 36 := fun b hb => by
              rw [List.mem_singleton] at hb
              subst hb
              refine ⟨Nat.le_trans HR.out.size HK5.out, fun t cur hc => ?_⟩
              have hh : W4.heap[b]? = some (.cells _ 36 (0, 0)) := HO4.out.get 0 rfl
              rw [hc] at hh
              injection hh with hh
              injection hh with _ ht _
            have hr5 := HR4.out.1.fr HO5.out.fr (fun b hb => ⟨(hX b hb).1, fun t cur hc => by
              have := (hX b hb).2 t cur hc
              subst this
              exact ⟨by decide, by decide, by decide, by decide, by decide⟩⟩)
            have hn : ansR (endsOf 7) r f.st true = 4 := by rw [HST.out]; simp [ansR, endsOf]
            refine bodyPost_ret (v := .tuple #[.int .i64 4, .agg f.q.cells.toArray]) (res_own01 0 HO5.out tyMs rfl rfl rfl rfl rfl) rfl ⟨f, true, .inl ⟨rfl, HFM.out, HID.out⟩, f.q, v4, by rw [hn]; rfl, by rw [hn]; rfl, HR4.out.2.2.fr HO5.out.fr (fun b hb => ⟨(hX b hb).1, fun cs hc => absurd ((hX b hb).2 _ _ hc) (by decide)⟩), ?_, HR4.out.2.1.newer HO5.out.fr (fun b hb => by rw [List.mem_singleton] at hb; subst hb; exact HK5.out)⟩
            rw [hn, ← HID.out]
            exact hr5
        · have e2 : ((f.st : Int) != 3) = true := by simpa using hst
          have HST := Lib.hid hst
          clear hst
          go_wp2_with (first
            | (refine wpo_zero tyMs rfl rfl ?_)
            | (refine wpo_store (k := k5) HO.out 1 tyMs rfl _ _ rfl rfl rfl rfl rfl rfl rfl ?_; clear HO; rintro W5 hO; have HO := Lib.hid hO; clear hO; simp only [Act.put]))
          have hn : ansR (endsOf 7) r f.st true = 5 := by have := HST.out; simp [ansR, endsOf, this]
          refine bodyPost_ret (v := .tuple #[.int .i64 5, .agg zq]) (res_own01 1 HO.out tyMs rfl rfl rfl rfl rfl) rfl ⟨f, true, .inl ⟨rfl, HFM.out, HID.out⟩, q0, _, by rw [hn]; rfl, by rw [hn]; rfl, PIn.nil _ _ _, by rw [hn]; exact HR.out.below HO.out.bel, RN.of_below HO.out.bel⟩
      · have e1 : ((f.id : Int) != i) = true := by simpa using hid
        have HNI := Lib.hid (show ∀ j, j < k + 1 → (D.getD j f0).id ≠ i from fun j hj => by
          rcases Nat.lt_succ_iff_lt_or_eq.1 hj with hj | rfl
          · exact HNE.out j hj
          · rw [← HF.out]; exact hid)
        clear hid
        go_wp2_with fail
        go_roundw
        case rel => exact ⟨k + 1, by omega, by go_num, HNI, Lib.hid (HO.out.drop 0)⟩
        case measure => simp [intOf]; omega
    · have hni : i ∉ ids D := by
        intro hm
        obtain ⟨f, hf, rfl⟩ := List.mem_map.1 hm
        obtain ⟨j, hj, rfl⟩ := List.getElem_of_mem hf
        exact HNE.out j (by have := HN.out; omega) (by rw [getD_at2 hj])
      have HNI := Lib.hid hni
      clear hni
      go_wp2_with (first
        | (refine wpo_zero tyMs rfl rfl ?_)
        | (refine wpo_store (k := k5) HO.out 0 tyMs rfl _ _ rfl rfl rfl rfl rfl rfl rfl ?_; clear HO; rintro W5 hO; have HO := Lib.hid hO; clear hO; simp only [Act.put]))
      have hn : ansR (endsOf 7) r f0.st false = 0 := by simp [ansR, endsOf]
      refine bodyPost_ret (v := .tuple #[.int .i64 0, .agg zq]) (res_own01 0 HO.out tyMs rfl rfl rfl rfl rfl) rfl ⟨f0, false, .inr ⟨rfl, rfl, HNI.out⟩, q0, _, by rw [hn]; rfl, by rw [hn]; rfl, PIn.nil _ _ _, by rw [hn]; exact HR.out.below HO.out.bel, RN.of_below HO.out.bel⟩
end Go.Proofs.Ytpaalhhadjihlaa
namespace Go.Proofs.Ytpaalhhadjihlaa
open Go.RowKit Go.Extern.Stop Go.Stop Go.Extern Go.Maps Go.Deep
set_option maxRecDepth 100000
set_option maxHeartbeats 2000000 in
theorem rack5_any {w : World} {B x xp last : Nat} {v : Value} {D : FL} {LP : List Int} (h : RfI w B x xp v D last LP) (c : Array Value) (kd i r : Int) (h0 : c[0]? = some (.int .i64 kd)) (h4 : kd ≠ 4) (h5 : kd ≠ 5) (h7 : kd ≠ 7) :
    Calls Try.prog 12 #[.pointer (some ⟨x, 0, none⟩), .agg c] w (RAckSays w B x xp kd i r D last LP) := by
  have HR := Lib.hid h
  have HO := Lib.hid (Own.start [] w)
  have HC := Lib.hid h0
  have e4 : ((kd : Int) == 4) = false := beq_eq_false_iff_ne.2 h4
  have e5 : ((kd : Int) == 5) = false := beq_eq_false_iff_ne.2 h5
  have e7 : ((kd : Int) == 7) = false := beq_eq_false_iff_ne.2 h7
  have HN := Lib.hid (show ∀ st b, ansR (endsOf kd) r st b = 5 from fun st b => by unfold endsOf; rw [if_neg h4, if_neg h5, if_neg h7]; rfl)
  have HF := Lib.hid (show ∃ (f : FV) (b : Bool), (b = true ∧ f ∈ D ∧ f.id = i) ∨ (b = false ∧ f = f0 ∧ i ∉ ids D) from by
    by_cases hm : i ∈ ids D
    · obtain ⟨f, hf, rfl⟩ := List.mem_map.1 hm
      exact ⟨f, true, .inl ⟨rfl, hf, rfl⟩⟩
    · exact ⟨f0, false, .inr ⟨rfl, rfl, hm⟩⟩)
  clear h h0 h4 h5 h7
  go_enter Try.func12, Try.ntmps12
  go_upto_region 1 with (first
    | (refine wpo_box (t := 49) HO.out _ rfl rfl rfl ?_; clear HO; rintro k3 W1 hO; have HO := Lib.hid hO; clear hO; simp only [Act.put, List.setIfInBounds_toArray, List.set_cons_zero, List.set_cons_succ])
    | (refine wpo_alloc tyMs HO.out rfl rfl ?_; clear HO; rintro k5 W2 hO; have HO := Lib.hid hO; clear hO; simp only [Act.put, List.setIfInBounds_toArray, List.set_cons_zero, List.set_cons_succ]))
  have b0 := ((HO.out.get 1 rfl).cell 0).trans HC.out
  go_wp2_with (first
    | (refine wpo_zero tyMs rfl rfl ?_)
    | (refine wpo_store (k := k5) HO.out 0 tyMs rfl _ _ rfl rfl rfl rfl rfl rfl rfl ?_; clear HO; rintro W5 hO; have HO := Lib.hid hO; clear hO; simp only [Act.put]))
  obtain ⟨f, b, hfb⟩ := HF.out
  have hn := HN.out f.st b
  refine bodyPost_ret (v := .tuple #[.int .i64 5, .agg zq]) (res_own01 0 HO.out tyMs rfl rfl rfl rfl rfl) rfl ⟨f, b, hfb, q0, _, by rw [hn]; rfl, by rw [hn]; rfl, PIn.nil _ _ _, by rw [hn]; exact HR.out.below HO.out.bel, RN.of_below HO.out.bel⟩
/-- Whatever acknowledgement. -/
theorem rack_any {w : World} {B x xp last : Nat} {v : Value} {D : FL} {LP : List Int} (h : RfI w B x xp v D last LP) (hnd : (ids D).Nodup) (c : Array Value) (kd i r : Int) (h0 : c[0]? = some (.int .i64 kd)) (h1 : c[1]? = some (.int .i64 i)) (h2 : c[2]? = some (.int .i64 r)) :
    Calls Try.prog 12 #[.pointer (some ⟨x, 0, none⟩), .agg c] w (RAckSays w B x xp kd i r D last LP) := by
  by_cases h4 : kd = 4
  · subst h4; exact rack1_any h hnd c i r h0 h1 h2
  · by_cases h5 : kd = 5
    · subst h5; exact rack2_any h hnd c i r h0 h1 h2
    · by_cases h7 : kd = 7
      · subst h7; exact rack3_any h hnd c i r h0 h1 h2
      · exact rack5_any h c kd i r h0 h4 h5 h7
end Go.Proofs.Ytpaalhhadjihlaa
