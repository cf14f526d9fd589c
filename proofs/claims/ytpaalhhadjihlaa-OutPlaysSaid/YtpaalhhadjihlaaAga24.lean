/- What is proved here: the packets that are sent once more. Conditions: few messages. -/
import Derived.Test.YtpaalhhadjihlaaPac24
import Derived.Test.YtpaalhhadjihlaaPkr24
import Derived.Test.YtpaalhhadjihlaaOrd24
namespace Go.Proofs.Ytpaalhhadjihlaa
open Go.RowKit Go.Extern.Stop Go.Stop Go.Extern Go.Maps
set_option maxRecDepth 100000
def relP (id : Int) : Pk := { pk0 with kind := 6, id := id }
theorem built6 (id : Int) : Try.prog.built 49 [(0, .int .i64 6), (1, .int .i64 id)] = some ((relP id).cells (paR none 0)) := by kernel_rfl
/-- What is sent once more for one. -/
def pkA (f : FV) : Pk := if f.st = 3 then relP f.id else pkP f.q.m f.st f.id true
/-- A packet whose properties alone stand somewhere. -/
def KPin (w : World) (y : Pk × PkA) : Prop := (∃ a c, y.2 = paR a c) ∧ PIn w 0 y.2.pa y.1.props
def AgainSays (w : World) (L : FL) (x : Ending) (w' : World) : Prop := ∃ v KL, x = .returned v ∧ KRow w' w.heap.size v KL ∧ KL.map Prod.fst = L.map pkA ∧ (∀ y ∈ KL, KPin w' y) ∧ Below w.heap.size w w'
theorem ftake_at {β : Type} (F : FV → β) {L : FL} {k : Nat} (h : k < L.length) : (L.map F).take (k + 1) = (L.map F).take k ++ [F (L.getD k f0)] := by
  rw [List.take_succ_eq_append_getElem (by simpa using h)]
  congr 2
  rw [List.getElem_map, List.getD_eq_getElem?_getD, List.getElem?_eq_getElem h]
  rfl
theorem fmem {L : FL} {k : Nat} (h : k < L.length) : L.getD k f0 ∈ L := by
  rw [List.getD_eq_getElem?_getD, List.getElem?_eq_getElem h]; exact List.getElem_mem h
section
variable {ops : Array Oper} {rest : List Oper} {op : Oper} {a : Act} {w w0 : World} {Q : Exit → Act → World → Prop} {X : List Nat} {M : OL}
/-- One of a row is loaded. -/
theorem wpf_load {B g n c : Nat} {L : FL} (h : FRow w B (.slice (some ⟨g, 0, none⟩) n c) L) {k of : Nat} (hk : k < L.length) (x : Operand) (hgd : op.guard = none) (ho : op.op = .load 73 x) (hx : a.eval x = .pointer (some ⟨g, of, none⟩)) (hof : of = k * 12)
    (H : wpList Try.prog ops Q rest (a.put op.dst (.agg (L.getD k f0).cells.toArray)) w) : wpList Try.prog ops Q (op :: rest) a w :=
  wpList_plain hgd fun _ hK => by
    obtain ⟨d, hu, hd⟩ := tyFt.un
    obtain ⟨g', e, _, hc⟩ := h.cell (by omega)
    obtain rfl : g = g' := by injection e with e; injection e
    have hl := run_loadVar_mid (P := Try.prog) w g of 73 (L.getD k f0).cells d (fun j v hv => by
      rw [hof, hc k j hk (by have := (List.getElem?_eq_some_iff.1 hv).1; exact this)]
      exact hv) hu hd tyFt.ip
    unfold Oper.wp execOp
    simp only [ho, hx, Instr.loadAt, Instr.sureAddr, Sem.run_bind, Sem.run_pure, Result.andThen_ok, hl]
    exact hK _ _ H
/-- The message of one in a variable is loaded. -/
theorem wpo_ldq (hO : Own X w0 w M) (i : Nat) {k of : Nat} {ty : TypeId} {c : Array Value} (hi : M[i]? = some (k, ty, c)) (q : QV) (hq : ∀ j u, q.cells[j]? = some u → c[of + j]? = some u) (x : Operand) (hgd : op.guard = none) (ho : op.op = .load 36 x) (hx : a.eval x = .pointer (some ⟨k, of, none⟩))
    (H : wpList Try.prog ops Q rest (a.put op.dst q.agg) w) : wpList Try.prog ops Q (op :: rest) a w :=
  wpList_plain hgd fun _ hK => by
    obtain ⟨d, hu, hd⟩ := tyMs.un
    have hl := run_loadVar_mid (P := Try.prog) w k of 36 q.cells d (fun j v hv => by
      rw [(hO.get i hi).cell (of + j)]
      exact hq j v hv) hu hd tyMs.ip
    unfold Oper.wp execOp
    simp only [ho, hx, Instr.loadAt, Instr.sureAddr, Sem.run_bind, Sem.run_pure, Result.andThen_ok, hl]
    exact hK _ _ H
end
theorem fq_at (f : FV) : ∀ j u, f.q.cells[j]? = some u → f.cells.toArray[2 + j]? = some u := by
  intro j u h
  have hj : j < 9 := (List.getElem?_eq_some_iff.1 h).1
  rw [List.getElem?_toArray, Nat.add_comm]
  show ((f.q.cells ++ [.int .i64 f.pl]))[j]? = some u
  rw [List.getElem?_append_left (by exact hj)]
  exact h
set_option maxHeartbeats 4000000 in
theorem again_any {w : World} {g gp bp bm : Nat} {L : FL} {last sent : Nat} (h : OutI w g gp bp bm L last sent) :
    Calls Try.prog 21 #[.pointer (some ⟨g, 0, none⟩)] w (AgainSays w L) := by
  have HI := Lib.hid (inorder_any h)
  have HP := Lib.hid h.props
  have HL := Lib.hid (Nat.le_trans h.len h.few)
  clear h
  go_enter Try.func21, Try.ntmps21
  go_wp2_with fail
  refine HI.out.mono ?_
  rintro e w1 ⟨v, rfl, hr, hb⟩
  obtain ⟨a0, c0, rfl⟩ := hr.form
  have HR := Lib.hid hr
  have HB := Lib.hid hb
  have HP1 := Lib.hid (HP.out.below hb)
  obtain ⟨n, hn⟩ : ∃ n, n = L.length := ⟨_, rfl⟩
  have HN := Lib.hid hn
  rw [← hn] at HR ⊢
  have hnm : n ≤ 1000 := by have := HL.out; omega
  clear hr hb HI HP hn
  go_wp2_with fail
  go_loopw [3, 9] (fun v i wr => ∃ (k : Nat) (M : KL), k ≤ n ∧ i = .int .i64 k ∧ KRow wr w1.heap.size v M ∧ Hid (M.map Prod.fst = (L.map pkA).take k) ∧ Hid (∀ y ∈ M, KPin wr y) ∧ Hid (M.length = k) ∧ Below w1.heap.size w1 wr) (fun _ i _ => n - (intOf i).toNat)
  case atStart => exact ⟨0, [], by omega, rfl, World.ownsRow_nil _ _ _ _, Lib.hid rfl, Lib.hid (fun y hy => by cases hy), Lib.hid rfl, Below.refl _ _⟩
  case round =>
    obtain ⟨k, M, hk, rfl, hrow, HM, HPI, HLK, hbe⟩ := hrel
    obtain ⟨a, cc, rfl⟩ := hrow.form
    have HROW := Lib.hid hrow
    have HBE := Lib.hid hbe
    by_cases hlt : k < n
    · have HKL := Lib.hid (show k < L.length by have := HN.out; omega)
      obtain ⟨gr, rfl, hg, hcc⟩ := HR.out.cell (by have := HKL.out; omega)
      have HRR := Lib.hid (own_below HR.out hbe)
      have HTK := Lib.hid (ftake_at pkA HKL.out)
      have hpq := HP1.out _ (fmem HKL.out)
      have HO := Lib.hid (Own.start [] wr)
      obtain ⟨f, hf⟩ : ∃ f, f = L.getD k f0 := ⟨_, rfl⟩
      have HF := Lib.hid hf
      rw [← hf] at HTK hpq
      have HPQ := Lib.hid hpq
      have HS : Hid (f.cells.toArray.size = f0.cells.toArray.size ∧ f.cells.toArray.toList.all (·.oneCell') = true) := Lib.hid ⟨rfl, by rw [List.all_eq_true]; exact fun u hu => fv_one f u (by simpa using hu)⟩
      have HC : Hid (f.cells.toArray[0]? = some (.int .i64 f.id) ∧ f.cells.toArray[1]? = some (.int .i64 f.st)) := Lib.hid ⟨rfl, rfl⟩
      have HQ := Lib.hid (fq_at f)
      have HML := Lib.hid (show M.length ≤ 1000 by have := HLK.out; have := HKL.out; have := HL.out; omega)
      have HLD := Lib.hid (show (L.getD k f0).cells.toArray = f.cells.toArray from by rw [hf])
      generalize f.cells.toArray = fc at *
      clear hrow hbe hcc hpq hg hf
      go_upto_region 5 with (first
        | (refine wpf_load HRR.out HKL.out _ rfl rfl rfl (by omega) ?_; rw [HLD.out]; simp only [Act.put, List.setIfInBounds_toArray, List.set_cons_zero, List.set_cons_succ])
        | (refine wpo_alloc tyFt HO.out rfl rfl ?_; clear HO; rintro k5 W2 hO; have HO := Lib.hid hO; clear hO; simp only [Act.put, List.setIfInBounds_toArray, List.set_cons_zero, List.set_cons_succ])
        | (refine wpo_store (k := k5) HO.out 0 tyFt rfl _ _ rfl rfl rfl rfl rfl HS.out.1 HS.out.2 ?_; clear HO; rintro W3 hO; have HO := Lib.hid hO; clear hO; simp only [Act.put]))
      have c0 := ((HO.out.get 0 rfl).cell 0).trans HC.out.1
      have c1 := ((HO.out.get 0 rfl).cell 1).trans HC.out.2
      by_cases h3 : f.st = 3
      · rw [h3] at c1
        have hA : pkA f = relP f.id := if_pos h3
        rw [hA] at HTK
        have HBU := Lib.hid (built6 f.id)
        have HSZ : Hid (((relP f.id).cells (paR none 0)).size = 26) := Lib.hid rfl
        have HW := Lib.hid (show ∀ pc : Array Value, Below W3.heap.size W3 (W3.alloc (.cells pc 49)) from fun pc => (Below.refl _ _).alloc (Nat.le_refl _) _)
        have HB3 := Lib.hid (HBE.out.trans ((HO.out.bel.trans ((HW.out ((relP f.id).cells (paR none 0))).mono HO.out.bel.size)).mono HBE.out.size))
        have HR3 := Lib.hid ((HROW.out.below HO.out.bel).below (HW.out ((relP f.id).cells (paR none 0))))
        have HP3 := Lib.hid (show ∀ y ∈ M ++ [(relP f.id, paR none 0)], KPin (W3.alloc (.cells ((relP f.id).cells (paR none 0)) 49)) y from fun y hy => by
          rcases List.mem_append.1 hy with e | e
          · exact ⟨(HPI.out y e).1, ((HPI.out y e).2.below HO.out.bel).below (HW.out _)⟩
          · rw [List.mem_singleton] at e
            subst e
            exact ⟨⟨_, _, rfl⟩, PIn.nil _ _ _⟩)
        have HT3 := Lib.hid (show (M ++ [(relP f.id, paR none 0)]).map Prod.fst = (L.map pkA).take (k + 1) from by rw [HTK.out, List.map_append, HM.out]; rfl)
        obtain ⟨y, hy⟩ : ∃ y : Pk × PkA, y = (relP f.id, paR none 0) := ⟨_, rfl⟩
        rw [← hy] at HP3 HT3
        have HYC := Lib.hid (show y.1.cells y.2 = (relP f.id).cells (paR none 0) by rw [hy])
        clear hy
        generalize (relP f.id).cells (paR none 0) = pc at *
        go_wp2_with (first
          | (refine wpo_built HBU.out rfl rfl rfl ?_; simp only [Act.put, List.setIfInBounds_toArray, List.set_cons_zero, List.set_cons_succ])
          | (refine wpk_slice1 HSZ.out rfl _ rfl rfl ?_; simp only [Act.put, List.setIfInBounds_toArray, List.set_cons_zero, List.set_cons_succ])
          | (at_builtin; go_must (refine append_k rfl _ _ rfl y HB3.out HR3.out rfl HML.out ⟨W3.heap.size, 0, none⟩ 1 rfl (fun i hi => by rw [HYC.out]; exact news_k W3 pc i hi) ?_)))
        intro a7 c7 w7 hr7 hb7 hf7
        have HPI7 := Lib.hid (show ∀ z ∈ M ++ [y], KPin w7 z from fun z hz => ⟨(HP3.out z hz).1, krow_pin HR3.out hf7 (HP3.out z hz).2⟩)
        have HR7 := Lib.hid hr7
        have HB7 := Lib.hid hb7
        clear hr7 hb7 hf7
        go_wp2_with fail
        go_roundw
        case rel => exact ⟨k + 1, M ++ [y], by omega, by go_num, HR7.out, HT3, HPI7, Lib.hid (by rw [List.length_append, HLK.out]; rfl), HB7.out⟩
        case measure => simp [intOf]; omega
      · have hA : pkA f = pkP f.q.m f.st f.id true := if_neg h3
        rw [hA] at HTK
        have HPA := Lib.hid (packet_any (w := W3) f.q ((HPQ.out.1.below HBE.out).below HO.out.bel) HPQ.out.2 f.st f.id true)
        unfold QV.agg at HPA
        go_wp2_with (refine wpo_ldq HO.out 0 rfl f.q HQ.out _ rfl rfl rfl ?_; unfold QV.agg; simp only [Act.put, List.setIfInBounds_toArray, List.set_cons_zero, List.set_cons_succ])
        refine HPA.out.mono ?_
        rintro x w4 ⟨a4, c4, rfl, hp4, hb4⟩
        have HSZ : Hid (((pkP f.q.m f.st f.id true).cells (paR a4 c4)).size = 26) := Lib.hid rfl
        have HP4 := Lib.hid hp4
        have HB4 := Lib.hid (HO.out.bel.trans (hb4.mono HO.out.bel.size))
        have HW := Lib.hid (show ∀ pc : Array Value, Below w4.heap.size w4 (w4.alloc (.cells pc 49)) from fun pc => (Below.refl _ _).alloc (Nat.le_refl _) _)
        have HB3 := Lib.hid (HBE.out.trans ((HB4.out.trans ((HW.out ((pkP f.q.m f.st f.id true).cells (paR a4 c4))).mono HB4.out.size)).mono HBE.out.size))
        have HR3 := Lib.hid ((HROW.out.below HB4.out).below (HW.out ((pkP f.q.m f.st f.id true).cells (paR a4 c4))))
        have HP3 := Lib.hid (show ∀ y ∈ M ++ [(pkP f.q.m f.st f.id true, paR a4 c4)], KPin (w4.alloc (.cells ((pkP f.q.m f.st f.id true).cells (paR a4 c4)) 49)) y from fun y hy => by
          rcases List.mem_append.1 hy with e | e
          · exact ⟨(HPI.out y e).1, ((HPI.out y e).2.below HB4.out).below (HW.out _)⟩
          · rw [List.mem_singleton] at e
            subst e
            exact ⟨⟨_, _, rfl⟩, HP4.out.below (HW.out _)⟩)
        have HT3 := Lib.hid (show (M ++ [(pkP f.q.m f.st f.id true, paR a4 c4)]).map Prod.fst = (L.map pkA).take (k + 1) from by rw [HTK.out, List.map_append, HM.out]; rfl)
        obtain ⟨y, hy⟩ : ∃ y : Pk × PkA, y = (pkP f.q.m f.st f.id true, paR a4 c4) := ⟨_, rfl⟩
        rw [← hy] at HP3 HT3
        have HYC := Lib.hid (show y.1.cells y.2 = (pkP f.q.m f.st f.id true).cells (paR a4 c4) by rw [hy])
        clear hy hp4 hb4 HPA HP4 c0 c1
        generalize (pkP f.q.m f.st f.id true).cells (paR a4 c4) = pc at *
        go_wp2_with (first
          | (refine wpk_slice1 HSZ.out rfl _ rfl rfl ?_; simp only [Act.put, List.setIfInBounds_toArray, List.set_cons_zero, List.set_cons_succ])
          | (at_builtin; go_must (refine append_k rfl _ _ rfl y HB3.out HR3.out rfl HML.out ⟨w4.heap.size, 0, none⟩ 1 rfl (fun i hi => by rw [HYC.out]; exact news_k w4 pc i hi) ?_)))
        intro a7 c7 w7 hr7 hb7 hf7
        have HPI7 := Lib.hid (show ∀ z ∈ M ++ [y], KPin w7 z from fun z hz => ⟨(HP3.out z hz).1, krow_pin HR3.out hf7 (HP3.out z hz).2⟩)
        have HR7 := Lib.hid hr7
        have HB7 := Lib.hid hb7
        clear hr7 hb7 hf7
        go_wp2_with fail
        go_roundw
        case rel => exact ⟨k + 1, M ++ [y], by omega, by go_num, HR7.out, HT3, HPI7, Lib.hid (by rw [List.length_append, HLK.out]; rfl), HB7.out⟩
        case measure => simp [intOf]; omega
    · have HE := Lib.hid (show AgainSays w L (.returned (.slice a M.length cc)) wr from by
        have e := HM.out
        rw [List.take_of_length_le (by rw [List.length_map]; have := HN.out; omega)] at e
        refine ⟨_, M, rfl, ?_, e, HPI.out, HB.out.trans (hbe.mono HB.out.size)⟩
        rcases hrow.2 with h1 | ⟨g1, cap, cur, e, hB, h3⟩
        · exact ⟨hrow.1, .inl h1⟩
        · exact ⟨hrow.1, .inr ⟨g1, cap, cur, e, Nat.le_trans HB.out.size hB, h3⟩⟩)
      clear hrow hbe
      go_wp2_with fail
      go_ret
      exact HE.out
end Go.Proofs.Ytpaalhhadjihlaa
