/- What is proved here: the packets that the document sends once more. Conditions: few messages. -/
import Derived.Test.YtpaalhhadjihlaaRsn24
import Derived.Test.YtpaalhhadjihlaaRpc24
namespace Go.Proofs.Ytpaalhhadjihlaa
open Go.RowKit Go.Extern.Stop Go.Stop Go.Extern Go.Maps Go.Deep
set_option maxRecDepth 100000
def KPinB (w : World) (B : Nat) (y : Pk × PkA) : Prop := (∃ a c, y.2 = paR a c) ∧ PIn w B y.2.pa y.1.props
def RAgainSays (w : World) (B : Nat) (L : FL) (x : Ending) (w' : World) : Prop := ∃ v KL, x = .returned v ∧ KRow w' w.heap.size v KL ∧ KL.map Prod.fst = L.map pkA ∧ (∀ y ∈ KL, KPinB w' B y) ∧ Below w.heap.size w w'
theorem gq_at (f : FV) : ∀ j u, f.q.cells[j]? = some u → f.gcells[2 + j]? = some u := by
  intro j u h
  have hj : j < 9 := (List.getElem?_eq_some_iff.1 h).1
  rw [← Array.getElem?_toList, Nat.add_comm]
  exact h
theorem krow_pinB {w w' : World} {B B' : Nat} {v : Value} {L : KL} {A : Option Addr} {P : PL} (h : KRow w B v L) (hf : Fr v.ownBlock.toList w w') (hp : PIn w B' A P) (hB : B' ≤ B) : PIn w' B' A P :=
  hp.fr hf fun k hk => by
    obtain ⟨q1, _, cs', hh'⟩ := h.lt k (own_listK.1 hk)
    refine ⟨Nat.le_trans hB q1, fun cs hh => ?_⟩
    rw [hh'] at hh
    injection hh with hh
    injection hh with _ ht
    exact absurd ht (by decide)
section
variable {ops : Array Oper} {rest : List Oper} {op : Oper} {a : Act} {w : World} {Q : Exit → Act → World → Prop}
/-- One of a row is loaded. -/
theorem wpl_load {B g n c : Nat} {L : FL} (h : GRow w B (.slice (some ⟨g, 0, none⟩) n c) L) {k of : Nat} (hk : k < L.length) (x : Operand) (hgd : op.guard = none) (ho : op.op = .load 71 x) (hx : a.eval x = .pointer (some ⟨g, of, none⟩)) (hof : of = k * 11)
    (H : wpList Try.prog ops Q rest (a.put op.dst (.agg (L.getD k f0).gcells)) w) : wpList Try.prog ops Q (op :: rest) a w :=
  wpList_plain hgd fun _ hK => by
    obtain ⟨d, hu, hd⟩ := tyFl.un
    obtain ⟨g', e, _, hc⟩ := h.cell (by omega)
    obtain rfl : g = g' := by injection e with e; injection e
    have hl := run_loadVar_mid (P := Try.prog) w g of 71 (L.getD k f0).gcells.toList d (fun j v hv => by
      rw [hof, hc k j hk (by have := (List.getElem?_eq_some_iff.1 hv).1; exact this)]
      rw [← Array.getElem?_toList]
      exact hv) hu hd tyFl.ip
    rw [Array.toArray_toList] at hl
    unfold Oper.wp execOp
    simp only [ho, hx, Instr.loadAt, Instr.sureAddr, Sem.run_bind, Sem.run_pure, Result.andThen_ok, hl]
    exact hK _ _ H
end
set_option maxHeartbeats 4000000 in
theorem ragain_any {w : World} {B x xp last : Nat} {v : Value} {L : FL} {LP : List Int} (h : RfI w B x xp v L last LP) :
    Calls Try.prog 22 #[.pointer (some ⟨x, 0, none⟩)] w (RAgainSays w B L) := by
  obtain ⟨a0, c0, rfl⟩ := h.form
  have HR := Lib.hid h.row
  have HX := Lib.hid h.blk
  have HP1 := Lib.hid h.ms
  have HL := Lib.hid h.few
  have HSB := Lib.hid h.size
  obtain ⟨n, hn⟩ : ∃ n, n = L.length := ⟨_, rfl⟩
  have HN := Lib.hid hn
  rw [← hn] at HR HX
  have hnm : n ≤ 1000 := by have := HL.out; omega
  clear h hn
  go_enter Try.func22, Try.ntmps22
  go_wp2_with fail
  go_loopw [3, 4] (fun v i wr => ∃ (k : Nat) (M : KL), k ≤ n ∧ i = .int .i64 k ∧ KRow wr w.heap.size v M ∧ Hid (M.map Prod.fst = (L.map pkA).take k) ∧ Hid (∀ y ∈ M, KPinB wr B y) ∧ Hid (M.length = k) ∧ Below w.heap.size w wr) (fun _ i _ => n - (intOf i).toNat)
  case atStart => exact ⟨0, [], by omega, rfl, World.ownsRow_nil _ _ _ _, Lib.hid rfl, Lib.hid (fun y hy => by cases hy), Lib.hid rfl, Below.refl _ _⟩
  case round =>
    obtain ⟨k, M, hk, rfl, hrow, HM, HPI, HLK, hbe⟩ := hrel
    obtain ⟨a, cc, rfl⟩ := hrow.form
    have HROW := Lib.hid hrow
    have HBE := Lib.hid hbe
    have x1 := (HX.out.below hbe HX.out.lt).cell 1
    by_cases hlt : k < n
    · have HKL := Lib.hid (show k < L.length by have := HN.out; omega)
      obtain ⟨gr, rfl, hg, hcc⟩ := HR.out.cell (by have := HKL.out; omega)
      have HRR := Lib.hid (own_below HR.out hbe)
      have HTK := Lib.hid (ftake_at pkA HKL.out)
      have hpq := HP1.out _ (fmem HKL.out)
      have HO := Lib.hid (Own.start [] wr)
      obtain ⟨f, hf⟩ : ∃ f, f = L.getD k f0 := ⟨_, rfl⟩
      have HF := Lib.hid hf
      rw [← hf] at HTK hpq
      have HPQ := Lib.hid hpq
      have HS : Hid (f.gcells.size = f0.gcells.size ∧ f.gcells.toList.all (·.oneCell') = true) := Lib.hid ⟨rfl, by have := gv_one f; rwa [← Array.all_toList] at this⟩
      have HC : Hid (f.gcells[0]? = some (.int .i64 f.id) ∧ f.gcells[1]? = some (.int .i64 f.st)) := Lib.hid ⟨rfl, rfl⟩
      have HQ := Lib.hid (gq_at f)
      have HML := Lib.hid (show M.length ≤ 1000 by have := HLK.out; have := HKL.out; have := HL.out; omega)
      have HLD := Lib.hid (show (L.getD k f0).gcells = f.gcells from by rw [hf])
      generalize f.gcells = fc at *
      clear hrow hbe hcc hpq hg hf
      go_upto_region 6 with (first
        | (refine wpl_load HRR.out HKL.out _ rfl rfl rfl (by omega) ?_; rw [HLD.out]; simp only [Act.put, List.setIfInBounds_toArray, List.set_cons_zero, List.set_cons_succ])
        | (refine wpo_alloc tyFl HO.out rfl rfl ?_; clear HO; rintro k5 W2 hO; have HO := Lib.hid hO; clear hO; simp only [Act.put, List.setIfInBounds_toArray, List.set_cons_zero, List.set_cons_succ])
        | (refine wpo_store (k := k5) HO.out 0 tyFl rfl _ _ rfl rfl rfl rfl rfl HS.out.1 HS.out.2 ?_; clear HO; rintro W3 hO; have HO := Lib.hid hO; clear hO; simp only [Act.put]))
      have c0 := ((HO.out.get 0 rfl).cell 0).trans HC.out.1
      have c1 := ((HO.out.get 0 rfl).cell 1).trans HC.out.2
      by_cases h3 : f.st = 3
      · rw [h3] at c1
        have hA : pkA f = relP f.id := if_pos h3
        rw [hA] at HTK
        have HBU := Lib.hid (built6 f.id)
        have HSZ : Hid (((relP f.id).cells (paR none 0)).size = 26) := Lib.hid rfl
        have HW := Lib.hid (show ∀ pc : Array Value, Below W3.heap.size W3 (W3.alloc (.cells pc 49)) from fun pc => (Below.refl _ _).alloc (Nat.le_refl _) _)
        have HB3 := Lib.hid (HBE.out.trans ((HO.out.bel.trans ((HW.out ((relP f.id).cells (paR none 0))).mono HO.out.bel.size)).mono HBE.out.size))
        have HR3 := Lib.hid ((HROW.out.below HO.out.bel).below (HW.out ((relP f.id).cells (paR none 0))))
        have HP3 := Lib.hid (show ∀ y ∈ M ++ [(relP f.id, paR none 0)], KPinB (W3.alloc (.cells ((relP f.id).cells (paR none 0)) 49)) B y from fun y hy => by
          rcases List.mem_append.1 hy with e | e
          · exact ⟨(HPI.out y e).1, ((HPI.out y e).2.below HO.out.bel).below (HW.out _)⟩
          · rw [List.mem_singleton] at e
            subst e
            exact ⟨⟨_, _, rfl⟩, PIn.nil _ _ _⟩)
        have HT3 := Lib.hid (show (M ++ [(relP f.id, paR none 0)]).map Prod.fst = (L.map pkA).take (k + 1) from by rw [HTK.out, List.map_append, HM.out]; rfl)
        obtain ⟨y, hy⟩ : ∃ y : Pk × PkA, y = (relP f.id, paR none 0) := ⟨_, rfl⟩
        rw [← hy] at HP3 HT3
        have HYC := Lib.hid (show y.1.cells y.2 = (relP f.id).cells (paR none 0) by rw [hy])
        clear hy
        generalize (relP f.id).cells (paR none 0) = pc at *
        go_wp2_with (first
          | (refine wpo_built HBU.out rfl rfl rfl ?_; simp only [Act.put, List.setIfInBounds_toArray, List.set_cons_zero, List.set_cons_succ])
          | (refine wpk_slice1 HSZ.out rfl _ rfl rfl ?_; simp only [Act.put, List.setIfInBounds_toArray, List.set_cons_zero, List.set_cons_succ])
          | (at_builtin; go_must (refine append_k rfl _ _ rfl y HB3.out HR3.out rfl HML.out ⟨W3.heap.size, 0, none⟩ 1 rfl (fun i hi => by rw [HYC.out]; exact news_k W3 pc i hi) ?_)))
        intro a7 c7 w7 hr7 hb7 hf7
        have HPI7 := Lib.hid (show ∀ z ∈ M ++ [y], KPinB w7 B z from fun z hz => ⟨(HP3.out z hz).1, krow_pinB HR3.out hf7 (HP3.out z hz).2 HSB.out⟩)
        have HR7 := Lib.hid hr7
        have HB7 := Lib.hid hb7
        clear hr7 hb7 hf7
        go_wp2_with fail
        go_roundw
        case rel => exact ⟨k + 1, M ++ [y], by omega, by go_num, HR7.out, HT3, HPI7, Lib.hid (by rw [List.length_append, HLK.out]; rfl), HB7.out⟩
        case measure => simp [intOf]; omega
      · have hA : pkA f = pkP f.q.m f.st f.id true := if_neg h3
        rw [hA] at HTK
        have HPA := Lib.hid (rpacket_any (w := W3) f.q f.st f.id true)
        unfold QV.agg at HPA
        go_wp2_with (refine wpo_ldq HO.out 0 rfl f.q HQ.out _ rfl rfl rfl ?_; unfold QV.agg; simp only [Act.put, List.setIfInBounds_toArray, List.set_cons_zero, List.set_cons_succ])
        refine HPA.out.mono ?_
        rintro e w4 ⟨rfl, hb4⟩
        have hp4 := ((HPQ.out.1.below HBE.out).below HO.out.bel).below hb4
        obtain ⟨a4, ha4⟩ : ∃ a4, a4 = f.q.pa := ⟨_, rfl⟩
        obtain ⟨c4, hc4⟩ : ∃ c4, c4 = f.q.pc := ⟨_, rfl⟩
        rw [← ha4] at hp4 ⊢
        rw [← hc4]
        unfold Pk.agg
        have HSZ : Hid (((pkP f.q.m f.st f.id true).cells (paR a4 c4)).size = 26) := Lib.hid rfl
        have HP4 := Lib.hid hp4
        have HB4 := Lib.hid (HO.out.bel.trans (hb4.mono HO.out.bel.size))
        have HW := Lib.hid (show ∀ pc : Array Value, Below w4.heap.size w4 (w4.alloc (.cells pc 49)) from fun pc => (Below.refl _ _).alloc (Nat.le_refl _) _)
        have HB3 := Lib.hid (HBE.out.trans ((HB4.out.trans ((HW.out ((pkP f.q.m f.st f.id true).cells (paR a4 c4))).mono HB4.out.size)).mono HBE.out.size))
        have HR3 := Lib.hid ((HROW.out.below HB4.out).below (HW.out ((pkP f.q.m f.st f.id true).cells (paR a4 c4))))
        have HP3 := Lib.hid (show ∀ y ∈ M ++ [(pkP f.q.m f.st f.id true, paR a4 c4)], KPinB (w4.alloc (.cells ((pkP f.q.m f.st f.id true).cells (paR a4 c4)) 49)) B y from fun y hy => by
          rcases List.mem_append.1 hy with e | e
          · exact ⟨(HPI.out y e).1, ((HPI.out y e).2.below HB4.out).below (HW.out _)⟩
          · rw [List.mem_singleton] at e
            subst e
            exact ⟨⟨_, _, rfl⟩, HP4.out.below (HW.out _)⟩)
        have HT3 := Lib.hid (show (M ++ [(pkP f.q.m f.st f.id true, paR a4 c4)]).map Prod.fst = (L.map pkA).take (k + 1) from by rw [HTK.out, List.map_append, HM.out]; rfl)
        obtain ⟨y, hy⟩ : ∃ y : Pk × PkA, y = (pkP f.q.m f.st f.id true, paR a4 c4) := ⟨_, rfl⟩
        rw [← hy] at HP3 HT3
        have HYC := Lib.hid (show y.1.cells y.2 = (pkP f.q.m f.st f.id true).cells (paR a4 c4) by rw [hy])
        clear hy hp4 hb4 HPA HP4 c0 c1 ha4 hc4
        generalize (pkP f.q.m f.st f.id true).cells (paR a4 c4) = pc at *
        go_wp2_with (first
          | (refine wpk_slice1 HSZ.out rfl _ rfl rfl ?_; simp only [Act.put, List.setIfInBounds_toArray, List.set_cons_zero, List.set_cons_succ])
          | (at_builtin; go_must (refine append_k rfl _ _ rfl y HB3.out HR3.out rfl HML.out ⟨w4.heap.size, 0, none⟩ 1 rfl (fun i hi => by rw [HYC.out]; exact news_k w4 pc i hi) ?_)))
        intro a7 c7 w7 hr7 hb7 hf7
        have HPI7 := Lib.hid (show ∀ z ∈ M ++ [y], KPinB w7 B z from fun z hz => ⟨(HP3.out z hz).1, krow_pinB HR3.out hf7 (HP3.out z hz).2 HSB.out⟩)
        have HR7 := Lib.hid hr7
        have HB7 := Lib.hid hb7
        clear hr7 hb7 hf7
        go_wp2_with fail
        go_roundw
        case rel => exact ⟨k + 1, M ++ [y], by omega, by go_num, HR7.out, HT3, HPI7, Lib.hid (by rw [List.length_append, HLK.out]; rfl), HB7.out⟩
        case measure => simp [intOf]; omega
    · have HE := Lib.hid (show RAgainSays w B L (.returned (.slice a M.length cc)) wr from by
        have e := HM.out
        rw [List.take_of_length_le (by rw [List.length_map]; have := HN.out; omega)] at e
        exact ⟨_, M, rfl, hrow, e, HPI.out, hbe⟩)
      clear hrow hbe
      go_wp2_with fail
      go_ret
      exact HE.out
end Go.Proofs.Ytpaalhhadjihlaa
