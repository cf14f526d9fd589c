/- What is proved here: the messages of groups that did not come are taken away. Conditions: few messages. -/
import Derived.Test.YtpaalhhadjihlaaAga24
import Derived.Test.YtpaalhhadjihlaaOpg24
namespace Go.Proofs.Ytpaalhhadjihlaa
open Go.RowKit Go.Extern.Stop Go.Stop Go.Extern Go.Maps Go.Deep
set_option maxRecDepth 100000
theorem text_ne24 {s : ByteArray} (h : ¬ s = ⟨#[]⟩) : s.toList.isEmpty = false ∧ ¬ s.toList = [] := by
  have h1 : ¬ s.toList = [] := fun e => h (ByteArray.ext (Array.toList_inj.mp (by rw [← ByteArray.toList_eq, e])))
  exact ⟨by rw [List.isEmpty_eq_false_iff]; exact h1, h1⟩
/-- One stays. -/
def keepB (f : FV) : Bool := decide (f.st = 3) || decide (f.q.m.grp = ⟨#[]⟩)
/-- Those that are left behind k rounds, and those that were taken. -/
def leftF (k : Nat) (L : FL) : FL := (L.take k).filter keepB ++ L.drop k
def tookF (k : Nat) (L : FL) : List MV := ((L.take k).filter (fun f => !keepB f)).map (fun f => f.q.m)
theorem split_at {L : FL} {k : Nat} (h : k < L.length) : L.take (k + 1) = L.take k ++ [L.getD k f0] ∧ L.drop k = L.getD k f0 :: L.drop (k + 1) := by
  have e : L.getD k f0 = L[k] := by rw [List.getD_eq_getElem?_getD, List.getElem?_eq_getElem h]; rfl
  rw [e]
  exact ⟨List.take_succ_eq_append_getElem h, List.drop_eq_getElem_cons h⟩
theorem left_keep {L : FL} {k : Nat} (h : k < L.length) (hk : keepB (L.getD k f0) = true) : leftF (k + 1) L = leftF k L ∧ tookF (k + 1) L = tookF k L := by
  obtain ⟨e1, e2⟩ := split_at h
  unfold leftF tookF
  rw [e1, e2]
  constructor
  · rw [List.filter_append, List.filter_cons_of_pos hk, List.filter_nil, List.append_assoc]
    rfl
  · rw [List.filter_append, List.filter_cons_of_neg (by rw [hk]; simp), List.filter_nil, List.append_nil]
theorem wof_mid {A B : FL} {f : FV} (hd : (ids (A ++ f :: B)).Nodup) : wof f.id (A ++ f :: B) = A ++ B := by
  unfold ids at hd
  rw [List.map_append, List.map_cons, List.nodup_append] at hd
  obtain ⟨_, h2, h3⟩ := hd
  rw [List.nodup_cons] at h2
  unfold wof
  rw [List.filter_append, List.filter_cons_of_neg (by simp), List.filter_eq_self.2, List.filter_eq_self.2]
  · intro x hx
    have : x.id ≠ f.id := fun e => h2.1 (by rw [← e]; exact List.mem_map.2 ⟨x, hx, rfl⟩)
    simpa using this
  · intro x hx
    have : x.id ≠ f.id := h3 _ (List.mem_map.2 ⟨x, hx, rfl⟩) _ List.mem_cons_self
    simpa using this
theorem left_take {L : FL} {k : Nat} (h : k < L.length) (hk : keepB (L.getD k f0) = false) (hd : (ids (leftF k L)).Nodup) : wof (L.getD k f0).id (leftF k L) = leftF (k + 1) L ∧ tookF (k + 1) L = tookF k L ++ [(L.getD k f0).q.m] ∧ (L.getD k f0).id ∈ ids (leftF k L) := by
  obtain ⟨e1, e2⟩ := split_at h
  unfold leftF tookF at *
  rw [e2] at hd ⊢
  refine ⟨?_, ?_, ?_⟩
  · rw [wof_mid hd, e1, List.filter_append, List.filter_cons_of_neg (by rw [hk]; simp), List.filter_nil, List.append_nil]
  · rw [e1, List.filter_append, List.filter_cons_of_pos (by rw [hk]; rfl), List.filter_nil, List.map_append]
    rfl
  · unfold ids
    rw [List.map_append, List.map_cons]
    exact List.mem_append_right _ List.mem_cons_self
theorem left_nil (L : FL) : leftF 0 L = L := rfl
theorem left_all {L : FL} {k : Nat} (h : L.length ≤ k) : leftF k L = L.filter keepB ∧ tookF k L = (L.filter (fun f => !keepB f)).map (fun f => f.q.m) := by
  unfold leftF tookF
  rw [List.take_of_length_le h, List.drop_of_length_le h, List.append_nil]
  exact ⟨rfl, rfl⟩
section
variable {w w' W : World} {B : Nat} {v : Value} {L : QL} {ops : Array Oper} {rest : List Oper} {o : Oper} {a : Act} {Q : Exit → Act → World → Prop}
theorem own_listQ {v : Value} {k : Nat} : k ∈ v.ownBlock.toList ↔ v.ownBlock = some k := by
  cases hv : v.ownBlock <;> simp [eq_comm]
theorem frow_fr {X : List Nat} {M : FL} (h : FRow w B v M) (hf : Fr X w w') (hX : ∀ x ∈ X, x < B) : FRow w' B v M := by
  refine ⟨h.1, ?_⟩
  rcases h.2 with h1 | ⟨g, cap, cur, e, hB, hh, h3⟩
  · exact .inl h1
  · exact .inr ⟨g, cap, cur, e, hB, (hf.block g (lt_of_block hh) (fun hm => by have := hX g hm; omega)).trans hh, h3⟩
/-- One message more. -/
theorem append_q24 (hgd : o.guard = none) (s x : Operand) (ho : o.op = .call { callee := .builtin .append, args := #[s, x], argTypes := #[53, 53] })
    (q : QV) (hB : B ≤ w.heap.size) (h : QRow w B v L) (hs : a.eval s = v) (hl : L.length ≤ 1000) (ad : Addr) (c : Nat) (hx : a.eval x = .slice (some ad) 1 c) (hq : ∀ i, i < 9 → w.cell? (ad.add i) = q.cells[i]?)
    (hk : ∀ a' c' w', QRow w' B (.slice a' (L.length + 1) c') (L ++ [q]) → Fr v.ownBlock.toList w w' → wpList Try.prog ops Q rest (a.put o.dst (.slice a' (L.length + 1) c')) w') : wpList Try.prog ops Q (o :: rest) a w := by
  obtain ⟨v', w', hr, hrow, hg, hat⟩ := h.push (ty := o.type) (q := q) Try.underlying53 hB hl hq c
  obtain ⟨a', c', rfl⟩ := hrow.form
  have hlen : (L ++ [q]).length = L.length + 1 := by simp
  rw [hlen] at hr hrow hat
  have hf : Fr v.ownBlock.toList w w' := (Fr.refl _ w).grown hg (fun k hk => .inl (own_listQ.2 hk))
  exact Lib.wpList_append_run w hgd s x 53 53 ho v _ hs hx _ w' hr (hk a' c' w' hrow hf)
theorem qrow_pin24 {A : Option Addr} {P : PL} (h : QRow w B v L) (hf : Fr v.ownBlock.toList w w') (hp : PIn w 0 A P) : PIn w' 0 A P :=
  hp.fr hf fun k hk => by
    obtain ⟨_, _, cs', hh'⟩ := h.lt k (own_listQ.1 hk)
    refine ⟨Nat.zero_le _, fun cs hh => ?_⟩
    rw [hh'] at hh
    injection hh with hh
    injection hh with _ ht
    exact absurd ht (by decide)
/-- A slice literal of one message. -/
theorem wpq_slice1 {pc : Array Value} (hs : pc.size = 9) (hgd : o.guard = none) (x : Operand) (ho : o.op = .buildSlice 53 1 #[(0, x)]) (hx : a.eval x = .agg pc)
    (h : wpList Try.prog ops Q rest (a.put o.dst (.slice (some ⟨w.heap.size, 0, none⟩) 1 1)) (w.alloc (.cells pc 36))) : wpList Try.prog ops Q (o :: rest) a w := by
  obtain ⟨i0, hi0, hz0, hz1, hz2⟩ := info_parts Try.msgInfo
  refine wpList_buildSlice hgd _ _ 1 _ ho pc i0 _ Try.underlying53 hi0 hz0 (by rw [hz1]; decide) (by rw [hz1]; decide) ?_ h
  have e : ((#[(0, x)] : Array (Nat × Operand)).map fun (i, x) => (i, a.eval x)).toList = (([Value.agg pc] : List Value).zipIdx 0).map fun x => (x.2, x.1) := by
    simp [hx]
  rw [e, hz1, Great.fill_whole (s := 9) (by decide) [.agg pc] _ (fun v hv => by rw [List.mem_singleton] at hv; subst hv; exact hs) (by simp)]
  simp [Value.cells]
theorem news_q24 (W : World) (pc : Array Value) : ∀ i, i < 9 → (W.alloc (.cells pc 36)).cell? ((⟨W.heap.size, 0, none⟩ : Addr).add i) = pc[i]? := by
  intro i hi
  rw [Addr.add_lit, Nat.zero_add, (Blk.made W 36 pc).cell i]
variable {g gp bp bm last sent last' sent' : Nat} {M M' : FL}
theorem Out3.then (h : Out3 w g gp bp bm M last sent W) (h2 : Out3 W g gp bp bm M' last' sent' w') : Out3 w g gp bp bm M' last' sent' w' := ⟨h2.1, h.2.trans h2.2 fun _ hb _ => hb⟩
theorem Out3.below (h : Out3 w g gp bp bm M last sent W) (hb : Below W.heap.size W w') : Out3 w g gp bp bm M last sent w' := h.then (h.1.same hb)
end
def GroupSays (w : World) (g gp bp bm : Nat) (L : FL) (last sent : Nat) (x : Ending) (w' : World) : Prop :=
  ∃ v M, x = .returned v ∧ QRow w' w.heap.size v M ∧ M.map QV.m = (L.filter (fun f => !keepB f)).map (fun f => f.q.m) ∧ (∀ q ∈ M, PIn w' 0 q.pa q.m.props) ∧ Out3 w g gp bp bm (L.filter keepB) last sent w'
set_option maxHeartbeats 8000000 in
theorem group_any {w : World} {g gp bp bm : Nat} {L : FL} {last sent : Nat} (h : OutI w g gp bp bm L last sent) :
    Calls Try.prog 15 #[.pointer (some ⟨g, 0, none⟩)] w (GroupSays w g gp bp bm L last sent) := by
  have HI := Lib.hid (inorder_any h)
  have HP := Lib.hid h.props
  have HL := Lib.hid (Nat.le_trans h.len h.few)
  have HLT := Lib.hid h.lts
  have HH := Lib.hid h
  clear h
  go_enter Try.func15, Try.ntmps15
  go_wp2_with fail
  refine HI.out.mono ?_
  rintro e w1 ⟨v, rfl, hr, hb⟩
  obtain ⟨a0, c0, rfl⟩ := hr.form
  have HR := Lib.hid hr
  have HB := Lib.hid hb
  have HP1 := Lib.hid (HP.out.below hb)
  have HO1 := Lib.hid (show Out3 w g gp bp bm (leftF 0 L) last sent w1 from HH.out.same hb)
  have HFRW := Lib.hid (show ∀ W, Fr [g, gp, bp, bm] w1 W → FRow W w.heap.size (.slice a0 L.length c0) L from fun W hf => frow_fr hr hf HLT.out)
  have HLT1 := Lib.hid (show ∀ x ∈ [g, gp, bp, bm], x < w1.heap.size from fun x hx => Nat.lt_of_lt_of_le (HLT.out x hx) hb.size)
  obtain ⟨n, hn⟩ : ∃ n, n = L.length := ⟨_, rfl⟩
  have HN := Lib.hid hn
  rw [← hn] at HR HFRW ⊢
  have hnm : n ≤ 1000 := by have := HL.out; omega
  clear hr hb HI HP hn
  go_wp2_with fail
  go_loopw [3, 9] (fun v i wr => ∃ (k : Nat) (M : QL), k ≤ n ∧ i = .int .i64 k ∧ QRow wr w1.heap.size v M ∧ Hid (M.map QV.m = tookF k L) ∧ Hid (∀ q ∈ M, PIn wr 0 q.pa q.m.props) ∧ Hid (M.length ≤ k) ∧ Hid (Out3 w1 g gp bp bm (leftF k L) last sent wr)) (fun _ i _ => n - (intOf i).toNat)
  case atStart => exact ⟨0, [], by omega, rfl, QRow.nil _ _, Lib.hid rfl, Lib.hid (fun y hy => by cases hy), Lib.hid (Nat.zero_le _), Lib.hid (HO1.out.1.same (Below.refl _ _))⟩
  case round =>
    obtain ⟨k, M, hk, rfl, hrow, HM, HPI, HLK, H3⟩ := hrel
    obtain ⟨a, cc, rfl⟩ := hrow.form
    have HROW := Lib.hid hrow
    by_cases hlt : k < n
    · have HKL := Lib.hid (show k < L.length by have := HN.out; omega)
      obtain ⟨gr, rfl, hg, hcc⟩ := HR.out.cell (by have := HKL.out; omega)
      have HRR := Lib.hid (HFRW.out _ H3.out.2)
      have HO := Lib.hid (Own.start [] wr)
      have HKE := Lib.hid (fun h => left_keep HKL.out h)
      have HTA := Lib.hid (fun h => left_take HKL.out h)
      have hpq := HP1.out _ (fmem HKL.out)
      obtain ⟨f, hf⟩ : ∃ f, f = L.getD k f0 := ⟨_, rfl⟩
      rw [← hf] at HKE HTA hpq
      have HPQ := Lib.hid hpq
      have HS : Hid (f.cells.toArray.size = f0.cells.toArray.size ∧ f.cells.toArray.toList.all (·.oneCell') = true) := Lib.hid ⟨rfl, by rw [List.all_eq_true]; exact fun u hu => fv_one f u (by simpa using hu)⟩
      have HML := Lib.hid (show M.length ≤ 1000 by have := HLK.out; have := HKL.out; have := HL.out; omega)
      have HLD := Lib.hid (show (L.getD k f0).cells.toArray = f.cells.toArray from by rw [hf])
      have HQ := Lib.hid (fq_at f)
      have HC : Hid (f.cells.toArray[0]? = some (.int .i64 f.id) ∧ f.cells.toArray[1]? = some (.int .i64 f.st) ∧ f.cells.toArray[10]? = some (.string f.q.m.grp)) := Lib.hid ⟨rfl, rfl, rfl⟩
      generalize f.cells.toArray = fc at *
      clear hrow hcc hpq hg hf
      go_upto_region 5 with (first
        | (refine wpf_load HRR.out HKL.out _ rfl rfl rfl (by omega) ?_; rw [HLD.out]; simp only [Act.put, List.setIfInBounds_toArray, List.set_cons_zero, List.set_cons_succ])
        | (refine wpo_alloc tyFt HO.out rfl rfl ?_; clear HO; rintro k5 W2 hO; have HO := Lib.hid hO; clear hO; simp only [Act.put, List.setIfInBounds_toArray, List.set_cons_zero, List.set_cons_succ])
        | (refine wpo_store (k := k5) HO.out 0 tyFt rfl _ _ rfl rfl rfl rfl rfl HS.out.1 HS.out.2 ?_; clear HO; rintro W3 hO; have HO := Lib.hid hO; clear hO; simp only [Act.put]))
      have c0 := ((HO.out.get 0 rfl).cell 0).trans HC.out.1
      have c1 := ((HO.out.get 0 rfl).cell 1).trans HC.out.2.1
      have c10 := ((HO.out.get 0 rfl).cell 10).trans HC.out.2.2
      have H33 := Lib.hid (H3.out.below HO.out.bel)
      have HRW3 := Lib.hid (HROW.out.below HO.out.bel)
      have HPI3 := Lib.hid (show ∀ q ∈ M, PIn W3 0 q.pa q.m.props from fun q hq => (HPI.out q hq).below HO.out.bel)
      by_cases h3 : f.st = 3
      · rw [h3] at c1
        have HE := Lib.hid (HKE.out (by unfold keepB; rw [h3]; rfl))
        clear c10
        go_wp2_with fail
        go_roundw
        case rel => exact ⟨k + 1, M, by omega, by go_num, HRW3.out, Lib.hid (by rw [HE.out.2]; exact HM.out), HPI3, Lib.hid (Nat.le_succ_of_le HLK.out), Lib.hid (by rw [HE.out.1]; exact H33.out)⟩
        case measure => simp [intOf]; omega
      · by_cases hgr : f.q.m.grp = ⟨#[]⟩
        · rw [hgr] at c10
          have HE := Lib.hid (HKE.out (by unfold keepB; rw [hgr]; simp))
          go_wp2_with fail
          go_roundw
          case rel => exact ⟨k + 1, M, by omega, by go_num, HRW3.out, Lib.hid (by rw [HE.out.2]; exact HM.out), HPI3, Lib.hid (Nat.le_succ_of_le HLK.out), Lib.hid (by rw [HE.out.1]; exact H33.out)⟩
          case measure => simp [intOf]; omega
        · obtain ⟨hne1, hne2⟩ := text_ne24 hgr
          have HE := Lib.hid (HTA.out (by unfold keepB; simp [h3, hgr]) H33.out.1.nodup)
          have HRM := Lib.hid (remove_any H33.out.1 HE.out.2.2)
          rw [HE.out.1] at HRM
          go_wp2_with fail
          refine HRM.out.mono ?_
          rintro x W4 ⟨rfl, ho⟩
          have H34 := Lib.hid (H33.out.then ho)
          have HO4 := Lib.hid (HO.out.went ho.2 (fun x hx => Nat.lt_of_lt_of_le (HLT1.out x hx) H3.out.2.size))
          have HRW4 := Lib.hid (HRW3.out.fr ho.2 (fun k hk hm => by have := (HRW3.out.lt k hk).1; have := HLT1.out k hm; omega))
          have HPI4 := Lib.hid (show ∀ q ∈ M, PIn W4 0 q.pa q.m.props from fun q hq => (HPI3.out q hq).fr ho.2 (fun b hb => ⟨Nat.zero_le _, H33.out.1.noprop b hb⟩))
          have HPF4 := Lib.hid (show PIn W4 0 f.q.pa f.q.m.props from HPQ.out.1.fr H34.out.2 (fun b hb => ⟨Nat.zero_le _, HO1.out.1.noprop b hb⟩))
          clear ho HRM HRW3 HPI3 HO H33 c0 c1 c10
          have HAG := Lib.hid (show f.q.agg = .agg f.q.cells.toArray from rfl)
          have HQ9 := Lib.hid (show f.q.cells.toArray.size = 9 ∧ ∀ i, f.q.cells.toArray[i]? = f.q.cells[i]? from ⟨rfl, fun i => List.getElem?_toArray ..⟩)
          generalize f.q.cells.toArray = qc at *
          have HW := Lib.hid (show Below W4.heap.size W4 (W4.alloc (.cells qc 36)) from (Below.refl _ _).alloc (Nat.le_refl _) _)
          have H35 := Lib.hid (H34.out.below HW.out)
          have HRW5 := Lib.hid (HRW4.out.below HW.out)
          have HPI5 := Lib.hid (show ∀ q ∈ M ++ [f.q], PIn (W4.alloc (.cells qc 36)) 0 q.pa q.m.props from fun q hq => by
            rcases List.mem_append.1 hq with e | e
            · exact (HPI4.out q e).below HW.out
            · rw [List.mem_singleton] at e
              subst e
              exact HPF4.out.below HW.out)
          have HSZ := Lib.hid (Nat.le_trans H34.out.2.size HW.out.size)
          go_wp2_with (first
            | (refine wpo_ldq HO4.out 0 rfl f.q HQ.out _ rfl rfl rfl ?_; rw [HAG.out]; simp only [Act.put, List.setIfInBounds_toArray, List.set_cons_zero, List.set_cons_succ])
            | (refine wpq_slice1 HQ9.out.1 rfl _ rfl rfl ?_; simp only [Act.put, List.setIfInBounds_toArray, List.set_cons_zero, List.set_cons_succ])
            | (at_builtin; go_must (refine append_q24 rfl _ _ rfl f.q HSZ.out HRW5.out rfl HML.out ⟨W4.heap.size, 0, none⟩ 1 rfl (fun i hi => (news_q24 W4 qc i hi).trans (HQ9.out.2 i)) ?_)))
          intro a7 c7 w7 hr7 hf7
          have HPI7 := Lib.hid (show ∀ z ∈ M ++ [f.q], PIn w7 0 z.pa z.m.props from fun z hz => qrow_pin24 HRW5.out hf7 (HPI5.out z hz))
          have HR7 := Lib.hid hr7
          have H37 := Lib.hid (H35.out.on HLT1.out hf7 (fun k hk => by
            obtain ⟨q1, _, cs', hh'⟩ := HRW5.out.lt k (own_listQ.1 hk)
            refine ⟨q1, fun cs hh => ?_⟩
            rw [hh'] at hh
            injection hh with hh
            injection hh with _ ht
            exact absurd ht (by decide)))
          clear hr7 hf7 hne1 hne2
          go_wp2_with fail
          go_roundw
          case rel => exact ⟨k + 1, M ++ [f.q], by omega, by go_num, HR7.out, Lib.hid (by rw [List.map_append, HM.out, HE.out.2.1]; rfl), HPI7, Lib.hid (by rw [List.length_append]; exact Nat.succ_le_succ HLK.out), H37⟩
          case measure => simp [intOf]; omega
    · have HE := Lib.hid (show GroupSays w g gp bp bm L last sent (.returned (.slice a M.length cc)) wr from by
        obtain ⟨e1, e2⟩ := left_all (L := L) (k := k) (by have := HN.out; omega)
        have h3 := H3.out
        rw [e1] at h3
        refine ⟨_, M, rfl, hrow.mono HB.out.size, by rw [HM.out, e2], HPI.out, ⟨h3.1, (HO1.out.2).trans h3.2 fun _ hb _ => hb⟩⟩)
      clear hrow
      go_wp2_with fail
      go_ret
      exact HE.out
end Go.Proofs.Ytpaalhhadjihlaa
