/- What is proved here: the document's retained messages: what stands, and what its Get answers. Conditions: those that each theorem names. What is proved here: what the document's Match and Expire do to its retained messages. Conditions: those that each theorem names. What is proved here: what the document's Expire does to its retained messages. Conditions: those that each theorem names. What is proved here: many messages appended at once; where one is put among sorted ones. Conditions: those that each theorem names. What is proved here: what the document's Put does to its retained messages. Conditions: those that each theorem names. What is proved here: a store and the document's side by side: a put, a cleaning, a look and a search answer alike. Conditions: those that each theorem names. What is proved here: a store and the document's side by side: a look and a search answer alike. Conditions: those that each theorem names. -/
import Derived.Test.YtfmkeapbddhndaaDoorAwk19
import Derived.Test.YtfmkeapbddhndaaDoorRlp19
import Derived.Test.YtfmkeapbddhndaaDoorOpn24
import Derived.Test.YtfmkeapbddhndaaDoorSml19
import Derived.Test.YtfmkeapbddhndaaDoorSmm24
import Derived.Test.YtfmkeapbddhndaaDoorEnvT16
import Derived.Deep.MidRow
namespace Go.Proofs.YtfmkeapbddhndaaDoor
open Go.RowKit Go.Extern.Stop Go.Stop Go.Extern Go.Maps Go.Deep
set_option maxRecDepth 100000
theorem MRow.cell {w : World} {B : Nat} {a : Option Addr} {n c : Nat} {L : QL} (h : MRow w B (.slice a n c) L) (hl : 0 < L.length) : ∃ g, a = some ⟨g, 0, none⟩ ∧ g < w.heap.size ∧ ∀ k i, k < L.length → i < 9 → w.cell? ⟨g, k * 9 + i, none⟩ = (L.getD k q0).cells[i]? := by
  rcases h.2 with ⟨_, h0⟩ | ⟨gr, cap, cur, e, hB, hh, h3⟩
  · omega
  · have e' := e
    injection e' with ha hn hc
    subst ha hn hc
    refine ⟨gr, rfl, lt_of_block hh, fun k i hk hi => ?_⟩
    rw [← qcs_get L k i hk hi]
    exact World.ownsRow.cellAt h (k * 9 + i) (by omega)
section
variable {ops : Array Oper} {rest : List Oper} {op : Oper} {a : Act} {w : World} {Q : Exit → Act → World → Prop}
/-- A message of a row is loaded. -/
theorem wpm_load {B g n c : Nat} {L : QL} (h : MRow w B (.slice (some ⟨g, 0, none⟩) n c) L) {k of : Nat} (hk : k < L.length) (x : Operand) (hgd : op.guard = none) (ho : op.op = .load 57 x) (hx : a.eval x = .pointer (some ⟨g, of, none⟩)) (hof : of = k * 9)
    (H : wpList Tryd.prog ops Q rest (a.put op.dst (.agg (L.getD k q0).cells.toArray)) w) : wpList Tryd.prog ops Q (op :: rest) a w :=
  wpList_plain hgd fun _ hK => by
    obtain ⟨d, hu, hd⟩ := tyMs.un
    obtain ⟨g', e, _, hc⟩ := h.cell (by omega)
    obtain rfl : g = g' := by injection e with e; injection e
    subst hof
    have hl := run_loadVar_mid (P := Tryd.prog) w g (k * 9) 57 (L.getD k q0).cells d (fun j v hv => by
      rw [hc k j hk (List.getElem?_eq_some_iff.1 hv).1]
      exact hv) hu hd tyMs.ip
    unfold Oper.wp execOp
    simp only [ho, hx, Instr.loadAt, Instr.sureAddr, Sem.run_bind, Sem.run_pure, Result.andThen_ok, hl]
    exact hK _ _ H
end
/-- The document's store at block x. -/
structure RSt (w : World) (B x : Nat) (most : Int) (v : Value) (D : QL) : Prop where
  blk : Blk w x 54 #[.int .i64 most, v]
  row : MRow w B v D
  low : B ≤ x
  size : B ≤ w.heap.size
  few : D.length ≤ 900
  ms : ∀ q ∈ D, PIn w B q.pa q.m.props ∧ q.m.props.length ≤ 1000 ∧ q.m.topic.size ≤ 1000
section
variable {w w' : World} {B x : Nat} {most : Int} {v : Value} {D : QL}
theorem RSt.fr {X : List Nat} (h : RSt w B x most v D) (hf : Fr X w w') (hX : ∀ b ∈ X, B ≤ b ∧ b ≠ x ∧ v.ownBlock ≠ some b ∧ ∀ cs, w.heap[b]? ≠ some (.cells cs 109 (0, 0))) : RSt w' B x most v D :=
  ⟨h.blk.fr hf fun hm => (hX _ hm).2.1 rfl, h.row.fr hf fun k hk hm => (hX k hm).2.2.1 hk, h.low, Nat.le_trans h.size hf.size, h.few, fun q hq => ⟨(h.ms q hq).1.fr hf fun b hb => ⟨(hX b hb).1, (hX b hb).2.2.2⟩, (h.ms q hq).2⟩⟩
theorem RSt.below (h : RSt w B x most v D) (hb : Below w.heap.size w w') : RSt w' B x most v D := h.fr (X := []) (Fr.of_below hb) fun b hb => by cases hb
theorem RSt.form (h : RSt w B x most v D) : ∃ a c, v = .slice a D.length c := h.row.form
theorem beq_decR (a b : ByteArray) : (a.toList == b.toList) = decide (a = b) := by
  by_cases h : a = b
  · subst h
    rw [decide_eq_true rfl]
    exact beq_self_eq_true _
  · rw [decide_eq_false h]
    exact beq_eq_false_iff_ne.2 fun e => h (toList_inj e)
theorem dtop {D : QL} {k : Nat} (h : k < D.length) : D.getD k q0 ∈ D := by
  rw [List.getD_eq_getElem?_getD, List.getElem?_eq_getElem h]
  exact List.getElem_mem _
theorem tops_get {D : QL} {s : ByteArray} (h : ∀ j, j < D.length → (D.getD j q0).m.topic ≠ s) : s ∉ tops D := fun hm => by
  obtain ⟨q, hq, e⟩ := List.mem_map.1 hm
  obtain ⟨j, hj, rfl⟩ := List.getElem_of_mem hq
  refine h j hj ?_
  rw [List.getD_eq_getElem?_getD, List.getElem?_eq_getElem hj]
  exact e
theorem at_no {D : QL} {s : ByteArray} (h : s ∉ tops D) : At D s q0 false := .inr ⟨rfl, rfl, h⟩
theorem at_yes {D : QL} {s : ByteArray} {q : QV} (h : q ∈ D) (he : q.m.topic = s) : At D s q true := .inl ⟨rfl, h, he⟩
def RGetSays (w : World) (D : QL) (s : ByteArray) (x : Ending) (w' : World) : Prop := ∃ q b, At D s q b ∧ x = .returned (.tuple #[q.agg, .bool b]) ∧ Below w.heap.size w w'
set_option maxHeartbeats 4000000 in
theorem rget_any (h : RSt w B x most v D) (s : ByteArray) : Calls Tryd.prog 31 #[.pointer (some ⟨x, 0, none⟩), .string s] w (RGetSays w D s) := by
  have HO := Lib.hid (Own.start [] w)
  have HH := Lib.hid h
  obtain ⟨A, c, rfl⟩ := h.form
  have hf := h.few
  have HAG : Hid (∀ q : QV, q.agg = .agg q.cells.toArray) := Lib.hid fun _ => rfl
  have HZS := Lib.hid (show zq.size = zq.size ∧ zq.toList.all (·.oneCell') = true from ⟨rfl, by simp [zq, Value.oneCell']⟩)
  clear h
  obtain ⟨n, hn⟩ : ∃ n, n = D.length := ⟨_, rfl⟩
  have HN := Lib.hid hn
  rw [← hn] at HH hf
  go_enter Tryd.func31, Tryd.ntmps31
  go_upto_region 1 with (refine wpo_alloc tyMs HO.out rfl rfl ?_; clear HO; rintro k4 W1 hO; have HO := Lib.hid hO; clear hO; simp only [Act.put, List.setIfInBounds_toArray, List.set_cons_zero, List.set_cons_succ])
  have HR1 := Lib.hid (HH.out.below HO.out.bel)
  have c1 := HR1.out.blk.cell 1
  clear hn
  go_wp2_with fail
  go_loopw [6] (fun i wr => ∃ k : Nat, k ≤ n ∧ i = .int .i64 k ∧ wr = W1 ∧ Hid (∀ j, j < k → (D.getD j q0).m.topic ≠ s)) (fun i _ => n - (intOf i).toNat)
  case atStart => exact ⟨0, Nat.zero_le _, rfl, rfl, Lib.hid (fun j hj => by omega)⟩
  case round =>
    obtain ⟨k, hk, rfl, rfl, HK⟩ := hrel
    by_cases hlt : k < n
    · have hkD : k < D.length := by have := HN.out; omega
      obtain ⟨gr, rfl, _, hcl⟩ := HR1.out.row.cell (by omega)
      have t0 := hcl k 0 hkD (by omega)
      rw [Nat.add_zero] at t0
      obtain ⟨q, hq⟩ : ∃ q, D.getD k q0 = q := ⟨_, rfl⟩
      have HLD := Lib.hid hq
      rw [hq] at t0
      have HQ := Lib.hid (show q ∈ D from hq ▸ dtop hkD)
      have HKD := Lib.hid hkD
      have t1 : wr.cell? ⟨gr, k * 9, none⟩ = some (.string (q).m.topic) := t0
      obtain ⟨e, he⟩ : ∃ e, ((q).m.topic.toList == s.toList) = e := ⟨_, rfl⟩
      have HE := Lib.hid ((beq_decR _ _).symm.trans he)
      clear t0 hcl hkD hq
      cases e with
      | false =>
        have HK2 := Lib.hid (fun j (hj : j < k + 1) => show (D.getD j q0).m.topic ≠ s from by
          rcases Nat.lt_succ_iff_lt_or_eq.1 hj with hj | rfl
          · exact HK.out j hj
          · rw [HLD.out]; exact of_decide_eq_false HE.out)
        go_wp2_with fail
        go_roundw
        case rel => exact ⟨k + 1, by omega, by go_num, by first | rfl | trivial, HK2⟩
        case measure => simp [intOf]; omega
      | true =>
        have HSQ := Lib.hid (hone19 (q))
        have HRW := Lib.hid HR1.out.row
        have HFIN := Lib.hid (at_yes HQ.out (of_decide_eq_true HE.out))
        go_wp2_with (first
          | (refine wpm_load HRW.out HKD.out _ rfl rfl rfl (by omega) ?_; rw [HLD.out]; simp only [Act.put, List.setIfInBounds_toArray, List.set_cons_zero, List.set_cons_succ])
          | (refine wpo_store (k := k4) HO.out 0 tyMs rfl _ _ rfl rfl rfl rfl rfl HSQ.out.1 HSQ.out.2 ?_; clear HO; rintro W5 hO; have HO := Lib.hid hO; clear hO; simp only [Act.put]))
        exact bodyPost_ret (v := .tuple #[.agg (q).cells.toArray, .bool true]) (res_own10 0 HO.out tyMs rfl rfl rfl rfl HSQ.out.1) rfl ⟨_, true, HFIN.out, rfl, HO.out.bel⟩
    · have hkn : k = n := by omega
      have HFIN := Lib.hid (at_no (tops_get fun j hj => HK.out j (by have := HN.out; omega)))
      go_wp2_with (first
        | (refine wpo_zero tyMs rfl rfl ?_)
        | (refine wpo_store (k := k4) HO.out 0 tyMs rfl _ _ rfl rfl rfl rfl rfl rfl HZS.out.2 ?_; clear HO; rintro W5 hO; have HO := Lib.hid hO; clear hO; simp only [Act.put]))
      exact bodyPost_ret (v := .tuple #[.agg zq, .bool false]) (res_own10 0 HO.out tyMs rfl rfl rfl rfl rfl) rfl ⟨q0, false, HFIN.out, rfl, HO.out.bel⟩
end
end Go.Proofs.YtfmkeapbddhndaaDoor
namespace Go.Proofs.YtfmkeapbddhndaaDoor
open Go.RowKit Go.Extern.Stop Go.Stop Go.Extern Go.Maps Go.Deep
set_option maxRecDepth 100000
/-- What stands while the row is gone over: those of the first k that p takes are in a row of the call's own. -/
structure RfJ (w V : World) (B x : Nat) (most : Int) (v : Value) (D : QL) (k : Nat) (p : QV → Bool) (u : Value) (R : QL) : Prop where
  st : RSt V B x most v D
  eq : R = (D.take k).filter p
  row : MRow V w.heap.size u R
  bel : Below w.heap.size w V
  dl : ∀ g, v.ownBlock = some g → g < w.heap.size
  xl : x < w.heap.size
section
variable {w V W : World} {B x k : Nat} {most : Int} {v u : Value} {D R : QL} {p : QV → Bool}
theorem RfJ.start (h : RSt w B x most v D) : RfJ w w B x most v D 0 p (.slice none 0 0) [] := ⟨h, rfl, World.ownsRow_nil _ _ _ _, Below.refl _ _, fun g hg => (h.row.lt g hg).2.1, h.blk.lt⟩
theorem RfJ.below (h : RfJ w V B x most v D k p u R) (hb : Below V.heap.size V W) : RfJ w W B x most v D k p u R := ⟨h.st.below hb, h.eq, h.row.below hb, h.bel.trans (hb.mono h.bel.size), h.dl, h.xl⟩
theorem take_at {D : QL} {k : Nat} (h : k < D.length) : D.take (k + 1) = D.take k ++ [D.getD k q0] := by
  rw [List.take_succ_eq_append_getElem h, List.getD_eq_getElem?_getD, List.getElem?_eq_getElem h]
  rfl
theorem RfJ.skip (h : RfJ w V B x most v D k p u R) (hk : k < D.length) (hp : p (D.getD k q0) = false) : RfJ w V B x most v D (k + 1) p u R :=
  ⟨h.st, by rw [take_at hk, List.filter_append, List.filter_cons, if_neg (by rw [hp]; exact Bool.false_ne_true), List.filter_nil, List.append_nil]; exact h.eq, h.row, h.bel, h.dl, h.xl⟩
theorem RfJ.push {u' : Value} (h : RfJ w V B x most v D k p u R) (hk : k < D.length) (hp : p (D.getD k q0) = true) (hr : MRow W w.heap.size u' (R ++ [D.getD k q0])) (hb : Below w.heap.size w W) (hf : Fr u.ownBlock.toList V W) (hB : B ≤ w.heap.size) : RfJ w W B x most v D (k + 1) p u' (R ++ [D.getD k q0]) := by
  refine ⟨h.st.fr hf fun b hm => ?_, ?_, hr, hb, h.dl, h.xl⟩
  · obtain ⟨h1, _, cs, h2⟩ := h.row.lt b (own_listM.1 hm)
    refine ⟨Nat.le_trans hB h1, fun e => ?_, fun e => ?_, fun cs' hc => ?_⟩
    · have := h.xl
      omega
    · have := h.dl b e
      omega
    · rw [h2] at hc
      injection hc with hc
      injection hc with _ ht
      exact absurd ht (by decide)
  · rw [take_at hk, List.filter_append, List.filter_cons, if_pos hp, List.filter_nil, h.eq]
theorem RfJ.len (h : RfJ w V B x most v D k p u R) : R.length ≤ 900 := by
  rw [h.eq]
  have h1 := List.length_filter_le p (D.take k)
  have := h.st.few
  rw [List.length_take] at h1
  omega
end
theorem come_any (q : QV) (now : Int) (w : World) : Calls Tryd.prog 58 #[q.agg, .int .i64 now] w fun x w' => x = .returned (.bool (exB q.m.til now)) ∧ Below w.heap.size w w' := by
  have HB := Lib.hid ((Below.refl w.heap.size w).alloc (Nat.le_refl _) (.cells q.cells.toArray 57))
  unfold QV.agg exB
  unfold QV.cells at *
  obtain ⟨⟨m1, m2, m3, m4, ml, m6, til, m8, m9⟩, pa, pc⟩ := q
  dsimp only at *
  by_cases h1 : 0 < til
  · by_cases h2 : til ≤ now
    · have e1 : decide (0 < til) = true := decide_eq_true h1
      have e2 : decide (til ≤ now) = true := decide_eq_true h2
      rw [e1, e2]
      go_enter Tryd.func58, Tryd.ntmps58
      go_wp2_with fail
      go_ret
      exact ⟨rfl, HB.out⟩
    · have e1 : decide (0 < til) = true := decide_eq_true h1
      have e2 : decide (til ≤ now) = false := decide_eq_false h2
      rw [e1, e2]
      go_enter Tryd.func58, Tryd.ntmps58
      go_wp2_with fail
      go_ret
      exact ⟨rfl, HB.out⟩
  · have e1 : decide (0 < til) = false := decide_eq_false h1
    rw [e1, Bool.false_and]
    go_enter Tryd.func58, Tryd.ntmps58
    go_wp2_with fail
    go_ret
    exact ⟨rfl, HB.out⟩
def RMatchSays (w : World) (B : Nat) (D : QL) (f : ByteArray) (x : Ending) (w' : World) : Prop := ∃ u, x = .returned u ∧ MRow w' w.heap.size u (D.filter (mtB f)) ∧ Below w.heap.size w w' ∧ ∀ q ∈ D, PIn w' B q.pa q.m.props
set_option maxHeartbeats 8000000 in
theorem rmatch19_any {w : World} {B x : Nat} {most : Int} {v : Value} {D : QL} (h : RSt w B x most v D) (f : ByteArray) (hf : f.size ≤ 1000) :
    Calls Tryd.prog 35 #[.pointer (some ⟨x, 0, none⟩), .string f] w (RMatchSays w B D f) := by
  have HJ0 := Lib.hid (RfJ.start (p := mtB f) h)
  obtain ⟨A, c, rfl⟩ := h.form
  have hfw := h.few
  have HF := Lib.hid hf
  have HB := Lib.hid h.size
  obtain ⟨n, hn⟩ : ∃ n, n = D.length := ⟨_, rfl⟩
  have HN := Lib.hid hn
  rw [← hn] at HJ0 hfw
  clear h hf hn
  go_enter Tryd.func35, Tryd.ntmps35
  go_wp2_with fail
  go_loopw [5, 6] (fun u i wr => ∃ (k : Nat) (R : QL), k ≤ n ∧ i = .int .i64 k ∧ Hid (RfJ w wr B x most (.slice A n c) D k (mtB f) u R)) (fun _ i _ => n - (intOf i).toNat)
  case atStart => exact ⟨0, [], Nat.zero_le _, rfl, HJ0⟩
  case round =>
    obtain ⟨k, R, hk, rfl, HJ⟩ := hrel
    have c1 := HJ.out.st.blk.cell 1
    by_cases hlt : k < n
    · have hkD : k < D.length := by have := HN.out; omega
      obtain ⟨gr, rfl, _, hcl⟩ := HJ.out.st.row.cell (by omega)
      have t0 := hcl k 0 hkD (by omega)
      rw [Nat.add_zero] at t0
      obtain ⟨q, hq⟩ : ∃ q, D.getD k q0 = q := ⟨_, rfl⟩
      have HLD := Lib.hid hq
      rw [hq] at t0
      have t1 : wr.cell? ⟨gr, k * 9, none⟩ = some (.string q.m.topic) := t0
      have HQM := Lib.hid (HJ.out.st.ms q (hq ▸ dtop hkD))
      have HKD := Lib.hid hkD
      have HM := Lib.hid (rMatch_any (w := wr) f q.m.topic (by have := HF.out; omega) (by have := HQM.out.2.2; omega))
      obtain ⟨A6, c6, hu6⟩ := HJ.out.row.form
      subst hu6
      clear t0 hcl hkD hq
      go_wp2_with fail
      refine HM.out.mono ?_
      rintro e W4 ⟨rfl, hb⟩
      have HJ4 := Lib.hid (HJ.out.below hb)
      clear hb t1 c1 HM HJ
      cases hmb : matchB f q.m.topic with
      | false =>
        have HJ5 := Lib.hid (HJ4.out.skip HKD.out (by rw [HLD.out]; exact hmb))
        clear hmb
        go_wp2_with fail
        go_roundw
        case rel => exact ⟨k + 1, R, by omega, by go_num, HJ5⟩
        case measure => simp [intOf]; omega
      | true =>
        have HMB := Lib.hid (show mtB f (D.getD k q0) = true by rw [HLD.out]; exact hmb)
        have c1 := HJ4.out.st.blk.cell 1
        have HRW := Lib.hid HJ4.out.st.row
        have HSQ := Lib.hid (hone19 q)
        have HQ6 := Lib.hid (show ∀ i, i < 9 → q.cells.toArray[i]? = q.cells[i]? from fun i _ => List.getElem?_toArray)
        have HAG := Lib.hid (show q.agg = .agg q.cells.toArray from rfl)
        have HLV := Lib.hid (show (D.getD k q0).cells.toArray = q.cells.toArray by rw [HLD.out])
        clear hmb
        generalize q.cells.toArray = vc at *
        have HJ6 := Lib.hid (HJ4.out.below (bva (Below.refl W4.heap.size W4) (.cells vc 57)))
        have HNW := Lib.hid (fun i (hi : i < 9) => (news_m W4 vc i hi).trans (HQ6.out i hi))
        go_wp2_with (first
          | (refine wpm_load HRW.out HKD.out _ rfl rfl rfl (by omega) ?_; rw [HLV.out]; simp only [Act.put, List.setIfInBounds_toArray, List.set_cons_zero, List.set_cons_succ])
          | (refine wpm_slice1 HSQ.out.1 rfl _ rfl rfl ?_; simp only [Act.put, List.setIfInBounds_toArray, List.set_cons_zero, List.set_cons_succ])
          | (refine append_m (w0 := w) rfl _ _ rfl q HJ6.out.bel HJ6.out.row rfl (by have := HJ6.out.len; omega) ⟨W4.heap.size, 0, none⟩ 1 rfl HNW.out ?_; intro a' c' w' hrow hbel hfr; have HX := Lib.hid (And.intro hrow (And.intro hbel hfr)); clear hrow hbel hfr; simp only [Act.put, List.setIfInBounds_toArray, List.set_cons_zero, List.set_cons_succ]))
        have HJ7 := Lib.hid (HJ6.out.push HKD.out HMB.out (by rw [HLD.out]; exact HX.out.1) HX.out.2.1 HX.out.2.2 HB.out)
        go_roundw
        case rel => exact ⟨k + 1, _, by omega, by go_num, HJ7⟩
        case measure => simp [intOf]; omega
    · have hkn : k = n := by omega
      have HE := Lib.hid (show ∃ u', u' = _ ∧ MRow wr w.heap.size u' (D.filter (mtB f)) ∧ Below w.heap.size w wr ∧ ∀ q ∈ D, PIn wr B q.pa q.m.props from ⟨_, rfl, by have h1 := HJ.out.row; rw [HJ.out.eq, hkn, HN.out, List.take_length] at h1; exact h1, HJ.out.bel, fun q hq => (HJ.out.st.ms q hq).1⟩)
      go_wp2_with fail
      go_ret
      obtain ⟨u', e, h1⟩ := HE.out
      exact ⟨u', by rw [e]; rfl, h1⟩
end Go.Proofs.YtfmkeapbddhndaaDoor
namespace Go.Proofs.YtfmkeapbddhndaaDoor
open Go.RowKit Go.Extern.Stop Go.Stop Go.Extern Go.Maps Go.Deep
set_option maxRecDepth 100000
theorem MRow.mono {w : World} {B B' : Nat} {v : Value} {L : QL} (h : MRow w B v L) (hB : B' ≤ B) : MRow w B' v L := by
  obtain ⟨h1, h2⟩ := h
  refine ⟨h1, ?_⟩
  rcases h2 with h2 | ⟨gr, cap, cur, e, hg, h3⟩
  · exact .inl h2
  · exact .inr ⟨gr, cap, cur, e, Nat.le_trans hB hg, h3⟩
section
variable {w V : World} {B x k : Nat} {most : Int} {v u : Value} {D R : QL} {p : QV → Bool}
/-- The row becomes the store's. -/
theorem rst_store (h : RSt V B x most v D) (hr : MRow V w.heap.size u R) (hB : B ≤ w.heap.size) (hm : ∀ q ∈ R, PIn V B q.pa q.m.props ∧ q.m.props.length ≤ 1000 ∧ q.m.topic.size ≤ 1000) (hl : R.length ≤ 900) : RSt (V.setCell ⟨x, 1, none⟩ u) B x most u R := by
  have hf : Fr [x] V (V.setCell ⟨x, 1, none⟩ u) := (Fr.refl [x] V).setCell (p := ⟨x, 1, none⟩) (.inl (List.mem_singleton_self x)) u
  refine ⟨?_, ?_, h.low, Nat.le_trans h.size hf.size, hl, fun q hq => ⟨(hm q hq).1.fr hf fun b hb => ⟨by rw [List.mem_singleton.1 hb]; exact h.low, fun cs hc => by
    rw [List.mem_singleton.1 hb] at hc
    exact h.blk.other hc (by decide) rfl⟩, (hm q hq).2⟩⟩
  · have := h.blk.store 1 u
    simpa using this
  · refine (hr.fr hf fun k hk hm => ?_).mono hB
    obtain ⟨_, _, cs, hc⟩ := hr.lt k hk
    rw [List.mem_singleton.1 hm] at hc
    exact h.blk.other hc (by decide) rfl
theorem fr_store (hb : Below w.heap.size w V) : Fr [x] w (V.setCell ⟨x, 1, none⟩ u) := (Fr.of_below (X := [x]) hb).trans ((Fr.refl [x] V).setCell (p := ⟨x, 1, none⟩) (.inl (List.mem_singleton_self x)) u) fun _ hb _ => hb
theorem RfJ.done (h : RfJ w V B x most v D D.length p u R) (hB : B ≤ w.heap.size) : RSt (V.setCell ⟨x, 1, none⟩ u) B x most u (D.filter p) ∧ Fr [x] w (V.setCell ⟨x, 1, none⟩ u) := by
  have he := h.eq
  rw [List.take_length] at he
  rw [← he]
  exact ⟨rst_store h.st h.row hB (fun q hq => h.st.ms q (by rw [he] at hq; exact (List.mem_filter.1 hq).1)) h.len, fr_store h.bel⟩
end
def RExpSays (w : World) (B x : Nat) (most now : Int) (D : QL) (e : Ending) (w' : World) : Prop :=
  e = .returned (.int .i64 ((D.length : Int) - ((D.filter (kpB now)).length : Nat))) ∧ ∃ u, RSt w' B x most u (D.filter (kpB now)) ∧ Fr [x] w w'
set_option maxHeartbeats 8000000 in
theorem rexp19_any {w : World} {B x : Nat} {most : Int} {v : Value} {D : QL} (h : RSt w B x most v D) (now : Int) :
    Calls Tryd.prog 29 #[.pointer (some ⟨x, 0, none⟩), .int .i64 now] w (RExpSays w B x most now D) := by
  have HJ0 := Lib.hid (RfJ.start (p := kpB now) h)
  obtain ⟨A, c, rfl⟩ := h.form
  have hfw := h.few
  have HB := Lib.hid h.size
  obtain ⟨n, hn⟩ : ∃ n, n = D.length := ⟨_, rfl⟩
  have HN := Lib.hid hn
  rw [← hn] at HJ0 hfw
  clear h hn
  go_enter Tryd.func29, Tryd.ntmps29
  go_wp2_with fail
  go_loopw [5, 6] (fun u i wr => ∃ (k : Nat) (R : QL), k ≤ n ∧ i = .int .i64 k ∧ Hid (RfJ w wr B x most (.slice A n c) D k (kpB now) u R)) (fun _ i _ => n - (intOf i).toNat)
  case atStart => exact ⟨0, [], Nat.zero_le _, rfl, HJ0⟩
  case round =>
    obtain ⟨k, R, hk, rfl, HJ⟩ := hrel
    have c1 := HJ.out.st.blk.cell 1
    obtain ⟨A6, c6, hu6⟩ := HJ.out.row.form
    subst hu6
    by_cases hlt : k < n
    · have hkD : k < D.length := by have := HN.out; omega
      obtain ⟨gr, rfl, _, hcl⟩ := HJ.out.st.row.cell (by omega)
      obtain ⟨q, hq⟩ : ∃ q, D.getD k q0 = q := ⟨_, rfl⟩
      have HLD := Lib.hid hq
      have HKD := Lib.hid hkD
      have HRW := Lib.hid HJ.out.st.row
      have HM : Hid (Calls Tryd.prog 58 #[.agg q.cells.toArray, .int .i64 now] wr fun x w' => x = .returned (.bool (exB q.m.til now)) ∧ Below wr.heap.size wr w') := Lib.hid (come_any q now wr)
      have HSQ := Lib.hid (hone19 q)
      have HQ6 := Lib.hid (show ∀ i, i < 9 → q.cells.toArray[i]? = q.cells[i]? from fun i _ => List.getElem?_toArray)
      have HLV := Lib.hid (show (D.getD k q0).cells.toArray = q.cells.toArray by rw [HLD.out])
      clear hcl hkD hq
      generalize q.cells.toArray = vc at *
      go_wp2_with (refine wpm_load HRW.out HKD.out _ rfl rfl rfl (by omega) ?_; rw [HLV.out]; simp only [Act.put, List.setIfInBounds_toArray, List.set_cons_zero, List.set_cons_succ])
      refine HM.out.mono ?_
      rintro e W4 ⟨rfl, hb⟩
      have HJ4 := Lib.hid (HJ.out.below hb)
      clear hb c1 HM HJ HRW
      cases hmb : exB q.m.til now with
      | true =>
        have HJ5 := Lib.hid (HJ4.out.skip HKD.out (by rw [HLD.out]; unfold kpB; rw [hmb]; rfl))
        clear hmb
        go_wp2_with fail
        go_roundw
        case rel => exact ⟨k + 1, R, by omega, by go_num, HJ5⟩
        case measure => simp [intOf]; omega
      | false =>
        have HMB := Lib.hid (show kpB now (D.getD k q0) = true by rw [HLD.out]; unfold kpB; rw [hmb]; rfl)
        have c1 := HJ4.out.st.blk.cell 1
        have HRW := Lib.hid HJ4.out.st.row
        clear hmb
        have HJ6 := Lib.hid (HJ4.out.below (bva (Below.refl W4.heap.size W4) (.cells vc 57)))
        have HNW := Lib.hid (fun i (hi : i < 9) => (news_m W4 vc i hi).trans (HQ6.out i hi))
        go_wp2_with (first
          | (refine wpm_load HRW.out HKD.out _ rfl rfl rfl (by omega) ?_; rw [HLV.out]; simp only [Act.put, List.setIfInBounds_toArray, List.set_cons_zero, List.set_cons_succ])
          | (refine wpm_slice1 HSQ.out.1 rfl _ rfl rfl ?_; simp only [Act.put, List.setIfInBounds_toArray, List.set_cons_zero, List.set_cons_succ])
          | (refine append_m (w0 := w) rfl _ _ rfl q HJ6.out.bel HJ6.out.row rfl (by have := HJ6.out.len; omega) ⟨W4.heap.size, 0, none⟩ 1 rfl HNW.out ?_; intro a' c' w' hrow hbel hfr; have HX := Lib.hid (And.intro hrow (And.intro hbel hfr)); clear hrow hbel hfr; simp only [Act.put, List.setIfInBounds_toArray, List.set_cons_zero, List.set_cons_succ]))
        have HJ7 := Lib.hid (HJ6.out.push HKD.out HMB.out (by rw [HLD.out]; exact HX.out.1) HX.out.2.1 HX.out.2.2 HB.out)
        go_roundw
        case rel => exact ⟨k + 1, _, by omega, by go_num, HJ7⟩
        case measure => simp [intOf]; omega
    · have hkn : k = n := by omega
      have hJN : RfJ w wr B x most (.slice A n c) D D.length (kpB now) (.slice A6 R.length c6) R := by
        have h1 := HJ.out
        rw [hkn, HN.out] at h1
        rw [HN.out]
        exact h1
      have hRL : R.length = (D.filter (kpB now)).length := by rw [hJN.eq, List.take_length]
      have HR := Lib.hid hRL
      have hle : R.length ≤ n := by rw [hRL, HN.out]; exact List.length_filter_le _ _
      have c2 := HJ.out.st.blk.frozen 1
      have HE := Lib.hid (hJN.done HB.out)
      clear hJN hRL hkn
      generalize hrl : R.length = rl at *
      clear hrl
      go_wp2_with fail
      go_ret
      exact ⟨by rw [← HR.out, ← HN.out]; rfl, _, HE.out⟩
end Go.Proofs.YtfmkeapbddhndaaDoor
namespace Go.Proofs.YtfmkeapbddhndaaDoor
open Go.RowKit Go.Extern.Stop Go.Stop Go.Extern Go.Maps Go.Deep
set_option maxRecDepth 100000
theorem MRow.pushN {w : World} {B : Nat} {v : Value} {L : QL} {t ty : TypeId} (ht : Tryd.prog.underlying t = some (.slice 57)) (h : MRow w B v L) (hB : B ≤ w.heap.size) (M : QL) (hl : L.length + M.length ≤ 2000) {ad : Addr} (hq : ∀ j u, (qcs M)[j]? = some u → w.cell? (ad.add j) = some u) (c : Nat) :
    ∃ v' w', (Builtin.append_ #[t, t] ty #[v, .slice (some ad) M.length c]).run Tryd.prog w = .ok v' w' ∧ MRow w' B v' (L ++ M) ∧ w.grownBy w' v.ownBlock := by
  obtain ⟨i0, hi0, hz0, hz1, hz2⟩ := info_parts Tryd.msgInfo
  have hlen : (L ++ M).length = L.length + M.length := by simp
  have hL9 : (L.length + M.length) * 120 ≤ 140737488355328 := by omega
  obtain ⟨v', w', hr, ho, hg, _, _⟩ := run_append_own_at (P := Tryd.prog) w B t ty _ i0 _ 9 120 ht hi0 hz0 hz1 hz2 rfl (by decide) v L.length (qcs L) h ad M.length c (qcs M) (qcs_len M) hq (qcs_ones M) (Nat.le_trans hl (by unfold maxLen; decide)) (by omega) hB
  refine ⟨v', w', hr, ?_, hg⟩
  show World.ownsRow w' B 57 9 v' (L ++ M).length (qcs (L ++ M))
  rw [qcs_app, hlen]
  exact ho
theorem append_ms {ops : Array Oper} {rest : List Oper} {o : Oper} {a : Act} {Q : Exit → Act → World → Prop} {w0 w : World} (hgd : o.guard = none) (s y : Operand) (ho : o.op = .call { callee := .builtin .append, args := #[s, y], argTypes := #[52, 52] })
    {v : Value} {L : QL} (M : QL) (hb : Below w0.heap.size w0 w) (h : MRow w w0.heap.size v L) (hs : a.eval s = v) (hl : L.length + M.length ≤ 2000) (ad : Addr) (n c : Nat) (hx : a.eval y = .slice (some ad) n c) (hn : n = M.length) (n2 : Nat) (hn2 : L.length + M.length = n2) (hq : ∀ j u, (qcs M)[j]? = some u → w.cell? (ad.add j) = some u)
    (hk : ∀ a' c' w', MRow w' w0.heap.size (.slice a' n2 c') (L ++ M) → Below w0.heap.size w0 w' → Fr v.ownBlock.toList w w' → wpList Tryd.prog ops Q rest (a.put o.dst (.slice a' n2 c')) w') : wpList Tryd.prog ops Q (o :: rest) a w := by
  subst hn
  subst hn2
  obtain ⟨v', w', hr, hrow, hg⟩ := h.pushN (ty := o.type) Tryd.underlying52 hb.size M hl hq c
  obtain ⟨a', c', rfl⟩ := hrow.form
  have hlen : (L ++ M).length = L.length + M.length := by simp
  rw [hlen] at hr hrow
  have hf : Fr v.ownBlock.toList w w' := (Fr.refl _ w).grown hg (fun k hk => .inl (own_listM.2 hk))
  exact Lib.wpList_append_run w hgd s y 52 52 ho v _ hs hx _ w' hr (hk a' c' w' hrow (hf.later hb (fun k hm => (h.lt k (own_listM.1 hm)).1) hb.size) hf)
/-- Nothing is appended. -/
theorem append_none {ops : Array Oper} {rest : List Oper} {o : Oper} {a : Act} {Q : Exit → Act → World → Prop} {w : World} (hgd : o.guard = none) (s y : Operand) (ho : o.op = .call { callee := .builtin .append, args := #[s, y], argTypes := #[52, 52] })
    {A : Option Addr} {n c c2 : Nat} (hnc : n ≤ c) (hs : a.eval s = .slice A n c) (hx : a.eval y = .slice none 0 c2)
    (hk : wpList Tryd.prog ops Q rest (a.put o.dst (.slice A n c)) w) : wpList Tryd.prog ops Q (o :: rest) a w := by
  obtain ⟨i0, hi0, hz0, hz1, hz2⟩ := info_parts Tryd.msgInfo
  have hr : (Builtin.append_ #[52, 52] o.type #[.slice A n c, .slice none 0 c2]).run Tryd.prog w = .ok (.slice A n c) w := by
    have hu := run_underlying Tryd.underlying52 w
    have hf := run_firstCells_none (P := Tryd.prog) (w := w) i0.size 0 0 c2
    cases A with
    | none => simp [Builtin.append_, hu, sizeOf, typeInfo, hi0, Builtin.lenOf, hnc, hf]
    | some ad => simp [Builtin.append_, hu, sizeOf, typeInfo, hi0, Builtin.lenOf, hnc, hf, storeCells]
  exact Lib.wpList_append_run w hgd s y 52 52 ho _ _ hs hx _ w hr hk
/-- How many of the first ones stand ahead. -/
def aheadN (s : ByteArray) : QL → Nat
  | [] => 0
  | q :: L => if lessT q.m.topic s then aheadN s L + 1 else 0
theorem ahead_le (s : ByteArray) : ∀ L : QL, aheadN s L ≤ L.length
  | [] => Nat.le_refl _
  | q :: L => by
    unfold aheadN
    split
    · have := ahead_le s L
      rw [List.length_cons]
      omega
    · exact Nat.zero_le _
theorem ahead_at {s : ByteArray} : ∀ {L : QL} {k : Nat}, k ≤ L.length → (∀ j, j < k → lessT (L.getD j q0).m.topic s = true) → (k < L.length → lessT (L.getD k q0).m.topic s = false) → aheadN s L = k
  | [], k, h, _, _ => by simp at h; subst h; rfl
  | q :: L, 0, _, _, h2 => by
    have := h2 (by simp)
    unfold aheadN
    rw [if_neg (by rw [show lessT q.m.topic s = false from this]; exact Bool.false_ne_true)]
  | q :: L, k + 1, h, h1, h2 => by
    have h0 : lessT q.m.topic s = true := h1 0 (by omega)
    unfold aheadN
    rw [if_pos h0, ahead_at (k := k) (by simpa using h) (fun j hj => h1 (j + 1) (by omega)) (fun hk => h2 (by simpa using hk))]
/-- One is put in its place. -/
def insQ (q : QV) (L : QL) : QL := L.take (aheadN q.m.topic L) ++ [q] ++ L.drop (aheadN q.m.topic L)
theorem ins_perm (q : QV) (L : QL) : (insQ q L).Perm (q :: L) := by
  unfold insQ
  rw [List.append_assoc, List.singleton_append]
  have h := List.perm_middle (a := q) (l₁ := L.take (aheadN q.m.topic L)) (l₂ := L.drop (aheadN q.m.topic L))
  rw [List.take_append_drop] at h
  exact h
def Srt (L : QL) : Prop := L.Pairwise (fun a b => lessT a.m.topic b.m.topic = true)
theorem ahead_split {s : ByteArray} : ∀ {L : QL}, Srt L → (∀ q ∈ L, q.m.topic ≠ s) → (∀ q ∈ L.take (aheadN s L), lessT q.m.topic s = true) ∧ ∀ q ∈ L.drop (aheadN s L), lessT s q.m.topic = true
  | [], _, _ => ⟨fun q hq => by simp at hq, fun q hq => by simp at hq⟩
  | y :: L, h, hn => by
    obtain ⟨h1, h2⟩ := List.pairwise_cons.1 h
    obtain ⟨i1, i2⟩ := ahead_split h2 (fun q hq => hn q (List.mem_cons_of_mem _ hq))
    unfold aheadN
    cases hy : lessT y.m.topic s with
    | true =>
      rw [if_pos rfl, List.take_succ_cons, List.drop_succ_cons]
      refine ⟨fun q hq => ?_, i2⟩
      rcases List.mem_cons.1 hq with rfl | hq
      · exact hy
      · exact i1 q hq
    | false =>
      rw [if_neg Bool.false_ne_true, List.take_zero, List.drop_zero]
      refine ⟨(fun q hq => by cases hq), fun q hq => ?_⟩
      have hsy : lessT s y.m.topic = true := by
        cases h3 : lessT s y.m.topic with
        | true => rfl
        | false => exact absurd (toList_inj (less_tot hy h3)) (hn y (List.mem_cons_self ..))
      rcases List.mem_cons.1 hq with rfl | hq
      · exact hsy
      · exact less_trans hsy (h1 q hq)
theorem ins_srt {q : QV} {L : QL} (h : Srt L) (hn : ∀ y ∈ L, y.m.topic ≠ q.m.topic) : Srt (insQ q L) := by
  obtain ⟨i1, i2⟩ := ahead_split h hn
  unfold insQ Srt
  have h0 := h
  rw [← List.take_append_drop (aheadN q.m.topic L) L] at h0
  obtain ⟨a1, a2, a3⟩ := List.pairwise_append.1 h0
  refine List.pairwise_append.2 ⟨List.pairwise_append.2 ⟨a1, List.pairwise_singleton _ _, fun a ha b hb => by rw [List.mem_singleton.1 hb]; exact i1 a ha⟩, a2, fun a ha b hb => ?_⟩
  rcases List.mem_append.1 ha with ha | ha
  · exact a3 a ha b hb
  · rw [List.mem_singleton.1 ha]
    exact i2 b hb
theorem srt_filter {L : QL} (h : Srt L) (p : QV → Bool) : Srt (L.filter p) := List.Pairwise.filter p h
/-- What is sorted in one way alone. -/
theorem one_srt : ∀ {L M : List MV}, L.Pairwise (fun a b => lessT a.topic b.topic = true) → M.Perm L → M.Pairwise (fun a b => lessT b.topic a.topic = false) → M = L
  | [], _, _, hp, _ => List.Perm.eq_nil hp
  | a :: L, [], _, hp, _ => by have := hp.length_eq; simp at this
  | a :: L, b :: M, hL, hp, hM => by
    obtain ⟨h1, h2⟩ := List.pairwise_cons.1 hL
    obtain ⟨h3, h4⟩ := List.pairwise_cons.1 hM
    have hab : a = b := by
      have ha : a ∈ b :: M := hp.mem_iff.2 (List.mem_cons_self ..)
      have hb : b ∈ a :: L := hp.mem_iff.1 (List.mem_cons_self ..)
      rcases List.mem_cons.1 hb with e | hb
      · exact e.symm
      · rcases List.mem_cons.1 ha with e | ha
        · exact e
        · have e1 := h1 b hb
          have e2 := h3 a ha
          rw [e1] at e2
          cases e2
    subst hab
    rw [one_srt h2 (hp.cons_inv) h4]
end Go.Proofs.YtfmkeapbddhndaaDoor
namespace Go.Proofs.YtfmkeapbddhndaaDoor
open Go.RowKit Go.Extern.Stop Go.Stop Go.Extern Go.Maps Go.Deep
set_option maxRecDepth 100000
theorem MRow.push3 {w : World} {B : Nat} {v : Value} {L : QL} {t ty : TypeId} (ht : Tryd.prog.underlying t = some (.slice 57)) (h : MRow w B v L) (hB : B ≤ w.heap.size) (hl : L.length ≤ 1000) (x : QV) {ad : Addr} (hq : ∀ i, i < 9 → w.cell? (ad.add i) = x.cells[i]?) (c : Nat) :
    ∃ v' w', (Builtin.append_ #[t, t] ty #[v, .slice (some ad) 1 c]).run Tryd.prog w = .ok v' w' ∧ MRow w' B v' (L ++ [x]) ∧ w.grownBy w' v.ownBlock ∧ (v'.ownBlock = v.ownBlock ∨ v'.ownBlock = some w.heap.size) := by
  obtain ⟨i0, hi0, hz0, hz1, hz2⟩ := info_parts Tryd.msgInfo
  have hlen : (L ++ [x]).length = L.length + 1 := by simp
  have hn : ∀ j u, (x.cells)[j]? = some u → w.cell? (ad.add j) = some u := fun j u hj => by
    rw [hq j (by have := (List.getElem?_eq_some_iff.1 hj).1; exact this)]; exact hj
  have h1 : ∀ u ∈ x.cells, u.oneCell' = true := fun u hu => qcs_ones [x] u (by simpa [qcs] using hu)
  have hL9 : (L.length + 1) * 120 ≤ 140737488355328 := by omega
  obtain ⟨v', w', hr, ho, hg, _, hat⟩ := run_append_own_at (P := Tryd.prog) w B t ty _ i0 _ 9 120 ht hi0 hz0 hz1 hz2 rfl (by decide) v L.length (qcs L) h ad 1 c x.cells rfl hn h1 (Nat.le_trans (show L.length + 1 ≤ 1001 by omega) (by unfold maxLen; decide)) (by omega) hB
  refine ⟨v', w', hr, ?_, hg, hat⟩
  show World.ownsRow w' B 57 9 v' (L ++ [x]).length (qcs (L ++ [x]))
  rw [qcs_app, show qcs [x] = x.cells by simp [qcs], hlen]
  exact ho
/-- As append_m: an elder block is not the row's. -/
theorem append_m3 {ops : Array Oper} {rest : List Oper} {o : Oper} {a : Act} {Q : Exit → Act → World → Prop} {w0 w : World} {k3 : Nat} (hgd : o.guard = none) (s y : Operand) (ho : o.op = .call { callee := .builtin .append, args := #[s, y], argTypes := #[52, 52] })
    {v : Value} {L : QL} (x : QV) (hb : Below w0.heap.size w0 w) (h : MRow w w0.heap.size v L) (h3 : k3 < w.heap.size) (hv3 : v.ownBlock ≠ some k3) (hs : a.eval s = v) (hl : L.length ≤ 1000) (ad : Addr) (c : Nat) (hx : a.eval y = .slice (some ad) 1 c) (hq : ∀ i, i < 9 → w.cell? (ad.add i) = x.cells[i]?)
    (hk : ∀ a' c' w', MRow w' w0.heap.size (.slice a' (L.length + 1) c') (L ++ [x]) → Below w0.heap.size w0 w' → Fr v.ownBlock.toList w w' → (Value.slice a' (L.length + 1) c').ownBlock ≠ some k3 → wpList Tryd.prog ops Q rest (a.put o.dst (.slice a' (L.length + 1) c')) w') : wpList Tryd.prog ops Q (o :: rest) a w := by
  obtain ⟨v', w', hr, hrow, hg, ho'⟩ := h.push3 (ty := o.type) Tryd.underlying52 hb.size hl x hq c
  obtain ⟨a', c', rfl⟩ := hrow.form
  have hlen : (L ++ [x]).length = L.length + 1 := by simp
  rw [hlen] at hr hrow ho'
  have hf : Fr v.ownBlock.toList w w' := (Fr.refl _ w).grown hg (fun k hk => .inl (own_listM.2 hk))
  refine Lib.wpList_append_run w hgd s y 52 52 ho v _ hs hx _ w' hr (hk a' c' w' hrow (hf.later hb (fun k hm => (h.lt k (own_listM.1 hm)).1) hb.size) hf fun e => ?_)
  rcases ho' with e2 | e2
  · exact hv3 (e2 ▸ e)
  · rw [e2] at e
    injection e with e
    omega
theorem mrow_two {w : World} {B n c : Nat} {A : Option Addr} {L : QL} (h : MRow w B (.slice A n c) L) : (A = none ∧ n = 0 ∧ c = 0) ∨ ∃ g, A = some ⟨g, 0, none⟩ := by
  rcases h.2 with ⟨e, _⟩ | ⟨gr, cap, cur, e, hB, hh, h1, h2, _⟩
  · injection e with e1 e2 e3
    exact .inl ⟨e1, e2, e3⟩
  · injection e with e1 e2 e3
    exact .inr ⟨gr, e1⟩
theorem RfJ.put {w V W : World} {B x : Nat} {most : Int} {v u u' : Value} {D R : QL} {p : QV → Bool} {q : QV} (h : RfJ w V B x most v D D.length p u R) (hB : B ≤ w.heap.size) (hb : Below V.heap.size V W) (hr : MRow W V.heap.size u' (insQ q R)) (hq : PIn w B q.pa q.m.props ∧ q.m.props.length ≤ 1000 ∧ q.m.topic.size ≤ 1000) (hn : D.length < 800) : RSt (W.setCell ⟨x, 1, none⟩ u') B x most u' (insQ q R) ∧ Fr [x] w (W.setCell ⟨x, 1, none⟩ u') := by
  have h2 := h.below hb
  have he := h.eq
  rw [List.take_length] at he
  refine ⟨rst_store h2.st hr (Nat.le_trans hB h.bel.size) (fun q' hm => ?_) ?_, fr_store h2.bel⟩
  · rcases List.mem_cons.1 ((ins_perm q R).mem_iff.1 hm) with rfl | hm
    · exact ⟨hq.1.fr (X := []) (Fr.of_below h2.bel) (fun b hb => by cases hb), hq.2⟩
    · exact h2.st.ms q' (by rw [he] at hm; exact (List.mem_filter.1 hm).1)
  · rw [(ins_perm q R).length_eq, List.length_cons, he]
    have := List.length_filter_le p D
    omega
theorem mrow_cap {w : World} {B n c : Nat} {A : Option Addr} {L : QL} (h : MRow w B (.slice A n c) L) : n ≤ c ∧ c ≤ maxLen := by
  rcases h.2 with ⟨e, _⟩ | ⟨gr, cap, cur, e, hB, hh, h1, h2, _⟩
  · injection e with _ e2 e3
    subst e2 e3
    exact ⟨Nat.le_refl _, Nat.zero_le _⟩
  · injection e with _ e2 e3
    subst e2 e3
    exact ⟨h1, h2⟩
/-- A row's cells, its head's and its tail's. -/
theorem rowcells {w : World} {B n c g : Nat} {L : QL} (h : MRow w B (.slice (some ⟨g, 0, none⟩) n c) L) (hn : L.length = n) : (∀ k j u, (qcs (L.take k))[j]? = some u → w.cell? ((⟨g, 0, none⟩ : Addr).add j) = some u) ∧ ∀ k j u, k ≤ n → (qcs (L.drop k))[j]? = some u → w.cell? ((⟨g, k * 9, none⟩ : Addr).add j) = some u := by
  subst hn
  have hc : ∀ j u, (qcs L)[j]? = some u → w.cell? ⟨g, j, none⟩ = some u := fun j u hj => by
    have hlt : j < L.length * 9 := by rw [← qcs_len]; exact (List.getElem?_eq_some_iff.1 hj).1
    rw [World.ownsRow.cellAt h j hlt]
    exact hj
  have hsp : ∀ k, qcs L = qcs (L.take k) ++ qcs (L.drop k) := fun k => by rw [← qcs_app, List.take_append_drop]
  refine ⟨fun k j u hj => ?_, fun k j u hk hj => ?_⟩
  · rw [Addr.add_lit, Nat.zero_add]
    refine hc j u ?_
    rw [hsp k, List.getElem?_append_left (List.getElem?_eq_some_iff.1 hj).1]
    exact hj
  · rw [Addr.add_lit]
    refine hc _ u ?_
    have hl : (qcs (L.take k)).length = k * 9 := by rw [qcs_len, List.length_take]; congr 1; omega
    rw [hsp k, List.getElem?_append_right (by rw [hl]; omega), hl, Nat.add_sub_cancel_left]
    exact hj
section
variable {ops : Array Oper} {rest : List Oper} {op : Oper} {a : Act} {w : World} {Q : Exit → Act → World → Prop}
theorem wpb_load {k : Nat} {t : TypeId} {z c : Array Value} (hB : Blk w k t c) (hT : Ty Tryd.prog t z) (hc : c.size = z.size) (x : Operand) (hgd : op.guard = none) (ho : op.op = .load t x)
    (hx : a.eval x = .pointer (some ⟨k, 0, none⟩)) (h : wpList Tryd.prog ops Q rest (a.put op.dst (.agg c)) w) : wpList Tryd.prog ops Q (op :: rest) a w :=
  wpList_plain hgd fun _ hK => by
    unfold Oper.wp execOp
    simp only [ho, hx, Instr.loadAt, Instr.sureAddr, Sem.run_bind, Sem.run_pure, Result.andThen_ok, run_load_own hT hB hc]
    exact hK _ _ h
end
theorem RfJ.rowc {w V : World} {B x k : Nat} {most : Int} {v : Value} {D R : QL} {p : QV → Bool} {A : Option Addr} {rl c : Nat} (h : RfJ w V B x most v D k p (.slice A rl c) R) (_ : R.length = rl) (h0 : 0 < rl) : ∃ g, A = some ⟨g, 0, none⟩ ∧ g < V.heap.size ∧ ∀ k i, k < R.length → i < 9 → V.cell? ⟨g, k * 9 + i, none⟩ = (R.getD k q0).cells[i]? := h.row.cell (by omega)
def neB (s : ByteArray) (q : QV) : Bool := decide (q.m.topic ≠ s)
/-- What the document's Put answers, and what is there behind it. -/
def rputB (most : Int) (q : QV) (D : QL) : Bool := nameB q.m.topic && (!isPay q.m || !((D.filter (neB q.m.topic)).length == D.length && decide (most ≤ ((D.filter (neB q.m.topic)).length : Int))))
def rputD (most : Int) (q : QV) (D : QL) : QL := if nameB q.m.topic then (if isPay q.m then (if (D.filter (neB q.m.topic)).length = D.length ∧ most ≤ ((D.filter (neB q.m.topic)).length : Int) then D else insQ q (D.filter (neB q.m.topic))) else D.filter (neB q.m.topic)) else D
def RPutSays (w : World) (B x : Nat) (most : Int) (q : QV) (D : QL) (e : Ending) (w' : World) : Prop :=
  e = .returned (.bool (rputB most q D)) ∧ ∃ u, RSt w' B x most u (rputD most q D) ∧ Fr [x] w w'
section
variable {w : World} {B x : Nat} {most : Int} {v : Value} {D : QL}
set_option maxHeartbeats 8000000 in
theorem rput_no (h : RSt w B x most v D) (q : QV) (hs : q.m.topic.size ≤ 1000) (hn : nameB q.m.topic = false) :
    Calls Tryd.prog 27 #[.pointer (some ⟨x, 0, none⟩), q.agg] w (RPutSays w B x most q D) := by
  have HO := Lib.hid (Own.start [] w)
  have HE := Lib.hid (fun (W : World) (hb : Below w.heap.size w W) => show RPutSays w B x most q D (.returned (.bool false)) W from ⟨by unfold rputB; rw [hn]; rfl, v, by unfold rputD; rw [hn]; exact h.below hb, Fr.of_below hb⟩)
  have HN : Hid (∀ W, Calls Tryd.prog 38 #[.string q.m.topic] W fun x w' => x = .returned (.bool false) ∧ Below W.heap.size W w') := Lib.hid fun W => by
    have := rIsName_any (w := W) q.m.topic (by omega)
    rw [hn] at this
    exact this
  have HQ := Lib.hid (show q.agg = .agg q.cells.toArray from rfl)
  have HC := Lib.hid (show q.cells.toArray[0]? = some (.string q.m.topic) from rfl)
  rw [HQ.out]
  clear h hs hn HQ
  generalize q.cells.toArray = qc at *
  go_enter Tryd.func27, Tryd.ntmps27
  go_upto_region 1 with (refine wpo_box (t := 57) HO.out _ rfl rfl rfl ?_; clear HO; rintro k3 W1 hO; have HO := Lib.hid hO; clear hO; simp only [Act.put, List.setIfInBounds_toArray, List.set_cons_zero, List.set_cons_succ])
  have c0 := ((HO.out.get 0 rfl).cell 0).trans HC.out
  have HN2 := Lib.hid (HN.out W1)
  go_wp2_with fail
  refine HN2.out.mono ?_
  rintro e W3 ⟨rfl, hb⟩
  have HB := Lib.hid (HO.out.bel.trans (hb.mono HO.out.bel.size))
  clear hb c0 HN2
  go_wp2_with fail
  go_ret
  exact HE.out _ HB.out
set_option maxHeartbeats 16000000 in
theorem rput_yes (h : RSt w B x most v D) (q : QV) (hq : PIn w B q.pa q.m.props) (hl : q.m.props.length ≤ 1000) (hs : q.m.topic.size ≤ 1000) (hn : nameB q.m.topic = true) (hlen : D.length < 800) :
    Calls Tryd.prog 27 #[.pointer (some ⟨x, 0, none⟩), q.agg] w (RPutSays w B x most q D) := by
  have HO := Lib.hid (Own.start [] w)
  have HN : Hid (∀ W, Calls Tryd.prog 38 #[.string q.m.topic] W fun x w' => x = .returned (.bool true) ∧ Below W.heap.size W w') := Lib.hid fun W => by
    have := rIsName_any (w := W) q.m.topic (by omega)
    rw [hn] at this
    exact this
  have HAG := Lib.hid (show q.agg = .agg q.cells.toArray from rfl)
  have HC := Lib.hid (show q.cells.toArray[0]? = some (.string q.m.topic) ∧ q.cells.toArray[1]? = some (.string q.m.payload) from ⟨rfl, rfl⟩)
  have HSM := Lib.hid (hone19 q)
  have HQ7 := Lib.hid (show ∀ i, i < 9 → q.cells.toArray[i]? = q.cells[i]? from fun i _ => List.getElem?_toArray)
  have HJ := Lib.hid (RfJ.start (p := neB q.m.topic) h)
  have HP := Lib.hid (And.intro hq (And.intro hl hs))
  have HNM := Lib.hid hn
  obtain ⟨A, c, rfl⟩ := h.form
  have hfw := h.few
  have HB := Lib.hid h.size
  obtain ⟨n, hnn⟩ : ∃ n, n = D.length := ⟨_, rfl⟩
  have HN9 := Lib.hid hnn
  rw [← hnn] at HJ hfw hlen
  rw [HAG.out]
  clear h hs hn HAG hq hl hnn
  generalize q.cells.toArray = qc at *
  go_enter Tryd.func27, Tryd.ntmps27
  go_upto_region 1 with (refine wpo_box (t := 57) HO.out _ rfl rfl rfl ?_; clear HO; rintro k3 W1 hO; have HO := Lib.hid hO; clear hO; simp only [Act.put, List.setIfInBounds_toArray, List.set_cons_zero, List.set_cons_succ])
  have c0 := ((HO.out.get 0 rfl).cell 0).trans HC.out.1
  have HN2 := Lib.hid (HN.out W1)
  go_wp2_with fail
  refine HN2.out.mono ?_
  rintro e W3 ⟨rfl, hb⟩
  have HO3 := Lib.hid (HO.out.below hb)
  have HJ0 := Lib.hid (HJ.out.below HO3.out.bel)
  have HK3 := Lib.hid (HO3.out.get 0 rfl)
  have HK3L := Lib.hid (show w.heap.size ≤ k3 from (HO3.out.new _ (List.mem_of_getElem? (i := 0) rfl)).resolve_left (fun h => by cases h))
  clear hb c0 HN2 HO HO3 HN HJ
  go_wp2_with fail
  go_loopw [5, 6] (fun u i wr => ∃ (k : Nat) (R : QL), k ≤ n ∧ i = .int .i64 k ∧ Hid (RfJ w wr B x most (.slice A n c) D k (neB q.m.topic) u R ∧ Blk wr k3 57 qc ∧ u.ownBlock ≠ some k3)) (fun _ i _ => n - (intOf i).toNat)
  case atStart => exact ⟨0, [], Nat.zero_le _, rfl, Lib.hid ⟨HJ0.out, HK3.out, by simp [Value.ownBlock]⟩⟩
  case round =>
    obtain ⟨k, R, hk, rfl, HJ⟩ := hrel
    have c1 := HJ.out.1.st.blk.cell 1
    have t2 := (HJ.out.2.1.cell 0).trans HC.out.1
    obtain ⟨A6, c6, hu6⟩ := HJ.out.1.row.form
    subst hu6
    by_cases hlt : k < n
    · have hkD : k < D.length := by have := HN9.out; omega
      obtain ⟨gr, rfl, _, hcl⟩ := HJ.out.1.st.row.cell (by omega)
      have t0 := hcl k 0 hkD (by omega)
      rw [Nat.add_zero] at t0
      obtain ⟨y, hy⟩ : ∃ y, D.getD k q0 = y := ⟨_, rfl⟩
      have HLD := Lib.hid hy
      rw [hy] at t0
      have t1 : wr.cell? ⟨gr, k * 9, none⟩ = some (.string y.m.topic) := t0
      have HKD := Lib.hid hkD
      obtain ⟨e, he⟩ : ∃ e, (y.m.topic.toList == q.m.topic.toList) = e := ⟨_, rfl⟩
      have HEQ := Lib.hid (show neB q.m.topic (D.getD k q0) = !e by
        rw [HLD.out, ← he, beq_decR]
        unfold neB
        simp)
      have HBD := Lib.hid (fun (d : Nat) => show RfJ w (wr.drewN d) B x most (.slice (some ⟨gr, 0, none⟩) n c) D k (neB q.m.topic) (.slice A6 R.length c6) R ∧ Blk (wr.drewN d) k3 57 qc ∧ (Value.slice A6 R.length c6).ownBlock ≠ some k3 from ⟨HJ.out.1.below (bvn (Below.refl _ _) d), HJ.out.2.1, HJ.out.2.2⟩)
      clear t0 hcl hkD hy
      go_upto_region 7 with fail
      go_cut [32] (fun v32 wx => v32 = .bool (!e) ∧ ∃ d, wx = wr.drewN d)
      case first =>
        cases e
        all_goals
          go_quiet (fail)
          go_wp2_with fail
          go_meet
          case rel => exact ⟨rfl, _, rfl⟩
      case rest =>
        obtain ⟨rfl, d, hwc⟩ := hcut
        have HJ4 := Lib.hid (show RfJ w wc B x most (.slice (some ⟨gr, 0, none⟩) n c) D k (neB q.m.topic) (.slice A6 R.length c6) R ∧ Blk wc k3 57 qc ∧ (Value.slice A6 R.length c6).ownBlock ≠ some k3 from hwc ▸ HBD.out d)
        clear hwc HBD HJ t1 t2 c1 he
        cases e with
        | true =>
          have HJ5 := Lib.hid (And.intro (HJ4.out.1.skip HKD.out HEQ.out) HJ4.out.2)
          go_wp2_with fail
          go_roundw
          case rel => exact ⟨k + 1, R, by omega, by go_num, HJ5⟩
          case measure => simp [intOf]; omega
        | false =>
          have c1 := HJ4.out.1.st.blk.cell 1
          have HRW := Lib.hid HJ4.out.1.st.row
          have HSQ := Lib.hid (hone19 y)
          have HQ6 := Lib.hid (show ∀ i, i < 9 → y.cells.toArray[i]? = y.cells[i]? from fun i _ => List.getElem?_toArray)
          have HLV := Lib.hid (show (D.getD k q0).cells.toArray = y.cells.toArray by rw [HLD.out])
          generalize y.cells.toArray = vc at *
          have HB6 := Lib.hid (bva (Below.refl wc.heap.size wc) (.cells vc 57))
          have HJ6 := Lib.hid (HJ4.out.1.below HB6.out)
          have HK6 := Lib.hid (HJ4.out.2.1.below HB6.out HJ4.out.2.1.lt)
          have HNW := Lib.hid (fun i (hi : i < 9) => (news_m wc vc i hi).trans (HQ6.out i hi))
          go_wp2_with (first
          | (refine wpm_load HRW.out HKD.out _ rfl rfl rfl (by omega) ?_; rw [HLV.out]; simp only [Act.put, List.setIfInBounds_toArray, List.set_cons_zero, List.set_cons_succ])
          | (refine wpm_slice1 HSQ.out.1 rfl _ rfl rfl ?_; simp only [Act.put, List.setIfInBounds_toArray, List.set_cons_zero, List.set_cons_succ])
          | (refine append_m3 (w0 := w) (k3 := k3) rfl _ _ rfl y HJ6.out.bel HJ6.out.row HK6.out.lt HJ4.out.2.2 rfl (by have := HJ6.out.len; omega) ⟨wc.heap.size, 0, none⟩ 1 rfl HNW.out ?_; intro a' c' w' hrow hbel hfr h3; have HX := Lib.hid (And.intro hrow (And.intro hbel (And.intro hfr h3))); clear hrow hbel hfr h3; simp only [Act.put, List.setIfInBounds_toArray, List.set_cons_zero, List.set_cons_succ]))
          have HJ7 := Lib.hid (show RfJ w w' B x most (.slice (some ⟨gr, 0, none⟩) n c) D (k + 1) (neB q.m.topic) (.slice a' (R.length + 1) c') (R ++ [D.getD k q0]) ∧ Blk w' k3 57 qc ∧ (Value.slice a' (R.length + 1) c').ownBlock ≠ some k3 from
            ⟨HJ6.out.push HKD.out HEQ.out (by rw [HLD.out]; exact HX.out.1) HX.out.2.1 HX.out.2.2.1 HB.out, HK6.out.fr HX.out.2.2.1 (fun hm => HJ4.out.2.2 (own_listM.1 hm)), HX.out.2.2.2⟩)
          go_roundw
          case rel => exact ⟨k + 1, _, by omega, by go_num, HJ7⟩
          case measure => simp [intOf]; omega
    · have hkn : k = n := by omega
      have HJF := Lib.hid (show RfJ w wr B x most (.slice A n c) D D.length (neB q.m.topic) (.slice A6 R.length c6) R from by
        have h1 := HJ.out.1
        rw [hkn, HN9.out] at h1
        rw [HN9.out]
        exact h1)
      have HK := Lib.hid HJ.out.2.1
      have HRE := Lib.hid (show R = D.filter (neB q.m.topic) by rw [HJF.out.eq, List.take_length])
      have hrl : R.length ≤ n := by rw [HRE.out, HN9.out]; exact List.length_filter_le _ _
      have c3 := (HK.out.cell 1).trans HC.out.2
      have hpl := text_dec19 q.m.payload
      have c4 := HJF.out.st.blk.frozen 1
      have c5 := HJF.out.st.blk.cell 0
      obtain ⟨pb, hpb⟩ : ∃ pb, decide (q.m.payload = ⟨#[]⟩) = pb := ⟨_, rfl⟩
      rw [hpb] at hpl
      have HPY := Lib.hid (show isPay q.m = !pb by unfold isPay; rw [hpb])
      clear hkn HJ hpb t2
      cases pb with
      | true =>
        have HE := HJF.out.done HB.out
        have HS := Lib.hid (show RPutSays w B x most q D (.returned (.bool true)) (wr.setCell ⟨x, 1, none⟩ (.slice A6 R.length c6)) from ⟨by unfold rputB; rw [HNM.out, HPY.out]; rfl, _, by unfold rputD; rw [HNM.out, HPY.out]; exact HE.1, HE.2⟩)
        clear HE c5
        go_wp2_with fail
        go_ret
        exact HS.out
      | false =>
        have key : (R.length = n ∧ most ≤ (R.length : Int)) ∨ ¬ (R.length = n ∧ most ≤ (R.length : Int)) := Classical.em _
        rcases key with ⟨e1, e2⟩ | hno
        · have HS := Lib.hid (show RPutSays w B x most q D (.returned (.bool false)) wr from ⟨by unfold rputB; rw [HNM.out, HPY.out, ← HRE.out, ← HN9.out, e1, beq_self_eq_true, decide_eq_true (by rw [← e1]; exact e2)]; rfl, _, by unfold rputD; rw [HNM.out, HPY.out, ← HRE.out, ← HN9.out, if_pos rfl, if_pos (show (!false) = true from rfl), if_pos ⟨e1, e2⟩]; exact HJF.out.st, Fr.of_below HJF.out.bel⟩)
          have e3 : decide ((R.length : Int) ≥ most) = true := decide_eq_true e2
          rw [e1] at e3 hrl ⊢
          have hself : ((n : Int) == n) = true := by simp
          have e4 : decide ((n : Int) ≥ most) = true := e3
          have e5 : most ≤ (n : Int) := by rw [← e1]; exact e2
          clear e1 e2 e3 HJF HRE
          go_wp2_with fail
          go_ret
          exact HS.out
        · have HNO := Lib.hid hno
          have HRD := Lib.hid (show rputB most q D = true ∧ rputD most q D = insQ q R from ⟨by
            unfold rputB
            rw [HNM.out, HPY.out, ← HRE.out, ← HN9.out]
            simp only [Bool.not_false, Bool.true_and, Bool.not_true, Bool.false_or, Bool.not_eq_true', Bool.and_eq_false_iff, beq_eq_false_iff_ne, decide_eq_false_iff_not]
            by_cases h1 : R.length = n
            · exact .inr fun h2 => hno ⟨h1, h2⟩
            · exact .inl h1, by
            unfold rputD
            rw [HNM.out, HPY.out, ← HRE.out, ← HN9.out, if_pos rfl, if_pos (show (!false) = true from rfl), if_neg hno]⟩)
          go_upto_region 12 with fail
          go_cut [66] (fun v wx => v = .bool false ∧ wx = wr)
          case first =>
            by_cases h1 : R.length = n
            · have h2 : ¬ most ≤ (R.length : Int) := fun h2 => hno ⟨h1, h2⟩
              have e3 : decide ((R.length : Int) ≥ most) = false := decide_eq_false h2
              have e1 : ((R.length : Int) == (n : Int)) = true := by rw [h1]; simp
              clear hno HJF HRE HRD h1 h2
              go_wp2_with fail
              go_meet
              case rel => exact ⟨rfl, rfl⟩
            · have e1 : ((R.length : Int) == (n : Int)) = false := beq_eq_false_iff_ne.2 (fun e => h1 (by omega))
              clear hno HJF HRE HRD
              go_wp2_with fail
              go_meet
              case rel => exact ⟨rfl, rfl⟩
          case rest =>
            obtain ⟨rfl, rfl⟩ := hcut
            clear hno c3 c4 c5 hpl
            have hr900 : R.length ≤ 900 := HJF.out.len
            obtain ⟨rl, hrle⟩ : ∃ rl, R.length = rl := ⟨_, rfl⟩
            have HRL := Lib.hid hrle
            rw [hrle] at HJF hr900 ⊢
            clear hrl hrle
            go_wp2_with fail
            go_loopw [7] (fun i wr => ∃ k : Nat, k ≤ rl ∧ i = .int .i64 k ∧ Hid (RfJ w wr B x most (.slice A n c) D D.length (neB q.m.topic) (.slice A6 rl c6) R ∧ Blk wr k3 57 qc ∧ ∀ j, j < k → lessT (R.getD j q0).m.topic q.m.topic = true)) (fun i _ => rl - (intOf i).toNat)
            case atStart => exact ⟨0, Nat.zero_le _, rfl, Lib.hid ⟨HJF.out, HK.out, fun j hj => by omega⟩⟩
            case round =>
              obtain ⟨k, hk, rfl, HJ⟩ := hrel
              have t2 := (HJ.out.2.1.cell 0).trans HC.out.1
              have HBD := Lib.hid (fun (d : Nat) => show RfJ w (wr.drewN d) B x most (.slice A n c) D D.length (neB q.m.topic) (.slice A6 rl c6) R ∧ Blk (wr.drewN d) k3 57 qc ∧ ∀ j, j < k → lessT (R.getD j q0).m.topic q.m.topic = true from ⟨HJ.out.1.below (bvn (Below.refl _ _) d), HJ.out.2.1, HJ.out.2.2⟩)
              by_cases hlt2 : k < rl
              · have hkR : k < R.length := by have := HRL.out; omega
                obtain ⟨g6, rfl, _, hcl⟩ := HJ.out.1.rowc HRL.out (by omega)
                have t0 := hcl k 0 hkR (by omega)
                rw [Nat.add_zero] at t0
                obtain ⟨y, hy⟩ : ∃ y, R.getD k q0 = y := ⟨_, rfl⟩
                have HLD := Lib.hid hy
                rw [hy] at t0
                have t1 : wr.cell? ⟨g6, k * 9, none⟩ = some (.string y.m.topic) := t0
                obtain ⟨e, he⟩ : ∃ e, Op.bytesLess y.m.topic.toList q.m.topic.toList = e := ⟨_, rfl⟩
                have HLE := Lib.hid (show lessT (R.getD k q0).m.topic q.m.topic = e by rw [HLD.out]; exact he)
                clear t0 hcl hy
                go_upto_region 15 with fail
                go_cut [80] (fun v wx => v = .bool e ∧ ∃ d, wx = wr.drewN d)
                case first =>
                  cases e
                  all_goals
                    go_quiet (fail)
                    go_wp2_with fail
                    go_meet
                    case rel => exact ⟨rfl, _, rfl⟩
                case rest =>
                  obtain ⟨rfl, d, hwc⟩ := hcut
                  have HJ4 := Lib.hid (hwc ▸ HBD.out d)
                  clear hwc HBD t1 t2 he
                  cases e with
                  | true =>
                    have HK5 := Lib.hid (fun j (hj : j < k + 1) => show lessT (R.getD j q0).m.topic q.m.topic = true from by
                      rcases Nat.lt_succ_iff_lt_or_eq.1 hj with hj | rfl
                      · exact HJ.out.2.2 j hj
                      · exact HLE.out)
                    clear HJ
                    go_wp2_with fail
                    go_roundw
                    case rel => exact ⟨k + 1, by omega, by go_num, Lib.hid ⟨HJ4.out.1, HJ4.out.2.1, HK5.out⟩⟩
                    case measure => simp [intOf]; omega
                  | false =>
                    have HAH := Lib.hid (ahead_at (s := q.m.topic) (Nat.le_of_lt hkR) HJ.out.2.2 (fun _ => HLE.out))
                    clear HJ
                    have hj4 := HJ4.out.1
                    have hcap := mrow_cap hj4.row
                    have hrr := HRL.out
                    have HC6 := Lib.hid (fun W (hb : Below wc.heap.size wc W) => rowcells ((HJ4.out.1.below hb).row) HRL.out)
                    have HKB := Lib.hid (fun W (hb : Below wc.heap.size wc W) => HJ4.out.2.1.below hb HJ4.out.2.1.lt)
                    have hkrl : k ≤ rl := by omega
                    have htk : k = (R.take k).length := by rw [List.length_take]; omega
                    have htd : rl - k = (R.drop k).length := by rw [List.length_drop, hrr]
                    have HTK := Lib.hid (And.intro htk htd)
                    clear hj4 hrr htk htd
                    go_upto_region 18 with fail
                    go_upto_region 19 with (refine append_ms (w0 := wc) (L := []) rfl _ _ rfl (R.take k) (Below.refl _ _) (World.ownsRow_nil _ _ _ _) rfl (by rw [← HTK.out.1]; show 0 + k ≤ 2000; omega) ⟨g6, 0, none⟩ k c6 rfl HTK.out.1 k (by rw [← HTK.out.1]; exact Nat.zero_add _) (fun j u hj => (HC6.out _ (Below.refl _ _)).1 k j u hj) ?_; intro a8 c8 W5 hrow hbel hfr; have HX := Lib.hid (And.intro hrow (And.intro hbel hfr)); clear hrow hbel hfr; simp only [Act.put, List.setIfInBounds_toArray, List.set_cons_zero, List.set_cons_succ])
                    have HR5 := Lib.hid (show MRow W5 wc.heap.size (.slice a8 k c8) (R.take k) from HX.out.1)
                    have HB5 := Lib.hid HX.out.2.1
                    have HK5 := Lib.hid (HKB.out W5 HB5.out)
                    have HB6 := Lib.hid (bva HB5.out (.cells qc 57))
                    have HR6 := Lib.hid (HR5.out.below (bva (Below.refl W5.heap.size W5) (.cells qc 57)))
                    have HNW := Lib.hid (fun i (hi : i < 9) => (news_m W5 qc i hi).trans (HQ7.out i hi))
                    have hk9 : k ≤ 900 := by omega
                    go_wp2_with (first
                      | (refine wpb_load HK5.out tyMs HSM.out.1 _ rfl rfl rfl ?_; simp only [Act.put, List.setIfInBounds_toArray, List.set_cons_zero, List.set_cons_succ])
                      | (refine wpm_slice1 HSM.out.1 rfl _ rfl rfl ?_; simp only [Act.put, List.setIfInBounds_toArray, List.set_cons_zero, List.set_cons_succ])
                      | (refine append_m (w0 := wc) (L := R.take k) rfl _ _ rfl q HB6.out HR6.out rfl (by rw [← HTK.out.1]; omega) ⟨W5.heap.size, 0, none⟩ 1 rfl HNW.out ?_; intro a9 c9 W7 hrow hbel hfr; rw [← HTK.out.1] at hrow ⊢; have HX7 := Lib.hid (And.intro hrow hbel); clear hrow hbel hfr; simp only [Act.put, List.setIfInBounds_toArray, List.set_cons_zero, List.set_cons_succ])
                      | (refine append_ms (w0 := wc) (L := R.take k ++ [q]) rfl _ _ rfl (R.drop k) HX7.out.2 HX7.out.1 rfl (by rw [List.length_append, ← HTK.out.1, ← HTK.out.2]; show k + 1 + (rl - k) ≤ 2000; omega) ⟨g6, k * 9, none⟩ (rl - k) (c6 - k) rfl HTK.out.2 (rl + 1) (by rw [List.length_append, ← HTK.out.1, ← HTK.out.2]; show k + 1 + (rl - k) = rl + 1; omega) (fun j u hj => (HC6.out _ HX7.out.2).2 k j u hkrl hj) ?_; intro a10 c10 W8 hrow hbel hfr; have HX8 := Lib.hid (And.intro hrow hbel); have hj8 := HJ4.out.1.below hbel; have c3 := hj8.st.blk.frozen 1; have c4 := hj8.st.blk.cell 1; clear hj8 hrow hbel hfr; simp only [Act.put, List.setIfInBounds_toArray, List.set_cons_zero, List.set_cons_succ]))
                    have HF := Lib.hid (HJ4.out.1.put HB.out HX8.out.2 (u' := .slice a10 (rl + 1) c10) (q := q) (by unfold insQ; rw [HAH.out]; exact HX8.out.1) HP.out (by rw [← HN9.out]; exact hlen))
                    have HS := Lib.hid (show RPutSays w B x most q D (.returned (.bool true)) (W8.setCell ⟨x, 1, none⟩ (.slice a10 (rl + 1) c10)) from ⟨by rw [HRD.out.1], _, by rw [HRD.out.2]; exact HF.out.1, HF.out.2⟩)
                    go_ret
                    exact HS.out
              · go_upto_region 15 with fail
                go_cut [80] (fun v wx => v = .bool false ∧ ∃ d, wx = wr.drewN d)
                case first =>
                  go_quiet (fail)
                  go_wp2_with fail
                  go_meet
                  case rel => exact ⟨rfl, _, rfl⟩
                case rest =>
                  obtain ⟨rfl, d, hwc⟩ := hcut
                  have HJ4 := Lib.hid (hwc ▸ HBD.out d)
                  have HAH := Lib.hid (ahead_at (s := q.m.topic) (L := R) (k := k) (by have := HRL.out; omega) HJ.out.2.2 (fun h => by have := HRL.out; omega))
                  clear hwc HBD t2 HJ
                  rcases mrow_two HJ4.out.1.row with ⟨rfl, rfl, rfl⟩ | ⟨g6, rfl⟩
                  · skip
                    have hkz : k = 0 := by omega
                    have HR0 := Lib.hid (show R = [] from List.length_eq_zero_iff.1 (by rw [HRL.out]))
                    have HKB := Lib.hid (fun W (hb : Below wc.heap.size wc W) => HJ4.out.2.1.below hb HJ4.out.2.1.lt)
                    subst hkz
                    go_upto_region 19 with (refine append_none rfl _ _ rfl (Nat.le_refl 0) rfl rfl ?_; simp only [Act.put, List.setIfInBounds_toArray, List.set_cons_zero, List.set_cons_succ])
                    have HNW := Lib.hid (fun i (hi : i < 9) => (news_m wc qc i hi).trans (HQ7.out i hi))
                    have HB6 := Lib.hid (bva (Below.refl wc.heap.size wc) (.cells qc 57))
                    have hkk := HKB.out _ (Below.refl _ _)
                    have HKK := Lib.hid hkk
                    clear hkk
                    go_wp2_with (first
                      | (refine wpb_load HKK.out tyMs HSM.out.1 _ rfl rfl rfl ?_; simp only [Act.put, List.setIfInBounds_toArray, List.set_cons_zero, List.set_cons_succ])
                      | (refine wpm_slice1 HSM.out.1 rfl _ rfl rfl ?_; simp only [Act.put, List.setIfInBounds_toArray, List.set_cons_zero, List.set_cons_succ])
                      | (refine append_m (w0 := wc) (L := []) rfl _ _ rfl q HB6.out (World.ownsRow_nil _ _ _ _) rfl (by decide) ⟨wc.heap.size, 0, none⟩ 1 rfl HNW.out ?_; intro a9 c9 W7 hrow hbel hfr; have HX7 := Lib.hid (And.intro hrow hbel); have hcp := mrow_cap hrow; simp only [List.length_nil, Nat.zero_add] at hcp ⊢; have hc9 := hcp.1; have hc9b := hcp.2; clear hcp hrow hbel hfr; simp only [Act.put, List.setIfInBounds_toArray, List.set_cons_zero, List.set_cons_succ])
                      | (refine append_none rfl _ _ rfl hc9 rfl rfl ?_; have hj8 := HJ4.out.1.below HX7.out.2; have c3 := hj8.st.blk.frozen 1; have c4 := hj8.st.blk.cell 1; clear hj8; simp only [Act.put, List.setIfInBounds_toArray, List.set_cons_zero, List.set_cons_succ]))
                    have HF := Lib.hid (HJ4.out.1.put HB.out HX7.out.2 (u' := .slice a9 1 c9) (q := q) (by unfold insQ; rw [HR0.out]; exact HX7.out.1) HP.out (by rw [← HN9.out]; exact hlen))
                    have HS := Lib.hid (show RPutSays w B x most q D (.returned (.bool true)) (W7.setCell ⟨x, 1, none⟩ (.slice a9 1 c9)) from ⟨by rw [HRD.out.1], _, by rw [HRD.out.2]; exact HF.out.1, HF.out.2⟩)
                    go_ret
                    exact HS.out
                  · have hcc := (mrow_cap HJ4.out.1.row).1
                    have hnil : R.drop k = [] := List.drop_eq_nil_of_le (by have := HRL.out; omega)
                    by_cases hck : c6 = k
                    · skip
                      have hj4 := HJ4.out.1
                      have hcap := mrow_cap hj4.row
                      have hrr := HRL.out
                      have HC6 := Lib.hid (fun W (hb : Below wc.heap.size wc W) => rowcells ((HJ4.out.1.below hb).row) HRL.out)
                      have HKB := Lib.hid (fun W (hb : Below wc.heap.size wc W) => HJ4.out.2.1.below hb HJ4.out.2.1.lt)
                      have hkrl : k ≤ rl := by omega
                      have htk : k = (R.take k).length := by rw [List.length_take]; omega
                      have htd : rl - k = (R.drop k).length := by rw [List.length_drop, hrr]
                      have HTK := Lib.hid (And.intro htk htd)
                      clear hj4 hrr htk htd
                      go_upto_region 18 with fail
                      go_upto_region 19 with (refine append_ms (w0 := wc) (L := []) rfl _ _ rfl (R.take k) (Below.refl _ _) (World.ownsRow_nil _ _ _ _) rfl (by rw [← HTK.out.1]; show 0 + k ≤ 2000; omega) _ _ _ rfl HTK.out.1 k (by rw [← HTK.out.1]; exact Nat.zero_add _) (fun j u hj => (HC6.out _ (Below.refl _ _)).1 k j u hj) ?_; intro a8 c8 W5 hrow hbel hfr; have HX := Lib.hid (And.intro hrow (And.intro hbel hfr)); clear hrow hbel hfr; simp only [Act.put, List.setIfInBounds_toArray, List.set_cons_zero, List.set_cons_succ])
                      have HR5 := Lib.hid (show MRow W5 wc.heap.size (.slice a8 k c8) (R.take k) from HX.out.1)
                      have HB5 := Lib.hid HX.out.2.1
                      have HK5 := Lib.hid (HKB.out W5 HB5.out)
                      have HB6 := Lib.hid (bva HB5.out (.cells qc 57))
                      have HR6 := Lib.hid (HR5.out.below (bva (Below.refl W5.heap.size W5) (.cells qc 57)))
                      have HNW := Lib.hid (fun i (hi : i < 9) => (news_m W5 qc i hi).trans (HQ7.out i hi))
                      have hk9 : k ≤ 900 := by omega
                      go_wp2_with (first
                        | (refine wpb_load HK5.out tyMs HSM.out.1 _ rfl rfl rfl ?_; simp only [Act.put, List.setIfInBounds_toArray, List.set_cons_zero, List.set_cons_succ])
                        | (refine wpm_slice1 HSM.out.1 rfl _ rfl rfl ?_; simp only [Act.put, List.setIfInBounds_toArray, List.set_cons_zero, List.set_cons_succ])
                        | (refine append_m (w0 := wc) (L := R.take k) rfl _ _ rfl q HB6.out HR6.out rfl (by rw [← HTK.out.1]; omega) ⟨W5.heap.size, 0, none⟩ 1 rfl HNW.out ?_; intro a9 c9 W7 hrow hbel hfr; rw [← HTK.out.1] at hrow ⊢; have HX7 := Lib.hid (And.intro hrow hbel); clear hrow hbel hfr; simp only [Act.put, List.setIfInBounds_toArray, List.set_cons_zero, List.set_cons_succ])
                        | (refine append_ms (w0 := wc) (L := R.take k ++ [q]) rfl _ _ rfl (R.drop k) HX7.out.2 HX7.out.1 rfl (by rw [List.length_append, ← HTK.out.1, ← HTK.out.2]; show k + 1 + (rl - k) ≤ 2000; omega) _ _ _ rfl HTK.out.2 (rl + 1) (by rw [List.length_append, ← HTK.out.1, ← HTK.out.2]; show k + 1 + (rl - k) = rl + 1; omega) (fun j u hj => by rw [hnil] at hj; simp [qcs] at hj) ?_; intro a10 c10 W8 hrow hbel hfr; have HX8 := Lib.hid (And.intro hrow hbel); have hj8 := HJ4.out.1.below hbel; have c3 := hj8.st.blk.frozen 1; have c4 := hj8.st.blk.cell 1; clear hj8 hrow hbel hfr; simp only [Act.put, List.setIfInBounds_toArray, List.set_cons_zero, List.set_cons_succ]))
                      have HF := Lib.hid (HJ4.out.1.put HB.out HX8.out.2 (u' := .slice a10 (rl + 1) c10) (q := q) (by unfold insQ; rw [HAH.out]; exact HX8.out.1) HP.out (by rw [← HN9.out]; exact hlen))
                      have HS := Lib.hid (show RPutSays w B x most q D (.returned (.bool true)) (W8.setCell ⟨x, 1, none⟩ (.slice a10 (rl + 1) c10)) from ⟨by rw [HRD.out.1], _, by rw [HRD.out.2]; exact HF.out.1, HF.out.2⟩)
                      go_ret
                      exact HS.out
                    · skip
                      have hj4 := HJ4.out.1
                      have hcap := mrow_cap hj4.row
                      have hrr := HRL.out
                      have HC6 := Lib.hid (fun W (hb : Below wc.heap.size wc W) => rowcells ((HJ4.out.1.below hb).row) HRL.out)
                      have HKB := Lib.hid (fun W (hb : Below wc.heap.size wc W) => HJ4.out.2.1.below hb HJ4.out.2.1.lt)
                      have hkrl : k ≤ rl := by omega
                      have htk : k = (R.take k).length := by rw [List.length_take]; omega
                      have htd : rl - k = (R.drop k).length := by rw [List.length_drop, hrr]
                      have HTK := Lib.hid (And.intro htk htd)
                      clear hj4 hrr htk htd
                      go_upto_region 18 with fail
                      go_upto_region 19 with (refine append_ms (w0 := wc) (L := []) rfl _ _ rfl (R.take k) (Below.refl _ _) (World.ownsRow_nil _ _ _ _) rfl (by rw [← HTK.out.1]; show 0 + k ≤ 2000; omega) ⟨g6, 0, none⟩ k c6 rfl HTK.out.1 k (by rw [← HTK.out.1]; exact Nat.zero_add _) (fun j u hj => (HC6.out _ (Below.refl _ _)).1 k j u hj) ?_; intro a8 c8 W5 hrow hbel hfr; have HX := Lib.hid (And.intro hrow (And.intro hbel hfr)); clear hrow hbel hfr; simp only [Act.put, List.setIfInBounds_toArray, List.set_cons_zero, List.set_cons_succ])
                      have HR5 := Lib.hid (show MRow W5 wc.heap.size (.slice a8 k c8) (R.take k) from HX.out.1)
                      have HB5 := Lib.hid HX.out.2.1
                      have HK5 := Lib.hid (HKB.out W5 HB5.out)
                      have HB6 := Lib.hid (bva HB5.out (.cells qc 57))
                      have HR6 := Lib.hid (HR5.out.below (bva (Below.refl W5.heap.size W5) (.cells qc 57)))
                      have HNW := Lib.hid (fun i (hi : i < 9) => (news_m W5 qc i hi).trans (HQ7.out i hi))
                      have hk9 : k ≤ 900 := by omega
                      go_wp2_with (first
                        | (refine wpb_load HK5.out tyMs HSM.out.1 _ rfl rfl rfl ?_; simp only [Act.put, List.setIfInBounds_toArray, List.set_cons_zero, List.set_cons_succ])
                        | (refine wpm_slice1 HSM.out.1 rfl _ rfl rfl ?_; simp only [Act.put, List.setIfInBounds_toArray, List.set_cons_zero, List.set_cons_succ])
                        | (refine append_m (w0 := wc) (L := R.take k) rfl _ _ rfl q HB6.out HR6.out rfl (by rw [← HTK.out.1]; omega) ⟨W5.heap.size, 0, none⟩ 1 rfl HNW.out ?_; intro a9 c9 W7 hrow hbel hfr; rw [← HTK.out.1] at hrow ⊢; have HX7 := Lib.hid (And.intro hrow hbel); clear hrow hbel hfr; simp only [Act.put, List.setIfInBounds_toArray, List.set_cons_zero, List.set_cons_succ])
                        | (refine append_ms (w0 := wc) (L := R.take k ++ [q]) rfl _ _ rfl (R.drop k) HX7.out.2 HX7.out.1 rfl (by rw [List.length_append, ← HTK.out.1, ← HTK.out.2]; show k + 1 + (rl - k) ≤ 2000; omega) ⟨g6, k * 9, none⟩ (rl - k) (c6 - k) rfl HTK.out.2 (rl + 1) (by rw [List.length_append, ← HTK.out.1, ← HTK.out.2]; show k + 1 + (rl - k) = rl + 1; omega) (fun j u hj => (HC6.out _ HX7.out.2).2 k j u hkrl hj) ?_; intro a10 c10 W8 hrow hbel hfr; have HX8 := Lib.hid (And.intro hrow hbel); have hj8 := HJ4.out.1.below hbel; have c3 := hj8.st.blk.frozen 1; have c4 := hj8.st.blk.cell 1; clear hj8 hrow hbel hfr; simp only [Act.put, List.setIfInBounds_toArray, List.set_cons_zero, List.set_cons_succ]))
                      have HF := Lib.hid (HJ4.out.1.put HB.out HX8.out.2 (u' := .slice a10 (rl + 1) c10) (q := q) (by unfold insQ; rw [HAH.out]; exact HX8.out.1) HP.out (by rw [← HN9.out]; exact hlen))
                      have HS := Lib.hid (show RPutSays w B x most q D (.returned (.bool true)) (W8.setCell ⟨x, 1, none⟩ (.slice a10 (rl + 1) c10)) from ⟨by rw [HRD.out.1], _, by rw [HRD.out.2]; exact HF.out.1, HF.out.2⟩)
                      go_ret
                      exact HS.out
end
end Go.Proofs.YtfmkeapbddhndaaDoor
namespace Go.Proofs.YtfmkeapbddhndaaDoor
open Go.RowKit Go.Extern.Stop Go.Stop Go.Extern Go.Maps Go.Deep
set_option maxRecDepth 100000
structure RtP (w W : World) (g bm : Nat) (most : Int) (L : QL) (x : Nat) (v : Value) (D : QL) (K : OL) : Prop where
  aw : AwS w W g bm most L
  rf : RSt W w.heap.size x most v D
  ks : ∀ y ∈ K, Blk W y.1 y.2.1 y.2.2 ∧ y.2.1 ≠ 54
structure RtE (L D : QL) : Prop where
  pm : (D.map QV.m).Perm (L.map QV.m)
  srt : Srt D
section
variable {w W W' : World} {g bm x : Nat} {most : Int} {v v' : Value} {L L' D D' : QL} {K : OL} {S : Nat → Addr}
theorem RtP.below (h : RtP w W g bm most L x v D K) (hb : Below W.heap.size W W') : RtP w W' g bm most L x v D K := ⟨h.aw.below hb, h.rf.below hb, fun y hy => ⟨Blk.below (h.ks y hy).1 hb (Blk.lt (h.ks y hy).1), (h.ks y hy).2⟩⟩
theorem RtP.on (h : RtP w W g bm most L x v D K) (h2 : St2 W g bm most L' W') : RtP w W' g bm most L' x v D K :=
  ⟨h.aw.on h2, h.rf.fr h2.2 (fun b hb => by
    rw [List.mem_singleton.1 hb]
    refine ⟨h.aw.ge.2, fun e => h.aw.st.map.ne h.rf.blk e.symm, fun e => ?_, h.aw.st.noprop⟩
    obtain ⟨_, _, cs, hc⟩ := h.rf.row.lt bm e
    obtain ⟨D, hD, _⟩ := h.aw.st.map
    obtain ⟨es, clock, hb, _⟩ := hD
    rw [hb] at hc
    cases hc), fun y hy => ⟨(h.ks y hy).1.fr h2.2 fun hm => h.aw.st.map.ne (h.ks y hy).1 (List.mem_singleton.1 hm), (h.ks y hy).2⟩⟩
theorem RtP.rn (h : RtP w W g bm most L x v D K) (hr : RSt W' w.heap.size x most v' D') (hf : Fr [x] W W') : RtP w W' g bm most L x v' D' K :=
  ⟨⟨h.aw.st.then hf (fun b hb => by
    rw [List.mem_singleton.1 hb]
    exact ⟨h.rf.blk.other h.aw.st.blk (by decide), h.aw.st.map.ne h.rf.blk, fun cs hc => h.rf.blk.other hc (by decide) rfl⟩),
    hf.later h.aw.bel (fun b hb => by rw [List.mem_singleton.1 hb]; exact h.rf.low) h.aw.bel.size, h.aw.ge⟩, hr, fun y hy => ⟨(h.ks y hy).1.fr hf fun hm => (h.ks y hy).1.other h.rf.blk (h.ks y hy).2 (List.mem_singleton.1 hm), (h.ks y hy).2⟩⟩
theorem RtP.add (h : RtP w W g bm most L x v D K) {b : Nat} {t : TypeId} {cs : Array Value} (hb : Blk W b t cs) (ht : t ≠ 54) : RtP w W g bm most L x v D ((b, t, cs) :: K) := ⟨h.aw, h.rf, fun y hy => by
  rcases List.mem_cons.1 hy with rfl | hy
  · exact ⟨hb, ht⟩
  · exact h.ks y hy⟩
theorem RtP.nil (h : RtP w W g bm most L x v D K) : RtP w W g bm most L x v D [] := ⟨h.aw, h.rf, fun y hy => by cases hy⟩
theorem RtP.start {g bm : Nat} (h : AwS w W g bm most []) : RtP w (W.alloc (.cells #[.int .i64 most, .slice none 0 0] 54)) g bm most [] W.heap.size (.slice none 0 0) [] [] := by
  have hb := (Below.refl W.heap.size W).alloc (Nat.le_refl _) (.cells #[.int .i64 most, .slice none 0 0] 54)
  exact ⟨h.below hb, ⟨Blk.made _ _ _, World.ownsRow_nil _ _ _ _, h.bel.size, Nat.le_trans h.bel.size hb.size, Nat.zero_le _, fun q hq => by cases hq⟩, fun y hy => by cases hy⟩
theorem RtE.len (h : RtE L D) : D.length = L.length := by
  have := h.pm.length_eq
  rw [List.length_map, List.length_map] at this
  exact this
theorem RtE.top (h : RtE L D) (s : ByteArray) : s ∈ tops L ↔ s ∈ tops D := by
  have h1 : ∀ M : QL, tops M = (M.map QV.m).map MV.topic := fun M => by unfold tops; rw [List.map_map]; rfl
  rw [h1, h1]
  exact ((h.pm.map _).mem_iff).symm
theorem RtE.siz (h : RtE L D) (hd : ∀ q ∈ D, q.m.topic.size ≤ 1000) : ∀ q ∈ L, q.m.topic.size ≤ 1000 := fun q hq => by
  obtain ⟨d, hd1, hd2⟩ := List.mem_map.1 ((h.top q.m.topic).1 (List.mem_map.2 ⟨q, hq, rfl⟩))
  rw [← hd2]
  exact hd d hd1
theorem permF (h : (D.map QV.m).Perm (L.map QV.m)) (p : MV → Bool) : ((D.filter (fun q => p q.m)).map QV.m).Perm ((L.filter (fun q => p q.m)).map QV.m) := by
  have h1 : ∀ M : QL, (M.filter (fun q => p q.m)).map QV.m = (M.map QV.m).filter p := fun M => by rw [List.filter_map]; rfl
  rw [h1, h1]
  exact h.filter p
theorem RtE.filter (h : RtE L D) (p : MV → Bool) : RtE (L.filter (fun q => p q.m)) (D.filter (fun q => p q.m)) := ⟨permF h.pm p, srt_filter h.srt _⟩
theorem RtE.wo (h : RtE L D) (s : ByteArray) : RtE (woT s L) (D.filter (neB s)) := h.filter (fun m => decide (m.topic ≠ s))
theorem RtE.put (h : RtE L D) (q : QV) (pa : Option Addr) (pc : Nat) : RtE (⟨q.m, pa, pc⟩ :: woT q.m.topic L) (insQ q (D.filter (neB q.m.topic))) :=
  ⟨((ins_perm q _).map _).trans (by rw [List.map_cons, List.map_cons]; exact (h.wo q.m.topic).pm.cons _), ins_srt (srt_filter h.srt _) fun y hy => of_decide_eq_true (List.mem_filter.1 hy).2⟩
/-- What both answer. -/
def PutP (most : Int) (q : QV) (D L' : QL) (b : Bool) : Prop := rputB most q D = b ∧ RtE L' (rputD most q D)
theorem putp_no (h : RtE L D) (q : QV) (hn : nameB q.m.topic = false) : PutP most q D L false := by
  unfold PutP rputB rputD
  rw [hn]
  exact ⟨rfl, h⟩
theorem pay_no {m : MV} (h : m.payload = ⟨#[]⟩) : isPay m = false := by unfold isPay; simp [h]
theorem pay_yes {m : MV} (h : ¬ m.payload = ⟨#[]⟩) : isPay m = true := by unfold isPay; simp [h]
theorem putp_del (h : RtE L D) (q : QV) (hn : nameB q.m.topic = true) (hp : q.m.payload = ⟨#[]⟩) : PutP most q D (woT q.m.topic L) true := by
  unfold PutP rputB rputD
  rw [hn, pay_no hp]
  exact ⟨rfl, h.wo _⟩
theorem putp_full (h : RtE L D) (q : QV) (hn : nameB q.m.topic = true) (hp : ¬ q.m.payload = ⟨#[]⟩) (ht : q.m.topic ∉ tops L) (hm : most ≤ (L.length : Int)) : PutP most q D L false := by
  have hf : D.filter (neB q.m.topic) = D := List.filter_eq_self.2 fun y hy => decide_eq_true fun e => ht ((h.top _).2 (List.mem_map.2 ⟨y, hy, e⟩))
  have hl := h.len
  unfold PutP rputB rputD
  rw [hn, pay_yes hp, hf, if_pos rfl, if_pos rfl, if_pos ⟨rfl, by omega⟩]
  refine ⟨?_, h⟩
  have h1 : most ≤ (D.length : Int) := by omega
  simp [h1]
theorem putp_in (h : RtE L D) (q : QV) (hn : nameB q.m.topic = true) (hp : ¬ q.m.payload = ⟨#[]⟩) (ht : q.m.topic ∈ tops L ∨ ¬ most ≤ (L.length : Int)) (pa : Option Addr) (pc : Nat) : PutP most q D (⟨q.m, pa, pc⟩ :: woT q.m.topic L) true := by
  have hl := h.len
  have hno : ¬ ((D.filter (neB q.m.topic)).length = D.length ∧ most ≤ ((D.filter (neB q.m.topic)).length : Int)) := fun ⟨h1, h2⟩ => by
    rcases ht with ht | ht
    · obtain ⟨y, hy, he⟩ := List.mem_map.1 ((h.top _).1 ht)
      have h3 := (List.length_filter_eq_length_iff.1 h1) y hy
      exact of_decide_eq_true h3 he
    · omega
  unfold PutP rputB rputD
  rw [hn, pay_yes hp, if_pos rfl, if_pos rfl, if_neg hno]
  refine ⟨?_, h.put q pa pc⟩
  by_cases h1 : (D.filter (neB q.m.topic)).length = D.length
  · have h2 : ¬ most ≤ ((D.filter (neB q.m.topic)).length : Int) := fun h2 => hno ⟨h1, h2⟩
    simp [h2]
  · simp [h1]
end
section
variable {w W : World} {g bm x : Nat} {most : Int} {v : Value} {L D : QL} {K : OL} {S : Nat → Addr}
theorem sput_all (h : RtP w W g bm most L x v D K) (e : RtE L D) (he : EnvT w S) (q : QV) (hq : PIn w w.heap.size q.pa q.m.props) (hp : q.m.props.length ≤ 70) (hs : q.m.topic.size ≤ 200) (hl : L.length < 800) :
    Calls Tryd.prog 26 #[.pointer (some ⟨g, 0, none⟩), q.agg] W fun e W1 => ∃ b L', e = .returned (.bool b) ∧ RtP w W1 g bm most L' x v D K ∧ PutP most q D L' b ∧ L'.length ≤ L.length + 1 := by
  have hwl := woT_le q.m.topic L
  cases hn : nameB q.m.topic with
  | false => exact (sput_no _ (.inr ⟨g, rfl⟩) q (by omega) (he.later h.aw.bel) hn).mono fun e' w' ⟨hx, hb⟩ => ⟨false, L, hx, h.below hb, putp_no e q hn, by omega⟩
  | true =>
    by_cases hpe : q.m.payload = ⟨#[]⟩
    · exact (sput_del h.aw.st q (by omega) (he.later h.aw.bel) hn hpe).mono fun e' w' ⟨hx, h2⟩ => ⟨true, _, hx, h.on h2, putp_del e q hn hpe, by omega⟩
    · obtain ⟨q1, b, hv⟩ := at_any L q.m.topic
      refine (sput_more h.aw.st q (hq.below h.aw.bel) (by omega) (by omega) (he.later h.aw.bel) hn hpe hv (by omega)).mono fun e' w' hx => ?_
      rcases hx with ⟨hx, ⟨rfl, hm⟩, hb⟩ | ⟨hx, ht, pa, pc, h2⟩
      · refine ⟨false, L, hx, h.below hb, putp_full e q hn hpe ?_ hm, by omega⟩
        rcases hv with ⟨h1, _⟩ | ⟨_, _, h1⟩
        · cases h1
        · exact h1
      · refine ⟨true, _, hx, h.on h2, putp_in e q hn hpe ?_ pa pc, by simp; omega⟩
        rcases ht with rfl | ht
        · rcases hv with ⟨_, h1, h2⟩ | ⟨h1, _⟩
          · exact .inl (List.mem_map.2 ⟨q1, h1, h2⟩)
          · cases h1
        · exact .inr ht
/-- A put into both. -/
theorem rt_put (h : RtP w W g bm most L x v D K) (e : RtE L D) (he : EnvT w S) (q : QV) (hq : PIn w w.heap.size q.pa q.m.props) (hp : q.m.props.length ≤ 70) (hs : q.m.topic.size ≤ 200) (hl : L.length < 799) :
    Calls Tryd.prog 26 #[.pointer (some ⟨g, 0, none⟩), q.agg] W fun e W1 => ∃ b L', e = .returned (.bool b) ∧ RtP w W1 g bm most L' x v D K ∧ L'.length ≤ L.length + 1 ∧
      Hid (∀ W2, RtP w W2 g bm most L' x v D K → Calls Tryd.prog 27 #[.pointer (some ⟨x, 0, none⟩), q.agg] W2 fun e W3 => e = .returned (.bool b) ∧ ∃ v' D', RtP w W3 g bm most L' x v' D' K ∧ RtE L' D') := by
  have hle := e.len
  refine (sput_all h e he q hq hp hs (by omega)).mono fun e' W1 ⟨b, L', hx, h1, hP, hl1⟩ => ⟨b, L', hx, h1, hl1, Lib.hid fun W2 h2 => ?_⟩
  have hend : ∀ e3 W3, RPutSays W2 w.heap.size x most q D e3 W3 → e3 = .returned (.bool b) ∧ ∃ v' D', RtP w W3 g bm most L' x v' D' K ∧ RtE L' D' := fun e3 W3 ⟨he3, u, hr, hf⟩ => ⟨by rw [he3, hP.1], u, _, h2.rn hr hf, hP.2⟩
  cases hn : nameB q.m.topic with
  | false => exact (rput_no h2.rf q (by omega) hn).mono hend
  | true => exact (rput_yes h2.rf q (hq.below h2.aw.bel) (by omega) (by omega) hn (by omega)).mono hend
/-- What has come goes from both. -/
theorem rt_exp (h : RtP w W g bm most L x v D K) (e : RtE L D) (now : Int) :
    Calls Tryd.prog 28 #[.pointer (some ⟨g, 0, none⟩), .int .i64 now] W fun e W1 => ∃ z L', e = .returned (.int .i64 z) ∧ RtP w W1 g bm most L' x v D K ∧ L'.length ≤ L.length ∧
      Hid (∀ W2, RtP w W2 g bm most L' x v D K → Calls Tryd.prog 29 #[.pointer (some ⟨x, 0, none⟩), .int .i64 now] W2 fun e W3 => e = .returned (.int .i64 z) ∧ ∃ v' D', RtP w W3 g bm most L' x v' D' K ∧ RtE L' D') := by
  have hf := e.filter (fun m => !exB m.til now)
  refine (sexp_any h.aw.st (e.siz fun q hq => (h.rf.ms q hq).2.2) now).mono fun e' W1 ⟨hx, h1⟩ => ⟨_, _, hx, h.on h1, List.length_filter_le _ _, Lib.hid fun W2 h2 => ?_⟩
  refine (rexp19_any h2.rf now).mono fun e3 W3 ⟨he3, u, hr, hfr⟩ => ⟨?_, u, _, h2.rn hr hfr, hf⟩
  have h3 : (D.filter (kpB now)).length = (L.filter (kpB now)).length := hf.len
  rw [he3, h3, e.len]
end
end Go.Proofs.YtfmkeapbddhndaaDoor
namespace Go.Proofs.YtfmkeapbddhndaaDoor
open Go.RowKit Go.Extern.Stop Go.Stop Go.Extern Go.Maps Go.Deep
set_option maxRecDepth 100000
theorem MRow.mrd {w : World} {B n c : Nat} {A : Option Addr} {L : QL} (h : MRow w B (.slice A n c) L) : MRd w A L := fun hp => by
  obtain ⟨g, rfl, _, hc⟩ := h.cell hp
  exact ⟨g, 0, rfl, fun k hk => QCells.of fun j hj => by rw [Nat.zero_add]; exact hc k j hk hj⟩
section
variable {w W : World} {g bm x : Nat} {most : Int} {v : Value} {L D : QL} {K : OL} {S : Nat → Addr}
theorem at_same (h : RtE L D) (hd : (tops L).Nodup) {s : ByteArray} {q q2 : QV} {b b2 : Bool} (h1 : At L s q b) (h2 : At D s q2 b2) : b2 = b ∧ q2.m = q.m := by
  rcases h1 with ⟨rfl, hq, hs⟩ | ⟨rfl, rfl, hs⟩
  · rcases h2 with ⟨rfl, hq2, hs2⟩ | ⟨rfl, rfl, hs2⟩
    · refine ⟨rfl, ?_⟩
      obtain ⟨y, hy, hye⟩ := List.mem_map.1 (h.pm.mem_iff.1 (List.mem_map.2 ⟨q2, hq2, rfl⟩))
      rw [← hye]
      have ht : y.m.topic = q.m.topic := by rw [hye, hs2, hs]
      exact congrArg QV.m (tops_one hd hy hq ht)
    · exact absurd ((h.top s).1 (List.mem_map.2 ⟨q, hq, hs⟩)) hs2
  · rcases h2 with ⟨rfl, hq2, hs2⟩ | ⟨rfl, rfl, hs2⟩
    · exact absurd ((h.top s).2 (List.mem_map.2 ⟨q2, hq2, hs2⟩)) hs
    · exact ⟨rfl, rfl⟩
where
  tops_one {L : QL} (hd : (tops L).Nodup) {a b : QV} (ha : a ∈ L) (hb : b ∈ L) (he : a.m.topic = b.m.topic) : a = b := by
    unfold tops at hd
    rw [List.Nodup, List.pairwise_map] at hd
    induction L with
    | nil => cases ha
    | cons c L ih =>
      obtain ⟨h1, h2⟩ := List.pairwise_cons.1 hd
      rcases List.mem_cons.1 ha with ea | ha'
      · rcases List.mem_cons.1 hb with eb | hb'
        · rw [ea, eb]
        · subst ea
          exact absurd he (h1 b hb')
      · rcases List.mem_cons.1 hb with eb | hb'
        · subst eb
          exact absurd he.symm (h1 a ha')
        · exact ih h2 ha' hb'
/-- A look into both. -/
theorem rt_get (h : RtP w W g bm most L x v D K) (e : RtE L D) (s : ByteArray) (hs : s.size ≤ 200) :
    Calls Tryd.prog 30 #[.pointer (some ⟨g, 0, none⟩), .string s] W fun e W1 => ∃ (q : QV) (b : Bool), e = .returned (.tuple #[q.agg, .bool b]) ∧ RtP w W1 g bm most L x v D K ∧ Below W.heap.size W W1 ∧
      Hid (∀ W2, Below W1.heap.size W1 W2 → Calls Tryd.prog 31 #[.pointer (some ⟨x, 0, none⟩), .string s] W2 fun e W3 => ∃ q2 : QV, e = .returned (.tuple #[q2.agg, .bool b]) ∧ Below W2.heap.size W2 W3 ∧
        Hid (∀ W4, Below W3.heap.size W3 W4 → Calls Tryd.prog 32 #[q.agg, q2.agg] W4 fun e W5 => e = .returned (.bool true) ∧ Below W4.heap.size W4 W5)) := by
  obtain ⟨q, b, hv⟩ := at_any L s
  refine (sget_any h.aw.st (by unfold maxLen; omega) hv).mono fun e' W1 ⟨pa, pc, hx, hp, hb⟩ => ⟨⟨q.m, pa, pc⟩, b, hx, h.below hb, hb, Lib.hid fun W2 h2 => ?_⟩
  have hw2 := (h.below hb).below h2
  refine (rget_any hw2.rf s).mono fun e3 W3 ⟨q2, b2, hv2, he3, hb3⟩ => ?_
  obtain ⟨rfl, hm⟩ := at_same e h.aw.st.apart hv hv2
  refine ⟨q2, he3, hb3, Lib.hid fun W4 h4 => ?_⟩
  have hp2 : PIn W2 w.heap.size q2.pa q2.m.props := by
    rcases hv2 with ⟨_, hq, _⟩ | ⟨_, rfl, _⟩
    · exact (hw2.rf.ms q2 hq).1
    · exact fun h0 => absurd h0 (by decide)
  exact samemsg_any ⟨q.m, pa, pc⟩ q2 hm.symm (((hp.below h2).below hb3).below h4) ((hp2.below hb3).below h4) (hv.pin h.aw.st).2
/-- A search in both. -/
theorem rt_match (h : RtP w W g bm most L x v D K) (e : RtE L D) (he : EnvT w S) (f : ByteArray) (hf : f.size ≤ 200) :
    Calls Tryd.prog 34 #[.pointer (some ⟨g, 0, none⟩), .string f] W fun e W1 => ∃ (A : Option Addr) (n c : Nat), e = .returned (.slice A n c) ∧ Below W.heap.size W W1 ∧
      Hid (∀ W2, Below W1.heap.size W1 W2 → Calls Tryd.prog 35 #[.pointer (some ⟨x, 0, none⟩), .string f] W2 fun e W3 => ∃ (A2 : Option Addr) (c2 : Nat), e = .returned (.slice A2 n c2) ∧ Below W2.heap.size W2 W3 ∧
        Hid (∀ W4, Below W3.heap.size W3 W4 → Calls Tryd.prog 33 #[.slice A n c, .slice A2 n c2] W4 fun e W5 => e = .returned (.bool true) ∧ Below W4.heap.size W4 W5)) := by
  have hef := e.filter (fun m => matchB f m.topic)
  refine (match19_any h.aw.st (e.siz fun q hq => (h.rf.ms q hq).2.2) f (by omega) (he.later h.aw.bel)).mono fun e' W1 ⟨u, R, hx, hr, hp, ho, hpin, hb⟩ => ?_
  obtain ⟨A, c, rfl⟩ := hr.form
  refine ⟨A, R.length, c, hx, hb, Lib.hid fun W2 h2 => ?_⟩
  have hw2 := (h.below hb).below h2
  refine (rmatch19_any hw2.rf f (by omega)).mono fun e3 W3 ⟨u3, he3, hr3, hb3, hpin3⟩ => ?_
  obtain ⟨A3, c3, rfl⟩ := hr3.form
  have hpp : (R.map QV.m).Perm ((D.filter (mtB f)).map QV.m) := hp.trans hef.pm.symm
  have hs1 : ((D.filter (mtB f)).map QV.m).Pairwise (fun a b => lessT a.topic b.topic = true) := by
    rw [List.pairwise_map]
    exact hef.srt
  have hs2 : (R.map QV.m).Pairwise (fun a b => lessT b.topic a.topic = false) := by
    rw [List.pairwise_map]
    exact ho
  have heq := one_srt hs1 hpp hs2
  have hl : (D.filter (mtB f)).length = R.length := by
    have := congrArg List.length heq
    rw [List.length_map, List.length_map] at this
    exact this.symm
  have hl9 : R.length ≤ 900 := by
    have := List.length_filter_le (mtB f) D
    have := h.rf.few
    omega
  rw [hl] at hr3 he3
  refine ⟨A3, c3, he3, hb3, Lib.hid fun W4 h4 => ?_⟩
  exact msame_any (((hr.below h2).below hb3).below h4).mrd (show MRow W4 W2.heap.size (.slice A3 (D.filter (mtB f)).length c3) (D.filter (mtB f)) from by rw [hl]; exact hr3.below h4).mrd (fun q hq => ⟨(((hpin q hq).below h2).below hb3).below h4, by
    have h1 : q.m ∈ R.map QV.m := List.mem_map.2 ⟨q, hq, rfl⟩
    rw [heq] at h1
    obtain ⟨d, hd, hde⟩ := List.mem_map.1 h1
    rw [← hde]
    exact (h.rf.ms d (List.mem_filter.1 hd).1).2.1⟩) (fun q hq => (hpin3 q (List.mem_filter.1 hq).1).below h4) heq R.length c c3 rfl hl9
end
end Go.Proofs.YtfmkeapbddhndaaDoor
