/- What is proved here: the document lets one message more be under way. Conditions: those that each theorem names. What is proved here: the document sends a message. Conditions: those that each theorem names. -/
import Derived.Test.YtpaalhhadjihlaaRsn24
namespace Go.Proofs.Ytpaalhhadjihlaa
open Go.RowKit Go.Extern.Stop Go.Stop Go.Extern Go.Maps Go.Deep
set_option maxRecDepth 100000
set_option linter.unusedSimpArgs false
theorem builtF (id st : Int) (q : QV) : Try.prog.built 71 [(0, .int .i64 id), (1, .int .i64 st), (2, .agg #[.string q.m.topic, .string q.m.payload, .int .i64 q.m.qos, .bool q.m.retain, .slice q.pa q.m.props.length q.pc, .string q.m.frm, .int .i64 q.m.til, .int .i64 q.m.seq, .string q.m.grp])] = some (FV.gcells ⟨id, st, q, 0⟩) := by kernel_rfl
section
variable {ops : Array Oper} {o : Oper} {a : Act} {w : World} {K : Act → World → Prop} {Q : Exit → Act → World → Prop} {E : Prop}
theorem step_slice_g {pc : Array Value} (hs : pc.size = 11) (hgd : o.guard = none) (x : Operand) (ho : o.op = .buildSlice 56 1 #[(0, x)]) (hx : a.eval x = .agg pc)
    (h : K (a.put o.dst (.slice (some ⟨w.heap.size, 0, none⟩) 1 1)) (w.alloc (.cells pc 71))) : if Region.wanted o (yielded ops a.tmps) = true then Oper.wp Try.prog o a w K Q else E := by
  have hw : Region.wanted o (yielded ops a.tmps) = true := by simp [Region.wanted, hgd]
  rw [if_pos hw]
  obtain ⟨i0, hi0, hz0, hz1, hz2⟩ := info_parts Try.flight2Info
  refine wp_buildSlice _ _ 1 _ ho pc i0 _ Try.underlying56 hi0 hz0 (by rw [hz1]; decide) (by rw [hz1]; decide) ?_ h
  have e : ((#[(0, x)] : Array (Nat × Operand)).map fun (i, x) => (i, a.eval x)).toList = (([Value.agg pc] : List Value).zipIdx 0).map fun x => (x.2, x.1) := by
    simp [hx]
  rw [e, hz1, Great.fill_whole (s := 11) (by decide) [.agg pc] _ (fun v hv => by rw [List.mem_singleton] at hv; subst hv; exact hs) (by simp)]
  simp [Value.cells]
theorem step_append_g {B : Nat} (hgd : o.guard = none) (s x : Operand) (ho : o.op = .call { callee := .builtin .append, args := #[s, x], argTypes := #[56, 56] })
    (v : Value) (L : FL) (f : FV) (hs : a.eval s = v) (h : GRow w B v L) (hB : B ≤ w.heap.size) (hl : L.length ≤ 1000) (ad : Addr) (c : Nat) (hx : a.eval x = .slice (some ad) 1 c) (hq : ∀ i, i < 11 → w.cell? (ad.add i) = f.gcells[i]?)
    (hk : ∀ a' c' w', GRow w' B (.slice a' (L.length + 1) c') (L ++ [f]) → w.grownBy w' v.ownBlock → K (a.put o.dst (.slice a' (L.length + 1) c')) w') :
    if Region.wanted o (yielded ops a.tmps) = true then Oper.wp Try.prog o a w K Q else E := by
  have hw : Region.wanted o (yielded ops a.tmps) = true := by simp [Region.wanted, hgd]
  rw [if_pos hw]
  obtain ⟨v', w', hr, hrow, hg⟩ := h.push (ty := o.type) Try.underlying56 hB hl f hq c
  obtain ⟨a', c', rfl⟩ := hrow.form
  have hlen : (L ++ [f]).length = L.length + 1 := by simp
  rw [hlen] at hr
  have hrow2 : GRow w' B (.slice a' (L.length + 1) c') (L ++ [f]) := by rw [← hlen]; exact hrow
  exact Lib.wp_append_run w s x 56 56 ho v _ hs hx _ w' hr (hk a' c' w' hrow2 hg)
end
/-- What stands while one is sent. -/
structure RsI (w W : World) (B x xp k4 : Nat) (v : Value) (D : FL) (y : Nat) (LP : List Int) (q : QV) : Prop where
  blk : Blk W x 60 #[.pointer (some ⟨xp, 0, none⟩), v]
  row : GRow W B v D
  ref : IsRefP W B xp 65535 y LP
  low : B ≤ x
  size : B ≤ W.heap.size
  box : Blk W k4 36 #[.string q.m.topic, .string q.m.payload, .int .i64 q.m.qos, .bool q.m.retain, .slice q.pa q.m.props.length q.pc, .string q.m.frm, .int .i64 q.m.til, .int .i64 q.m.seq, .string q.m.grp]
  ms : ∀ f ∈ D, PIn W B f.q.pa f.q.m.props ∧ f.q.m.props.length ≤ 1000
  pin : PIn W B q.pa q.m.props
  rn : RN B w W
section
variable {w W W' : World} {B x xp k4 y : Nat} {v : Value} {D : FL} {LP : List Int} {q : QV}
theorem RsI.below (h : RsI w W B x xp k4 v D y LP q) (hb : Below W.heap.size W W') : RsI w W' B x xp k4 v D y LP q :=
  ⟨h.blk.below hb h.blk.lt, own_below h.row hb, h.ref.then (Fr.of_below hb), h.low, Nat.le_trans h.size hb.size, h.box.below hb h.box.lt, fun f hf => ⟨(h.ms f hf).1.below hb, (h.ms f hf).2⟩, h.pin.below hb, h.rn.trans (RN.of_below hb)⟩
theorem RsI.drew (h : RsI w W B x xp k4 v D y LP q) : RsI w W.drew B x xp k4 v D y LP q := h.below ⟨rfl, rfl, rfl, Nat.le_refl _, fun _ _ => rfl⟩
theorem rs_end (h : RsI w W B x xp k4 v D y LP q) {v' : Value} {f : FV} (hfq : f.q = q) (hql : q.m.props.length ≤ 1000) (hr : GRow W' B v' (D ++ [f])) (hg : W.grownBy W' v.ownBlock) (hif : ∀ i, i ∈ LP ↔ i ∈ ids (D ++ [f])) (hlp : LP.length ≤ (D ++ [f]).length) (hfew : (D ++ [f]).length ≤ 1000) (hy : y ≤ 65535) :
    Blk W' x 60 #[.pointer (some ⟨xp, 0, none⟩), v] ∧ Blk W' k4 36 #[.string q.m.topic, .string q.m.payload, .int .i64 q.m.qos, .bool q.m.retain, .slice q.pa q.m.props.length q.pc, .string q.m.frm, .int .i64 q.m.til, .int .i64 q.m.seq, .string q.m.grp] ∧
    RfI (W'.setCell ⟨x, 1, none⟩ v') B x xp v' (D ++ [f]) y LP ∧ RN B w (W'.setCell ⟨x, 1, none⟩ v') := by
  have own : ∀ k, v.ownBlock = some k → B ≤ k ∧ ∃ cs, W.heap[k]? = some (.cells cs 71 (0, 0)) := fun k hk => ⟨(GRow.lt h.row k hk).1, (GRow.lt h.row k hk).2.2⟩
  have ne : ∀ {b : Nat} {t : TypeId} {cs : Array Value}, Blk W b t cs → t ≠ 71 → some b ≠ v.ownBlock := by
    intro b t cs hb ht e
    obtain ⟨_, cs', hh⟩ := own b e.symm
    exact (hb.other hh ht) rfl
  have hf : Fr v.ownBlock.toList W W' := (Fr.refl _ W).grown hg (fun k hk => .inl (own_listK.2 hk))
  have hX : ∀ b ∈ v.ownBlock.toList, B ≤ b ∧ ∃ cs, W.heap[b]? = some (.cells cs 71 (0, 0)) := fun b hb => own b (own_listK.1 hb)
  have hbx := h.blk.grown hg (ne h.blk (by decide))
  have hk4 := h.box.grown hg (ne h.box (by decide))
  have hset : Fr [x] W' (W'.setCell ⟨x, 1, none⟩ v') := Fr.setCell (X := [x]) (Fr.refl _ _) (.inl (by simp)) _
  have hpr : ∀ b ∈ v.ownBlock.toList, ∀ cs, W.heap[b]? ≠ some (.cells cs 93 (0, 0)) := fun b hb cs hc => by
    obtain ⟨_, cs', hh⟩ := hX b hb
    rw [hc] at hh
    injection hh with hh
    injection hh with _ ht _
    exact absurd ht (by decide)
  have hprx : ∀ b ∈ [x], ∀ cs, W'.heap[b]? ≠ some (.cells cs 93 (0, 0)) := fun b hb cs hc => by
    rw [List.mem_singleton] at hb
    subst hb
    exact (hbx.other hc (by decide)) rfl
  have pins : ∀ {A : Option Addr} {P : PL}, PIn W B A P → PIn (W'.setCell ⟨x, 1, none⟩ v') B A P := fun hp =>
    (hp.fr hf fun b hb => ⟨(hX b hb).1, hpr b hb⟩).fr hset fun b hb => ⟨by rw [List.mem_singleton] at hb; subst hb; exact h.low, hprx b hb⟩
  refine ⟨hbx, hk4, ⟨hbx.store 1 v', ?_, ?_, h.low, Nat.le_trans h.size (Nat.le_trans hf.size hset.size), hif, hlp, hfew, hy, fun f' hf' => ?_⟩, ?_⟩
  · refine row_fr hr hset fun k hk hm => ?_
    rw [List.mem_singleton] at hm
    subst hm
    obtain ⟨_, _, cs', hh⟩ := GRow.lt hr k hk
    exact (hbx.other hh (by decide)) rfl
  · refine (h.ref.fr hf fun b hb t cur hc => ?_).fr hset fun b hb t cur hc => ?_
    · obtain ⟨_, cs', hh⟩ := hX b hb
      rw [hc] at hh
      injection hh with hh
      injection hh with _ ht _
      subst ht
      exact ⟨by decide, by decide⟩
    · rw [List.mem_singleton] at hb
      subst hb
      have hh : W'.heap[b]? = some (.cells _ 60 (0, 0)) := hbx
      rw [hc] at hh
      injection hh with hh
      injection hh with _ ht _
      subst ht
      exact ⟨by decide, by decide⟩
  · rcases List.mem_append.1 hf' with hm | hm
    · exact ⟨pins (h.ms f' hm).1, (h.ms f' hm).2⟩
    · rw [List.mem_singleton] at hm
      subst hm
      rw [hfq]
      exact ⟨pins h.pin, hql⟩
  · refine (h.rn.trans ⟨_, hf, fun b hb => ⟨(hX b hb).1, ?_⟩⟩).trans ⟨_, hset, fun b hb => ?_⟩
    · obtain ⟨_, cs', hh⟩ := hX b hb
      exact ⟨_, _, _, hh, .inr (.inr (.inl rfl))⟩
    · rw [List.mem_singleton] at hb
      subst hb
      exact ⟨h.low, _, _, _, hbx, .inl rfl⟩
end
end Go.Proofs.Ytpaalhhadjihlaa
namespace Go.Proofs.Ytpaalhhadjihlaa
open Go.RowKit Go.Extern.Stop Go.Stop Go.Extern Go.Maps Go.Deep
set_option maxRecDepth 100000
set_option linter.unusedSimpArgs false
def RSendSays (w : World) (B x xp : Nat) (D : FL) (y : Nat) (LP : List Int) (e : Ending) (w' : World) : Prop := e = .returned (.tuple #[.int .i64 y, .bool true]) ∧ ∃ v', RfI w' B x xp v' D y LP ∧ RN B w w'
set_option maxHeartbeats 1000000 in
theorem rsend_ok {w : World} {B x xp last y : Nat} {v : Value} {D : FL} {LP : List Int} (h : RfI w B x xp v D last LP) (q : QV) (hq : PIn w B q.pa q.m.props) (hl : q.m.props.length ≤ 1000) (qos : Int) (hqos : qos = 1 ∨ qos = 2) (hD : D.length < 1000) (hs : scan (fun z => decide (z ∈ ids D)) 65535 last 65535 0 = some y) :
    Calls Try.prog 9 #[.pointer (some ⟨x, 0, none⟩), q.agg, .int .i64 qos] w (RSendSays w B x xp (D ++ [⟨y, qos, q, 0⟩]) y (LP ++ [(y : Int)])) := by
  obtain ⟨a, c, rfl⟩ := h.form
  have hm : ∀ z, (fun z => decide (z ∈ ids D)) z = decide (z ∈ LP) := fun z => by
    have := h.iff z
    by_cases hz : z ∈ LP
    · simp [hz, this.1 hz]
    · have h2 : ¬ z ∈ ids D := fun h2 => hz (this.2 h2)
      simp [hz, h2]
  have HN := Lib.hid (fun W (hR : RfI W B x xp (.slice a D.length c) D last LP) => refp_next hR.ref hR.size (by have := hR.lp; omega) (Nat.le_refl _) hR.last_le hm hs)
  have hy : y ≤ 65535 ∧ (y : Int) ∉ LP := by
    obtain ⟨j, _, hj, rfl, hmm, _⟩ := scan_some hs
    have h1 := cand_in (most := 65535) (last := last) (i := j) (by omega)
    refine ⟨h1.2, ?_⟩
    have h2 := (hm _).symm.trans hmm
    simpa using h2
  have HY := Lib.hid hy
  have HR := Lib.hid h
  have HQ := Lib.hid hq
  have HL := Lib.hid (And.intro hl hD)
  have HO := Lib.hid (Own.start [] w)
  have HFI := Lib.hid (show (∀ i, i ∈ LP ++ [(y : Int)] ↔ i ∈ ids (D ++ [(⟨y, qos, q, 0⟩ : FV)])) ∧ (LP ++ [(y : Int)]).length ≤ (D ++ [(⟨y, qos, q, 0⟩ : FV)]).length ∧ (D ++ [(⟨y, qos, q, 0⟩ : FV)]).length ≤ 1000 from ⟨fun i => by
    have := h.iff i
    unfold ids at *
    rw [List.map_append, List.mem_append, List.mem_append, this]
    simp, by have := h.lp; simp; omega, by simp; omega⟩)
  have HBF := Lib.hid (builtF y qos q)
  have HFZ := Lib.hid (show (FV.gcells ⟨y, qos, q, 0⟩).size = 11 from rfl)
  have HFQ := Lib.hid (show (⟨y, qos, q, 0⟩ : FV).q = q from rfl)
  generalize (⟨(y : Int), qos, q, 0⟩ : FV) = ff at *
  clear h hq hl hD hs hm hy
  unfold QV.agg
  rcases hqos with rfl | rfl
  all_goals
    go_enter Try.func9, Try.ntmps9
    go_upto_region 1 with (refine wpo_box (t := 36) HO.out _ rfl rfl rfl ?_; clear HO; rintro k4 W1 hO; have HO := Lib.hid hO; clear hO; simp only [Act.put, List.setIfInBounds_toArray, List.set_cons_zero, List.set_cons_succ])
    have HR1 := Lib.hid (HR.out.below HO.out.bel)
    have HN1 := Lib.hid (HN.out _ HR1.out)
    have c0 := HR1.out.blk.cell 0
    clear HN
    go_wp2_with fail
    refine HN1.out.mono ?_
    rintro e w3 ⟨rfl, hp, hn⟩
    have hi : ∃ vp, RsI w w3 B x xp k4 vp D y (LP ++ [(y : Int)]) q ∧ vp = .slice a D.length c := by
      obtain ⟨⟨v1, b1, _⟩, _⟩ := HR1.out.ref
      have hx : x ≠ xp := HR1.out.blk.other b1 (by decide)
      have hk : k4 ≠ xp := (HO.out.get 0 rfl).other b1 (by decide)
      have hrn := near_rn hn b1
      have hsz : W1.heap.size ≤ w3.heap.size := by obtain ⟨X, hf, _⟩ := hn; exact hf.size
      exact ⟨_, ⟨hn.blk HR1.out.blk hx (by decide), near_grow hn b1 HR1.out.row, hp, HR1.out.low, Nat.le_trans HR1.out.size hsz, hn.blk (HO.out.get 0 rfl) hk (by decide), fun f hf => ⟨hrn.pin (HR1.out.ms f hf).1 (Nat.le_refl _), (HR1.out.ms f hf).2⟩, hrn.pin (HQ.out.below HO.out.bel) (Nat.le_refl _), (RN.of_below HO.out.bel).trans hrn⟩, rfl⟩
    obtain ⟨vp, hi, rfl⟩ := hi
    have HI := Lib.hid hi
    clear hp hn HN1 HO HR1 c0 hi
    go_upto_region 6 with fail
    have hi0 := HI.out.drew
    have KT := Lib.hid (fun W (hi : RsI w W B x xp k4 (.slice a D.length c) D y (LP ++ [(y : Int)]) q) => show (fun W => W.cell? ⟨x, 1, none⟩ = some (.slice a D.length c) ∧ W.cell? ⟨k4, 0, none⟩ = some (.string q.m.topic) ∧ W.cell? ⟨k4, 1, none⟩ = some (.string q.m.payload) ∧ W.cell? ⟨k4, 2, none⟩ = some (.int .i64 q.m.qos) ∧ W.cell? ⟨k4, 3, none⟩ = some (.bool q.m.retain) ∧ W.cell? ⟨k4, 4, none⟩ = some (.slice q.pa q.m.props.length q.pc) ∧ W.cell? ⟨k4, 5, none⟩ = some (.string q.m.frm) ∧ W.cell? ⟨k4, 6, none⟩ = some (.int .i64 q.m.til) ∧ W.cell? ⟨k4, 7, none⟩ = some (.int .i64 q.m.seq) ∧ W.cell? ⟨k4, 8, none⟩ = some (.string q.m.grp)) W from ⟨hi.blk.cell 1, hi.box.cell 0, hi.box.cell 1, hi.box.cell 2, hi.box.cell 3, hi.box.cell 4, hi.box.cell 5, hi.box.cell 6, hi.box.cell 7, hi.box.cell 8⟩)
    have hs0 := KT.out _ hi0
    refine wp_region_T (fun W => W.cell? ⟨x, 1, none⟩ = some (.slice a D.length c) ∧ W.cell? ⟨k4, 0, none⟩ = some (.string q.m.topic) ∧ W.cell? ⟨k4, 1, none⟩ = some (.string q.m.payload) ∧ W.cell? ⟨k4, 2, none⟩ = some (.int .i64 q.m.qos) ∧ W.cell? ⟨k4, 3, none⟩ = some (.bool q.m.retain) ∧ W.cell? ⟨k4, 4, none⟩ = some (.slice q.pa q.m.props.length q.pc) ∧ W.cell? ⟨k4, 5, none⟩ = some (.string q.m.frm) ∧ W.cell? ⟨k4, 6, none⟩ = some (.int .i64 q.m.til) ∧ W.cell? ⟨k4, 7, none⟩ = some (.int .i64 q.m.seq) ∧ W.cell? ⟨k4, 8, none⟩ = some (.string q.m.grp)) 13 (by kernel_rfl) ?_ (fun hHeld => ?_)
    · exact hs0
    refine wpAnyT_take (i := 0) (oi := _) (v := ?_) rfl (by kernel_rfl) (by kernel_rfl) (by kernel_rfl) (by kernel_rfl) (fun _ _ _ h => h) (Or.inl ⟨by rfl, ?_⟩) (by assumption) ?_
    rotate_left
    · (intro w hSw; (try dsimp only at hSw); go_simp; (try with_reducible rfl))
    (try simp only [Act.put, List.setIfInBounds_toArray, List.set_cons_zero, List.set_cons_succ])
    (try simp only [List.getElem_toArray, List.getElem_cons_succ, List.getElem_cons_zero, List.set_cons_zero, List.set_cons_succ])
    refine wpAnyT_take (i := 1) (oi := _) (v := ?_) rfl (by kernel_rfl) (by kernel_rfl) (by kernel_rfl) (by kernel_rfl) (fun _ _ _ h => h) (Or.inl ⟨by rfl, ?_⟩) (by assumption) ?_
    rotate_left
    · (intro w hSw; (try dsimp only at hSw); go_simp; (try with_reducible rfl))
    (try simp only [Act.put, List.setIfInBounds_toArray, List.set_cons_zero, List.set_cons_succ])
    (try simp only [List.getElem_toArray, List.getElem_cons_succ, List.getElem_cons_zero, List.set_cons_zero, List.set_cons_succ])
    refine wpAnyT_take (i := 2) (oi := _) (v := ?_) rfl (by kernel_rfl) (by kernel_rfl) (by kernel_rfl) (by kernel_rfl) (fun _ _ _ h => h) (Or.inl ⟨by rfl, ?_⟩) (by assumption) ?_
    rotate_left
    · (intro w hSw; (try dsimp only at hSw); go_simp; (try with_reducible rfl))
    (try simp only [Act.put, List.setIfInBounds_toArray, List.set_cons_zero, List.set_cons_succ])
    (try simp only [List.getElem_toArray, List.getElem_cons_succ, List.getElem_cons_zero, List.set_cons_zero, List.set_cons_succ])
    refine wpAnyT_take (i := 3) (oi := _) (v := ?_) rfl (by kernel_rfl) (by kernel_rfl) (by kernel_rfl) (by kernel_rfl) (fun _ _ _ h => h) (Or.inl ⟨by rfl, ?_⟩) (by assumption) ?_
    rotate_left
    · (intro w hSw; (try dsimp only at hSw); go_simp; (try with_reducible rfl))
    (try simp only [Act.put, List.setIfInBounds_toArray, List.set_cons_zero, List.set_cons_succ])
    (try simp only [List.getElem_toArray, List.getElem_cons_succ, List.getElem_cons_zero, List.set_cons_zero, List.set_cons_succ])
    refine wpAnyT_take (i := 4) (oi := _) (v := ?_) rfl (by kernel_rfl) (by kernel_rfl) (by kernel_rfl) (by kernel_rfl) (fun _ _ _ h => h) (Or.inl ⟨by rfl, ?_⟩) (by assumption) ?_
    rotate_left
    · (intro w hSw; (try dsimp only at hSw); go_simp; (try with_reducible rfl))
    (try simp only [Act.put, List.setIfInBounds_toArray, List.set_cons_zero, List.set_cons_succ])
    (try simp only [List.getElem_toArray, List.getElem_cons_succ, List.getElem_cons_zero, List.set_cons_zero, List.set_cons_succ])
    refine wpAnyT_take (i := 5) (oi := _) (v := ?_) rfl (by kernel_rfl) (by kernel_rfl) (by kernel_rfl) (by kernel_rfl) (fun _ _ _ h => h) (Or.inl ⟨by rfl, ?_⟩) (by assumption) ?_
    rotate_left
    · (intro w hSw; (try dsimp only at hSw); go_simp; (try with_reducible rfl))
    (try simp only [Act.put, List.setIfInBounds_toArray, List.set_cons_zero, List.set_cons_succ])
    (try simp only [List.getElem_toArray, List.getElem_cons_succ, List.getElem_cons_zero, List.set_cons_zero, List.set_cons_succ])
    refine wpAnyT_take (i := 6) (oi := _) (v := ?_) rfl (by kernel_rfl) (by kernel_rfl) (by kernel_rfl) (by kernel_rfl) (fun _ _ _ h => h) (Or.inl ⟨by rfl, ?_⟩) (by assumption) ?_
    rotate_left
    · (intro w hSw; (try dsimp only at hSw); go_simp; (try with_reducible rfl))
    (try simp only [Act.put, List.setIfInBounds_toArray, List.set_cons_zero, List.set_cons_succ])
    (try simp only [List.getElem_toArray, List.getElem_cons_succ, List.getElem_cons_zero, List.set_cons_zero, List.set_cons_succ])
    refine wpAnyT_take (i := 7) (oi := _) (v := ?_) rfl (by kernel_rfl) (by kernel_rfl) (by kernel_rfl) (by kernel_rfl) (fun _ _ _ h => h) (Or.inl ⟨by rfl, ?_⟩) (by assumption) ?_
    rotate_left
    · (intro w hSw; (try dsimp only at hSw); go_simp; (try with_reducible rfl))
    (try simp only [Act.put, List.setIfInBounds_toArray, List.set_cons_zero, List.set_cons_succ])
    (try simp only [List.getElem_toArray, List.getElem_cons_succ, List.getElem_cons_zero, List.set_cons_zero, List.set_cons_succ])
    refine wpAnyT_take (i := 8) (oi := _) (v := .agg ff.gcells) rfl (by kernel_rfl) (by kernel_rfl) (by kernel_rfl) (by kernel_rfl) (fun _ _ _ h => h) ?_ (by assumption) ?_
    · exact yo_built (by rfl) HBF.out rfl rfl
    (try simp only [Act.put, List.setIfInBounds_toArray, List.set_cons_zero, List.set_cons_succ])
    (try simp only [List.getElem_toArray, List.getElem_cons_succ, List.getElem_cons_zero, List.set_cons_zero, List.set_cons_succ])
    generalize hgc : ff.gcells = gc at *
    have HGC := Lib.hid hgc
    clear hgc
    refine wpAnyT_one (i := 9) (o := _) (by kernel_rfl) rfl (fun K hK => ?_)
    refine step_slice_g HFZ.out (by rfl) _ (by rfl) (by rfl) ?_
    have hi9 := hi0.below ((Below.refl _ _).alloc (Nat.le_refl _) (.cells gc 71))
    have hs9 := KT.out _ hi9
    refine hK.out _ _ (fun _ => ?_) (fun hH1 => ?_)
    · exact hs9
    have hHeld1 := hH1 (by decide)
    clear hK K hH1
    (try simp only [Act.put, List.setIfInBounds_toArray, List.set_cons_zero, List.set_cons_succ])
    (try simp only [List.getElem_toArray, List.getElem_cons_succ, List.getElem_cons_zero, List.set_cons_zero, List.set_cons_succ])
    refine wpAnyT_one (i := 10) (o := _) (by kernel_rfl) rfl (fun K hK => ?_)
    refine step_append_g (by rfl) _ _ (by rfl) (.slice a D.length c) D ff (by rfl) hi9.row hi9.size (by have := HL.out.2; omega) ⟨w3.drew.heap.size, 0, none⟩ 1 (by rfl) (fun i hi => by rw [HGC.out]; exact news_g _ gc i hi) ?_
    intro a7 c7 w7 hrow7 hg7
    have hx := rs_end hi9 HFQ.out HL.out.1 hrow7 hg7 HFI.out.1 HFI.out.2.1 HFI.out.2.2 HY.out.1
    have hs7 := And.intro (hx.1.cell 1) (And.intro (hx.2.1.cell 0) (And.intro (hx.2.1.cell 1) (And.intro (hx.2.1.cell 2) (And.intro (hx.2.1.cell 3) (And.intro (hx.2.1.cell 4) (And.intro (hx.2.1.cell 5) (And.intro (hx.2.1.cell 6) (And.intro (hx.2.1.cell 7) (hx.2.1.cell 8)))))))))
    have y0 := hx.1.cell 1
    have y1 := hx.1.frozen 1
    have HE := Lib.hid hx.2.2
    clear hx
    refine hK.out _ _ (fun _ => ?_) (fun hH2 => ?_)
    · exact hs7
    have hHeld2 := hH2 (by decide)
    clear hK K hH2
    (try simp only [Act.put, List.setIfInBounds_toArray, List.set_cons_zero, List.set_cons_succ])
    (try simp only [List.getElem_toArray, List.getElem_cons_succ, List.getElem_cons_zero, List.set_cons_zero, List.set_cons_succ])
    refine wpAnyT_one (i := 11) (o := _) (by kernel_rfl) rfl (fun K hK => ?_)
    go_simp
    refine hK.out _ _ (fun _ => ?_) (fun hH3 => ?_)
    · exact hs7
    have hHeld3 := hH3 (by decide)
    clear hK K hH3
    (try simp only [Act.put, List.setIfInBounds_toArray, List.set_cons_zero, List.set_cons_succ])
    (try simp only [List.getElem_toArray, List.getElem_cons_succ, List.getElem_cons_zero, List.set_cons_zero, List.set_cons_succ])
    refine wpAnyT_one (i := 12) (o := _) (by kernel_rfl) rfl (fun K hK => ?_)
    go_simp
    refine hK.out _ _ (fun _ => ?_) (fun hH4 => ?_)
    · exact hs7
    have hHeld4 := hH4 (by decide)
    clear hK K hH4
    (try simp only [Act.put, List.setIfInBounds_toArray, List.set_cons_zero, List.set_cons_succ])
    (try simp only [List.getElem_toArray, List.getElem_cons_succ, List.getElem_cons_zero, List.set_cons_zero, List.set_cons_succ])
    refine wpAnyT_one (i := 13) (o := _) (by kernel_rfl) rfl (fun K hK => ?_)
    go_simp
    refine hK.out _ _ (fun h => absurd rfl h) (fun _ => ?_)
    clear hK K
    (try simp only [Act.put, List.setIfInBounds_toArray, List.set_cons_zero, List.set_cons_succ])
    (try simp only [List.getElem_toArray, List.getElem_cons_succ, List.getElem_cons_zero, List.set_cons_zero, List.set_cons_succ])
    refine wpAnyT_done (by kernel_rfl) ?_ _
    clear hs7 y0 y1
    go_wp2_with fail
    go_ret2
    exact ⟨rfl, _, HE.out⟩
end Go.Proofs.Ytpaalhhadjihlaa
