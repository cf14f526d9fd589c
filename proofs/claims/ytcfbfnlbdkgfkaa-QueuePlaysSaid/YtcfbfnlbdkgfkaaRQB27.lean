/- What is proved here: the document's own queues: popping, the first one. Conditions: the queue is there; few messages. -/
import Derived.Test.YtcfbfnlbdkgfkaaRQ27
namespace Go.Proofs.Ytcfbfnlbdkgfkaa
open Go.RowKit Go.Extern.Stop Go.Stop Go.Extern
set_option maxRecDepth 100000
/-- The document's answer of First, and of Pop, of what is left: the queue L' behind it. -/
def RSays (w : World) (B g : Nat) (most : Int) (v : Value) (L L' : QL) (x : Ending) (w' : World) : Prop :=
  ∃ v', RQNext w w' B g most v v' L' ∧ ((L = [] ∧ x = .returned (.tuple #[q0.agg, .bool false])) ∨ ∃ q L2, L = q :: L2 ∧ x = .returned (.tuple #[q.agg, .bool true]) ∧ PIn w' B q.pa q.m.props)
theorem left_hit {now : Int} {L : QL} {k : Nat} (hk : k < L.length) (hx : exQ now (L.getD k q0) = false) (hno : ∀ j, j < k → exQ now (L.getD j q0) = true) : leftQ now L = L.getD k q0 :: L.drop (k + 1) := by
  induction L generalizing k with
  | nil => cases hk
  | cons y L ih =>
    unfold leftQ
    rw [List.dropWhile_cons]
    rcases k with _ | k
    · rw [List.getD_cons_zero] at hx
      rw [hx]
      simp
    · have h0 := hno 0 (by omega)
      rw [List.getD_cons_zero] at h0
      rw [h0]
      have := ih (k := k) (by simpa using hk) (by simpa using hx) (fun j hj => by simpa using hno (j + 1) (by omega))
      unfold leftQ at this
      simpa using this
theorem left_nil {now : Int} {L : QL} (hno : ∀ j, j < L.length → exQ now (L.getD j q0) = true) : leftQ now L = [] := by
  induction L with
  | nil => rfl
  | cons y L ih =>
    unfold leftQ
    rw [List.dropWhile_cons]
    have h0 := hno 0 (by simp)
    rw [List.getD_cons_zero] at h0
    rw [h0]
    have := ih (fun j hj => by simpa using hno (j + 1) (by simpa using hj))
    unfold leftQ at this
    simpa using this
section
variable {X : List Nat} {w w' : World} {B g : Nat} {most : Int} {v v' : Value} {L L' : QL} {q : QV}
set_option maxHeartbeats 4000000 in
theorem rpop_any (h : RQObj w B g most v L) (hl : L.length ≤ 1000) (now : Int) : Calls Try.prog 39 #[.pointer (some ⟨g, 0, none⟩), .int .i64 now] w (RSays w B g most v (leftQ now L) ((leftQ now L).drop 1)) := by
  have hb0 : Below w.heap.size w (w.alloc (.cells zq 36)) := (Below.refl w.heap.size w).alloc (Nat.le_refl _) (.cells zq 36)
  have HST := Lib.hid (h.step hb0)
  have HBZ := Lib.hid (Blk.made w 36 zq)
  have HB0 := Lib.hid hb0
  have h0 := h.size
  have hgr0 : g ≠ w.heap.size := Nat.ne_of_lt h.blk.lt
  have hv0 : ∀ k, v.ownBlock = some k → k ≠ w.heap.size := fun k hk => Nat.ne_of_lt (h.row.lt k hk).2.1
  have HG0 := Lib.hid (And.intro h0 hgr0)
  have HV0 := Lib.hid hv0
  have HO := Lib.hid h
  have HCO := Lib.hid (fun W q => come_any q now W)
  obtain ⟨a, c, rfl⟩ := h.form
  obtain ⟨n, hn⟩ : ∃ n, n = L.length := ⟨_, rfl⟩
  rw [← hn] at HST HV0 HO hl ⊢
  have HN := Lib.hid hn
  clear h h0 hgr0 hv0 hb0 hn
  unfold zq at HB0
  go_enter Try.func39, Try.ntmps39
  go_wp2_with fail
  go_loopw [6] (fun i wr => ∃ k : Nat, k ≤ n ∧ i = .int .i64 k ∧ Below w.heap.size w wr ∧ Blk wr w.heap.size 36 zq ∧ Hid (∀ j, j < k → exQ now (L.getD j q0) = true)) (fun i _ => n - (intOf i).toNat)
  case atStart => exact ⟨0, by omega, rfl, HB0.out, HBZ.out, Lib.hid fun j hj => absurd hj (by omega)⟩
  case round =>
    obtain ⟨k, hk, rfl, hbe, hz, HP⟩ := hrel
    have HBE := Lib.hid hbe
    have HZ := Lib.hid hz
    have ho := HO.out.below hbe
    have HOR := Lib.hid ho
    have c1 : wr.cell? ⟨g, 1, none⟩ = some (.slice a n c) := ho.blk.cell 1
    have f1 : wr.frozen? ⟨g, 1, none⟩ = false := ho.blk.frozen 1
    by_cases hlt : k < n
    · have hkL : k < L.length := by have := HN.out; omega
      obtain ⟨gr, off, rfl, hcc⟩ := ho.row.mrd (by omega)
      have HCC := Lib.hid (fun W (hb : Below wr.heap.size wr W) => (hcc k hkL).at (hb.block gr (lt_of_cell' (hcc k hkL).c0)))
      have HHIT := Lib.hid (fun hx => left_hit (now := now) hkL hx HP.out)
      have HNX := Lib.hid (fun (hx : exQ now (L.getD k q0) = true) => show ∀ j, j < k + 1 → exQ now (L.getD j q0) = true from fun j hj => by
        by_cases hjk : j = k
        · subst hjk; exact hx
        · exact HP.out j (by omega))
      have hpq : PIn wr B (L.getD k q0).pa (L.getD k q0).m.props := ho.ms _ (by
        rw [List.getD_eq_getElem?_getD, List.getElem?_eq_getElem hkL]; exact List.getElem_mem hkL)
      obtain ⟨q, hq⟩ : ∃ q, q = L.getD k q0 := ⟨_, rfl⟩
      rw [← hq] at HCC HHIT HNX hpq
      have HPQ := Lib.hid hpq
      obtain ⟨d0, d1, d2, d3, d4, d5, d6, d7, d8⟩ := HCC.out wr (Below.refl _ _)
      have HC := Lib.hid (HCO.out wr q)
      clear hcc hkL hq ho hpq hbe hz
      unfold QV.agg at HC
      go_wp2_with fail
      refine HC.out.mono ?_
      rintro x w2 ⟨rfl, hb2⟩
      have HB2 := Lib.hid hb2
      have HZ2 := Lib.hid (HZ.out.below hb2 HZ.out.lt)
      clear d0 d1 d2 d3 d4 d5 d6 d7 d8 c1 f1 hb2 HC
      cases hex : exB q.m.til now with
      | true =>
        have HNN := Lib.hid (HNX.out hex)
        have HBN := Lib.hid (HBE.out.trans (HB2.out.mono HBE.out.size))
        clear hex
        go_wp2_with fail
        go_roundw
        case rel => exact ⟨k + 1, by omega, by go_num, HBN.out, HZ2.out, HNN⟩
        case measure => simp [intOf]; omega
      | false =>
        have HLL := Lib.hid (HHIT.out hex)
        have hbx : Below w2.heap.size w2 (w2.alloc (.cells q.cells.toArray 36)) := (Below.refl _ _).alloc (Nat.le_refl _) _
        have HB3 := Lib.hid (show Below w.heap.size w (w2.alloc (.cells q.cells.toArray 36)) from (HBE.out.trans (HB2.out.mono HBE.out.size)).trans (hbx.mono (Nat.le_trans HBE.out.size HB2.out.size)))
        have HOX := Lib.hid ((HOR.out.below HB2.out).below hbx)
        have HZ3 := Lib.hid (HZ2.out.below hbx HZ2.out.lt)
        have HM3 := Lib.hid (Blk.made w2 36 q.cells.toArray)
        have HP3 := Lib.hid ((HPQ.out.below HB2.out).below hbx)
        have hw2 := HBE.out.size
        have hw3 := HB2.out.size
        have HSZ := Lib.hid (show w.heap.size < w2.heap.size from HZ2.out.lt)
        have c1 : w2.cell? ⟨g, 1, none⟩ = some (.slice (some ⟨gr, off, none⟩) n c) := (HOR.out.below HB2.out).blk.cell 1
        have c1x : (w2.alloc (.cells q.cells.toArray 36)).cell? ⟨g, 1, none⟩ = some (.slice (some ⟨gr, off, none⟩) n c) := HOX.out.blk.cell 1
        have f1x : (w2.alloc (.cells q.cells.toArray 36)).frozen? ⟨g, 1, none⟩ = false := HOX.out.blk.frozen 1
        obtain ⟨d0, d1, d2, d3, d4, d5, d6, d7, d8⟩ := HCC.out w2 HB2.out
        have hbk := HOX.out.row.back (k := k + 1) (by have := HN.out; omega)
        obtain ⟨hbk1, hbk2, hne, hnc, hcm⟩ := hbk
        clear hne
        unfold maxLen at hcm
        clear hex hbx hw2 hw3
        unfold QV.cells at c1x f1x
        by_cases hkc : k + 1 = c
        · have hnk : n = k + 1 := by omega
          have hr3 := hbk2 hkc
          rw [show n - (k + 1) = 0 by omega, show c - (k + 1) = 0 by omega] at hr3
          have HR3 := Lib.hid hr3
          clear hbk1 hbk2 hr3
          go_upto_region 7 with fail
          obtain ⟨hn8, _, _⟩ := rq_next (W := w2.alloc (.cells q.cells.toArray 36)) (v' := .slice (some ⟨gr, off, none⟩) 0 0) (L' := L.drop (k + 1)) HOX.out (Fr.refl _ _) HR3.out (fun j hj => .inl hj) (fun y hy => HOX.out.ms y (List.mem_of_mem_drop hy))
          have HN8 := Lib.hid (show RQNext w _ B g most _ _ _ from (HO.out.step HB3.out).trans hn8)
          have hz8 := HZ3.out.far (p := ⟨g, 1, none⟩) HG0.out.2.symm (.slice (some ⟨gr, off, none⟩) 0 0)
          have hm8 := HM3.out.far (p := ⟨g, 1, none⟩) (fun e => by have := HOR.out.blk.lt; have := HB2.out.size; have e' : w2.heap.size = g := e; omega) (.slice (some ⟨gr, off, none⟩) 0 0)
          have hp8 := HP3.out.fr (X := [g]) ((Fr.refl [g] _).setCell (p := ⟨g, 1, none⟩) (.inl (List.mem_singleton_self g)) (.slice (some ⟨gr, off, none⟩) 0 0)) (fun j hj => HOX.out.own_ok j (by rw [List.mem_singleton] at hj; rw [hj]; exact List.mem_cons_self ..))
          have hne8 : (.slice (some ⟨gr, off, none⟩) 0 0 : Value).ownBlock ≠ some w.heap.size := fun e => HV0.out _ e rfl
          have hn9 := HN8.out.put HG0.out.1 hz8 HG0.out.2 hne8 (Nat.le_refl _) (.string q.m.topic) (.string q.m.payload) (.int .i64 q.m.qos) (.bool q.m.retain) (.slice q.pa q.m.props.length q.pc) (.string q.m.frm) (.int .i64 q.m.til) (.int .i64 q.m.seq) (.string q.m.grp)
          have hp9 := hp8.fr (put9_fr _ w.heap.size (.string q.m.topic) (.string q.m.payload) (.int .i64 q.m.qos) (.bool q.m.retain) (.slice q.pa q.m.props.length q.pc) (.string q.m.frm) (.int .i64 q.m.til) (.int .i64 q.m.seq) (.string q.m.grp)) (fun j hj => by
            rw [List.mem_singleton] at hj
            subst hj
            exact ⟨HG0.out.1, fun cs hh => hz8.other hh (by decide) rfl⟩)
          have HF := Lib.hid (show RSays w B g most (.slice (some ⟨gr, off, none⟩) n c) (leftQ now L) ((leftQ now L).drop 1) (.returned (.tuple #[q.agg, .bool true])) _ from by
            rw [HLL.out]
            exact ⟨_, hn9, .inr ⟨q, _, rfl, rfl, hp9⟩⟩)
          have HY := Lib.hid (blk9_cells (put9_blk hz8 (.string q.m.topic) (.string q.m.payload) (.int .i64 q.m.qos) (.bool q.m.retain) (.slice q.pa q.m.props.length q.pc) (.string q.m.frm) (.int .i64 q.m.til) (.int .i64 q.m.seq) (.string q.m.grp)))
          obtain ⟨⟨z0, z1, z2, z3, z4, z5, z6, z7, z8⟩, zf⟩ := zq_cells hz8
          obtain ⟨k0, k1, k2, k3, k4, k5, k6, k7, k8⟩ := box_cells hm8
          clear hn8 hz8 hm8 hp8 hne8 hn9 hp9 d0 d1 d2 d3 d4 d5 d6 d7 d8 c1 c1x f1x
          change Code.wp _ _ _ _ ((w2.alloc (.cells q.cells.toArray 36)).setCell ⟨g, 1, none⟩ (.slice (some ⟨gr, off, none⟩) 0 0))
          generalize (w2.alloc (.cells q.cells.toArray 36)).setCell ⟨g, 1, none⟩ (.slice (some ⟨gr, off, none⟩) 0 0) = W8 at *
          go_wp2_with fail
          change bodyPost _ _ _ _ _ (put9 W8 w.heap.size (.string q.m.topic) (.string q.m.payload) (.int .i64 q.m.qos) (.bool q.m.retain) (.slice q.pa q.m.props.length q.pc) (.string q.m.frm) (.int .i64 q.m.til) (.int .i64 q.m.seq) (.string q.m.grp))
          obtain ⟨y0, y1, y2, y3, y4, y5, y6, y7, y8⟩ := HY.out
          clear z0 z1 z2 z3 z4 z5 z6 z7 z8 zf k0 k1 k2 k3 k4 k5 k6 k7 k8
          generalize put9 W8 w.heap.size _ _ _ _ _ _ _ _ _ = W at *
          exact bodyPost_ret (v := .tuple #[q.agg, .bool true]) (by unfold QV.agg; simp [results, Try.results39, go_sem, y0, y1, y2, y3, y4, y5, y6, y7, y8]) rfl HF.out
        · have hkc' : k + 1 < c := by omega
          have HR3 := Lib.hid (hbk1 hkc')
          clear hbk1 hbk2
          go_upto_region 7 with fail
          obtain ⟨hn8, _, _⟩ := rq_next (W := w2.alloc (.cells q.cells.toArray 36)) (v' := .slice (some ⟨gr, off + (k + 1) * 9, none⟩) (n - (k + 1)) (c - (k + 1))) (L' := L.drop (k + 1)) HOX.out (Fr.refl _ _) HR3.out (fun j hj => .inl hj) (fun y hy => HOX.out.ms y (List.mem_of_mem_drop hy))
          have HN8 := Lib.hid (show RQNext w _ B g most _ _ _ from (HO.out.step HB3.out).trans hn8)
          have hz8 := HZ3.out.far (p := ⟨g, 1, none⟩) HG0.out.2.symm (.slice (some ⟨gr, off + (k + 1) * 9, none⟩) (n - (k + 1)) (c - (k + 1)))
          have hm8 := HM3.out.far (p := ⟨g, 1, none⟩) (fun e => by have := HOR.out.blk.lt; have := HB2.out.size; have e' : w2.heap.size = g := e; omega) (.slice (some ⟨gr, off + (k + 1) * 9, none⟩) (n - (k + 1)) (c - (k + 1)))
          have hp8 := HP3.out.fr (X := [g]) ((Fr.refl [g] _).setCell (p := ⟨g, 1, none⟩) (.inl (List.mem_singleton_self g)) (.slice (some ⟨gr, off + (k + 1) * 9, none⟩) (n - (k + 1)) (c - (k + 1)))) (fun j hj => HOX.out.own_ok j (by rw [List.mem_singleton] at hj; rw [hj]; exact List.mem_cons_self ..))
          have hne8 : (.slice (some ⟨gr, off + (k + 1) * 9, none⟩) (n - (k + 1)) (c - (k + 1)) : Value).ownBlock ≠ some w.heap.size := fun e => HV0.out _ e rfl
          have hn9 := HN8.out.put HG0.out.1 hz8 HG0.out.2 hne8 (Nat.le_refl _) (.string q.m.topic) (.string q.m.payload) (.int .i64 q.m.qos) (.bool q.m.retain) (.slice q.pa q.m.props.length q.pc) (.string q.m.frm) (.int .i64 q.m.til) (.int .i64 q.m.seq) (.string q.m.grp)
          have hp9 := hp8.fr (put9_fr _ w.heap.size (.string q.m.topic) (.string q.m.payload) (.int .i64 q.m.qos) (.bool q.m.retain) (.slice q.pa q.m.props.length q.pc) (.string q.m.frm) (.int .i64 q.m.til) (.int .i64 q.m.seq) (.string q.m.grp)) (fun j hj => by
            rw [List.mem_singleton] at hj
            subst hj
            exact ⟨HG0.out.1, fun cs hh => hz8.other hh (by decide) rfl⟩)
          have HF := Lib.hid (show RSays w B g most (.slice (some ⟨gr, off, none⟩) n c) (leftQ now L) ((leftQ now L).drop 1) (.returned (.tuple #[q.agg, .bool true])) _ from by
            rw [HLL.out]
            exact ⟨_, hn9, .inr ⟨q, _, rfl, rfl, hp9⟩⟩)
          have HY := Lib.hid (blk9_cells (put9_blk hz8 (.string q.m.topic) (.string q.m.payload) (.int .i64 q.m.qos) (.bool q.m.retain) (.slice q.pa q.m.props.length q.pc) (.string q.m.frm) (.int .i64 q.m.til) (.int .i64 q.m.seq) (.string q.m.grp)))
          obtain ⟨⟨z0, z1, z2, z3, z4, z5, z6, z7, z8⟩, zf⟩ := zq_cells hz8
          obtain ⟨k0, k1, k2, k3, k4, k5, k6, k7, k8⟩ := box_cells hm8
          clear hn8 hz8 hm8 hp8 hne8 hn9 hp9 d0 d1 d2 d3 d4 d5 d6 d7 d8 c1 c1x f1x
          change Code.wp _ _ _ _ ((w2.alloc (.cells q.cells.toArray 36)).setCell ⟨g, 1, none⟩ (.slice (some ⟨gr, off + (k + 1) * 9, none⟩) (n - (k + 1)) (c - (k + 1))))
          generalize (w2.alloc (.cells q.cells.toArray 36)).setCell ⟨g, 1, none⟩ (.slice (some ⟨gr, off + (k + 1) * 9, none⟩) (n - (k + 1)) (c - (k + 1))) = W8 at *
          go_wp2_with fail
          change bodyPost _ _ _ _ _ (put9 W8 w.heap.size (.string q.m.topic) (.string q.m.payload) (.int .i64 q.m.qos) (.bool q.m.retain) (.slice q.pa q.m.props.length q.pc) (.string q.m.frm) (.int .i64 q.m.til) (.int .i64 q.m.seq) (.string q.m.grp))
          obtain ⟨y0, y1, y2, y3, y4, y5, y6, y7, y8⟩ := HY.out
          clear z0 z1 z2 z3 z4 z5 z6 z7 z8 zf k0 k1 k2 k3 k4 k5 k6 k7 k8
          generalize put9 W8 w.heap.size _ _ _ _ _ _ _ _ _ = W at *
          exact bodyPost_ret (v := .tuple #[q.agg, .bool true]) (by unfold QV.agg; simp [results, Try.results39, go_sem, y0, y1, y2, y3, y4, y5, y6, y7, y8]) rfl HF.out
    · obtain rfl : k = n := by omega
      have HLL := Lib.hid (left_nil (now := now) (L := L) fun j hj => HP.out j (by have := HN.out; omega))
      obtain ⟨hn8, _, _⟩ := rq_next (W := wr) (v' := .slice none 0 0) (L' := []) ho (Fr.refl _ _) (QRow.nil _ _) (fun j hj => by cases hj) (fun y hy => by cases hy)
      have HN8 := Lib.hid (show RQNext w _ B g most _ _ _ from (HO.out.step hbe).trans hn8)
      have hz8 := hz.far (p := ⟨g, 1, none⟩) HG0.out.2.symm (.slice none 0 0)
      have hn9 := HN8.out.put HG0.out.1 hz8 HG0.out.2 (fun e => by cases e) (Nat.le_refl _) (.string ⟨#[]⟩) (.string ⟨#[]⟩) (.int .i64 0) (.bool false) (.slice none 0 0) (.string ⟨#[]⟩) (.int .i64 0) (.int .i64 0) (.string ⟨#[]⟩)
      have HF := Lib.hid (show RSays w B g most (.slice a k c) (leftQ now L) ((leftQ now L).drop 1) (.returned (.tuple #[q0.agg, .bool false])) _ from by
        rw [HLL.out]
        exact ⟨_, hn9, .inl ⟨rfl, rfl⟩⟩)
      have HY := Lib.hid (blk9_cells (put9_blk hz8 (.string ⟨#[]⟩) (.string ⟨#[]⟩) (.int .i64 0) (.bool false) (.slice none 0 0) (.string ⟨#[]⟩) (.int .i64 0) (.int .i64 0) (.string ⟨#[]⟩)))
      have HZZ := Lib.hid (zq_cells hz8)
      clear hn8 hz8 hn9 ho hbe hz
      go_upto_region 9 with fail
      obtain ⟨⟨z0, z1, z2, z3, z4, z5, z6, z7, z8⟩, zf⟩ := HZZ.out
      clear c1 f1 HZZ
      generalize wr.setCell ⟨g, 1, none⟩ (.slice none 0 0) = W8 at *
      go_wp2_with fail
      change bodyPost _ _ _ _ _ (put9 W8 w.heap.size (.string ⟨#[]⟩) (.string ⟨#[]⟩) (.int .i64 0) (.bool false) (.slice none 0 0) (.string ⟨#[]⟩) (.int .i64 0) (.int .i64 0) (.string ⟨#[]⟩))
      obtain ⟨y0, y1, y2, y3, y4, y5, y6, y7, y8⟩ := HY.out
      clear z0 z1 z2 z3 z4 z5 z6 z7 z8 zf
      generalize put9 W8 w.heap.size _ _ _ _ _ _ _ _ _ = W at *
      exact bodyPost_ret (v := .tuple #[q0.agg, .bool false]) (by unfold q0 m0 QV.agg e0; simp [results, Try.results39, go_sem, y0, y1, y2, y3, y4, y5, y6, y7, y8]) rfl HF.out
end
end Go.Proofs.Ytcfbfnlbdkgfkaa
