/- What is proved here: the document's own queues: the first one, throwing away those whose time has come; equal lists are the same. Conditions: the queue is there; few messages. -/
import Derived.Test.YtcfbfnlbdkgfkaaRQB27
namespace Go.Proofs.Ytcfbfnlbdkgfkaa
open Go.RowKit Go.Extern.Stop Go.Stop Go.Extern
set_option maxRecDepth 100000
section
variable {X : List Nat} {w w' : World} {B g : Nat} {most : Int} {v v' : Value} {L L' : QL} {q : QV}
set_option maxHeartbeats 4000000 in
theorem rfirst_any (h : RQObj w B g most v L) (hl : L.length ≤ 1000) (now : Int) : Calls Try.prog 41 #[.pointer (some ⟨g, 0, none⟩), .int .i64 now] w (RSays w B g most v (leftQ now L) (leftQ now L)) := by
  have hb0 : Below w.heap.size w (w.alloc (.cells zq 36)) := (Below.refl w.heap.size w).alloc (Nat.le_refl _) (.cells zq 36)
  have HST := Lib.hid (h.step hb0)
  have HBZ := Lib.hid (Blk.made w 36 zq)
  have h0 := h.size
  have hgr0 : g ≠ w.heap.size := Nat.ne_of_lt h.blk.lt
  have hv0 : ∀ k, v.ownBlock = some k → k ≠ w.heap.size := fun k hk => Nat.ne_of_lt (h.row.lt k hk).2.1
  have HG0 := Lib.hid (And.intro h0 hgr0)
  have HV0 := Lib.hid hv0
  have HCO := Lib.hid (fun W q => come_any q now W)
  clear h h0 hgr0 hv0 hb0
  unfold zq at HST
  go_enter Try.func41, Try.ntmps41
  go_wp2_with fail
  go_loopg [6] L.length (fun k p wr => ∃ v' L', RQNext w wr B g most v v' L' ∧ k = L'.length ∧ Hid (leftQ now L' = leftQ now L) ∧ L'.length ≤ 1000 ∧ Blk wr w.heap.size 36 zq ∧ Hid (∀ k, v'.ownBlock = some k → k ≠ w.heap.size))
  case atStart => exact ⟨_, _, HST.out, rfl, Lib.hid rfl, hl, HBZ.out, HV0⟩
  case round =>
    obtain ⟨v1, L1, hn, rfl, HL, hl1, hz, HV⟩ := hrel
    obtain ⟨a, c, rfl⟩ := hn.obj.form
    have c1 : wr.cell? ⟨g, 1, none⟩ = some (.slice a L1.length c) := hn.obj.blk.cell 1
    have f1 : wr.frozen? ⟨g, 1, none⟩ = false := hn.obj.blk.frozen 1
    have HNX := Lib.hid hn
    have HZ := Lib.hid hz
    cases L1 with
    | nil =>
      have HLL := Lib.hid (show leftQ now L = [] from by rw [← HL.out]; rfl)
      have hn9 := hn.put HG0.out.1 hz HG0.out.2 (fun e => HV.out _ e rfl) (Nat.le_refl _) (.string ⟨#[]⟩) (.string ⟨#[]⟩) (.int .i64 0) (.bool false) (.slice none 0 0) (.string ⟨#[]⟩) (.int .i64 0) (.int .i64 0) (.string ⟨#[]⟩)
      have HF := Lib.hid (show RSays w B g most v (leftQ now L) (leftQ now L) (.returned (.tuple #[q0.agg, .bool false])) _ from by
        rw [HLL.out]
        exact ⟨_, hn9, .inl ⟨rfl, rfl⟩⟩)
      have HY := Lib.hid (blk9_cells (put9_blk hz (.string ⟨#[]⟩) (.string ⟨#[]⟩) (.int .i64 0) (.bool false) (.slice none 0 0) (.string ⟨#[]⟩) (.int .i64 0) (.int .i64 0) (.string ⟨#[]⟩)))
      obtain ⟨⟨z0, z1, z2, z3, z4, z5, z6, z7, z8⟩, zf⟩ := zq_cells hz
      clear hn hz hn9
      go_wp2_with fail
      change bodyPost _ _ _ _ _ (put9 wr w.heap.size (.string ⟨#[]⟩) (.string ⟨#[]⟩) (.int .i64 0) (.bool false) (.slice none 0 0) (.string ⟨#[]⟩) (.int .i64 0) (.int .i64 0) (.string ⟨#[]⟩))
      obtain ⟨y0, y1, y2, y3, y4, y5, y6, y7, y8⟩ := HY.out
      clear z0 z1 z2 z3 z4 z5 z6 z7 z8 zf
      generalize put9 wr w.heap.size _ _ _ _ _ _ _ _ _ = W at *
      exact bodyPost_ret (v := .tuple #[q0.agg, .bool false]) (by unfold q0 m0 QV.agg e0; simp [results, Try.results41, go_sem, y0, y1, y2, y3, y4, y5, y6, y7, y8]) rfl HF.out
    | cons q L2 =>
      obtain ⟨gr, off, rfl, hcc⟩ := hn.obj.row.mrd (by simp)
      have hc0 := hcc 0 (by simp)
      rw [Nat.zero_mul, Nat.add_zero, List.getD_cons_zero] at hc0
      have HCC := Lib.hid (fun W (hb : Below wr.heap.size wr W) => hc0.at (hb.block gr (lt_of_cell' hc0.c0)))
      have HPQ := Lib.hid (hn.obj.ms q (List.mem_cons_self ..))
      have HC := Lib.hid (HCO.out wr q)
      have hbk := hn.obj.row.back (k := 1) (by simp)
      obtain ⟨n, hn'⟩ : ∃ n, n = (q :: L2).length := ⟨_, rfl⟩
      have HN := Lib.hid hn'
      have hn1 : 1 ≤ n := by rw [hn']; simp
      rw [← hn'] at c1
      rw [← hn'] at hl1
      rw [← hn'] at HNX
      rw [← hn'] at hbk
      obtain ⟨hbk1, hbk2, hne, hnc, hcm⟩ := hbk
      unfold maxLen at hcm
      obtain ⟨d0, d1, d2, d3, d4, d5, d6, d7, d8⟩ := hc0
      clear hn hz hcc hn' hne
      unfold QV.agg at HC
      go_wp2_with fail
      refine HC.out.mono ?_
      rintro x w2 ⟨rfl, hb2⟩
      have HN2 := Lib.hid (HNX.out.below hb2)
      have HZ2 := Lib.hid (HZ.out.below hb2 HZ.out.lt)
      have HB2 := Lib.hid hb2
      have ho2 := HN2.out.obj
      have HO2 := Lib.hid ho2
      clear c1 f1 d0 d1 d2 d3 d4 d5 d6 d7 d8 hb2 HC
      have c1 : w2.cell? ⟨g, 1, none⟩ = some (.slice (some ⟨gr, off, none⟩) n c) := ho2.blk.cell 1
      have f1 : w2.frozen? ⟨g, 1, none⟩ = false := ho2.blk.frozen 1
      clear ho2
      cases hex : exB q.m.til now with
      | true =>
        have HLL := Lib.hid (show leftQ now L2 = leftQ now L from by
          rw [← HL.out]
          unfold leftQ
          rw [List.dropWhile_cons, show exQ now q = true from hex]
          rfl)
        clear hex
        by_cases hkc : 1 = c
        · have hnk : n = 1 := by omega
          have hr3 := (hbk2 hkc).below HB2.out
          rw [show n - 1 = 0 by omega, show c - 1 = 0 by omega] at hr3
          obtain rfl : c = 1 := hkc.symm
          clear hkc
          subst hnk
          obtain ⟨hn8, _, _⟩ := rq_next (W := w2) (v' := .slice (some ⟨gr, off, none⟩) 0 0) (L' := L2) HO2.out (Fr.refl _ _) hr3 (fun j hj => .inl hj) (fun y hy => HO2.out.ms y (List.mem_cons_of_mem _ hy))
          have HN8 := Lib.hid (HN2.out.trans hn8)
          have HZ8 := Lib.hid (HZ2.out.far (p := ⟨g, 1, none⟩) HG0.out.2.symm (.slice (some ⟨gr, off, none⟩) 0 0))
          have HV8 := Lib.hid (show ∀ k, (Value.slice (some ⟨gr, off, none⟩) 0 0).ownBlock = some k → k ≠ w.heap.size from fun k hk => HV.out k hk)
          clear hn8 hr3 hbk1 hbk2
          go_wp2_with fail
          go_roundg L2.length
          case rel => exact ⟨_, L2, HN8.out, rfl, HLL, by have h9 := HN.out; rw [List.length_cons] at h9; omega, HZ8.out, HV8⟩
          case measure => simp
        · have hkc' : 1 < c := by omega
          have hr3 := (hbk1 hkc').below HB2.out
          rw [Nat.one_mul] at hr3
          obtain ⟨hn8, _, _⟩ := rq_next (W := w2) (v' := .slice (some ⟨gr, off + 9, none⟩) (n - 1) (c - 1)) (L' := L2) HO2.out (Fr.refl _ _) hr3 (fun j hj => .inl hj) (fun y hy => HO2.out.ms y (List.mem_cons_of_mem _ hy))
          have HN8 := Lib.hid (HN2.out.trans hn8)
          have HZ8 := Lib.hid (HZ2.out.far (p := ⟨g, 1, none⟩) HG0.out.2.symm (.slice (some ⟨gr, off + 9, none⟩) (n - 1) (c - 1)))
          have HV8 := Lib.hid (show ∀ k, (Value.slice (some ⟨gr, off + 9, none⟩) (n - 1) (c - 1)).ownBlock = some k → k ≠ w.heap.size from fun k hk => HV.out k hk)
          clear hn8 hr3 hbk1 hbk2
          go_wp2_with fail
          go_roundg L2.length
          case rel => exact ⟨_, L2, HN8.out, rfl, HLL, by have h9 := HN.out; rw [List.length_cons] at h9; omega, HZ8.out, HV8⟩
          case measure => simp
      | false =>
        have HLL := Lib.hid (show leftQ now L = q :: L2 from by
          rw [← HL.out]
          unfold leftQ
          rw [List.dropWhile_cons, show exQ now q = false from hex]
          rfl)
        have hz2 := HZ2.out
        have hn9 := HN2.out.put HG0.out.1 hz2 HG0.out.2 (fun e => HV.out _ e rfl) (Nat.le_refl _) (.string q.m.topic) (.string q.m.payload) (.int .i64 q.m.qos) (.bool q.m.retain) (.slice q.pa q.m.props.length q.pc) (.string q.m.frm) (.int .i64 q.m.til) (.int .i64 q.m.seq) (.string q.m.grp)
        have hp9 := (HPQ.out.below HB2.out).fr (put9_fr _ w.heap.size (.string q.m.topic) (.string q.m.payload) (.int .i64 q.m.qos) (.bool q.m.retain) (.slice q.pa q.m.props.length q.pc) (.string q.m.frm) (.int .i64 q.m.til) (.int .i64 q.m.seq) (.string q.m.grp)) (fun j hj => by
          rw [List.mem_singleton] at hj
          subst hj
          exact ⟨HG0.out.1, fun cs hh => hz2.other hh (by decide) rfl⟩)
        have HF := Lib.hid (show RSays w B g most v (leftQ now L) (leftQ now L) (.returned (.tuple #[q.agg, .bool true])) _ from by
          rw [HLL.out]
          exact ⟨_, hn9, .inr ⟨q, _, rfl, rfl, hp9⟩⟩)
        have HY := Lib.hid (blk9_cells (put9_blk hz2 (.string q.m.topic) (.string q.m.payload) (.int .i64 q.m.qos) (.bool q.m.retain) (.slice q.pa q.m.props.length q.pc) (.string q.m.frm) (.int .i64 q.m.til) (.int .i64 q.m.seq) (.string q.m.grp)))
        obtain ⟨⟨z0, z1, z2, z3, z4, z5, z6, z7, z8⟩, zf⟩ := zq_cells hz2
        obtain ⟨d0, d1, d2, d3, d4, d5, d6, d7, d8⟩ := HCC.out w2 HB2.out
        have hnn : ((n : Int) == 0) = false := by simp; omega
        clear hex hz2 hn9 hp9
        go_wp2_with fail
        change bodyPost _ _ _ _ _ (put9 w2 w.heap.size (.string q.m.topic) (.string q.m.payload) (.int .i64 q.m.qos) (.bool q.m.retain) (.slice q.pa q.m.props.length q.pc) (.string q.m.frm) (.int .i64 q.m.til) (.int .i64 q.m.seq) (.string q.m.grp))
        obtain ⟨y0, y1, y2, y3, y4, y5, y6, y7, y8⟩ := HY.out
        clear z0 z1 z2 z3 z4 z5 z6 z7 z8 zf d0 d1 d2 d3 d4 d5 d6 d7 d8
        generalize put9 w2 w.heap.size _ _ _ _ _ _ _ _ _ = W at *
        exact bodyPost_ret (v := .tuple #[q.agg, .bool true]) (by unfold QV.agg; simp [results, Try.results41, go_sem, y0, y1, y2, y3, y4, y5, y6, y7, y8]) rfl HF.out
def RExpSays (w : World) (B g : Nat) (most : Int) (v : Value) (L L' : QL) (x : Ending) (w' : World) : Prop := x = .returned (.int .i64 ((L.length : Int) - L'.length)) ∧ ∃ v', RQNext w w' B g most v v' L'
set_option maxHeartbeats 4000000 in
theorem rexpire_any (h : RQObj w B g most v L) (hl : L.length ≤ 900) (now : Int) : Calls Try.prog 43 #[.pointer (some ⟨g, 0, none⟩), .int .i64 now] w (RExpSays w B g most v L (keepQ now L)) := by
  have HO := Lib.hid h
  have HCO := Lib.hid (fun W q => come_any q now W)
  obtain ⟨a, c, rfl⟩ := h.form
  obtain ⟨n, hn⟩ : ∃ n, n = L.length := ⟨_, rfl⟩
  rw [← hn] at HO hl ⊢
  have HN := Lib.hid hn
  clear h hn
  go_enter Try.func43, Try.ntmps43
  go_wp2_with fail
  go_loopw [5, 6] (fun o i wr => ∃ k : Nat, k ≤ n ∧ i = .int .i64 k ∧ QRow wr w.heap.size o (keepQ now (L.take k)) ∧ Below w.heap.size w wr) (fun _ i _ => n - (intOf i).toNat)
  case atStart => exact ⟨0, by omega, rfl, QRow.nil _ _, Below.refl _ _⟩
  case round =>
    obtain ⟨k, hk, rfl, hrow, hbe⟩ := hrel
    obtain ⟨ao, co, rfl⟩ := hrow.form
    have hol := Nat.le_trans (keep_len now (L.take k)) (by rw [List.length_take]; exact Nat.min_le_left _ _)
    have HBE := Lib.hid hbe
    have HROW := Lib.hid hrow
    have ho := HO.out.below hbe
    have HOR := Lib.hid ho
    have c1 : wr.cell? ⟨g, 1, none⟩ = some (.slice a n c) := ho.blk.cell 1
    have f1 : wr.frozen? ⟨g, 1, none⟩ = false := ho.blk.frozen 1
    by_cases hlt : k < n
    · have hkL : k < L.length := by have := HN.out; omega
      obtain ⟨gr, off, rfl, hcc⟩ := ho.row.mrd (by omega)
      have HCC := Lib.hid (fun W (hb : Below wr.heap.size wr W) => (hcc k hkL).at (hb.block gr (lt_of_cell' (hcc k hkL).c0)))
      have HKT := Lib.hid (keep_take (now := now) hkL)
      obtain ⟨q, hq⟩ : ∃ q, q = L.getD k q0 := ⟨_, rfl⟩
      rw [← hq] at HCC HKT
      obtain ⟨d0, d1, d2, d3, d4, d5, d6, d7, d8⟩ := HCC.out wr (Below.refl _ _)
      have HC := Lib.hid (HCO.out wr q)
      clear hcc hkL hq ho hbe hrow
      unfold QV.agg at HC
      go_wp2_with fail
      refine HC.out.mono ?_
      rintro x w2 ⟨rfl, hb2⟩
      have HB2 := Lib.hid hb2
      have HROW2 := Lib.hid (HROW.out.below hb2)
      have HBE2 := Lib.hid (HBE.out.trans (hb2.mono HBE.out.size))
      have ho2 := HOR.out.below hb2
      clear d0 d1 d2 d3 d4 d5 d6 d7 d8 c1 f1 hb2 HC
      cases hex : exB q.m.til now with
      | true =>
        have HKN := Lib.hid (show keepQ now (L.take (k + 1)) = keepQ now (L.take k) from by rw [HKT.out, if_pos (show exQ now q = true from hex), List.append_nil])
        clear hex ho2
        go_wp2_with fail
        go_roundw
        case rel => exact ⟨k + 1, by omega, by go_num, by rw [HKN.out]; exact HROW2.out, HBE2.out⟩
        case measure => simp [intOf]; omega
      | false =>
        have HKN := Lib.hid (show keepQ now (L.take (k + 1)) = keepQ now (L.take k) ++ [q] from by rw [HKT.out, if_neg (by rw [show exQ now q = false from hex]; decide)])
        have c1 : w2.cell? ⟨g, 1, none⟩ = some (.slice (some ⟨gr, off, none⟩) n c) := ho2.blk.cell 1
        obtain ⟨d0, d1, d2, d3, d4, d5, d6, d7, d8⟩ := HCC.out w2 HB2.out
        have HROW3 := Lib.hid (HROW2.out.below ((Below.refl _ w2).alloc (Nat.le_refl _) (.cells q.cells.toArray 36)))
        have HBE3 := Lib.hid (HBE2.out.alloc HBE2.out.size (.cells q.cells.toArray 36))
        have HNW := Lib.hid (news_q w2 q)
        have hl9 : (keepQ now (L.take k)).length ≤ 1000 := by omega
        clear hex ho2
        go_wp2_with (at_builtin; go_must (refine append_q rfl _ _ rfl q HBE3.out HROW3.out rfl hl9 ⟨w2.heap.size, 0, none⟩ 1 rfl HNW.out ?_))
        intro a7 c7 w7 hr7 hb7 hf7
        have HR7 := Lib.hid hr7
        have HB7 := Lib.hid hb7
        clear hr7 hb7 hf7 d0 d1 d2 d3 d4 d5 d6 d7 d8 c1
        go_wp2_with fail
        go_roundw
        case rel => exact ⟨k + 1, by omega, by go_num, by rw [HKN.out]; exact HR7.out, HB7.out⟩
        case measure => simp [intOf]; omega
    · obtain rfl : k = n := by omega
      have hke : L.take k = L := List.take_of_length_le (by have := HN.out; omega)
      rw [hke] at hrow hol ⊢
      obtain ⟨hn8, _, _⟩ := rq_next (W := wr) (v' := .slice ao (keepQ now L).length co) (L' := keepQ now L) HO.out ((Fr.of_below (X := []) hbe).mono (fun b hb _ => absurd hb (by simp))) (hrow.mono HO.out.size) (fun j hj => .inr (hrow.lt j hj).1) (fun y hy => ho.ms y (keep_sub now L y hy))
      have HF := Lib.hid (show RExpSays w B g most (.slice a k c) L (keepQ now L) (.returned (.int .i64 ((k : Int) - (keepQ now L).length))) _ from ⟨by rw [HN.out], _, hn8⟩)
      clear ho hbe hrow hn8
      go_wp2_with fail
      go_ret
      exact HF.out
end
end Go.Proofs.Ytcfbfnlbdkgfkaa
