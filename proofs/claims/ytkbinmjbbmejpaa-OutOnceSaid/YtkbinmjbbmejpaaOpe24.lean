/- What is proved here: a message is sent. Conditions: those that each theorem names. -/
import Derived.Test.YtkbinmjbbmejpaaOpd24
namespace Go.Proofs.Ytkbinmjbbmejpaa
open Go.RowKit Go.Extern.Stop Go.Stop Go.Extern Go.Maps
set_option maxRecDepth 100000
section
variable {w : World} {g gp bp bm B : Nat} {L : FL} {last sent : Nat}
set_option maxHeartbeats 2000000 in
theorem send_no (q : QV) (qos : Int) (hq : qos ≠ 1 ∧ qos ≠ 2) (w : World) : Calls Try.prog 10 #[.pointer (some ⟨g, 0, none⟩), q.agg, .int .i64 qos] w fun x w' => x = .returned (.tuple #[.int .i64 0, .bool false]) ∧ Below w.heap.size w w' := by
  have HB := Lib.hid ((Below.refl w.heap.size w).alloc (Nat.le_refl _) (.cells q.cells.toArray 36))
  unfold QV.agg
  unfold QV.cells at *
  have e1 : (qos != 1) = true := by simpa using hq.1
  have e2 : (qos != 2) = true := by simpa using hq.2
  clear hq
  go_enter Try.func10, Try.ntmps10
  go_wp2_with fail
  go_ret2
  exact ⟨rfl, HB.out⟩
set_option maxHeartbeats 4000000 in
theorem send_ok (h : OutI w g gp bp bm L last sent) (hB : B ≤ g ∧ B ≤ gp ∧ B ≤ bp) (q : QV) (hq : PIn w B q.pa q.m.props) (hl : q.m.props.length ≤ 1000) (qos : Int) (hqos : qos = 1 ∨ qos = 2) (hf : sent < 1000) {x : Nat} (hs : scan (fun y => decide (y ∈ ids L)) 65535 last 65535 0 = some x) :
    Calls Try.prog 10 #[.pointer (some ⟨g, 0, none⟩), q.agg, .int .i64 qos] w fun e w' => e = .returned (.tuple #[.int .i64 x, .bool true]) ∧ ∃ pa pc, Out3 w g gp bp bm (L ++ [⟨x, qos, ⟨q.m, pa, pc⟩, (sent + 1 : Nat)⟩]) x (sent + 1) w' := by
  obtain ⟨j, _, hj, hxc, hxm, _⟩ := scan_some hs
  have hx : (x : Int) ∉ ids L := by simpa using hxm
  have hx2 : 1 ≤ x ∧ x ≤ 65535 := hxc ▸ cand_in (by omega)
  obtain ⟨n1, n2, n3, n4, n5⟩ := h.nef
  -- the box
  have hbx := Blk.made w 36 q.cells.toArray
  have hfb : Below w.heap.size w (w.alloc (.cells q.cells.toArray 36)) := (Below.refl _ _).alloc (Nat.le_refl _) _
  have h1 := h.below hfb
  have hN := pids_next h1.pids
  unfold NextThen at hN
  rw [hs] at hN
  have HN := Lib.hid hN
  have HX := Lib.hid (And.intro hx hx2)
  have HH := Lib.hid h
  have HQ := Lib.hid (And.intro hq (And.intro hl hB))
  have HF := Lib.hid hf
  have HNE := Lib.hid (And.intro n1 (And.intro n2 (And.intro n3 (And.intro n4 n5))))
  have HBX := Lib.hid hbx
  have c0 := h1.blk.cell 0
  have hgl := h.blk.lt
  have hgpl := h.pids.is.1.lt
  have hbpl := h.pids.is.2.lt
  have HLT := Lib.hid (And.intro hgl (And.intro hgpl hbpl))
  have HC : Hid (∀ W k, SndIn w W k g gp bp bm B L x sent q → Calls Try.prog 32 #[q.agg] W fun e W' => ∃ pa pc, e = .returned (QV.agg ⟨q.m, pa, pc⟩) ∧ SndIn w W' k g gp bp bm B L x sent q ∧ PIn W' 0 pa q.m.props) := Lib.hid fun W k hS => (copy_any q hS.own hl).mono fun e W' ⟨pa, pc, h1, h2, h3⟩ => ⟨pa, pc, h1, hS.below h3, h2⟩
  have hqb : (qos != 1) = false ∨ ((qos != 1) = true ∧ (qos != 2) = false) := by rcases hqos with rfl | rfl <;> simp
  clear h hqos hN hx hx2 hq hl hB hf n1 n2 n3 n4 n5 hbx hfb h1 hs hxm hxc hj hgl hgpl hbpl
  unfold QV.agg at HC ⊢
  unfold QV.cells at *
  go_enter Try.func10, Try.ntmps10
  rcases hqb with hq1 | ⟨hq1, hq2⟩
  all_goals
    go_wp2_with fail
    refine HN.out.mono ?_
    rintro e w2 ⟨rfl, hp, hfr⟩
    have hf3 := HF.out
    obtain ⟨n1, n2, n3, n4, n5⟩ := HNE.out
    have b2 := (HH.out.below ((Below.refl _ _).alloc (Nat.le_refl _) (.cells #[.string q.m.topic, .string q.m.payload, .int .i64 q.m.qos, .bool q.m.retain, .slice q.pa q.m.props.length q.pc, .string q.m.frm, .int .i64 q.m.til, .int .i64 q.m.seq, .string q.m.grp] 36))).blk.fr hfr (by simp; exact ⟨n1, n2⟩)
    have e1 := b2.cell 1
    have e2 := b2.frozen 1
    have hfr2 : Fr [g, gp, bp] w (w2.setCell ⟨g, 1, none⟩ (.int .i64 (sent + 1 : Nat))) := (((Fr.refl [g, gp, bp] w).alloc _).trans hfr (fun b hb _ => by simp at hb ⊢; rcases hb with rfl | rfl <;> simp)).setCell (.inl (by simp)) _
    have hfr3 : Fr [g, gp, bp] (w.alloc (.cells #[.string q.m.topic, .string q.m.payload, .int .i64 q.m.qos, .bool q.m.retain, .slice q.pa q.m.props.length q.pc, .string q.m.frm, .int .i64 q.m.til, .int .i64 q.m.seq, .string q.m.grp] 36)) (w2.setCell ⟨g, 1, none⟩ (.int .i64 (sent + 1 : Nat))) := (hfr.mono (fun b hb _ => by simp at hb ⊢; rcases hb with rfl | rfl <;> simp)).setCell (.inl (by simp)) _
    have hnp : ∀ b ∈ [g, gp, bp], ∀ cs, (w.alloc (.cells #[.string q.m.topic, .string q.m.payload, .int .i64 q.m.qos, .bool q.m.retain, .slice q.pa q.m.props.length q.pc, .string q.m.frm, .int .i64 q.m.til, .int .i64 q.m.seq, .string q.m.grp] 36)).heap[b]? ≠ some (.cells cs 94 (0, 0)) := fun b hb => (HH.out.below ((Below.refl _ _).alloc (Nat.le_refl _) (.cells #[.string q.m.topic, .string q.m.payload, .int .i64 q.m.qos, .bool q.m.retain, .slice q.pa q.m.props.length q.pc, .string q.m.frm, .int .i64 q.m.til, .int .i64 q.m.seq, .string q.m.grp] 36))).noprop b (by simp at hb ⊢; rcases hb with rfl | rfl | rfl <;> simp)
    have hS : SndIn w (w2.setCell ⟨g, 1, none⟩ (.int .i64 (sent + 1 : Nat))) w.heap.size g gp bp bm B L x sent q := ⟨hfr2, by
        exact HBX.out.fr hfr3 (by obtain ⟨l1, l2, l3⟩ := HLT.out; simp; omega), b2.store 1 _, ⟨⟨hp.is.1.far (p := ⟨g, 1, none⟩) (fun e => n1 e.symm) _, hp.is.2.fr (X := [g]) (Fr.setCell (Fr.refl _ _) (.inl (by simp)) _) (by simpa using Ne.symm n2)⟩, hp.ok⟩,
      (HH.out.below ((Below.refl _ _).alloc (Nat.le_refl _) (.cells #[.string q.m.topic, .string q.m.payload, .int .i64 q.m.qos, .bool q.m.retain, .slice q.pa q.m.props.length q.pc, .string q.m.frm, .int .i64 q.m.til, .int .i64 q.m.seq, .string q.m.grp] 36))).map.fr hfr3 (by simp; exact ⟨Ne.symm n3, Ne.symm n5, HH.out.ne⟩), (HH.out.below ((Below.refl _ _).alloc (Nat.le_refl _) (.cells #[.string q.m.topic, .string q.m.payload, .int .i64 q.m.qos, .bool q.m.retain, .slice q.pa q.m.props.length q.pc, .string q.m.frm, .int .i64 q.m.til, .int .i64 q.m.seq, .string q.m.grp] 36))).props.fr hfr3 hnp,
      (HQ.out.1.below ((Below.refl _ _).alloc (Nat.le_refl _) (.cells #[.string q.m.topic, .string q.m.payload, .int .i64 q.m.qos, .bool q.m.retain, .slice q.pa q.m.props.length q.pc, .string q.m.frm, .int .i64 q.m.til, .int .i64 q.m.seq, .string q.m.grp] 36))).fr hfr3 (fun b hb => ⟨by have := HQ.out.2.2; simp at hb; rcases hb with rfl | rfl | rfl <;> omega, hnp b hb⟩)⟩
    have HS := Lib.hid hS
    clear hS hfr2 hfr3 hnp b2 hp hfr n1 n2 n3 n4 n5 HN
    go_wp2_with fail
    have KT := Lib.hid (fun (W : World) (h : SndIn w W w.heap.size g gp bp bm B L x sent q) => show W.cell? ⟨w.heap.size, 0, none⟩ = some (.string q.m.topic) ∧ W.cell? ⟨w.heap.size, 1, none⟩ = some (.string q.m.payload) ∧ W.cell? ⟨w.heap.size, 2, none⟩ = some (.int .i64 q.m.qos) ∧ W.cell? ⟨w.heap.size, 3, none⟩ = some (.bool q.m.retain) ∧ W.cell? ⟨w.heap.size, 4, none⟩ = some (.slice q.pa q.m.props.length q.pc) ∧ W.cell? ⟨w.heap.size, 5, none⟩ = some (.string q.m.frm) ∧ W.cell? ⟨w.heap.size, 6, none⟩ = some (.int .i64 q.m.til) ∧ W.cell? ⟨w.heap.size, 7, none⟩ = some (.int .i64 q.m.seq) ∧ W.cell? ⟨w.heap.size, 8, none⟩ = some (.string q.m.grp) ∧ W.cell? ⟨g, 1, none⟩ = some (.int .i64 ((sent : Int) + 1)) ∧ W.cell? ⟨g, 2, none⟩ = some (.map (some bm)) from ⟨h.box.cell 0, h.box.cell 1, h.box.cell 2, h.box.cell 3, h.box.cell 4, h.box.cell 5, h.box.cell 6, h.box.cell 7, h.box.cell 8, h.blk.cell 1, h.blk.cell 2⟩)
    have KP := Lib.hid (fun (V W : World) (h : SndIn w V w.heap.size g gp bp bm B L x sent q) (hk : ∀ y t cs, Blk V y t cs → Blk W y t cs) => show W.cell? ⟨w.heap.size, 0, none⟩ = some (.string q.m.topic) ∧ W.cell? ⟨w.heap.size, 1, none⟩ = some (.string q.m.payload) ∧ W.cell? ⟨w.heap.size, 2, none⟩ = some (.int .i64 q.m.qos) ∧ W.cell? ⟨w.heap.size, 3, none⟩ = some (.bool q.m.retain) ∧ W.cell? ⟨w.heap.size, 4, none⟩ = some (.slice q.pa q.m.props.length q.pc) ∧ W.cell? ⟨w.heap.size, 5, none⟩ = some (.string q.m.frm) ∧ W.cell? ⟨w.heap.size, 6, none⟩ = some (.int .i64 q.m.til) ∧ W.cell? ⟨w.heap.size, 7, none⟩ = some (.int .i64 q.m.seq) ∧ W.cell? ⟨w.heap.size, 8, none⟩ = some (.string q.m.grp) ∧ W.cell? ⟨g, 1, none⟩ = some (.int .i64 ((sent : Int) + 1)) ∧ W.cell? ⟨g, 2, none⟩ = some (.map (some bm)) from ⟨(hk _ _ _ h.box).cell 0, (hk _ _ _ h.box).cell 1, (hk _ _ _ h.box).cell 2, (hk _ _ _ h.box).cell 3, (hk _ _ _ h.box).cell 4, (hk _ _ _ h.box).cell 5, (hk _ _ _ h.box).cell 6, (hk _ _ _ h.box).cell 7, (hk _ _ _ h.box).cell 8, (hk _ _ _ h.blk).cell 1, (hk _ _ _ h.blk).cell 2⟩)
    have hi0 := HS.out
    have HEC := Lib.hid (show ((sent + 1 : Nat) : Int) = (sent : Int) + 1 by omega)
    rw [HEC.out] at hi0
    generalize w2.setCell ⟨g, 1, none⟩ (.int .i64 ((sent : Int) + 1)) = W3 at *
    clear HS e1 e2 c0
    obtain ⟨t0, t1, t2, t3, t4, t5, t6, t7, t8, t9, t10⟩ := KT.out _ hi0
    go_region_held3 (fun W => W.cell? ⟨w.heap.size, 0, none⟩ = some (.string q.m.topic) ∧ W.cell? ⟨w.heap.size, 1, none⟩ = some (.string q.m.payload) ∧ W.cell? ⟨w.heap.size, 2, none⟩ = some (.int .i64 q.m.qos) ∧ W.cell? ⟨w.heap.size, 3, none⟩ = some (.bool q.m.retain) ∧ W.cell? ⟨w.heap.size, 4, none⟩ = some (.slice q.pa q.m.props.length q.pc) ∧ W.cell? ⟨w.heap.size, 5, none⟩ = some (.string q.m.frm) ∧ W.cell? ⟨w.heap.size, 6, none⟩ = some (.int .i64 q.m.til) ∧ W.cell? ⟨w.heap.size, 7, none⟩ = some (.int .i64 q.m.seq) ∧ W.cell? ⟨w.heap.size, 8, none⟩ = some (.string q.m.grp) ∧ W.cell? ⟨g, 1, none⟩ = some (.int .i64 ((sent : Int) + 1)) ∧ W.cell? ⟨g, 2, none⟩ = some (.map (some bm)))
      (first | assumption | (exact KT.out _ (by assumption)) | (exact KT.out _ (SndIn.drewN (by assumption) 1)) | (exact KP.out _ _ (by assumption) (by assumption)))
      (first
        | (go_at_call 32; (with_reducible refine (HC.out _ w.heap.size ?_).mono ?_); (first | assumption | exact SndIn.drewN (by assumption) 1); rintro e w7 ⟨pa, pc, rfl, hi7, hp7⟩; obtain ⟨w8, hrun8, ho8, hk8⟩ := hi7.put (qos := qos) (pc := pc) HH.out HF.out HX.out.1 HX.out.2 hp7 HQ.out.2.1; unfold FV.agg at hrun8; rw [HEC.out] at hrun8))
    go_wp2_with fail
    go_ret2
    exact ⟨rfl, _, _, ho8⟩
end
end Go.Proofs.Ytkbinmjbbmejpaa
