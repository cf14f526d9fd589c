/- What is proved here: a message is sent. Conditions: those that each theorem names. What is proved here: an acknowledgement is taken. Conditions: those that each theorem names. What is proved here: an acknowledgement that ends something. Conditions: those that each theorem names. -/
import Derived.Test.YtpaalhhadjihlaaOpd24
namespace Go.Proofs.Ytpaalhhadjihlaa
open Go.RowKit Go.Extern.Stop Go.Stop Go.Extern Go.Maps
set_option maxRecDepth 100000
section
variable {w : World} {g gp bp bm B : Nat} {L : FL} {last sent : Nat}
set_option maxHeartbeats 2000000 in
theorem send_no (q : QV) (qos : Int) (hq : qos ≠ 1 ∧ qos ≠ 2) (w : World) : Calls Try.prog 8 #[.pointer (some ⟨g, 0, none⟩), q.agg, .int .i64 qos] w fun x w' => x = .returned (.tuple #[.int .i64 0, .bool false]) ∧ Below w.heap.size w w' := by
  have HB := Lib.hid ((Below.refl w.heap.size w).alloc (Nat.le_refl _) (.cells q.cells.toArray 36))
  unfold QV.agg
  unfold QV.cells at *
  have e1 : (qos != 1) = true := by simpa using hq.1
  have e2 : (qos != 2) = true := by simpa using hq.2
  clear hq
  go_enter Try.func8, Try.ntmps8
  go_wp2_with fail
  go_ret2
  exact ⟨rfl, HB.out⟩
set_option maxHeartbeats 4000000 in
theorem send_ok (h : OutI w g gp bp bm L last sent) (hB : B ≤ g ∧ B ≤ gp ∧ B ≤ bp) (q : QV) (hq : PIn w B q.pa q.m.props) (hl : q.m.props.length ≤ 1000) (qos : Int) (hqos : qos = 1 ∨ qos = 2) (hf : sent < 1000) {x : Nat} (hs : scan (fun y => decide (y ∈ ids L)) 65535 last 65535 0 = some x) :
    Calls Try.prog 8 #[.pointer (some ⟨g, 0, none⟩), q.agg, .int .i64 qos] w fun e w' => e = .returned (.tuple #[.int .i64 x, .bool true]) ∧ ∃ pa pc, Out3 w g gp bp bm (L ++ [⟨x, qos, ⟨q.m, pa, pc⟩, (sent + 1 : Nat)⟩]) x (sent + 1) w' := by
  obtain ⟨j, _, hj, hxc, hxm, _⟩ := scan_some hs
  have hx : (x : Int) ∉ ids L := by simpa using hxm
  have hx2 : 1 ≤ x ∧ x ≤ 65535 := hxc ▸ cand_in (by omega)
  obtain ⟨n1, n2, n3, n4, n5⟩ := h.nef
  -- the box
  have hbx := Blk.made w 36 q.cells.toArray
  have hfb : Below w.heap.size w (w.alloc (.cells q.cells.toArray 36)) := (Below.refl _ _).alloc (Nat.le_refl _) _
  have h1 := h.below hfb
  have hN := pids_next h1.pids
  unfold NextThen at hN
  rw [hs] at hN
  have HN := Lib.hid hN
  have HX := Lib.hid (And.intro hx hx2)
  have HH := Lib.hid h
  have HQ := Lib.hid (And.intro hq (And.intro hl hB))
  have HF := Lib.hid hf
  have HNE := Lib.hid (And.intro n1 (And.intro n2 (And.intro n3 (And.intro n4 n5))))
  have HBX := Lib.hid hbx
  have c0 := h1.blk.cell 0
  have hgl := h.blk.lt
  have hgpl := h.pids.is.1.lt
  have hbpl := h.pids.is.2.lt
  have HLT := Lib.hid (And.intro hgl (And.intro hgpl hbpl))
  have HC : Hid (∀ W k, SndIn w W k g gp bp bm B L x sent q → Calls Try.prog 27 #[q.agg] W fun e W' => ∃ pa pc, e = .returned (QV.agg ⟨q.m, pa, pc⟩) ∧ SndIn w W' k g gp bp bm B L x sent q ∧ PIn W' 0 pa q.m.props) := Lib.hid fun W k hS => (copy_any q hS.own hl).mono fun e W' ⟨pa, pc, h1, h2, h3⟩ => ⟨pa, pc, h1, hS.below h3, h2⟩
  have hqb : (qos != 1) = false ∨ ((qos != 1) = true ∧ (qos != 2) = false) := by rcases hqos with rfl | rfl <;> simp
  clear h hqos hN hx hx2 hq hl hB hf n1 n2 n3 n4 n5 hbx hfb h1 hs hxm hxc hj hgl hgpl hbpl
  unfold QV.agg at HC ⊢
  unfold QV.cells at *
  go_enter Try.func8, Try.ntmps8
  rcases hqb with hq1 | ⟨hq1, hq2⟩
  all_goals
    go_wp2_with fail
    refine HN.out.mono ?_
    rintro e w2 ⟨rfl, hp, hfr⟩
    have hf3 := HF.out
    obtain ⟨n1, n2, n3, n4, n5⟩ := HNE.out
    have b2 := (HH.out.below ((Below.refl _ _).alloc (Nat.le_refl _) (.cells #[.string q.m.topic, .string q.m.payload, .int .i64 q.m.qos, .bool q.m.retain, .slice q.pa q.m.props.length q.pc, .string q.m.frm, .int .i64 q.m.til, .int .i64 q.m.seq, .string q.m.grp] 36))).blk.fr hfr (by simp; exact ⟨n1, n2⟩)
    have e1 := b2.cell 1
    have e2 := b2.frozen 1
    have hfr2 : Fr [g, gp, bp] w (w2.setCell ⟨g, 1, none⟩ (.int .i64 (sent + 1 : Nat))) := (((Fr.refl [g, gp, bp] w).alloc _).trans hfr (fun b hb _ => by simp at hb ⊢; rcases hb with rfl | rfl <;> simp)).setCell (.inl (by simp)) _
    have hfr3 : Fr [g, gp, bp] (w.alloc (.cells #[.string q.m.topic, .string q.m.payload, .int .i64 q.m.qos, .bool q.m.retain, .slice q.pa q.m.props.length q.pc, .string q.m.frm, .int .i64 q.m.til, .int .i64 q.m.seq, .string q.m.grp] 36)) (w2.setCell ⟨g, 1, none⟩ (.int .i64 (sent + 1 : Nat))) := (hfr.mono (fun b hb _ => by simp at hb ⊢; rcases hb with rfl | rfl <;> simp)).setCell (.inl (by simp)) _
    have hnp : ∀ b ∈ [g, gp, bp], ∀ cs, (w.alloc (.cells #[.string q.m.topic, .string q.m.payload, .int .i64 q.m.qos, .bool q.m.retain, .slice q.pa q.m.props.length q.pc, .string q.m.frm, .int .i64 q.m.til, .int .i64 q.m.seq, .string q.m.grp] 36)).heap[b]? ≠ some (.cells cs 93 (0, 0)) := fun b hb => (HH.out.below ((Below.refl _ _).alloc (Nat.le_refl _) (.cells #[.string q.m.topic, .string q.m.payload, .int .i64 q.m.qos, .bool q.m.retain, .slice q.pa q.m.props.length q.pc, .string q.m.frm, .int .i64 q.m.til, .int .i64 q.m.seq, .string q.m.grp] 36))).noprop b (by simp at hb ⊢; rcases hb with rfl | rfl | rfl <;> simp)
    have hS : SndIn w (w2.setCell ⟨g, 1, none⟩ (.int .i64 (sent + 1 : Nat))) w.heap.size g gp bp bm B L x sent q := ⟨hfr2, by
        exact HBX.out.fr hfr3 (by obtain ⟨l1, l2, l3⟩ := HLT.out; simp; omega), b2.store 1 _, ⟨⟨hp.is.1.far (p := ⟨g, 1, none⟩) (fun e => n1 e.symm) _, hp.is.2.fr (X := [g]) (Fr.setCell (Fr.refl _ _) (.inl (by simp)) _) (by simpa using Ne.symm n2)⟩, hp.ok⟩,
      (HH.out.below ((Below.refl _ _).alloc (Nat.le_refl _) (.cells #[.string q.m.topic, .string q.m.payload, .int .i64 q.m.qos, .bool q.m.retain, .slice q.pa q.m.props.length q.pc, .string q.m.frm, .int .i64 q.m.til, .int .i64 q.m.seq, .string q.m.grp] 36))).map.fr hfr3 (by simp; exact ⟨Ne.symm n3, Ne.symm n5, HH.out.ne⟩), (HH.out.below ((Below.refl _ _).alloc (Nat.le_refl _) (.cells #[.string q.m.topic, .string q.m.payload, .int .i64 q.m.qos, .bool q.m.retain, .slice q.pa q.m.props.length q.pc, .string q.m.frm, .int .i64 q.m.til, .int .i64 q.m.seq, .string q.m.grp] 36))).props.fr hfr3 hnp,
      (HQ.out.1.below ((Below.refl _ _).alloc (Nat.le_refl _) (.cells #[.string q.m.topic, .string q.m.payload, .int .i64 q.m.qos, .bool q.m.retain, .slice q.pa q.m.props.length q.pc, .string q.m.frm, .int .i64 q.m.til, .int .i64 q.m.seq, .string q.m.grp] 36))).fr hfr3 (fun b hb => ⟨by have := HQ.out.2.2; simp at hb; rcases hb with rfl | rfl | rfl <;> omega, hnp b hb⟩)⟩
    have HS := Lib.hid hS
    clear hS hfr2 hfr3 hnp b2 hp hfr n1 n2 n3 n4 n5 HN
    go_wp2_with fail
    have KT := Lib.hid (fun (W : World) (h : SndIn w W w.heap.size g gp bp bm B L x sent q) => show W.cell? ⟨w.heap.size, 0, none⟩ = some (.string q.m.topic) ∧ W.cell? ⟨w.heap.size, 1, none⟩ = some (.string q.m.payload) ∧ W.cell? ⟨w.heap.size, 2, none⟩ = some (.int .i64 q.m.qos) ∧ W.cell? ⟨w.heap.size, 3, none⟩ = some (.bool q.m.retain) ∧ W.cell? ⟨w.heap.size, 4, none⟩ = some (.slice q.pa q.m.props.length q.pc) ∧ W.cell? ⟨w.heap.size, 5, none⟩ = some (.string q.m.frm) ∧ W.cell? ⟨w.heap.size, 6, none⟩ = some (.int .i64 q.m.til) ∧ W.cell? ⟨w.heap.size, 7, none⟩ = some (.int .i64 q.m.seq) ∧ W.cell? ⟨w.heap.size, 8, none⟩ = some (.string q.m.grp) ∧ W.cell? ⟨g, 1, none⟩ = some (.int .i64 ((sent : Int) + 1)) ∧ W.cell? ⟨g, 2, none⟩ = some (.map (some bm)) from ⟨h.box.cell 0, h.box.cell 1, h.box.cell 2, h.box.cell 3, h.box.cell 4, h.box.cell 5, h.box.cell 6, h.box.cell 7, h.box.cell 8, h.blk.cell 1, h.blk.cell 2⟩)
    have KP := Lib.hid (fun (V W : World) (h : SndIn w V w.heap.size g gp bp bm B L x sent q) (hk : ∀ y t cs, Blk V y t cs → Blk W y t cs) => show W.cell? ⟨w.heap.size, 0, none⟩ = some (.string q.m.topic) ∧ W.cell? ⟨w.heap.size, 1, none⟩ = some (.string q.m.payload) ∧ W.cell? ⟨w.heap.size, 2, none⟩ = some (.int .i64 q.m.qos) ∧ W.cell? ⟨w.heap.size, 3, none⟩ = some (.bool q.m.retain) ∧ W.cell? ⟨w.heap.size, 4, none⟩ = some (.slice q.pa q.m.props.length q.pc) ∧ W.cell? ⟨w.heap.size, 5, none⟩ = some (.string q.m.frm) ∧ W.cell? ⟨w.heap.size, 6, none⟩ = some (.int .i64 q.m.til) ∧ W.cell? ⟨w.heap.size, 7, none⟩ = some (.int .i64 q.m.seq) ∧ W.cell? ⟨w.heap.size, 8, none⟩ = some (.string q.m.grp) ∧ W.cell? ⟨g, 1, none⟩ = some (.int .i64 ((sent : Int) + 1)) ∧ W.cell? ⟨g, 2, none⟩ = some (.map (some bm)) from ⟨(hk _ _ _ h.box).cell 0, (hk _ _ _ h.box).cell 1, (hk _ _ _ h.box).cell 2, (hk _ _ _ h.box).cell 3, (hk _ _ _ h.box).cell 4, (hk _ _ _ h.box).cell 5, (hk _ _ _ h.box).cell 6, (hk _ _ _ h.box).cell 7, (hk _ _ _ h.box).cell 8, (hk _ _ _ h.blk).cell 1, (hk _ _ _ h.blk).cell 2⟩)
    have hi0 := HS.out
    have HEC := Lib.hid (show ((sent + 1 : Nat) : Int) = (sent : Int) + 1 by omega)
    rw [HEC.out] at hi0
    generalize w2.setCell ⟨g, 1, none⟩ (.int .i64 ((sent : Int) + 1)) = W3 at *
    clear HS e1 e2 c0
    obtain ⟨t0, t1, t2, t3, t4, t5, t6, t7, t8, t9, t10⟩ := KT.out _ hi0
    go_region_held3 (fun W => W.cell? ⟨w.heap.size, 0, none⟩ = some (.string q.m.topic) ∧ W.cell? ⟨w.heap.size, 1, none⟩ = some (.string q.m.payload) ∧ W.cell? ⟨w.heap.size, 2, none⟩ = some (.int .i64 q.m.qos) ∧ W.cell? ⟨w.heap.size, 3, none⟩ = some (.bool q.m.retain) ∧ W.cell? ⟨w.heap.size, 4, none⟩ = some (.slice q.pa q.m.props.length q.pc) ∧ W.cell? ⟨w.heap.size, 5, none⟩ = some (.string q.m.frm) ∧ W.cell? ⟨w.heap.size, 6, none⟩ = some (.int .i64 q.m.til) ∧ W.cell? ⟨w.heap.size, 7, none⟩ = some (.int .i64 q.m.seq) ∧ W.cell? ⟨w.heap.size, 8, none⟩ = some (.string q.m.grp) ∧ W.cell? ⟨g, 1, none⟩ = some (.int .i64 ((sent : Int) + 1)) ∧ W.cell? ⟨g, 2, none⟩ = some (.map (some bm)))
      (first | assumption | (exact KT.out _ (by assumption)) | (exact KT.out _ (SndIn.drewN (by assumption) 1)) | (exact KP.out _ _ (by assumption) (by assumption)))
      (first
        | (go_at_call 27; (with_reducible refine (HC.out _ w.heap.size ?_).mono ?_); (first | assumption | exact SndIn.drewN (by assumption) 1); rintro e w7 ⟨pa, pc, rfl, hi7, hp7⟩; obtain ⟨w8, hrun8, ho8, hk8⟩ := hi7.put (qos := qos) (pc := pc) HH.out HF.out HX.out.1 HX.out.2 hp7 HQ.out.2.1; unfold FV.agg at hrun8; rw [HEC.out] at hrun8))
    go_wp2_with fail
    go_ret2
    exact ⟨rfl, _, _, ho8⟩
end
end Go.Proofs.Ytpaalhhadjihlaa
namespace Go.Proofs.Ytpaalhhadjihlaa
open Go.RowKit Go.Extern.Stop Go.Stop Go.Extern Go.Maps
set_option maxRecDepth 100000
theorem tyPk : Ty Try.prog 49 (pk0.cells pa0) := ty_mk (n := 26) (by kernel_rfl) rfl Try.underlying49 rfl (by kernel_rfl) rfl
/-- One is in the state in which a Pubcomp is awaited. -/
def setS (i : Int) (L : FL) : FL := L.map (fun f => if f.id = i then { f with st := 3 } else f)
theorem setS_id (i : Int) (f : FV) : (if f.id = i then { f with st := 3 } else f : FV).id = f.id := by split <;> rfl
theorem setS_pl (i : Int) (f : FV) : (if f.id = i then { f with st := 3 } else f : FV).pl = f.pl := by split <;> rfl
theorem setS_q (i : Int) (f : FV) : (if f.id = i then { f with st := 3 } else f : FV).q = f.q := by split <;> rfl
theorem ids_setS (i : Int) (L : FL) : ids (setS i L) = ids L := by
  unfold ids setS
  rw [List.map_map]
  exact List.map_congr_left fun f _ => setS_id i f
theorem len_setS (i : Int) (L : FL) : (setS i L).length = L.length := List.length_map ..
theorem setS_perm {i : Int} {f : FV} {L : FL} (hf : f ∈ L) (hi : f.id = i) (hd : (L.map ent24).Pairwise (fun p q => p.1 ≠ q.1)) : ((i, { f with st := 3 }) :: wo i (L.map ent24)).Perm ((setS i L).map ent24) := by
  subst hi
  have h1 := (perm_pick (lt_of_mem hf) hd).map (fun p : Int × FV => if p.1 = f.id then (p.1, { p.2 with st := 3 }) else p)
  have e1 : (L.map ent24).map (fun p : Int × FV => if p.1 = f.id then (p.1, { p.2 with st := 3 }) else p) = (setS f.id L).map ent24 := by
    unfold setS
    rw [List.map_map, List.map_map]
    refine List.map_congr_left fun g _ => ?_
    show (if g.id = f.id then (g.id, { g with st := 3 }) else (g.id, g)) = ent24 (if g.id = f.id then { g with st := 3 } else g)
    by_cases h : g.id = f.id
    · rw [if_pos h, if_pos h]; rfl
    · rw [if_neg h, if_neg h]; rfl
  have e2 : (wo f.id (L.map ent24)).map (fun p : Int × FV => if p.1 = f.id then (p.1, { p.2 with st := 3 }) else p) = wo f.id (L.map ent24) := by
    conv => rhs; rw [← List.map_id (wo f.id (L.map ent24))]
    refine List.map_congr_left fun p hp => ?_
    have := (List.mem_filter.1 hp).2
    have h : p.1 ≠ f.id := by simpa using this
    rw [if_neg h]
    rfl
  rw [e1, List.map_cons, e2, if_pos rfl] at h1
  exact h1.symm
section
variable {w : World} {g gp bp bm B : Nat} {L : FL} {last sent : Nat}
theorem OutI.keys (h : OutI w g gp bp bm L last sent) : (L.map ent24).Pairwise (fun p q => p.1 ≠ q.1) := (h.map.apart KI).imp fun hne e => hne (congrArg intKE.kl e)
/-- The state of one is set. -/
theorem OutI.rel (h : OutI w g gp bp bm L last sent) {f : FV} (hf : f ∈ L) : ∃ W', (Instr.mapUpdate 30 (.map (some bm)) (.int .i64 f.id) (FV.agg { f with st := 3 })).run Try.prog w = .ok () W' ∧ Out3 w g gp bp bm (setS f.id L) last sent W' ∧ ∀ y t cs, Blk w y t cs → Blk W' y t cs := by
  have hi : f.id ∈ ids L := List.mem_map.2 ⟨f, hf, rfl⟩
  obtain ⟨n1, n2, n3, n4, n5⟩ := h.nef
  obtain ⟨W', hrun, hm, hg⟩ := h.map.put (x := f.id) KI Try.underlying30 intKE_inj (by rw [List.length_map]; have := h.len; have := h.few; unfold maxLen; omega) (intKE_ok Try.underlying3 (wf_id (h.range hi))) ({ f with st := 3 } : FV)
  have hm2 := hm.perm (setS_perm hf rfl h.keys)
  have hf1 : Fr [bm] w W' := (Fr.refl _ _).grown hg (fun b hb => by injection hb with hb; subst hb; exact .inl (List.mem_singleton_self _))
  have hfr : Fr [g, gp, bp, bm] w W' := hf1.mono (fun b hb _ => by simp at hb; subst hb; simp)
  refine ⟨W', hrun, ⟨⟨h.blk.fr hf1 (by simpa using n3), ?_, hm2, h.ne, ?_, ?_, ?_, h.few, ?_⟩, hfr⟩, fun y t cs hb => hb.fr hf1 (by simpa using h.map.ne hb)⟩
  · rw [ids_setS, len_setS]
    exact ⟨⟨h.pids.is.1.fr hf1 (by simpa using n5), h.pids.is.2.fr hf1 (by simpa using Ne.symm h.ne)⟩, h.pids.ok⟩
  · unfold setS
    rw [List.pairwise_map]
    exact h.ord.imp fun {a b} hab => by rw [setS_pl, setS_pl]; exact hab
  · intro x hx
    obtain ⟨y, hy, rfl⟩ := List.mem_map.1 hx
    rw [setS_pl]
    exact h.le y hy
  · rw [len_setS]
    exact h.len
  · intro x hx
    obtain ⟨y, hy, rfl⟩ := List.mem_map.1 hx
    rw [setS_q]
    exact h.props.fr hfr h.noprop y hy
/-- What an acknowledgement answers. -/
def AckR (w : World) (n : Int) (m : MV) (g gp bp bm : Nat) (L : FL) (last sent : Nat) (x : Ending) (w' : World) : Prop :=
  ∃ pa pc, x = .returned (.tuple #[.int .i64 n, QV.agg ⟨m, pa, pc⟩]) ∧ PIn w' 0 pa m.props ∧ Out3 w g gp bp bm L last sent w'
theorem OutI.same (h : OutI w g gp bp bm L last sent) {w' : World} (hb : Below w.heap.size w w') : Out3 w g gp bp bm L last sent w' := ⟨h.below hb, Fr.of_below hb⟩
set_option maxHeartbeats 4000000 in
/-- It is none's, or of another state. -/
theorem ack_no (h : OutI w g gp bp bm L last sent) (c : Array Value) (hc : c.size = 26) (k i r : Int) (h0 : c[0]? = some (.int .i64 k)) (h1 : c[1]? = some (.int .i64 i)) (h2 : c[2]? = some (.int .i64 r)) (hi : (Lit.int .i64 i).wf = true)
    {v : FV} {b : Bool} (hv : (b = true ∧ v ∈ L ∧ v.id = i) ∨ (b = false ∧ v = f0 ∧ i ∉ ids L)) {n : Int} (hn : n = ansR (endsOf k) r v.st b) (hn2 : n = 0 ∨ n = 5) :
    Calls Try.prog 10 #[.pointer (some ⟨g, 0, none⟩), .agg c] w (AckR w n m0 g gp bp bm L last sent) := by
  have HO := Lib.hid (Own.start [] w)
  have HH := Lib.hid h
  have HG := Lib.hid (fun W (hb : Below w.heap.size w W) => get_any (h.below hb) i hi hv)
  have HA := Lib.hid (fun W => ans_any c k r v.st b h0 h2 W)
  rw [← hn] at HA
  have H0 := Lib.hid (And.intro h0 (And.intro h1 h2))
  have HC := Lib.hid hc
  have HS : Hid (v.cells.toArray.size = f0.cells.toArray.size ∧ v.cells.toArray.toList.all (·.oneCell') = true) := Lib.hid ⟨rfl, by rw [List.all_eq_true]; exact fun u hu => fv_one v u (by simpa using hu)⟩
  have HST : Hid (v.cells.toArray[1]? = some (.int .i64 v.st)) := Lib.hid rfl
  rw [FV.agg_eq] at HG
  clear h h0 h1 h2 hi hv hn hc
  generalize v.cells.toArray = vc at *
  go_enter Try.func10, Try.ntmps10
  go_upto_region 1 with (first
    | (refine wpo_box HO.out _ rfl rfl rfl ?_; clear HO; rintro k2 W1 hO; have HO := Lib.hid hO; clear hO; simp only [Act.put, List.setIfInBounds_toArray, List.set_cons_zero, List.set_cons_succ])
    | (refine wpo_alloc tyMs HO.out rfl rfl ?_; clear HO; rintro k3 W1 hO; have HO := Lib.hid hO; clear hO; simp only [Act.put, List.setIfInBounds_toArray, List.set_cons_zero, List.set_cons_succ]))
  have c1 := ((HO.out.get 1 rfl).cell 1).trans H0.out.2.1
  have HG2 := Lib.hid (HG.out _ HO.out.bel)
  go_wp2_with fail
  refine HG2.out.mono ?_
  rintro x V1 ⟨rfl, hb⟩
  have HB := Lib.hid (HO.out.below hb)
  clear HO hb HG2 c1
  have HO := HB
  clear HB
  go_upto_region 2 with (first
    | (refine wpo_alloc tyFt HO.out rfl rfl ?_; clear HO; rintro k4 W2 hO; have HO := Lib.hid hO; clear hO; simp only [Act.put, List.setIfInBounds_toArray, List.set_cons_zero, List.set_cons_succ])
    | (refine wpo_store (k := k4) HO.out 0 tyFt rfl _ _ rfl rfl rfl rfl rfl HS.out.1 HS.out.2 ?_; clear HO; rintro W3 hO; have HO := Lib.hid hO; clear hO; simp only [Act.put]))
  have c1 := ((HO.out.get 0 rfl).cell 1).trans HST.out
  have HA2 := Lib.hid (HA.out W3)
  go_wp2_with (refine wpo_load (k := k2) HO.out 2 tyPk rfl HC.out _ rfl rfl rfl ?_; simp only [Act.put, List.setIfInBounds_toArray, List.set_cons_zero, List.set_cons_succ])
  refine HA2.out.mono ?_
  rintro x V2 ⟨rfl, hb⟩
  have HB := Lib.hid (HO.out.below hb)
  clear HO hb HA2 c1
  have HO := HB
  clear HB
  rcases hn2 with rfl | rfl
  all_goals
    go_wp2_with (first
      | (refine wpo_zero tyMs rfl rfl ?_)
      | (refine wpo_store (k := k3) HO.out 1 tyMs rfl _ _ rfl rfl rfl rfl rfl rfl rfl ?_; clear HO; rintro W5 hO; have HO := Lib.hid hO; clear hO; simp only [Act.put]))
    exact bodyPost_ret (v := .tuple #[.int .i64 _, .agg zq]) (res_own01 1 HO.out tyMs rfl rfl rfl rfl rfl) rfl ⟨none, 0, rfl, PIn.nil _ _ _, HH.out.same HO.out.bel⟩
end
end Go.Proofs.Ytpaalhhadjihlaa
namespace Go.Proofs.Ytpaalhhadjihlaa
open Go.RowKit Go.Extern.Stop Go.Stop Go.Extern Go.Maps
set_option maxRecDepth 100000
section
variable {P : Program} {X : List Nat} {w0 w w' : World} {L : OL} {ops : Array Oper} {rest : List Oper} {op : Oper} {a : Act} {Q : Exit → Act → World → Prop} {z c old : Array Value} {k : Nat} {t : TypeId} {G : World → Prop}
theorem wpg_store (hO : Own X w0 w L) (i : Nat) (hT : Ty P t z) (hi : L[i]? = some (k, t, old)) (hG : ∀ W, Fr [k] w W → G W) (x y : Operand) (hgd : op.guard = none) (ho : op.op = .store t x y)
    (hx : a.eval x = .pointer (some ⟨k, 0, none⟩)) (hy : a.eval y = .agg c) (hold : old.size = z.size) (hc : c.size = z.size) (h1 : c.toList.all (·.oneCell') = true)
    (h : ∀ W, Own X w0 W (L.set i (k, t, c)) → G W → wpList P ops Q rest (a.put op.dst undef) W) : wpList P ops Q (op :: rest) a w :=
  wpList_plain hgd fun _ hK => wp_store_row t x y ho k c hx hy t old (hO.get i hi) (by rw [hc]; exact hT.ip) (by rw [hold, hc]) (by simpa using h1) (hK _ _ (h _ (hO.row i hi c) (hG _ (fr_setRow w k c))))
/-- Elder blocks have changed. -/
theorem Own.went (h : Own [] w0 w L) (hf : Fr X w w') (hX : ∀ x ∈ X, x < w0.heap.size) : Own X w0 w' L := by
  have hn : ∀ x ∈ L, x.1 ∉ X := fun x hx hm => by
    rcases h.new x hx with h1 | h1
    · cases h1
    · have := hX _ hm; omega
  exact ⟨(h.fr.mono (fun b hb => by cases hb)).trans hf (fun b hb _ => hb), fun x hx => (h.blk x hx).fr hf (hn x hx), fun x hx => .inr ((h.new x hx).resolve_left (fun h1 => by cases h1)), h.nd⟩
end
theorem below_dr {B : Nat} {a w : World} (h : Below B a w) : Below B a w.drew := ⟨h.os, h.tape, h.output, h.size, h.block⟩
theorem own_ge {w0 w : World} {L : OL} (h : Own [] w0 w L) (i : Nat) {x : Nat × TypeId × Array Value} (hi : L[i]? = some x) : w0.heap.size ≤ x.1 := (h.new x (List.mem_of_getElem? hi)).resolve_left (fun h1 => by cases h1)
section
variable {w : World} {g gp bp bm B : Nat} {L : FL} {last sent : Nat}
theorem OutI.lts (h : OutI w g gp bp bm L last sent) : ∀ x ∈ [g, gp, bp, bm], x < w.heap.size := by
  intro x hx
  simp only [List.mem_cons, List.not_mem_nil, or_false] at hx
  rcases hx with rfl | rfl | rfl | rfl
  · exact h.blk.lt
  · exact h.pids.is.1.lt
  · exact h.pids.is.2.lt
  · exact h.map.lt
/-- Blocks of the call's own have changed since. -/
theorem Out3.on {V W : World} {Y : List Nat} {L' : FL} {last' sent' : Nat} (h : Out3 w g gp bp bm L' last' sent' V) (hl : ∀ x ∈ [g, gp, bp, bm], x < w.heap.size) (hf : Fr Y V W) (hY : ∀ k ∈ Y, w.heap.size ≤ k ∧ ∀ cs, V.heap[k]? ≠ some (.cells cs 93 (0, 0))) : Out3 w g gp bp bm L' last' sent' W := by
  refine ⟨h.1.then hf (fun b hb => ?_), h.2.trans hf (fun b hb hlt => ?_)⟩
  · obtain ⟨h1, h2⟩ := hY b hb
    have a1 := hl g (by simp)
    have a2 := hl gp (by simp)
    have a3 := hl bp (by simp)
    have a4 := hl bm (by simp)
    exact ⟨by omega, by omega, by omega, by omega, h2⟩
  · have := (hY b hb).1
    omega
theorem notp {V : World} {k : Nat} {t : TypeId} {c : Array Value} (h : Blk V k t c) (ht : t ≠ 93) : ∀ cs, V.heap[k]? ≠ some (.cells cs 93 (0, 0)) := fun _ hc => h.other hc ht rfl
set_option maxHeartbeats 8000000 in
/-- One is done, or back, or ended. -/
theorem ack_end (h : OutI w g gp bp bm L last sent) (c : Array Value) (hc : c.size = 26) (k i r : Int) (h0 : c[0]? = some (.int .i64 k)) (h1 : c[1]? = some (.int .i64 i)) (h2 : c[2]? = some (.int .i64 r))
    {v : FV} (hv : v ∈ L) (hvi : v.id = i) {n : Int} (hn : n = ansR (endsOf k) r v.st true) (hn2 : n = 1 ∨ n = 2 ∨ n = 4) :
    Calls Try.prog 10 #[.pointer (some ⟨g, 0, none⟩), .agg c] w (AckR w n v.q.m g gp bp bm (wof i L) last sent) := by
  subst hvi
  have hvi : v.id = v.id := rfl
  have hi : v.id ∈ ids L := List.mem_map.2 ⟨v, hv, hvi⟩
  have hw := wf_id (h.range hi)
  have HO := Lib.hid (Own.start [] w)
  have HH := Lib.hid h
  have HG := Lib.hid (fun W (hb : Below w.heap.size w W) => get_any (h.below hb) v.id hw (v := v) (b := true) (.inl ⟨rfl, hv, hvi⟩))
  have HA := Lib.hid (fun W => ans_any c k r v.st true h0 h2 W)
  rw [← hn] at HA
  have H0 := Lib.hid (And.intro h0 (And.intro h1 h2))
  have HC := Lib.hid hc
  have HLT := Lib.hid h.lts
  have HP := Lib.hid (fun V (hf : Fr [g, gp, bp, bm] w V) => (h.props v hv).1.fr hf (fun b hb => ⟨Nat.zero_le _, h.noprop b hb⟩))
  have HL := Lib.hid (h.props v hv).2
  have HR := Lib.hid (fun W (hb : Below w.heap.size w W) => (remove_any (h.below hb) hi))
  have HCP := Lib.hid (fun V (hp : PIn V 0 v.q.pa v.q.m.props) => copy_any v.q hp HL.out)
  have HV := Lib.hid hv
  clear h h0 h1 h2 hi hv hn hc hw hvi
  unfold FV.agg at HG
  unfold QV.agg at HCP
  go_enter Try.func10, Try.ntmps10
  go_upto_region 1 with (first
    | (refine wpo_box HO.out _ rfl rfl rfl ?_; clear HO; rintro k2 W1 hO; have HO := Lib.hid hO; clear hO; simp only [Act.put, List.setIfInBounds_toArray, List.set_cons_zero, List.set_cons_succ])
    | (refine wpo_alloc tyMs HO.out rfl rfl ?_; clear HO; rintro k3 W1 hO; have HO := Lib.hid hO; clear hO; simp only [Act.put, List.setIfInBounds_toArray, List.set_cons_zero, List.set_cons_succ]))
  have c1 := ((HO.out.get 1 rfl).cell 1).trans H0.out.2.1
  have HG2 := Lib.hid (HG.out _ HO.out.bel)
  go_wp2_with fail
  refine HG2.out.mono ?_
  rintro x V1 ⟨rfl, hb⟩
  have HB := Lib.hid (HO.out.below hb)
  clear HO hb HG2 c1
  have HO := HB
  clear HB
  go_upto_region 2 with (first
    | (refine wpo_alloc tyFt HO.out rfl rfl ?_; clear HO; rintro k4 W2 hO; have HO := Lib.hid hO; clear hO; simp only [Act.put, List.setIfInBounds_toArray, List.set_cons_zero, List.set_cons_succ])
    | (refine wpo_store (k := k4) (c := #[.int .i64 v.id, .int .i64 v.st, .string v.q.m.topic, .string v.q.m.payload, .int .i64 v.q.m.qos, .bool v.q.m.retain, .slice v.q.pa v.q.m.props.length v.q.pc, .string v.q.m.frm, .int .i64 v.q.m.til, .int .i64 v.q.m.seq, .string v.q.m.grp, .int .i64 v.pl]) HO.out 0 tyFt rfl _ _ rfl rfl rfl rfl rfl rfl rfl ?_; clear HO; rintro W3 hO; have HO := Lib.hid hO; clear hO; simp only [Act.put]))
  have c1 := (HO.out.get 0 rfl).cell 1
  have HA2 := Lib.hid (HA.out W3)
  go_wp2_with (refine wpo_load (k := k2) HO.out 2 tyPk rfl HC.out _ rfl rfl rfl ?_; simp only [Act.put, List.setIfInBounds_toArray, List.set_cons_zero, List.set_cons_succ])
  refine HA2.out.mono ?_
  rintro x V2 ⟨rfl, hb⟩
  have HB := Lib.hid (HO.out.below hb)
  clear HO hb HA2 c1
  have HO := HB
  clear HB
  rcases hn2 with rfl | rfl | rfl
  all_goals
    have c1 := ((HO.out.get 2 rfl).cell 1).trans H0.out.2.1
    have HR2 := Lib.hid (HR.out _ HO.out.bel)
    have HK3 := Lib.hid (own_ge HO.out 1 rfl)
    go_wp2_with fail
    refine HR2.out.mono ?_
    rintro x V3 ⟨rfl, ho3⟩
    have HB := Lib.hid (HO.out.went ho3.2 HLT.out)
    have H3 := Lib.hid (show Out3 w g gp bp bm (wof v.id L) last sent V3 from ⟨ho3.1, HB.out.fr⟩)
    clear HO ho3 HR2 c1
    have HO := HB
    clear HB
    have m2 := (HO.out.get 0 rfl).cell 2
    have m3 := (HO.out.get 0 rfl).cell 3
    have m4 := (HO.out.get 0 rfl).cell 4
    have m5 := (HO.out.get 0 rfl).cell 5
    have m6 := (HO.out.get 0 rfl).cell 6
    have m7 := (HO.out.get 0 rfl).cell 7
    have m8 := (HO.out.get 0 rfl).cell 8
    have m9 := (HO.out.get 0 rfl).cell 9
    have m10 := (HO.out.get 0 rfl).cell 10
    have HCC := Lib.hid (HCP.out _ (HP.out _ HO.out.fr))
    go_wp2_with fail
    refine HCC.out.mono ?_
    rintro x V4 ⟨pa, pc, rfl, hp4, hb4⟩
    have HB := Lib.hid (HO.out.below hb4)
    have H4 := Lib.hid (H3.out.on HLT.out (Fr.of_below (X := []) hb4) (fun k hk => by cases hk))
    have HP4 := Lib.hid hp4
    clear HO hb4 hp4 HCC H3 m2 m3 m4 m5 m6 m7 m8 m9 m10
    have HO := HB
    clear HB
    unfold QV.agg
    go_wp2_with (refine wpg_store (k := k3) (c := #[.string v.q.m.topic, .string v.q.m.payload, .int .i64 v.q.m.qos, .bool v.q.m.retain, .slice pa v.q.m.props.length pc, .string v.q.m.frm, .int .i64 v.q.m.til, .int .i64 v.q.m.seq, .string v.q.m.grp]) (G := fun W => Out3 w g gp bp bm (wof v.id L) last sent W ∧ PIn W 0 pa v.q.m.props) HO.out 1 tyMs rfl (fun W hf => ⟨H4.out.on HLT.out hf (fun k hk => by
        rw [List.mem_singleton] at hk
        subst hk
        exact ⟨HK3.out, notp (HO.out.get 1 rfl) (by decide)⟩), HP4.out.fr hf (fun k hk => by
        rw [List.mem_singleton] at hk
        subst hk
        exact ⟨Nat.zero_le _, notp (HO.out.get 1 rfl) (by decide)⟩)⟩) _ _ rfl rfl rfl rfl rfl rfl rfl ?_; clear HO; rintro W5 hO ⟨h5, hp5⟩; have HO := Lib.hid hO; have H5 := Lib.hid h5; have HP5 := Lib.hid hp5; clear hO h5 hp5; simp only [Act.put])
    exact bodyPost_ret (v := .tuple #[.int .i64 _, QV.agg ⟨v.q.m, pa, pc⟩]) (res_own01 1 HO.out tyMs rfl rfl rfl rfl rfl) rfl ⟨pa, pc, rfl, HP5.out, H5.out⟩
set_option maxHeartbeats 8000000 in
/-- One is released. -/
theorem ack_rel (h : OutI w g gp bp bm L last sent) (c : Array Value) (hc : c.size = 26) (k i r : Int) (h0 : c[0]? = some (.int .i64 k)) (h1 : c[1]? = some (.int .i64 i)) (h2 : c[2]? = some (.int .i64 r))
    {v : FV} (hv : v ∈ L) (hvi : v.id = i) (hn : (3 : Int) = ansR (endsOf k) r v.st true) :
    Calls Try.prog 10 #[.pointer (some ⟨g, 0, none⟩), .agg c] w (AckR w 3 v.q.m g gp bp bm (setS i L) last sent) := by
  subst hvi
  have hvi : v.id = v.id := rfl
  have hi : v.id ∈ ids L := List.mem_map.2 ⟨v, hv, hvi⟩
  have hw := wf_id (h.range hi)
  have HO := Lib.hid (Own.start [] w)
  have HH := Lib.hid h
  have HG := Lib.hid (fun W (hb : Below w.heap.size w W) => get_any (h.below hb) v.id hw (v := v) (b := true) (.inl ⟨rfl, hv, hvi⟩))
  have HA := Lib.hid (fun W => ans_any c k r v.st true h0 h2 W)
  rw [← hn] at HA
  have H0 := Lib.hid (And.intro h0 (And.intro h1 h2))
  have HC := Lib.hid hc
  have HLT := Lib.hid h.lts
  have HP := Lib.hid (fun V (hf : Fr [g, gp, bp, bm] w V) => (h.props v hv).1.fr hf (fun b hb => ⟨Nat.zero_le _, h.noprop b hb⟩))
  have HL := Lib.hid (h.props v hv).2
  have HR := Lib.hid (fun W (hb : Below w.heap.size w W) => (remove_any (h.below hb) hi))
  have HCP := Lib.hid (fun V (hp : PIn V 0 v.q.pa v.q.m.props) => copy_any v.q hp HL.out)
  have HV := Lib.hid hv
  clear h h0 h1 h2 hi hv hn hc hw hvi
  unfold FV.agg at HG
  unfold QV.agg at HCP
  go_enter Try.func10, Try.ntmps10
  go_upto_region 1 with (first
    | (refine wpo_box HO.out _ rfl rfl rfl ?_; clear HO; rintro k2 W1 hO; have HO := Lib.hid hO; clear hO; simp only [Act.put, List.setIfInBounds_toArray, List.set_cons_zero, List.set_cons_succ])
    | (refine wpo_alloc tyMs HO.out rfl rfl ?_; clear HO; rintro k3 W1 hO; have HO := Lib.hid hO; clear hO; simp only [Act.put, List.setIfInBounds_toArray, List.set_cons_zero, List.set_cons_succ]))
  have c1 := ((HO.out.get 1 rfl).cell 1).trans H0.out.2.1
  have HG2 := Lib.hid (HG.out _ HO.out.bel)
  go_wp2_with fail
  refine HG2.out.mono ?_
  rintro x V1 ⟨rfl, hb⟩
  have HB := Lib.hid (HO.out.below hb)
  clear HO hb HG2 c1
  have HO := HB
  clear HB
  go_upto_region 2 with (first
    | (refine wpo_alloc tyFt HO.out rfl rfl ?_; clear HO; rintro k4 W2 hO; have HO := Lib.hid hO; clear hO; simp only [Act.put, List.setIfInBounds_toArray, List.set_cons_zero, List.set_cons_succ])
    | (refine wpo_store (k := k4) (c := #[.int .i64 v.id, .int .i64 v.st, .string v.q.m.topic, .string v.q.m.payload, .int .i64 v.q.m.qos, .bool v.q.m.retain, .slice v.q.pa v.q.m.props.length v.q.pc, .string v.q.m.frm, .int .i64 v.q.m.til, .int .i64 v.q.m.seq, .string v.q.m.grp, .int .i64 v.pl]) HO.out 0 tyFt rfl _ _ rfl rfl rfl rfl rfl rfl rfl ?_; clear HO; rintro W3 hO; have HO := Lib.hid hO; clear hO; simp only [Act.put]))
  have c1 := (HO.out.get 0 rfl).cell 1
  have HA2 := Lib.hid (HA.out W3)
  go_wp2_with (refine wpo_load (k := k2) HO.out 2 tyPk rfl HC.out _ rfl rfl rfl ?_; simp only [Act.put, List.setIfInBounds_toArray, List.set_cons_zero, List.set_cons_succ])
  refine HA2.out.mono ?_
  rintro x V2 ⟨rfl, hb⟩
  have HB := Lib.hid (HO.out.below hb)
  clear HO hb HA2 c1
  have HO := HB
  clear HB
  go_upto_region 10 with (refine wpo_cell (k := k4) (v := .int .i64 3) HO.out 0 1 (by kernel_rfl) rfl _ _ rfl rfl rfl rfl (by decide : (1 : Nat) < 12) rfl ?_; clear HO; rintro W6 hO; have HO := Lib.hid hO; clear hO; simp only [Act.put])
  have HK3 := Lib.hid (own_ge HO.out 1 rfl)
  have HB4 := Lib.hid (show Blk W6 k4 73 #[.int .i64 v.id, .int .i64 3, .string v.q.m.topic, .string v.q.m.payload, .int .i64 v.q.m.qos, .bool v.q.m.retain, .slice v.q.pa v.q.m.props.length v.q.pc, .string v.q.m.frm, .int .i64 v.q.m.til, .int .i64 v.q.m.seq, .string v.q.m.grp, .int .i64 v.pl] from HO.out.get 0 rfl)
  have HB2 := Lib.hid (HO.out.get 2 rfl)
  have HG2 := Lib.hid (HO.out.eld HH.out.blk (by simp))
  obtain ⟨W7, hrun7, ho7, hk7⟩ := ((HH.out.below HO.out.bel).below (below_dr (Below.refl _ _))).rel HV.out
  unfold FV.agg at hrun7
  have KT := Lib.hid (fun (W : World) (hg : Blk W g 32 #[.pointer (some ⟨gp, 0, none⟩), .int .i64 sent, .map (some bm)]) (h4 : Blk W k4 73 #[.int .i64 v.id, .int .i64 3, .string v.q.m.topic, .string v.q.m.payload, .int .i64 v.q.m.qos, .bool v.q.m.retain, .slice v.q.pa v.q.m.props.length v.q.pc, .string v.q.m.frm, .int .i64 v.q.m.til, .int .i64 v.q.m.seq, .string v.q.m.grp, .int .i64 v.pl]) (h2 : Blk W k2 49 c) => show W.cell? ⟨g, 2, none⟩ = some (.map (some bm)) ∧ W.cell? ⟨k2, 1, none⟩ = some (.int .i64 v.id) ∧ W.cell? ⟨k4, 0, none⟩ = some (.int .i64 v.id) ∧ W.cell? ⟨k4, 1, none⟩ = some (.int .i64 3) ∧ W.cell? ⟨k4, 2, none⟩ = some (.string v.q.m.topic) ∧ W.cell? ⟨k4, 3, none⟩ = some (.string v.q.m.payload) ∧ W.cell? ⟨k4, 4, none⟩ = some (.int .i64 v.q.m.qos) ∧ W.cell? ⟨k4, 5, none⟩ = some (.bool v.q.m.retain) ∧ W.cell? ⟨k4, 6, none⟩ = some (.slice v.q.pa v.q.m.props.length v.q.pc) ∧ W.cell? ⟨k4, 7, none⟩ = some (.string v.q.m.frm) ∧ W.cell? ⟨k4, 8, none⟩ = some (.int .i64 v.q.m.til) ∧ W.cell? ⟨k4, 9, none⟩ = some (.int .i64 v.q.m.seq) ∧ W.cell? ⟨k4, 10, none⟩ = some (.string v.q.m.grp) ∧ W.cell? ⟨k4, 11, none⟩ = some (.int .i64 v.pl) from ⟨hg.cell 2, (h2.cell 1).trans H0.out.2.1, h4.cell 0, h4.cell 1, h4.cell 2, h4.cell 3, h4.cell 4, h4.cell 5, h4.cell 6, h4.cell 7, h4.cell 8, h4.cell 9, h4.cell 10, h4.cell 11⟩)
  have s7 := KT.out W7 (hk7 _ _ _ (HG2.out.drew)) (hk7 _ _ _ (HB4.out.drew)) (hk7 _ _ _ (HB2.out.drew))
  have s6 := KT.out _ (HG2.out.drew) (HB4.out.drew) (HB2.out.drew)
  obtain ⟨t0, t1, t2, t3, t4, t5, t6, t7, t8, t9, t10, t11, t12, t13⟩ := KT.out W6 HG2.out HB4.out HB2.out
  have H7 := Lib.hid ho7
  clear ho7 hk7 KT
  go_region_held3 (fun W => W.cell? ⟨g, 2, none⟩ = some (.map (some bm)) ∧ W.cell? ⟨k2, 1, none⟩ = some (.int .i64 v.id) ∧ W.cell? ⟨k4, 0, none⟩ = some (.int .i64 v.id) ∧ W.cell? ⟨k4, 1, none⟩ = some (.int .i64 3) ∧ W.cell? ⟨k4, 2, none⟩ = some (.string v.q.m.topic) ∧ W.cell? ⟨k4, 3, none⟩ = some (.string v.q.m.payload) ∧ W.cell? ⟨k4, 4, none⟩ = some (.int .i64 v.q.m.qos) ∧ W.cell? ⟨k4, 5, none⟩ = some (.bool v.q.m.retain) ∧ W.cell? ⟨k4, 6, none⟩ = some (.slice v.q.pa v.q.m.props.length v.q.pc) ∧ W.cell? ⟨k4, 7, none⟩ = some (.string v.q.m.frm) ∧ W.cell? ⟨k4, 8, none⟩ = some (.int .i64 v.q.m.til) ∧ W.cell? ⟨k4, 9, none⟩ = some (.int .i64 v.q.m.seq) ∧ W.cell? ⟨k4, 10, none⟩ = some (.string v.q.m.grp) ∧ W.cell? ⟨k4, 11, none⟩ = some (.int .i64 v.pl))
    (first | assumption | (exact s6) | (exact s7))
    (fail)
  have HB := Lib.hid ((HO.out.drew).went H7.out.2 HLT.out)
  have H3 := Lib.hid (show Out3 w g gp bp bm (setS v.id L) last sent W7 from ⟨H7.out.1, HB.out.fr⟩)
  clear HO H7 HB4 HB2 HG2 s6 s7 t0 t1 t2 t3 t4 t5 t6 t7 t8 t9 t10 t11 t12 t13 hrun7
  have HO := HB
  clear HB
  have m2 := (HO.out.get 0 rfl).cell 2
  have m3 := (HO.out.get 0 rfl).cell 3
  have m4 := (HO.out.get 0 rfl).cell 4
  have m5 := (HO.out.get 0 rfl).cell 5
  have m6 := (HO.out.get 0 rfl).cell 6
  have m7 := (HO.out.get 0 rfl).cell 7
  have m8 := (HO.out.get 0 rfl).cell 8
  have m9 := (HO.out.get 0 rfl).cell 9
  have m10 := (HO.out.get 0 rfl).cell 10
  have HCC := Lib.hid (HCP.out _ (HP.out _ HO.out.fr))
  go_wp2_with fail
  refine HCC.out.mono ?_
  rintro x V4 ⟨pa, pc, rfl, hp4, hb4⟩
  have HB := Lib.hid (HO.out.below hb4)
  have H4 := Lib.hid (H3.out.on HLT.out (Fr.of_below (X := []) hb4) (fun k hk => by cases hk))
  have HP4 := Lib.hid hp4
  clear HO hb4 hp4 HCC H3 m2 m3 m4 m5 m6 m7 m8 m9 m10
  have HO := HB
  clear HB
  unfold QV.agg
  go_wp2_with (refine wpg_store (k := k3) (c := #[.string v.q.m.topic, .string v.q.m.payload, .int .i64 v.q.m.qos, .bool v.q.m.retain, .slice pa v.q.m.props.length pc, .string v.q.m.frm, .int .i64 v.q.m.til, .int .i64 v.q.m.seq, .string v.q.m.grp]) (G := fun W => Out3 w g gp bp bm (setS v.id L) last sent W ∧ PIn W 0 pa v.q.m.props) HO.out 1 tyMs rfl (fun W hf => ⟨H4.out.on HLT.out hf (fun k hk => by
      rw [List.mem_singleton] at hk
      subst hk
      exact ⟨HK3.out, notp (HO.out.get 1 rfl) (by decide)⟩), HP4.out.fr hf (fun k hk => by
      rw [List.mem_singleton] at hk
      subst hk
      exact ⟨Nat.zero_le _, notp (HO.out.get 1 rfl) (by decide)⟩)⟩) _ _ rfl rfl rfl rfl rfl rfl rfl ?_; clear HO; rintro W5 hO ⟨h5, hp5⟩; have HO := Lib.hid hO; have H5 := Lib.hid h5; have HP5 := Lib.hid hp5; clear hO h5 hp5; simp only [Act.put])
  exact bodyPost_ret (v := .tuple #[.int .i64 _, QV.agg ⟨v.q.m, pa, pc⟩]) (res_own01 1 HO.out tyMs rfl rfl rfl rfl rfl) rfl ⟨pa, pc, rfl, HP5.out, H5.out⟩
end
end Go.Proofs.Ytpaalhhadjihlaa
