/- What is proved here: an acknowledgement that ends something. Conditions: those that each theorem names. -/
import Derived.Test.YtkbinmjbbmejpaaOpf24
namespace Go.Proofs.Ytkbinmjbbmejpaa
open Go.RowKit Go.Extern.Stop Go.Stop Go.Extern Go.Maps
set_option maxRecDepth 100000
section
variable {P : Program} {X : List Nat} {w0 w w' : World} {L : OL} {ops : Array Oper} {rest : List Oper} {op : Oper} {a : Act} {Q : Exit → Act → World → Prop} {z c old : Array Value} {k : Nat} {t : TypeId} {G : World → Prop}
theorem wpg_store (hO : Own X w0 w L) (i : Nat) (hT : Ty P t z) (hi : L[i]? = some (k, t, old)) (hG : ∀ W, Fr [k] w W → G W) (x y : Operand) (hgd : op.guard = none) (ho : op.op = .store t x y)
    (hx : a.eval x = .pointer (some ⟨k, 0, none⟩)) (hy : a.eval y = .agg c) (hold : old.size = z.size) (hc : c.size = z.size) (h1 : c.toList.all (·.oneCell') = true)
    (h : ∀ W, Own X w0 W (L.set i (k, t, c)) → G W → wpList P ops Q rest (a.put op.dst undef) W) : wpList P ops Q (op :: rest) a w :=
  wpList_plain hgd fun _ hK => wp_store_row t x y ho k c hx hy t old (hO.get i hi) (by rw [hc]; exact hT.ip) (by rw [hold, hc]) (by simpa using h1) (hK _ _ (h _ (hO.row i hi c) (hG _ (fr_setRow w k c))))
/-- Elder blocks have changed. -/
theorem Own.went (h : Own [] w0 w L) (hf : Fr X w w') (hX : ∀ x ∈ X, x < w0.heap.size) : Own X w0 w' L := by
  have hn : ∀ x ∈ L, x.1 ∉ X := fun x hx hm => by
    rcases h.new x hx with h1 | h1
    · cases h1
    · have := hX _ hm; omega
  exact ⟨(h.fr.mono (fun b hb => by cases hb)).trans hf (fun b hb _ => hb), fun x hx => (h.blk x hx).fr hf (hn x hx), fun x hx => .inr ((h.new x hx).resolve_left (fun h1 => by cases h1)), h.nd⟩
end
theorem below_dr {B : Nat} {a w : World} (h : Below B a w) : Below B a w.drew := ⟨h.os, h.tape, h.output, h.size, h.block⟩
theorem own_ge {w0 w : World} {L : OL} (h : Own [] w0 w L) (i : Nat) {x : Nat × TypeId × Array Value} (hi : L[i]? = some x) : w0.heap.size ≤ x.1 := (h.new x (List.mem_of_getElem? hi)).resolve_left (fun h1 => by cases h1)
section
variable {w : World} {g gp bp bm B : Nat} {L : FL} {last sent : Nat}
theorem OutI.lts (h : OutI w g gp bp bm L last sent) : ∀ x ∈ [g, gp, bp, bm], x < w.heap.size := by
  intro x hx
  simp only [List.mem_cons, List.not_mem_nil, or_false] at hx
  rcases hx with rfl | rfl | rfl | rfl
  · exact h.blk.lt
  · exact h.pids.is.1.lt
  · exact h.pids.is.2.lt
  · exact h.map.lt
/-- Blocks of the call's own have changed since. -/
theorem Out3.on {V W : World} {Y : List Nat} {L' : FL} {last' sent' : Nat} (h : Out3 w g gp bp bm L' last' sent' V) (hl : ∀ x ∈ [g, gp, bp, bm], x < w.heap.size) (hf : Fr Y V W) (hY : ∀ k ∈ Y, w.heap.size ≤ k ∧ ∀ cs, V.heap[k]? ≠ some (.cells cs 94 (0, 0))) : Out3 w g gp bp bm L' last' sent' W := by
  refine ⟨h.1.then hf (fun b hb => ?_), h.2.trans hf (fun b hb hlt => ?_)⟩
  · obtain ⟨h1, h2⟩ := hY b hb
    have a1 := hl g (by simp)
    have a2 := hl gp (by simp)
    have a3 := hl bp (by simp)
    have a4 := hl bm (by simp)
    exact ⟨by omega, by omega, by omega, by omega, h2⟩
  · have := (hY b hb).1
    omega
theorem notp {V : World} {k : Nat} {t : TypeId} {c : Array Value} (h : Blk V k t c) (ht : t ≠ 94) : ∀ cs, V.heap[k]? ≠ some (.cells cs 94 (0, 0)) := fun _ hc => h.other hc ht rfl
set_option maxHeartbeats 8000000 in
/-- One is done, or back, or ended. -/
theorem ack_end (h : OutI w g gp bp bm L last sent) (c : Array Value) (hc : c.size = 26) (k i r : Int) (h0 : c[0]? = some (.int .i64 k)) (h1 : c[1]? = some (.int .i64 i)) (h2 : c[2]? = some (.int .i64 r))
    {v : FV} (hv : v ∈ L) (hvi : v.id = i) {n : Int} (hn : n = ansR (endsOf k) r v.st true) (hn2 : n = 1 ∨ n = 2 ∨ n = 4) :
    Calls Try.prog 12 #[.pointer (some ⟨g, 0, none⟩), .agg c] w (AckR w n v.q.m g gp bp bm (wof i L) last sent) := by
  subst hvi
  have hvi : v.id = v.id := rfl
  have hi : v.id ∈ ids L := List.mem_map.2 ⟨v, hv, hvi⟩
  have hw := wf_id (h.range hi)
  have HO := Lib.hid (Own.start [] w)
  have HH := Lib.hid h
  have HG := Lib.hid (fun W (hb : Below w.heap.size w W) => get_any (h.below hb) v.id hw (v := v) (b := true) (.inl ⟨rfl, hv, hvi⟩))
  have HA := Lib.hid (fun W => ans_any c k r v.st true h0 h2 W)
  rw [← hn] at HA
  have H0 := Lib.hid (And.intro h0 (And.intro h1 h2))
  have HC := Lib.hid hc
  have HLT := Lib.hid h.lts
  have HP := Lib.hid (fun V (hf : Fr [g, gp, bp, bm] w V) => (h.props v hv).1.fr hf (fun b hb => ⟨Nat.zero_le _, h.noprop b hb⟩))
  have HL := Lib.hid (h.props v hv).2
  have HR := Lib.hid (fun W (hb : Below w.heap.size w W) => (remove_any (h.below hb) hi))
  have HCP := Lib.hid (fun V (hp : PIn V 0 v.q.pa v.q.m.props) => copy_any v.q hp HL.out)
  have HV := Lib.hid hv
  clear h h0 h1 h2 hi hv hn hc hw hvi
  unfold FV.agg at HG
  unfold QV.agg at HCP
  go_enter Try.func12, Try.ntmps12
  go_upto_region 1 with (first
    | (refine wpo_box HO.out _ rfl rfl rfl ?_; clear HO; rintro k2 W1 hO; have HO := Lib.hid hO; clear hO; simp only [Act.put, List.setIfInBounds_toArray, List.set_cons_zero, List.set_cons_succ])
    | (refine wpo_alloc tyMs HO.out rfl rfl ?_; clear HO; rintro k3 W1 hO; have HO := Lib.hid hO; clear hO; simp only [Act.put, List.setIfInBounds_toArray, List.set_cons_zero, List.set_cons_succ]))
  have c1 := ((HO.out.get 1 rfl).cell 1).trans H0.out.2.1
  have HG2 := Lib.hid (HG.out _ HO.out.bel)
  go_wp2_with fail
  refine HG2.out.mono ?_
  rintro x V1 ⟨rfl, hb⟩
  have HB := Lib.hid (HO.out.below hb)
  clear HO hb HG2 c1
  have HO := HB
  clear HB
  go_upto_region 2 with (first
    | (refine wpo_alloc tyFt HO.out rfl rfl ?_; clear HO; rintro k4 W2 hO; have HO := Lib.hid hO; clear hO; simp only [Act.put, List.setIfInBounds_toArray, List.set_cons_zero, List.set_cons_succ])
    | (refine wpo_store (k := k4) (c := #[.int .i64 v.id, .int .i64 v.st, .string v.q.m.topic, .string v.q.m.payload, .int .i64 v.q.m.qos, .bool v.q.m.retain, .slice v.q.pa v.q.m.props.length v.q.pc, .string v.q.m.frm, .int .i64 v.q.m.til, .int .i64 v.q.m.seq, .string v.q.m.grp, .int .i64 v.pl]) HO.out 0 tyFt rfl _ _ rfl rfl rfl rfl rfl rfl rfl ?_; clear HO; rintro W3 hO; have HO := Lib.hid hO; clear hO; simp only [Act.put]))
  have c1 := (HO.out.get 0 rfl).cell 1
  have HA2 := Lib.hid (HA.out W3)
  go_wp2_with (refine wpo_load (k := k2) HO.out 2 tyPk rfl HC.out _ rfl rfl rfl ?_; simp only [Act.put, List.setIfInBounds_toArray, List.set_cons_zero, List.set_cons_succ])
  refine HA2.out.mono ?_
  rintro x V2 ⟨rfl, hb⟩
  have HB := Lib.hid (HO.out.below hb)
  clear HO hb HA2 c1
  have HO := HB
  clear HB
  rcases hn2 with rfl | rfl | rfl
  all_goals
    have c1 := ((HO.out.get 2 rfl).cell 1).trans H0.out.2.1
    have HR2 := Lib.hid (HR.out _ HO.out.bel)
    have HK3 := Lib.hid (own_ge HO.out 1 rfl)
    go_wp2_with fail
    refine HR2.out.mono ?_
    rintro x V3 ⟨rfl, ho3⟩
    have HB := Lib.hid (HO.out.went ho3.2 HLT.out)
    have H3 := Lib.hid (show Out3 w g gp bp bm (wof v.id L) last sent V3 from ⟨ho3.1, HB.out.fr⟩)
    clear HO ho3 HR2 c1
    have HO := HB
    clear HB
    have m2 := (HO.out.get 0 rfl).cell 2
    have m3 := (HO.out.get 0 rfl).cell 3
    have m4 := (HO.out.get 0 rfl).cell 4
    have m5 := (HO.out.get 0 rfl).cell 5
    have m6 := (HO.out.get 0 rfl).cell 6
    have m7 := (HO.out.get 0 rfl).cell 7
    have m8 := (HO.out.get 0 rfl).cell 8
    have m9 := (HO.out.get 0 rfl).cell 9
    have m10 := (HO.out.get 0 rfl).cell 10
    have HCC := Lib.hid (HCP.out _ (HP.out _ HO.out.fr))
    go_wp2_with fail
    refine HCC.out.mono ?_
    rintro x V4 ⟨pa, pc, rfl, hp4, hb4⟩
    have HB := Lib.hid (HO.out.below hb4)
    have H4 := Lib.hid (H3.out.on HLT.out (Fr.of_below (X := []) hb4) (fun k hk => by cases hk))
    have HP4 := Lib.hid hp4
    clear HO hb4 hp4 HCC H3 m2 m3 m4 m5 m6 m7 m8 m9 m10
    have HO := HB
    clear HB
    unfold QV.agg
    go_wp2_with (refine wpg_store (k := k3) (c := #[.string v.q.m.topic, .string v.q.m.payload, .int .i64 v.q.m.qos, .bool v.q.m.retain, .slice pa v.q.m.props.length pc, .string v.q.m.frm, .int .i64 v.q.m.til, .int .i64 v.q.m.seq, .string v.q.m.grp]) (G := fun W => Out3 w g gp bp bm (wof v.id L) last sent W ∧ PIn W 0 pa v.q.m.props) HO.out 1 tyMs rfl (fun W hf => ⟨H4.out.on HLT.out hf (fun k hk => by
        rw [List.mem_singleton] at hk
        subst hk
        exact ⟨HK3.out, notp (HO.out.get 1 rfl) (by decide)⟩), HP4.out.fr hf (fun k hk => by
        rw [List.mem_singleton] at hk
        subst hk
        exact ⟨Nat.zero_le _, notp (HO.out.get 1 rfl) (by decide)⟩)⟩) _ _ rfl rfl rfl rfl rfl rfl rfl ?_; clear HO; rintro W5 hO ⟨h5, hp5⟩; have HO := Lib.hid hO; have H5 := Lib.hid h5; have HP5 := Lib.hid hp5; clear hO h5 hp5; simp only [Act.put])
    exact bodyPost_ret (v := .tuple #[.int .i64 _, QV.agg ⟨v.q.m, pa, pc⟩]) (res_own01 1 HO.out tyMs rfl rfl rfl rfl rfl) rfl ⟨pa, pc, rfl, HP5.out, H5.out⟩
set_option maxHeartbeats 8000000 in
/-- One is released. -/
theorem ack_rel (h : OutI w g gp bp bm L last sent) (c : Array Value) (hc : c.size = 26) (k i r : Int) (h0 : c[0]? = some (.int .i64 k)) (h1 : c[1]? = some (.int .i64 i)) (h2 : c[2]? = some (.int .i64 r))
    {v : FV} (hv : v ∈ L) (hvi : v.id = i) (hn : (3 : Int) = ansR (endsOf k) r v.st true) :
    Calls Try.prog 12 #[.pointer (some ⟨g, 0, none⟩), .agg c] w (AckR w 3 v.q.m g gp bp bm (setS i L) last sent) := by
  subst hvi
  have hvi : v.id = v.id := rfl
  have hi : v.id ∈ ids L := List.mem_map.2 ⟨v, hv, hvi⟩
  have hw := wf_id (h.range hi)
  have HO := Lib.hid (Own.start [] w)
  have HH := Lib.hid h
  have HG := Lib.hid (fun W (hb : Below w.heap.size w W) => get_any (h.below hb) v.id hw (v := v) (b := true) (.inl ⟨rfl, hv, hvi⟩))
  have HA := Lib.hid (fun W => ans_any c k r v.st true h0 h2 W)
  rw [← hn] at HA
  have H0 := Lib.hid (And.intro h0 (And.intro h1 h2))
  have HC := Lib.hid hc
  have HLT := Lib.hid h.lts
  have HP := Lib.hid (fun V (hf : Fr [g, gp, bp, bm] w V) => (h.props v hv).1.fr hf (fun b hb => ⟨Nat.zero_le _, h.noprop b hb⟩))
  have HL := Lib.hid (h.props v hv).2
  have HR := Lib.hid (fun W (hb : Below w.heap.size w W) => (remove_any (h.below hb) hi))
  have HCP := Lib.hid (fun V (hp : PIn V 0 v.q.pa v.q.m.props) => copy_any v.q hp HL.out)
  have HV := Lib.hid hv
  clear h h0 h1 h2 hi hv hn hc hw hvi
  unfold FV.agg at HG
  unfold QV.agg at HCP
  go_enter Try.func12, Try.ntmps12
  go_upto_region 1 with (first
    | (refine wpo_box HO.out _ rfl rfl rfl ?_; clear HO; rintro k2 W1 hO; have HO := Lib.hid hO; clear hO; simp only [Act.put, List.setIfInBounds_toArray, List.set_cons_zero, List.set_cons_succ])
    | (refine wpo_alloc tyMs HO.out rfl rfl ?_; clear HO; rintro k3 W1 hO; have HO := Lib.hid hO; clear hO; simp only [Act.put, List.setIfInBounds_toArray, List.set_cons_zero, List.set_cons_succ]))
  have c1 := ((HO.out.get 1 rfl).cell 1).trans H0.out.2.1
  have HG2 := Lib.hid (HG.out _ HO.out.bel)
  go_wp2_with fail
  refine HG2.out.mono ?_
  rintro x V1 ⟨rfl, hb⟩
  have HB := Lib.hid (HO.out.below hb)
  clear HO hb HG2 c1
  have HO := HB
  clear HB
  go_upto_region 2 with (first
    | (refine wpo_alloc tyFt HO.out rfl rfl ?_; clear HO; rintro k4 W2 hO; have HO := Lib.hid hO; clear hO; simp only [Act.put, List.setIfInBounds_toArray, List.set_cons_zero, List.set_cons_succ])
    | (refine wpo_store (k := k4) (c := #[.int .i64 v.id, .int .i64 v.st, .string v.q.m.topic, .string v.q.m.payload, .int .i64 v.q.m.qos, .bool v.q.m.retain, .slice v.q.pa v.q.m.props.length v.q.pc, .string v.q.m.frm, .int .i64 v.q.m.til, .int .i64 v.q.m.seq, .string v.q.m.grp, .int .i64 v.pl]) HO.out 0 tyFt rfl _ _ rfl rfl rfl rfl rfl rfl rfl ?_; clear HO; rintro W3 hO; have HO := Lib.hid hO; clear hO; simp only [Act.put]))
  have c1 := (HO.out.get 0 rfl).cell 1
  have HA2 := Lib.hid (HA.out W3)
  go_wp2_with (refine wpo_load (k := k2) HO.out 2 tyPk rfl HC.out _ rfl rfl rfl ?_; simp only [Act.put, List.setIfInBounds_toArray, List.set_cons_zero, List.set_cons_succ])
  refine HA2.out.mono ?_
  rintro x V2 ⟨rfl, hb⟩
  have HB := Lib.hid (HO.out.below hb)
  clear HO hb HA2 c1
  have HO := HB
  clear HB
  go_upto_region 10 with (refine wpo_cell (k := k4) (v := .int .i64 3) HO.out 0 1 (by kernel_rfl) rfl _ _ rfl rfl rfl rfl (by decide : (1 : Nat) < 12) rfl ?_; clear HO; rintro W6 hO; have HO := Lib.hid hO; clear hO; simp only [Act.put])
  have HK3 := Lib.hid (own_ge HO.out 1 rfl)
  have HB4 := Lib.hid (show Blk W6 k4 77 #[.int .i64 v.id, .int .i64 3, .string v.q.m.topic, .string v.q.m.payload, .int .i64 v.q.m.qos, .bool v.q.m.retain, .slice v.q.pa v.q.m.props.length v.q.pc, .string v.q.m.frm, .int .i64 v.q.m.til, .int .i64 v.q.m.seq, .string v.q.m.grp, .int .i64 v.pl] from HO.out.get 0 rfl)
  have HB2 := Lib.hid (HO.out.get 2 rfl)
  have HG2 := Lib.hid (HO.out.eld HH.out.blk (by simp))
  obtain ⟨W7, hrun7, ho7, hk7⟩ := ((HH.out.below HO.out.bel).below (below_dr (Below.refl _ _))).rel HV.out
  unfold FV.agg at hrun7
  have KT := Lib.hid (fun (W : World) (hg : Blk W g 32 #[.pointer (some ⟨gp, 0, none⟩), .int .i64 sent, .map (some bm)]) (h4 : Blk W k4 77 #[.int .i64 v.id, .int .i64 3, .string v.q.m.topic, .string v.q.m.payload, .int .i64 v.q.m.qos, .bool v.q.m.retain, .slice v.q.pa v.q.m.props.length v.q.pc, .string v.q.m.frm, .int .i64 v.q.m.til, .int .i64 v.q.m.seq, .string v.q.m.grp, .int .i64 v.pl]) (h2 : Blk W k2 49 c) => show W.cell? ⟨g, 2, none⟩ = some (.map (some bm)) ∧ W.cell? ⟨k2, 1, none⟩ = some (.int .i64 v.id) ∧ W.cell? ⟨k4, 0, none⟩ = some (.int .i64 v.id) ∧ W.cell? ⟨k4, 1, none⟩ = some (.int .i64 3) ∧ W.cell? ⟨k4, 2, none⟩ = some (.string v.q.m.topic) ∧ W.cell? ⟨k4, 3, none⟩ = some (.string v.q.m.payload) ∧ W.cell? ⟨k4, 4, none⟩ = some (.int .i64 v.q.m.qos) ∧ W.cell? ⟨k4, 5, none⟩ = some (.bool v.q.m.retain) ∧ W.cell? ⟨k4, 6, none⟩ = some (.slice v.q.pa v.q.m.props.length v.q.pc) ∧ W.cell? ⟨k4, 7, none⟩ = some (.string v.q.m.frm) ∧ W.cell? ⟨k4, 8, none⟩ = some (.int .i64 v.q.m.til) ∧ W.cell? ⟨k4, 9, none⟩ = some (.int .i64 v.q.m.seq) ∧ W.cell? ⟨k4, 10, none⟩ = some (.string v.q.m.grp) ∧ W.cell? ⟨k4, 11, none⟩ = some (.int .i64 v.pl) from ⟨hg.cell 2, (h2.cell 1).trans H0.out.2.1, h4.cell 0, h4.cell 1, h4.cell 2, h4.cell 3, h4.cell 4, h4.cell 5, h4.cell 6, h4.cell 7, h4.cell 8, h4.cell 9, h4.cell 10, h4.cell 11⟩)
  have s7 := KT.out W7 (hk7 _ _ _ (HG2.out.drew)) (hk7 _ _ _ (HB4.out.drew)) (hk7 _ _ _ (HB2.out.drew))
  have s6 := KT.out _ (HG2.out.drew) (HB4.out.drew) (HB2.out.drew)
  obtain ⟨t0, t1, t2, t3, t4, t5, t6, t7, t8, t9, t10, t11, t12, t13⟩ := KT.out W6 HG2.out HB4.out HB2.out
  have H7 := Lib.hid ho7
  clear ho7 hk7 KT
  go_region_held3 (fun W => W.cell? ⟨g, 2, none⟩ = some (.map (some bm)) ∧ W.cell? ⟨k2, 1, none⟩ = some (.int .i64 v.id) ∧ W.cell? ⟨k4, 0, none⟩ = some (.int .i64 v.id) ∧ W.cell? ⟨k4, 1, none⟩ = some (.int .i64 3) ∧ W.cell? ⟨k4, 2, none⟩ = some (.string v.q.m.topic) ∧ W.cell? ⟨k4, 3, none⟩ = some (.string v.q.m.payload) ∧ W.cell? ⟨k4, 4, none⟩ = some (.int .i64 v.q.m.qos) ∧ W.cell? ⟨k4, 5, none⟩ = some (.bool v.q.m.retain) ∧ W.cell? ⟨k4, 6, none⟩ = some (.slice v.q.pa v.q.m.props.length v.q.pc) ∧ W.cell? ⟨k4, 7, none⟩ = some (.string v.q.m.frm) ∧ W.cell? ⟨k4, 8, none⟩ = some (.int .i64 v.q.m.til) ∧ W.cell? ⟨k4, 9, none⟩ = some (.int .i64 v.q.m.seq) ∧ W.cell? ⟨k4, 10, none⟩ = some (.string v.q.m.grp) ∧ W.cell? ⟨k4, 11, none⟩ = some (.int .i64 v.pl))
    (first | assumption | (exact s6) | (exact s7))
    (fail)
  have HB := Lib.hid ((HO.out.drew).went H7.out.2 HLT.out)
  have H3 := Lib.hid (show Out3 w g gp bp bm (setS v.id L) last sent W7 from ⟨H7.out.1, HB.out.fr⟩)
  clear HO H7 HB4 HB2 HG2 s6 s7 t0 t1 t2 t3 t4 t5 t6 t7 t8 t9 t10 t11 t12 t13 hrun7
  have HO := HB
  clear HB
  have m2 := (HO.out.get 0 rfl).cell 2
  have m3 := (HO.out.get 0 rfl).cell 3
  have m4 := (HO.out.get 0 rfl).cell 4
  have m5 := (HO.out.get 0 rfl).cell 5
  have m6 := (HO.out.get 0 rfl).cell 6
  have m7 := (HO.out.get 0 rfl).cell 7
  have m8 := (HO.out.get 0 rfl).cell 8
  have m9 := (HO.out.get 0 rfl).cell 9
  have m10 := (HO.out.get 0 rfl).cell 10
  have HCC := Lib.hid (HCP.out _ (HP.out _ HO.out.fr))
  go_wp2_with fail
  refine HCC.out.mono ?_
  rintro x V4 ⟨pa, pc, rfl, hp4, hb4⟩
  have HB := Lib.hid (HO.out.below hb4)
  have H4 := Lib.hid (H3.out.on HLT.out (Fr.of_below (X := []) hb4) (fun k hk => by cases hk))
  have HP4 := Lib.hid hp4
  clear HO hb4 hp4 HCC H3 m2 m3 m4 m5 m6 m7 m8 m9 m10
  have HO := HB
  clear HB
  unfold QV.agg
  go_wp2_with (refine wpg_store (k := k3) (c := #[.string v.q.m.topic, .string v.q.m.payload, .int .i64 v.q.m.qos, .bool v.q.m.retain, .slice pa v.q.m.props.length pc, .string v.q.m.frm, .int .i64 v.q.m.til, .int .i64 v.q.m.seq, .string v.q.m.grp]) (G := fun W => Out3 w g gp bp bm (setS v.id L) last sent W ∧ PIn W 0 pa v.q.m.props) HO.out 1 tyMs rfl (fun W hf => ⟨H4.out.on HLT.out hf (fun k hk => by
      rw [List.mem_singleton] at hk
      subst hk
      exact ⟨HK3.out, notp (HO.out.get 1 rfl) (by decide)⟩), HP4.out.fr hf (fun k hk => by
      rw [List.mem_singleton] at hk
      subst hk
      exact ⟨Nat.zero_le _, notp (HO.out.get 1 rfl) (by decide)⟩)⟩) _ _ rfl rfl rfl rfl rfl rfl rfl ?_; clear HO; rintro W5 hO ⟨h5, hp5⟩; have HO := Lib.hid hO; have H5 := Lib.hid h5; have HP5 := Lib.hid hp5; clear hO h5 hp5; simp only [Act.put])
  exact bodyPost_ret (v := .tuple #[.int .i64 _, QV.agg ⟨v.q.m, pa, pc⟩]) (res_own01 1 HO.out tyMs rfl rfl rfl rfl rfl) rfl ⟨pa, pc, rfl, HP5.out, H5.out⟩
end
end Go.Proofs.Ytkbinmjbbmejpaa
