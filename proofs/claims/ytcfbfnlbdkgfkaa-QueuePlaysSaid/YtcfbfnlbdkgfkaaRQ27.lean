/- What is proved here: the document's own queues: pushing, popping, the first one. Conditions: the queue and the messages are there; few of them. -/
import Derived.Test.YtcfbfnlbdkgfkaaNob27
namespace Go.Proofs.Ytcfbfnlbdkgfkaa
open Go.RowKit Go.Extern.Stop Go.Stop Go.Extern
set_option maxRecDepth 100000
/-- A queue of the document. -/
structure RQObj (w : World) (B g : Nat) (most : Int) (v : Value) (L : QL) : Prop where
  low : B ≤ g
  blk : Blk w g 78 #[.int .i64 most, v]
  row : QRow w B v L
  ms : ∀ q ∈ L, PIn w B q.pa q.m.props
structure RQNext (w w' : World) (B g : Nat) (most : Int) (v v' : Value) (L' : QL) : Prop where
  obj : RQObj w' B g most v' L'
  fr : Fr (g :: v.ownBlock.toList) w w'
  own : ∀ k, v'.ownBlock = some k → v.ownBlock = some k ∨ w.heap.size ≤ k
section
variable {X : List Nat} {w w' : World} {B g : Nat} {most : Int} {v v' : Value} {L L' : QL} {q : QV}
theorem RQObj.ne (h : RQObj w B g most v L) {k : Nat} (hk : v.ownBlock = some k) : g ≠ k := by
  obtain ⟨_, _, cs, hh⟩ := h.row.lt k hk
  exact h.blk.other hh (by decide)
theorem RQObj.fr (h : RQObj w B g most v L) (hf : Fr X w w') (hg : g ∉ X) (hv : ∀ k, v.ownBlock = some k → k ∉ X) (hX : ∀ k ∈ X, B ≤ k ∧ ∀ cs, w.heap[k]? ≠ some (.cells cs 114 (0, 0))) : RQObj w' B g most v L :=
  ⟨h.low, h.blk.fr hf hg, h.row.fr hf hv, fun q hq => (h.ms q hq).fr hf hX⟩
theorem RQObj.below (h : RQObj w B g most v L) (hb : Below w.heap.size w w') : RQObj w' B g most v L := h.fr (X := []) (Fr.of_below hb) (by simp) (by simp) (by simp)
theorem RQObj.step (h : RQObj w B g most v L) (hb : Below w.heap.size w w') : RQNext w w' B g most v v L := ⟨h.below hb, Fr.of_below hb, fun _ hk => .inl hk⟩
theorem RQObj.own_ok (h : RQObj w B g most v L) : ∀ k ∈ g :: v.ownBlock.toList, B ≤ k ∧ ∀ cs, w.heap[k]? ≠ some (.cells cs 114 (0, 0)) := by
  intro k hk
  rcases List.mem_cons.1 hk with rfl | hk
  · refine ⟨h.low, fun cs hh => h.blk.other hh (by decide) rfl⟩
  · obtain ⟨h1, _, cs', hh'⟩ := h.row.lt k (own_list.1 hk)
    refine ⟨h1, fun cs hh => ?_⟩
    rw [hh'] at hh
    injection hh with hh
    injection hh with _ ht
    exact absurd ht (by decide)
theorem RQObj.form (h : RQObj w B g most v L) : ∃ a c, v = .slice a L.length c := h.row.form
theorem RQObj.size (h : RQObj w B g most v L) : B ≤ w.heap.size := Nat.le_trans h.low (Nat.le_of_lt h.blk.lt)
theorem RQNext.trans {w1 : World} {v1 v2 : Value} {L1 L2 : QL} (h : RQNext w w1 B g most v v1 L1) (h2 : RQNext w1 w' B g most v1 v2 L2) : RQNext w w' B g most v v2 L2 := by
  refine ⟨h2.obj, h.fr.trans h2.fr fun b hb hlt => ?_, fun k hk => ?_⟩
  · rcases List.mem_cons.1 hb with rfl | hb
    · exact List.mem_cons_self ..
    · rcases h.own b (own_list.1 hb) with e | e
      · exact List.mem_cons_of_mem _ (own_list.2 e)
      · omega
  · rcases h2.own k hk with e | e
    · exact h.own k e
    · exact .inr (Nat.le_trans h.fr.size e)
theorem RQNext.below {v1 : Value} {L1 : QL} {w1 : World} (h : RQNext w w1 B g most v v1 L1) (hb : Below w1.heap.size w1 w') : RQNext w w' B g most v v1 L1 := h.trans (h.obj.step hb)
/-- Behind the store of the new list. -/
theorem rq_next {W : World} {v' : Value} (h : RQObj w B g most v L) (hf : Fr v.ownBlock.toList w W) (hrow : QRow W B v' L') (hown : ∀ k, v'.ownBlock = some k → v.ownBlock = some k ∨ w.heap.size ≤ k) (hms : ∀ q ∈ L', PIn W B q.pa q.m.props) :
    RQNext w (W.setCell ⟨g, 1, none⟩ v') B g most v v' L' ∧ W.cell? ⟨g, 1, none⟩ = some v ∧ W.frozen? ⟨g, 1, none⟩ = false := by
  have hgn : g ∉ v.ownBlock.toList := fun hm => h.ne (own_list.1 hm) rfl
  have hb1 := h.blk.fr hf hgn
  have hfs : Fr [g] W (W.setCell ⟨g, 1, none⟩ v') := (Fr.refl [g] W).setCell (p := ⟨g, 1, none⟩) (.inl (List.mem_singleton_self g)) _
  have hown2 : ∀ k ∈ [g], B ≤ k ∧ ∀ cs, W.heap[k]? ≠ some (.cells cs 114 (0, 0)) := fun k hk => by
    rw [List.mem_singleton] at hk
    subst hk
    exact ⟨h.low, fun cs hh => hb1.other hh (by decide) rfl⟩
  refine ⟨⟨⟨h.low, hb1.store 1 _, hrow.fr hfs (fun k hk hm => ?_), fun q2 hq2 => (hms q2 hq2).fr hfs hown2⟩, ?_, hown⟩, hb1.cell 1, hb1.frozen 1⟩
  · rw [List.mem_singleton] at hm
    subst hm
    rcases hown _ hk with e | e
    · exact h.ne e rfl
    · have := h.blk.lt
      omega
  · exact (hf.mono (Y := g :: v.ownBlock.toList) (fun b hb _ => List.mem_cons_of_mem _ hb)).setCell (.inl (List.mem_cons_self ..)) _
theorem RQNext.put {W : World} {r : Nat} {cs : Array Value} (h : RQNext w W B g most v v' L) (hB : B ≤ r) (hz : Blk W r 36 cs) (hr : g ≠ r) (hv : v'.ownBlock ≠ some r) (hw : w.heap.size ≤ r) (u0 u1 u2 u3 u4 u5 u6 u7 u8 : Value) : RQNext w (put9 W r u0 u1 u2 u3 u4 u5 u6 u7 u8) B g most v v' L := by
  have hf := put9_fr W r u0 u1 u2 u3 u4 u5 u6 u7 u8
  refine ⟨h.obj.fr hf (by simpa using hr) (fun k hk hm => ?_) (fun k hk => ?_), h.fr.trans hf (fun b hb hlt => ?_), h.own⟩
  · rw [List.mem_singleton] at hm
    exact hv (by rw [hk, hm])
  · rw [List.mem_singleton] at hk
    subst hk
    exact ⟨hB, fun cs hh => hz.other hh (by decide) rfl⟩
  · rw [List.mem_singleton] at hb
    omega
/-- A row cut ahead of one of its elements. -/
theorem QRow.back {gr off n cap k : Nat} (h : QRow w B (.slice (some ⟨gr, off, none⟩) n cap) L) (hk : k ≤ L.length) :
    (k < cap → QRow w B (.slice (some ⟨gr, off + k * 9, none⟩) (n - k) (cap - k)) (L.drop k)) ∧ (k = cap → QRow w B (.slice (some ⟨gr, off, none⟩) (n - k) (cap - k)) (L.drop k)) ∧ n = L.length ∧ n ≤ cap ∧ cap ≤ maxLen := by
  rcases h with ⟨e, _⟩ | ⟨g2, off2, cap2, cur, e, hB, hh, h1, h2, h3, h4⟩
  · cases e
  · injection e with ha hn hc
    injection ha with ha
    injection ha with hg ho
    subst hg ho hn hc
    have hl : (L.drop k).length = L.length - k := List.length_drop
    refine ⟨fun hc => .inr ⟨gr, off + k * 9, cap - k, cur, by rw [hl], hB, hh, by omega, by omega, by omega, fun j hj => ?_⟩, fun hc => .inr ⟨gr, off, cap - k, cur, by rw [hl], hB, hh, by omega, by omega, by omega, fun j hj => ?_⟩, rfl, h1, h2⟩
    · rw [hl] at hj
      have hk9 : j % 9 < 9 := by omega
      rw [show off + k * 9 + j = off + ((k + j / 9) * 9 + j % 9) by omega, h4 _ (by omega), qcs_get L (k + j / 9) (j % 9) (by omega) hk9, show (qcs (L.drop k))[j]? = (qcs (L.drop k))[j / 9 * 9 + j % 9]? by congr 1; omega, qcs_get (L.drop k) (j / 9) (j % 9) (by rw [hl]; omega) hk9]
      have hg : (L.drop k).getD (j / 9) q0 = L.getD (k + j / 9) q0 := by rw [List.getD_eq_getElem?_getD, List.getD_eq_getElem?_getD, List.getElem?_drop]
      rw [hg]
    · rw [hl] at hj
      omega
theorem rpush_full (h : RQObj w B g most v L) (q : QV) (hroom : most ≤ (L.length : Int)) :
    Calls Try.prog 37 #[.pointer (some ⟨g, 0, none⟩), q.agg] w fun x w' => x = .returned (.bool false) ∧ Below w.heap.size w w' := by
  have hb0 : Below w.heap.size w (w.alloc (.cells q.cells.toArray 36)) := (Below.refl _ _).alloc (Nat.le_refl _) _
  obtain ⟨a, c, rfl⟩ := h.form
  have h2 := h.below hb0
  have HB := Lib.hid (fun d => below_drewN hb0 d)
  have c0 : (w.alloc (.cells q.cells.toArray 36)).cell? ⟨g, 0, none⟩ = some (.int .i64 most) := h2.blk.cell 0
  have c1 : (w.alloc (.cells q.cells.toArray 36)).cell? ⟨g, 1, none⟩ = some (.slice a L.length c) := h2.blk.cell 1
  clear h h2 hb0
  unfold QV.agg
  unfold QV.cells at *
  go_enter Try.func37, Try.ntmps37
  go_wp2_with fail
  go_quiet (fail)
  go_wp2_with fail
  go_ret
  exact ⟨rfl, HB.out _⟩
def RPushSays (w : World) (B g : Nat) (most : Int) (v : Value) (L : QL) (x : Ending) (w' : World) : Prop := x = .returned (.bool true) ∧ ∃ v', RQNext w w' B g most v v' L
/-- The world of a push. -/
structure RPInv (w W : World) (B g : Nat) (most : Int) (v : Value) (L : QL) (bx : Nat) (q : QV) : Prop where
  obj : RQObj W B g most v L
  box : Blk W bx 36 q.cells.toArray
  pin : PIn W B q.pa q.m.props
  bel : Below w.heap.size w W
theorem RPInv.below {bx : Nat} {W W' : World} (h : RPInv w W B g most v L bx q) (hb : Below W.heap.size W W') : RPInv w W' B g most v L bx q :=
  ⟨h.obj.below hb, h.box.below hb h.box.lt, h.pin.below hb, h.bel.trans (hb.mono h.bel.size)⟩
theorem RPInv.drewN {bx : Nat} {W : World} (h : RPInv w W B g most v L bx q) (d : Nat) : RPInv w (W.drewN d) B g most v L bx q := h.below (below_drewN (Below.refl _ _) d)
theorem RPInv.alloc {bx : Nat} {W : World} (h : RPInv w W B g most v L bx q) (o : Obj) : RPInv w (W.alloc o) B g most v L bx q := h.below ((Below.refl _ _).alloc (Nat.le_refl _) o)
theorem rpush_next {a' : Option Addr} {c' bx : Nat} {W W3 : World} (h : RPInv w W B g most v L bx q) (hrow : QRow W3 B (.slice a' (L.length + 1) c') (L ++ [q]))
    (hg : W.grownBy W3 v.ownBlock) (hat : (Value.slice a' (L.length + 1) c').ownBlock = v.ownBlock ∨ ∃ k, (Value.slice a' (L.length + 1) c').ownBlock = some k ∧ W.heap.size ≤ k) (hbx : some bx ≠ v.ownBlock) :
    Blk W3 bx 36 q.cells.toArray ∧ W3.cell? ⟨g, 1, none⟩ = some v ∧ W3.frozen? ⟨g, 1, none⟩ = false ∧ ∀ v0, RQObj w B g most v0 L → v0 = v → RQNext w (W3.setCell ⟨g, 1, none⟩ (.slice a' (L.length + 1) c')) B g most v (.slice a' (L.length + 1) c') (L ++ [q]) := by
  have hf : Fr v.ownBlock.toList W W3 := (Fr.refl _ W).grown hg (fun k hk => .inl (own_list.2 hk))
  have hX : ∀ k ∈ v.ownBlock.toList, B ≤ k ∧ ∀ cs, W.heap[k]? ≠ some (.cells cs 114 (0, 0)) := fun k hk => h.obj.own_ok k (List.mem_cons_of_mem _ hk)
  obtain ⟨hn, y0, y1⟩ := rq_next (v' := .slice a' (L.length + 1) c') h.obj hf hrow (fun k hk => by
    rcases hat with e | ⟨k2, e, hk2⟩
    · exact .inl (e.symm.trans hk)
    · rw [e] at hk
      obtain rfl := Option.some.inj hk
      exact .inr hk2) (fun q2 hq2 => by
    rcases List.mem_append.1 hq2 with hm | hm
    · exact (h.obj.ms q2 hm).fr hf hX
    · rw [List.mem_singleton] at hm
      subst hm
      exact h.pin.fr hf hX)
  exact ⟨h.box.grown hg hbx, y0, y1, fun v0 h0 e => by subst e; exact (h0.step h.bel).trans hn⟩
set_option maxHeartbeats 1000000 in
theorem rpush_room (h : RQObj w B g most v L) (q : QV) (hq : PIn w B q.pa q.m.props) (hl : L.length ≤ 900) (hroom : (L.length : Int) < most) :
    Calls Try.prog 37 #[.pointer (some ⟨g, 0, none⟩), q.agg] w (RPushSays w B g most v (L ++ [q])) := by
  have hb0 : Below w.heap.size w (w.alloc (.cells q.cells.toArray 36)) := (Below.refl _ _).alloc (Nat.le_refl _) _
  obtain ⟨a, c, rfl⟩ := h.form
  have h2 : RPInv w (w.alloc (.cells q.cells.toArray 36)) B g most (.slice a L.length c) L w.heap.size q := ⟨h.below hb0, Blk.made w _ _, hq.below hb0, hb0⟩
  have HI := Lib.hid (fun d => h2.drewN d)
  have HO := Lib.hid h
  have c0 : (w.alloc (.cells q.cells.toArray 36)).cell? ⟨g, 0, none⟩ = some (.int .i64 most) := h2.obj.blk.cell 0
  have c1 : (w.alloc (.cells q.cells.toArray 36)).cell? ⟨g, 1, none⟩ = some (.slice a L.length c) := h2.obj.blk.cell 1
  have KS := Lib.hid (fun W (hi : RPInv w W B g most (.slice a L.length c) L w.heap.size q) => show W.cell? ⟨g, 1, none⟩ = some (.slice a L.length c) ∧ W.cell? ⟨w.heap.size, 0, none⟩ = some (.string q.m.topic) ∧ W.cell? ⟨w.heap.size, 1, none⟩ = some (.string q.m.payload) ∧ W.cell? ⟨w.heap.size, 2, none⟩ = some (.int .i64 q.m.qos) ∧ W.cell? ⟨w.heap.size, 3, none⟩ = some (.bool q.m.retain) ∧ W.cell? ⟨w.heap.size, 4, none⟩ = some (.slice q.pa q.m.props.length q.pc) ∧ W.cell? ⟨w.heap.size, 5, none⟩ = some (.string q.m.frm) ∧ W.cell? ⟨w.heap.size, 6, none⟩ = some (.int .i64 q.m.til) ∧ W.cell? ⟨w.heap.size, 7, none⟩ = some (.int .i64 q.m.seq) ∧ W.cell? ⟨w.heap.size, 8, none⟩ = some (.string q.m.grp) from
    ⟨hi.obj.blk.cell 1, hi.box.cell 0, hi.box.cell 1, hi.box.cell 2, hi.box.cell 3, hi.box.cell 4, hi.box.cell 5, hi.box.cell 6, hi.box.cell 7, hi.box.cell 8⟩)
  have hbx : some w.heap.size ≠ (Value.slice a L.length c).ownBlock := fun e => by
    have := (h.row.lt _ e.symm).2.1
    omega
  have HN := Lib.hid (fun (a' : Option Addr) (c' : Nat) (W W3 : World) (h0 : RPInv w W B g most (.slice a L.length c) L w.heap.size q) h2 h3 h4 => rpush_next (a' := a') (c' := c') (W3 := W3) h0 h2 h3 h4 hbx)
  have hlz : L.length ≤ 1000 := by omega
  clear h h2 hb0 hq hl hbx
  unfold QV.cells at c0 c1 HI
  unfold QV.agg
  go_enter Try.func37, Try.ntmps37
  go_wp2_with fail
  go_quiet (fail)
  go_upto_region 3 with fail
  generalize hw5 : World.drewN _ _ = w5
  have hi0 : RPInv w w5 B g most (.slice a L.length c) L w.heap.size q := by rw [← hw5]; exact HI.out _
  clear hw5 c0 c1 HI
  obtain ⟨s0, s1, s2, s3, s4, s5, s6, s7, s8, s9⟩ := KS.out _ hi0
  refine wp_region_T (fun W => W.cell? ⟨g, 1, none⟩ = some (.slice a L.length c) ∧ W.cell? ⟨w.heap.size, 0, none⟩ = some (.string q.m.topic) ∧ W.cell? ⟨w.heap.size, 1, none⟩ = some (.string q.m.payload) ∧ W.cell? ⟨w.heap.size, 2, none⟩ = some (.int .i64 q.m.qos) ∧ W.cell? ⟨w.heap.size, 3, none⟩ = some (.bool q.m.retain) ∧ W.cell? ⟨w.heap.size, 4, none⟩ = some (.slice q.pa q.m.props.length q.pc) ∧ W.cell? ⟨w.heap.size, 5, none⟩ = some (.string q.m.frm) ∧ W.cell? ⟨w.heap.size, 6, none⟩ = some (.int .i64 q.m.til) ∧ W.cell? ⟨w.heap.size, 7, none⟩ = some (.int .i64 q.m.seq) ∧ W.cell? ⟨w.heap.size, 8, none⟩ = some (.string q.m.grp)) 10 (by kernel_rfl) ?_ (fun hHeld => ?_)
  · (first | assumption | exact KS.out _ (by assumption) | exact KS.out _ (RPInv.drewN (by assumption) 1) | exact KS.out _ (RPInv.alloc (RPInv.drewN (by assumption) 1) _))
  refine wpAnyT_take (i := 0) (oi := { dst := some 15, op := Op.move (Operand.tmp 0), type := 76, pos := _, after := _, guard := none }) (v := ?_) rfl (by kernel_rfl) (by kernel_rfl) (by kernel_rfl) (by kernel_rfl) (fun _ _ _ h => h) (Or.inl ⟨by rfl, ?_⟩) (by assumption) ?_
  rotate_left
  · (intro w hSw; (try dsimp only at hSw); go_simp; (try with_reducible rfl))
  (try simp only [Act.put, List.setIfInBounds_toArray, List.set_cons_zero, List.set_cons_succ])
  refine wpAnyT_take (i := 1) (oi := { dst := some 16, op := Op.move (Operand.tmp 0), type := 76, pos := _, after := _, guard := none }) (v := ?_) rfl (by kernel_rfl) (by kernel_rfl) (by kernel_rfl) (by kernel_rfl) (fun _ _ _ h => h) (Or.inl ⟨by rfl, ?_⟩) (by assumption) ?_
  rotate_left
  · (intro w hSw; (try dsimp only at hSw); go_simp; (try with_reducible rfl))
  (try simp only [Act.put, List.setIfInBounds_toArray, List.set_cons_zero, List.set_cons_succ])
  refine wpAnyT_take (i := 2) (oi := { dst := some 17, op := Op.nilCheck (Operand.tmp 16), type := 0, pos := _, after := _, guard := none }) (v := ?_) rfl (by kernel_rfl) (by kernel_rfl) (by kernel_rfl) (by kernel_rfl) (fun _ _ _ h => h) (Or.inl ⟨by rfl, ?_⟩) (by assumption) ?_
  rotate_left
  · (intro w hSw; (try dsimp only at hSw); go_simp; (try with_reducible rfl))
  (try simp only [Act.put, List.setIfInBounds_toArray, List.set_cons_zero, List.set_cons_succ])
  refine wpAnyT_take (i := 3) (oi := { dst := some 18, op := Op.fieldAddr 78 (Operand.tmp 17) 1, type := 0, pos := _, after := _, guard := none }) (v := ?_) rfl (by kernel_rfl) (by kernel_rfl) (by kernel_rfl) (by kernel_rfl) (fun _ _ _ h => h) (Or.inl ⟨by rfl, ?_⟩) (by assumption) ?_
  rotate_left
  · (intro w hSw; (try dsimp only at hSw); go_simp; (try with_reducible rfl))
  (try simp only [Act.put, List.setIfInBounds_toArray, List.set_cons_zero, List.set_cons_succ])
  refine wpAnyT_take (i := 4) (oi := { dst := some 19, op := Op.load 53 (Operand.tmp 18), type := 53, pos := _, after := _, guard := none }) (v := ?_) rfl (by kernel_rfl) (by kernel_rfl) (by kernel_rfl) (by kernel_rfl) (fun _ _ _ h => h) (Or.inl ⟨by rfl, ?_⟩) (by assumption) ?_
  rotate_left
  · (intro w hSw; (try dsimp only at hSw); go_simp; (try with_reducible rfl))
  (try simp only [Act.put, List.setIfInBounds_toArray, List.set_cons_zero, List.set_cons_succ])
  refine wpAnyT_take (i := 5) (oi := { dst := some 20, op := Op.load 36 (Operand.tmp 3), type := 36, pos := _, after := _, guard := none }) (v := ?_) rfl (by kernel_rfl) (by kernel_rfl) (by kernel_rfl) (by kernel_rfl) (fun _ _ _ h => h) (Or.inl ⟨by rfl, ?_⟩) (by assumption) ?_
  rotate_left
  · (intro w hSw; (try dsimp only at hSw); go_simp; (try with_reducible rfl))
  (try simp only [Act.put, List.setIfInBounds_toArray, List.set_cons_zero, List.set_cons_succ])
  refine wpAnyT_one (i := 6) (o := { dst := some 21, op := Op.buildSlice 53 1 #[(0, Operand.tmp 20)], type := 53, pos := _, after := _, guard := none }) (by kernel_rfl) rfl (fun K hK => ?_)
  go_simp
  refine hK.out _ _ (fun _ => ?_) (fun hH1 => ?_)
  · (first | assumption | exact KS.out _ (by assumption) | exact KS.out _ (RPInv.drewN (by assumption) 1) | exact KS.out _ (RPInv.alloc (RPInv.drewN (by assumption) 1) _))
  have hHeld1 := hH1 (by decide)
  clear hK K hH1
  (try simp only [Act.put, List.setIfInBounds_toArray, List.set_cons_zero, List.set_cons_succ])
  refine wpAnyT_one (i := 7) (o := { dst := some 22, op := Op.call { callee := Callee.builtin Builtin.append, args := #[Operand.tmp 19, Operand.tmp 21], argTypes := #[53, 53] }, type := 53, pos := _, after := _, guard := none }) (by kernel_rfl) rfl (fun K hK => ?_)
  refine step_append_q (by rfl) _ _ (by rfl) (.slice a L.length c) L q (by rfl) ((hi0.drewN 1).alloc _).obj.row ((hi0.drewN 1).alloc _).obj.size hlz ⟨w5.heap.size, 0, none⟩ 1 (by rfl) (news_q (w5.drewN 1) q) ?_
  intro a7 c7 w7 hrow7 hg7 hat7
  have hx := HN.out a7 c7 _ w7 ((hi0.drewN 1).alloc _) hrow7 hg7 hat7
  have y0 := hx.2.1
  have y1 := hx.2.2.1
  have HNX := Lib.hid (hx.2.2.2 _ HO.out rfl)
  have hs7 := And.intro y0 (box_cells hx.1)
  clear hx
  refine hK.out _ _ (fun _ => ?_) (fun hH2 => ?_)
  · (first | assumption | exact KS.out _ (by assumption) | exact KS.out _ (RPInv.drewN (by assumption) 1) | exact KS.out _ (RPInv.alloc (RPInv.drewN (by assumption) 1) _))
  have hHeld2 := hH2 (by decide)
  clear hK K hH2
  (try simp only [Act.put, List.setIfInBounds_toArray, List.set_cons_zero, List.set_cons_succ])
  refine wpAnyT_one (i := 8) (o := { dst := some 23, op := Op.nilCheck (Operand.tmp 15), type := 0, pos := _, after := _, guard := none }) (by kernel_rfl) rfl (fun K hK => ?_)
  go_simp
  refine hK.out _ _ (fun _ => ?_) (fun hH3 => ?_)
  · (first | assumption | exact KS.out _ (by assumption) | exact KS.out _ (RPInv.drewN (by assumption) 1) | exact KS.out _ (RPInv.alloc (RPInv.drewN (by assumption) 1) _))
  have hHeld3 := hH3 (by decide)
  clear hK K hH3
  (try simp only [Act.put, List.setIfInBounds_toArray, List.set_cons_zero, List.set_cons_succ])
  refine wpAnyT_one (i := 9) (o := { dst := some 24, op := Op.fieldAddr 78 (Operand.tmp 23) 1, type := 0, pos := _, after := _, guard := none }) (by kernel_rfl) rfl (fun K hK => ?_)
  go_simp
  refine hK.out _ _ (fun _ => ?_) (fun hH4 => ?_)
  · (first | assumption | exact KS.out _ (by assumption) | exact KS.out _ (RPInv.drewN (by assumption) 1) | exact KS.out _ (RPInv.alloc (RPInv.drewN (by assumption) 1) _))
  have hHeld4 := hH4 (by decide)
  clear hK K hH4
  (try simp only [Act.put, List.setIfInBounds_toArray, List.set_cons_zero, List.set_cons_succ])
  refine wpAnyT_one (i := 10) (o := { dst := none, op := Op.store 53 (Operand.tmp 24) (Operand.tmp 22), type := 0, pos := _, after := _, guard := none }) (by kernel_rfl) rfl (fun K hK => ?_)
  go_simp
  refine hK.out _ _ (fun h => absurd rfl h) (fun _ => ?_)
  clear hK K
  (try simp only [Act.put, List.setIfInBounds_toArray, List.set_cons_zero, List.set_cons_succ])
  refine wpAnyT_done (by kernel_rfl) ?_ _
  go_wp2_with fail
  go_ret
  exact ⟨rfl, _, HNX.out⟩
end
end Go.Proofs.Ytcfbfnlbdkgfkaa
