/- What is proved here: queues of messages: pushing, the first one, cutting it off, popping, how many there are. Conditions: the queue and the messages are there; few of them. -/
import Derived.Test.YtcfbfnlbdkgfkaaMsgF
import Derived.Test.YtcfbfnlbdkgfkaaRegT
import Derived.Deep.RegionHeld3
import Derived.Deep.AppendLies
import Derived.Deep.QuietTactic
import Derived.BigQuiet
namespace Go.Proofs.Ytcfbfnlbdkgfkaa
open Go.RowKit Go.Extern.Stop Go.Stop Go.Extern
set_option maxRecDepth 100000
section
variable {w w' : World} {B : Nat} {v : Value} {L : QL} {q : QV}
/-- One message more, at a step of a region that draws its order. -/
theorem step_append_q {ops : Array Oper} {o : Oper} {a : Act} {K : Act → World → Prop} {Q : Exit → Act → World → Prop} {E : Prop} (hgd : o.guard = none) (s x : Operand) (ho : o.op = .call { callee := .builtin .append, args := #[s, x], argTypes := #[53, 53] })
    (v : Value) (L : QL) (q : QV) (hs : a.eval s = v) (h : QRow w B v L) (hB : B ≤ w.heap.size) (hl : L.length ≤ 1000) (ad : Addr) (c : Nat) (hx : a.eval x = .slice (some ad) 1 c) (hq : ∀ i, i < 9 → w.cell? (ad.add i) = q.cells[i]?)
    (hk : ∀ a' c' w', QRow w' B (.slice a' (L.length + 1) c') (L ++ [q]) → w.grownBy w' v.ownBlock → ((Value.slice a' (L.length + 1) c').ownBlock = v.ownBlock ∨ ∃ k, (Value.slice a' (L.length + 1) c').ownBlock = some k ∧ w.heap.size ≤ k) → K (a.put o.dst (.slice a' (L.length + 1) c')) w') :
    if Region.wanted o (yielded ops a.tmps) = true then Oper.wp Try.prog o a w K Q else E := by
  have hw : Region.wanted o (yielded ops a.tmps) = true := by simp [Region.wanted, hgd]
  rw [if_pos hw]
  obtain ⟨v', w', hr, hrow, hg, hat⟩ := h.push (ty := o.type) (q := q) Try.underlying53 hB hl hq c
  obtain ⟨a', c', rfl⟩ := hrow.form
  have hlen : (L ++ [q]).length = L.length + 1 := by simp
  rw [hlen] at hr hrow hat
  exact Lib.wp_append_run w s x 53 53 ho v _ hs hx _ w' hr (hk a' c' w' hrow hg hat)
end
/-- A queue. -/
structure QObj (w : World) (B g : Nat) (most : Int) (v : Value) (L : QL) : Prop where
  low : B ≤ g
  blk : Blk w g 80 #[.int .i64 most, v]
  row : QRow w B v L
  ms : ∀ q ∈ L, PIn w B q.pa q.m.props
/-- What an act leaves. -/
structure QNext (w w' : World) (B g : Nat) (most : Int) (v v' : Value) (L' : QL) : Prop where
  obj : QObj w' B g most v' L'
  fr : Fr (g :: v.ownBlock.toList) w w'
  own : ∀ k, v'.ownBlock = some k → v.ownBlock = some k ∨ w.heap.size ≤ k
section
variable {X : List Nat} {w w' : World} {B g : Nat} {most : Int} {v : Value} {L : QL} {q : QV}
theorem QObj.ne (h : QObj w B g most v L) {k : Nat} (hk : v.ownBlock = some k) : g ≠ k := by
  obtain ⟨_, _, cs, hh⟩ := h.row.lt k hk
  exact h.blk.other hh (by decide)
theorem own_list {v : Value} {k : Nat} : k ∈ v.ownBlock.toList ↔ v.ownBlock = some k := by
  cases hv : v.ownBlock <;> simp [eq_comm]
theorem QObj.fr (h : QObj w B g most v L) (hf : Fr X w w') (hg : g ∉ X) (hv : ∀ k, v.ownBlock = some k → k ∉ X) (hX : ∀ k ∈ X, B ≤ k ∧ ∀ cs, w.heap[k]? ≠ some (.cells cs 114 (0, 0))) : QObj w' B g most v L :=
  ⟨h.low, h.blk.fr hf hg, h.row.fr hf hv, fun q hq => (h.ms q hq).fr hf hX⟩
theorem QObj.below (h : QObj w B g most v L) (hb : Below w.heap.size w w') : QObj w' B g most v L := h.fr (X := []) (Fr.of_below hb) (by simp) (by simp) (by simp)
theorem QObj.drewN (h : QObj w B g most v L) (d : Nat) : QObj (w.drewN d) B g most v L := h.below (below_drewN (Below.refl _ _) d)
theorem QObj.step (h : QObj w B g most v L) (hb : Below w.heap.size w w') : QNext w w' B g most v v L := ⟨h.below hb, Fr.of_below hb, fun _ hk => .inl hk⟩
/-- What is a queue's, or its row's, holds no properties. -/
theorem QObj.own_ok (h : QObj w B g most v L) : ∀ k ∈ g :: v.ownBlock.toList, B ≤ k ∧ ∀ cs, w.heap[k]? ≠ some (.cells cs 114 (0, 0)) := by
  intro k hk
  rcases List.mem_cons.1 hk with rfl | hk
  · refine ⟨h.low, fun cs hh => h.blk.other hh (by decide) rfl⟩
  · obtain ⟨h1, _, cs', hh'⟩ := h.row.lt k (own_list.1 hk)
    refine ⟨h1, fun cs hh => ?_⟩
    rw [hh'] at hh
    injection hh with hh
    injection hh with _ ht
    exact absurd ht (by decide)
theorem QObj.form (h : QObj w B g most v L) : ∃ a c, v = .slice a L.length c := h.row.form
theorem QObj.size (h : QObj w B g most v L) : B ≤ w.heap.size := Nat.le_trans h.low (Nat.le_of_lt h.blk.lt)
theorem qnew_any (n : Int) (w : World) : Calls Try.prog 35 #[.int .i64 n] w fun x w' => x = .returned (.pointer (some ⟨w.heap.size, 0, none⟩)) ∧ w' = w.alloc (.cells #[.int .i64 n, .slice none 0 0] 80) := by
  go_enter Try.func35, Try.ntmps35
  go_wp2_with fail
  go_ret
  exact ⟨rfl, rfl⟩
theorem QObj.made (w : World) (n : Int) (hB : B ≤ w.heap.size) : QObj (w.alloc (.cells #[.int .i64 n, .slice none 0 0] 80)) B w.heap.size n (.slice none 0 0) [] :=
  ⟨hB, Blk.made w _ _, QRow.nil _ _, fun q hq => by cases hq⟩
theorem qlen_any (h : QObj w B g most v L) : Calls Try.prog 44 #[.pointer (some ⟨g, 0, none⟩)] w fun x w' => x = .returned (.int .i64 L.length) ∧ w = w' := by
  obtain ⟨a, c, rfl⟩ := h.form
  have c1 : w.cell? ⟨g, 1, none⟩ = some (.slice a L.length c) := h.blk.cell 1
  clear h
  go_enter Try.func44, Try.ntmps44
  go_wp2_with fail
  go_ret
  exact ⟨rfl, rfl⟩
def PushSays (w : World) (B g : Nat) (most : Int) (v : Value) (L : QL) (q : QV) (x : Ending) (w' : World) : Prop :=
  x = .returned (.bool true) ∧ ∃ pa pc v', QNext w w' B g most v v' (L ++ [⟨q.m, pa, pc⟩])
theorem push_full (h : QObj w B g most v L) (q : QV) (hroom : most ≤ (L.length : Int)) :
    Calls Try.prog 36 #[.pointer (some ⟨g, 0, none⟩), q.agg] w fun x w' => x = .returned (.bool false) ∧ Below w.heap.size w w' := by
  have hb0 : Below w.heap.size w (w.alloc (.cells q.cells.toArray 36)) := (Below.refl _ _).alloc (Nat.le_refl _) _
  obtain ⟨a, c, rfl⟩ := h.form
  have h2 := h.below hb0
  have HB := Lib.hid (fun d => below_drewN hb0 d)
  have c0 : (w.alloc (.cells q.cells.toArray 36)).cell? ⟨g, 0, none⟩ = some (.int .i64 most) := h2.blk.cell 0
  have c1 : (w.alloc (.cells q.cells.toArray 36)).cell? ⟨g, 1, none⟩ = some (.slice a L.length c) := h2.blk.cell 1
  clear h h2 hb0
  unfold QV.agg
  unfold QV.cells at *
  obtain ⟨⟨m1, m2, m3, m4, ml, m6, m7, m8, m9⟩, pa, pc⟩ := q
  dsimp only at *
  go_enter Try.func36, Try.ntmps36
  go_wp2_with fail
  go_quiet (fail)
  go_wp2_with fail
  go_ret
  exact ⟨rfl, HB.out _⟩
/-- The world of a push: the queue, and the message in a block of its own. -/
structure PuInv (w W : World) (B g : Nat) (most : Int) (v : Value) (L : QL) (bx : Nat) (q : QV) : Prop where
  obj : QObj W B g most v L
  box : Blk W bx 36 q.cells.toArray
  pin : PIn W B q.pa q.m.props
  bel : Below w.heap.size w W
theorem PuInv.below {bx : Nat} {W W' : World} (h : PuInv w W B g most v L bx q) (hb : Below W.heap.size W W') : PuInv w W' B g most v L bx q :=
  ⟨h.obj.below hb, h.box.below hb h.box.lt, h.pin.below hb, h.bel.trans (hb.mono h.bel.size)⟩
theorem PuInv.drewN {bx : Nat} {W : World} (h : PuInv w W B g most v L bx q) (d : Nat) : PuInv w (W.drewN d) B g most v L bx q := h.below (below_drewN (Below.refl _ _) d)
theorem PuInv.alloc {bx : Nat} {W : World} (h : PuInv w W B g most v L bx q) (o : Obj) : PuInv w (W.alloc o) B g most v L bx q := h.below ((Below.refl _ _).alloc (Nat.le_refl _) o)
/-- What the push's own region leaves. -/
theorem push_next {a' : Option Addr} {c' bx : Nat} {W W3 : World} {q' : QV} (h : PuInv w W B g most v L bx q) (hq : PIn W B q'.pa q'.m.props) (hrow : QRow W3 B (.slice a' (L.length + 1) c') (L ++ [q']))
    (hg : W.grownBy W3 v.ownBlock) (hat : (Value.slice a' (L.length + 1) c').ownBlock = v.ownBlock ∨ ∃ k, (Value.slice a' (L.length + 1) c').ownBlock = some k ∧ W.heap.size ≤ k) (hbx : some bx ≠ v.ownBlock) :
    Blk W3 bx 36 q.cells.toArray ∧ W3.cell? ⟨g, 1, none⟩ = some v ∧ W3.frozen? ⟨g, 1, none⟩ = false ∧ QNext w (W3.setCell ⟨g, 1, none⟩ (.slice a' (L.length + 1) c')) B g most v (.slice a' (L.length + 1) c') (L ++ [q']) := by
  have hne := fun k hk => h.obj.ne (k := k) hk
  have hfar : some g ≠ v.ownBlock := fun e => hne g e.symm rfl
  have hb3 : Blk W3 g 80 #[.int .i64 most, v] := h.obj.blk.grown hg hfar
  have hf : Fr v.ownBlock.toList W W3 := (Fr.refl _ W).grown hg (fun k hk => .inl (own_list.2 hk))
  have hX : ∀ k ∈ v.ownBlock.toList, B ≤ k ∧ ∀ cs, W.heap[k]? ≠ some (.cells cs 114 (0, 0)) := fun k hk => h.obj.own_ok k (List.mem_cons_of_mem _ hk)
  have hg3 : ∀ k ∈ [g], B ≤ k ∧ ∀ cs, W3.heap[k]? ≠ some (.cells cs 114 (0, 0)) := fun k hk => by
    rw [List.mem_singleton] at hk
    subst hk
    exact ⟨h.obj.low, fun cs hh => hb3.other hh (by decide) rfl⟩
  have hgn : ∀ k, (Value.slice a' (L.length + 1) c').ownBlock = some k → k ∉ [g] := fun k hk hm => by
    rw [List.mem_singleton] at hm
    subst hm
    rcases hat with e | ⟨k2, e, hk2⟩
    · exact hne k (e.symm.trans hk) rfl
    · rw [e] at hk
      have := h.obj.blk.lt
      have := Option.some.inj hk
      omega
  have hfs : Fr [g] W3 (W3.setCell ⟨g, 1, none⟩ (.slice a' (L.length + 1) c')) := (Fr.refl [g] W3).setCell (p := ⟨g, 1, none⟩) (.inl (List.mem_singleton_self g)) _
  refine ⟨h.box.grown hg hbx, hb3.cell 1, hb3.frozen 1, ⟨h.obj.low, hb3.store 1 _, hrow.fr hfs hgn, fun q2 hq2 => ?_⟩, ?_, fun k hk => ?_⟩
  · refine PIn.fr ?_ hfs hg3
    rcases List.mem_append.1 hq2 with hm | hm
    · exact (h.obj.ms q2 hm).fr hf hX
    · rw [List.mem_singleton] at hm
      subst hm
      exact hq.fr hf hX
  · refine ((Fr.of_below h.bel).trans hf (Y := v.ownBlock.toList) (fun k hk _ => List.mem_cons_of_mem g hk)).setCell (.inl (List.mem_cons_self ..)) _
  · rcases hat with e | ⟨k2, e, hk2⟩
    · exact .inl (e.symm.trans hk)
    · rw [e] at hk
      obtain rfl := Option.some.inj hk
      exact .inr (Nat.le_trans h.bel.size hk2)
theorem box_cells {W : World} {bx : Nat} {q : QV} (h : Blk W bx 36 q.cells.toArray) : W.cell? ⟨bx, 0, none⟩ = some (.string q.m.topic) ∧ W.cell? ⟨bx, 1, none⟩ = some (.string q.m.payload) ∧ W.cell? ⟨bx, 2, none⟩ = some (.int .i64 q.m.qos) ∧ W.cell? ⟨bx, 3, none⟩ = some (.bool q.m.retain) ∧ W.cell? ⟨bx, 4, none⟩ = some (.slice q.pa q.m.props.length q.pc) ∧ W.cell? ⟨bx, 5, none⟩ = some (.string q.m.frm) ∧ W.cell? ⟨bx, 6, none⟩ = some (.int .i64 q.m.til) ∧ W.cell? ⟨bx, 7, none⟩ = some (.int .i64 q.m.seq) ∧ W.cell? ⟨bx, 8, none⟩ = some (.string q.m.grp) :=
  ⟨h.cell 0, h.cell 1, h.cell 2, h.cell 3, h.cell 4, h.cell 5, h.cell 6, h.cell 7, h.cell 8⟩
theorem news_q (W : World) (q : QV) : ∀ i, i < 9 → (W.alloc (.cells q.cells.toArray 36)).cell? ((⟨W.heap.size, 0, none⟩ : Addr).add i) = q.cells[i]? := by
  intro i hi
  rw [Addr.add_lit, Nat.zero_add, (Blk.made W 36 q.cells.toArray).cell i, List.getElem?_toArray]
theorem bset_below {W : World} {p : Addr} {u : Value} (h : Below w.heap.size w W) (hp : w.heap.size ≤ p.block) : Below w.heap.size w (W.setCell p u) := h.setCell hp u
set_option maxHeartbeats 1000000 in
theorem push_room (h : QObj w B g most v L) (q : QV) (hq : PIn w B q.pa q.m.props) (hm : q.m.props.length ≤ 1000) (hl : L.length ≤ 900) (hroom : (L.length : Int) < most) :
    Calls Try.prog 36 #[.pointer (some ⟨g, 0, none⟩), q.agg] w (PushSays w B g most v L q) := by
  have hb0 : Below w.heap.size w (w.alloc (.cells q.cells.toArray 36)) := (Below.refl _ _).alloc (Nat.le_refl _) _
  obtain ⟨a, c, rfl⟩ := h.form
  have h2 : PuInv w (w.alloc (.cells q.cells.toArray 36)) B g most (.slice a L.length c) L w.heap.size q := ⟨h.below hb0, Blk.made w _ _, hq.below hb0, hb0⟩
  have HI := Lib.hid (fun d => h2.drewN d)
  have c0 : (w.alloc (.cells q.cells.toArray 36)).cell? ⟨g, 0, none⟩ = some (.int .i64 most) := h2.obj.blk.cell 0
  have c1 : (w.alloc (.cells q.cells.toArray 36)).cell? ⟨g, 1, none⟩ = some (.slice a L.length c) := h2.obj.blk.cell 1
  have D51 := Lib.hid (fun W (hi : PuInv w W B g most (.slice a L.length c) L w.heap.size q) => (copy_any q hi.pin hm).mono fun x w' ⟨pa, pc, he, hp, hb⟩ =>
    show ∃ pa pc, x = Ending.returned (QV.agg ⟨q.m, pa, pc⟩) ∧ PIn w' 0 pa q.m.props ∧ PuInv w w' B g most (.slice a L.length c) L w.heap.size q from ⟨pa, pc, he, hp, hi.below hb⟩)
  have KS := Lib.hid (fun W (hi : PuInv w W B g most (.slice a L.length c) L w.heap.size q) => show W.cell? ⟨g, 1, none⟩ = some (.slice a L.length c) ∧ W.cell? ⟨w.heap.size, 0, none⟩ = some (.string q.m.topic) ∧ W.cell? ⟨w.heap.size, 1, none⟩ = some (.string q.m.payload) ∧ W.cell? ⟨w.heap.size, 2, none⟩ = some (.int .i64 q.m.qos) ∧ W.cell? ⟨w.heap.size, 3, none⟩ = some (.bool q.m.retain) ∧ W.cell? ⟨w.heap.size, 4, none⟩ = some (.slice q.pa q.m.props.length q.pc) ∧ W.cell? ⟨w.heap.size, 5, none⟩ = some (.string q.m.frm) ∧ W.cell? ⟨w.heap.size, 6, none⟩ = some (.int .i64 q.m.til) ∧ W.cell? ⟨w.heap.size, 7, none⟩ = some (.int .i64 q.m.seq) ∧ W.cell? ⟨w.heap.size, 8, none⟩ = some (.string q.m.grp) from
    ⟨hi.obj.blk.cell 1, hi.box.cell 0, hi.box.cell 1, hi.box.cell 2, hi.box.cell 3, hi.box.cell 4, hi.box.cell 5, hi.box.cell 6, hi.box.cell 7, hi.box.cell 8⟩)
  have hbx : some w.heap.size ≠ (Value.slice a L.length c).ownBlock := fun e => by
    have := (h.row.lt _ e.symm).2.1
    omega
  have HN := Lib.hid (fun (pa : Option Addr) (pc : Nat) (a' : Option Addr) (c' : Nat) (W W3 : World) (h0 : PuInv w W B g most (.slice a L.length c) L w.heap.size q) (h1 : PIn W B pa q.m.props) h2 h3 h4 => push_next (q' := ⟨q.m, pa, pc⟩) (a' := a') (c' := c') (W3 := W3) h0 h1 h2 h3 h4 hbx)
  have hsz := h2.obj.size
  have hlz : L.length ≤ 1000 := by omega
  clear h h2 hb0 hq hl hbx
  unfold QV.cells at c0 c1 HI
  unfold QV.agg at *
  go_enter Try.func36, Try.ntmps36
  go_wp2_with fail
  go_quiet (fail)
  go_upto_region 3 with fail
  generalize hw5 : World.drewN _ _ = w5
  have hi0 : PuInv w w5 B g most (.slice a L.length c) L w.heap.size q := by rw [← hw5]; exact HI.out _
  clear hw5 c0 c1 HI
  obtain ⟨s0, s1, s2, s3, s4, s5, s6, s7, s8, s9⟩ := KS.out _ hi0
  refine wp_region_T (fun W => W.cell? ⟨g, 1, none⟩ = some (.slice a L.length c) ∧ W.cell? ⟨w.heap.size, 0, none⟩ = some (.string q.m.topic) ∧ W.cell? ⟨w.heap.size, 1, none⟩ = some (.string q.m.payload) ∧ W.cell? ⟨w.heap.size, 2, none⟩ = some (.int .i64 q.m.qos) ∧ W.cell? ⟨w.heap.size, 3, none⟩ = some (.bool q.m.retain) ∧ W.cell? ⟨w.heap.size, 4, none⟩ = some (.slice q.pa q.m.props.length q.pc) ∧ W.cell? ⟨w.heap.size, 5, none⟩ = some (.string q.m.frm) ∧ W.cell? ⟨w.heap.size, 6, none⟩ = some (.int .i64 q.m.til) ∧ W.cell? ⟨w.heap.size, 7, none⟩ = some (.int .i64 q.m.seq) ∧ W.cell? ⟨w.heap.size, 8, none⟩ = some (.string q.m.grp)) 11 (by kernel_rfl) ?_ (fun hHeld => ?_)
  · (first | assumption | exact KS.out _ (by assumption) | exact KS.out _ (PuInv.drewN (by assumption) 1) | exact KS.out _ (PuInv.alloc (by assumption) _))
  refine wpAnyT_take (i := 0) (oi := { dst := some 19, op := Op.move (Operand.tmp 0), type := 74, pos := _, after := _, guard := none }) (v := ?_) rfl (by kernel_rfl) (by kernel_rfl) (by kernel_rfl) (by kernel_rfl) (fun _ _ _ h => h) (Or.inl ⟨by rfl, ?_⟩) (by assumption) ?_
  rotate_left
  · (intro w hSw; (try dsimp only at hSw); go_simp; (try with_reducible rfl))
  (try simp only [Act.put, List.setIfInBounds_toArray, List.set_cons_zero, List.set_cons_succ])
  refine wpAnyT_take (i := 1) (oi := { dst := some 20, op := Op.move (Operand.tmp 0), type := 74, pos := _, after := _, guard := none }) (v := ?_) rfl (by kernel_rfl) (by kernel_rfl) (by kernel_rfl) (by kernel_rfl) (fun _ _ _ h => h) (Or.inl ⟨by rfl, ?_⟩) (by assumption) ?_
  rotate_left
  · (intro w hSw; (try dsimp only at hSw); go_simp; (try with_reducible rfl))
  (try simp only [Act.put, List.setIfInBounds_toArray, List.set_cons_zero, List.set_cons_succ])
  refine wpAnyT_take (i := 2) (oi := { dst := some 21, op := Op.nilCheck (Operand.tmp 20), type := 0, pos := _, after := _, guard := none }) (v := ?_) rfl (by kernel_rfl) (by kernel_rfl) (by kernel_rfl) (by kernel_rfl) (fun _ _ _ h => h) (Or.inl ⟨by rfl, ?_⟩) (by assumption) ?_
  rotate_left
  · (intro w hSw; (try dsimp only at hSw); go_simp; (try with_reducible rfl))
  (try simp only [Act.put, List.setIfInBounds_toArray, List.set_cons_zero, List.set_cons_succ])
  refine wpAnyT_take (i := 3) (oi := { dst := some 22, op := Op.fieldAddr 80 (Operand.tmp 21) 1, type := 0, pos := _, after := _, guard := none }) (v := ?_) rfl (by kernel_rfl) (by kernel_rfl) (by kernel_rfl) (by kernel_rfl) (fun _ _ _ h => h) (Or.inl ⟨by rfl, ?_⟩) (by assumption) ?_
  rotate_left
  · (intro w hSw; (try dsimp only at hSw); go_simp; (try with_reducible rfl))
  (try simp only [Act.put, List.setIfInBounds_toArray, List.set_cons_zero, List.set_cons_succ])
  refine wpAnyT_take (i := 4) (oi := { dst := some 23, op := Op.load 53 (Operand.tmp 22), type := 53, pos := _, after := _, guard := none }) (v := ?_) rfl (by kernel_rfl) (by kernel_rfl) (by kernel_rfl) (by kernel_rfl) (fun _ _ _ h => h) (Or.inl ⟨by rfl, ?_⟩) (by assumption) ?_
  rotate_left
  · (intro w hSw; (try dsimp only at hSw); go_simp; (try with_reducible rfl))
  (try simp only [Act.put, List.setIfInBounds_toArray, List.set_cons_zero, List.set_cons_succ])
  refine wpAnyT_take (i := 5) (oi := { dst := some 24, op := Op.load 36 (Operand.tmp 3), type := 36, pos := _, after := _, guard := none }) (v := ?_) rfl (by kernel_rfl) (by kernel_rfl) (by kernel_rfl) (by kernel_rfl) (fun _ _ _ h => h) (Or.inl ⟨by rfl, ?_⟩) (by assumption) ?_
  rotate_left
  · (intro w hSw; (try dsimp only at hSw); go_simp; (try with_reducible rfl))
  (try simp only [Act.put, List.setIfInBounds_toArray, List.set_cons_zero, List.set_cons_succ])
  refine wpAnyT_one (i := 6) (o := { dst := some 25, op := Op.call { callee := Callee.value (Operand.func 51), args := #[Operand.tmp 24], argTypes := #[36] }, type := 36, pos := _, after := _, guard := none }) (by kernel_rfl) rfl (fun K hK => ?_)
  go_simp
  refine (D51.out _ (PuInv.drewN (by assumption) 1)).mono ?_
  rintro x w6 ⟨pa6, pc6, rfl, hp6, hi6⟩
  go_wp2_with fail
  refine hK.out _ _ (fun _ => ?_) (fun hH1 => ?_)
  · (first | assumption | exact KS.out _ (by assumption) | exact KS.out _ (PuInv.drewN (by assumption) 1) | exact KS.out _ (PuInv.alloc (by assumption) _))
  have hHeld1 := hH1 (by decide)
  clear hK K hH1
  (try simp only [Act.put, List.setIfInBounds_toArray, List.set_cons_zero, List.set_cons_succ])
  refine wpAnyT_one (i := 7) (o := { dst := some 26, op := Op.buildSlice 53 1 #[(0, Operand.tmp 25)], type := 53, pos := _, after := _, guard := none }) (by kernel_rfl) rfl (fun K hK => ?_)
  go_simp
  refine hK.out _ _ (fun _ => ?_) (fun hH2 => ?_)
  · (first | assumption | exact KS.out _ (by assumption) | exact KS.out _ (PuInv.drewN (by assumption) 1) | exact KS.out _ (PuInv.alloc (by assumption) _))
  have hHeld2 := hH2 (by decide)
  clear hK K hH2
  (try simp only [Act.put, List.setIfInBounds_toArray, List.set_cons_zero, List.set_cons_succ])
  refine wpAnyT_one (i := 8) (o := { dst := some 27, op := Op.call { callee := Callee.builtin Builtin.append, args := #[Operand.tmp 23, Operand.tmp 26], argTypes := #[53, 53] }, type := 53, pos := _, after := _, guard := none }) (by kernel_rfl) rfl (fun K hK => ?_)
  refine step_append_q (by rfl) _ _ (by rfl) (.slice a L.length c) L ⟨q.m, pa6, pc6⟩ (by rfl) (hi6.alloc _).obj.row (hi6.alloc _).obj.size hlz ⟨w6.heap.size, 0, none⟩ 1 (by rfl) (news_q w6 ⟨q.m, pa6, pc6⟩) ?_
  intro a7 c7 w7 hrow7 hg7 hat7
  have hx := HN.out pa6 pc6 a7 c7 _ w7 (hi6.alloc _) ((hp6.alloc _).mono (Nat.zero_le _)) hrow7 hg7 hat7
  have y0 := hx.2.1
  have y1 := hx.2.2.1
  have HNX := Lib.hid hx.2.2.2
  have hs7 := And.intro y0 (box_cells hx.1)
  clear hx
  refine hK.out _ _ (fun _ => ?_) (fun hH3 => ?_)
  · (first | assumption | exact KS.out _ (by assumption) | exact KS.out _ (PuInv.drewN (by assumption) 1) | exact KS.out _ (PuInv.alloc (by assumption) _))
  have hHeld3 := hH3 (by decide)
  clear hK K hH3
  (try simp only [Act.put, List.setIfInBounds_toArray, List.set_cons_zero, List.set_cons_succ])
  refine wpAnyT_one (i := 9) (o := { dst := some 28, op := Op.nilCheck (Operand.tmp 19), type := 0, pos := _, after := _, guard := none }) (by kernel_rfl) rfl (fun K hK => ?_)
  go_simp
  refine hK.out _ _ (fun _ => ?_) (fun hH4 => ?_)
  · (first | assumption | exact KS.out _ (by assumption) | exact KS.out _ (PuInv.drewN (by assumption) 1) | exact KS.out _ (PuInv.alloc (by assumption) _))
  have hHeld4 := hH4 (by decide)
  clear hK K hH4
  (try simp only [Act.put, List.setIfInBounds_toArray, List.set_cons_zero, List.set_cons_succ])
  refine wpAnyT_one (i := 10) (o := { dst := some 29, op := Op.fieldAddr 80 (Operand.tmp 28) 1, type := 0, pos := _, after := _, guard := none }) (by kernel_rfl) rfl (fun K hK => ?_)
  go_simp
  refine hK.out _ _ (fun _ => ?_) (fun hH5 => ?_)
  · (first | assumption | exact KS.out _ (by assumption) | exact KS.out _ (PuInv.drewN (by assumption) 1) | exact KS.out _ (PuInv.alloc (by assumption) _))
  have hHeld5 := hH5 (by decide)
  clear hK K hH5
  (try simp only [Act.put, List.setIfInBounds_toArray, List.set_cons_zero, List.set_cons_succ])
  refine wpAnyT_one (i := 11) (o := { dst := none, op := Op.store 53 (Operand.tmp 29) (Operand.tmp 27), type := 0, pos := _, after := _, guard := none }) (by kernel_rfl) rfl (fun K hK => ?_)
  go_simp
  refine hK.out _ _ (fun h => absurd rfl h) (fun _ => ?_)
  clear hK K
  (try simp only [Act.put, List.setIfInBounds_toArray, List.set_cons_zero, List.set_cons_succ])
  refine wpAnyT_done (by kernel_rfl) ?_ _
  go_wp2_with fail
  go_ret
  exact ⟨rfl, pa6, pc6, _, HNX.out⟩
end
end Go.Proofs.Ytcfbfnlbdkgfkaa
