/- What is proved here: what making, storing and loading a whole packet does, as laws for a walk. No conditions but those that each law names. -/
import Derived.Test.YtkbinmjbbmejpaaPkt08
namespace Go.Proofs.Ytkbinmjbbmejpaa
set_option maxRecDepth 100000
open Go.ChangeShapes Go.WideShapes Go.RowKit Go.Deep Go.Extern.Stop Go.Stop Go.Extern
theorem zv_pkt (w : World) : (zeroValue 49).run Try.prog w = .ok (.agg (pk0.cells pa0)) w :=
  (zero_of_info (P := Try.prog) (t := 49) (v := .agg (pk0.cells pa0)) (n := 26) (by kernel_rfl)).1 w
theorem nr_pkt (c : Array Value) (t : TypeId) (w : World) : (newRow t c).run Try.prog w = .ok ⟨w.heap.size, 0, none⟩ (w.alloc (.cells c t)) := by simp [newRow]
section
variable {ops : Array Oper} {rest : List Oper} {op : Oper} {a : Act} {w : World} {Q : Exit → Act → World → Prop} {z c old : Array Value} {k : Nat}
/-- A packet is made. -/
theorem wpk_alloc (hz : z = pk0.cells pa0) (hgd : op.guard = none) (ho : op.op = .alloc 49)
    (h : wpList Try.prog ops Q rest (a.put op.dst (.pointer (some ⟨w.heap.size, 0, none⟩))) (w.alloc (.cells z 49))) : wpList Try.prog ops Q (op :: rest) a w :=
  wpList_plain hgd fun _ hK => by
    subst hz
    unfold Oper.wp execOp
    simp only [ho, Instr.alloc, Sem.run_bind, zv_pkt, Result.andThen_ok, newVar, nr_pkt, Value.cells, Sem.run_pure]
    exact hK _ _ h
theorem wpk_build (hz : z = pk0.cells pa0) (hgd : op.guard = none) (ho : op.op = .build 49 #[])
    (h : wpList Try.prog ops Q rest (a.put op.dst (.agg z)) w) : wpList Try.prog ops Q (op :: rest) a w :=
  wpList_build hgd _ _ ho (by kernel_rfl) (by
    have e : Try.prog.built 49 [] = some (pk0.cells pa0) := by kernel_rfl
    subst hz
    simpa [e] using h)
/-- A packet is stored. -/
theorem wpk_store (hb : Blk w k 49 old) (ho' : old.size = 26) (hs : c.size = 26) (h1 : c.all (·.oneCell') = true) (x y : Operand) (hgd : op.guard = none) (ho : op.op = .store 49 x y)
    (hx : a.eval x = .pointer (some ⟨k, 0, none⟩)) (hy : a.eval y = .agg c)
    (h : wpList Try.prog ops Q rest (a.put op.dst undef) (w.setRow k c)) : wpList Try.prog ops Q (op :: rest) a w :=
  wpList_plain hgd fun _ hK => wp_store_row 49 x y ho k c hx hy 49 old hb (by rw [hs]; exact ip_pkt) (by rw [ho', hs]) h1 (hK _ _ h)
/-- Into the block that was made last. -/
theorem wpk_store_new (ho' : old.size = 26) (hs : c.size = 26) (h1 : c.all (·.oneCell') = true) (x y : Operand) (hgd : op.guard = none) (ho : op.op = .store 49 x y)
    (hx : a.eval x = .pointer (some ⟨w.heap.size, 0, none⟩)) (hy : a.eval y = .agg c)
    (h : wpList Try.prog ops Q rest (a.put op.dst undef) (w.alloc (.cells c 49))) : wpList Try.prog ops Q (op :: rest) a (w.alloc (.cells old 49)) :=
  wpk_store (Blk.made w _ old) ho' hs h1 x y hgd ho hx hy (by rw [World.setRow_alloc_new]; exact h)
/-- A packet is loaded. -/
theorem wpk_load (hb : Blk w k 49 c) (hs : c.size = 26) (x : Operand) (hgd : op.guard = none) (ho : op.op = .load 49 x)
    (hx : a.eval x = .pointer (some ⟨k, 0, none⟩)) (h : wpList Try.prog ops Q rest (a.put op.dst (.agg c)) w) : wpList Try.prog ops Q (op :: rest) a w := by
  have hl := wpList_load_mid (P := Try.prog) (ops := ops) (rest := rest) (op := op) (a := a) (w := w) (Q := Q) hgd 49 x ho k 0 hx c.toList _ (fun j v hv => by
    rw [Nat.zero_add, hb.cell j]
    simpa using hv) Try.underlying49 rfl (by rw [Array.length_toList, hs]; exact ip_pkt)
  refine hl ?_
  simpa using h
/-- A packet that came in is put into a block. -/
theorem wpk_box (_hs : c.size = 26) (x : Operand) (hgd : op.guard = none) (ho : op.op = .box 49 x) (hx : a.eval x = .agg c)
    (h : wpList Try.prog ops Q rest (a.put op.dst (.pointer (some ⟨w.heap.size, 0, none⟩))) (w.alloc (.cells c 49))) : wpList Try.prog ops Q (op :: rest) a w :=
  wpList_plain hgd fun _ hK => by
    unfold Oper.wp execOp
    simp only [ho, hx, Instr.box, Sem.run_bind, newVar, nr_pkt, Value.cells, Result.andThen_ok, Sem.run_pure]
    exact hK _ _ h
end
section
variable {w : World} {k : Nat} {c old : Array Value}
theorem setRow_blk (hb : Blk w k 49 old) (c : Array Value) : Blk (w.setRow k c) k 49 c := by
  unfold Blk at hb ⊢
  simp [World.setRow, Array.getElem?_modify, hb]
theorem setRow_fr (w : World) (k : Nat) (c : Array Value) : Fr [k] w (w.setRow k c) := by
  refine ⟨rfl, rfl, rfl, by simp [World.setRow], fun b hb hn => ?_⟩
  have hne : ¬ k = b := fun e => hn (by rw [e]; exact List.mem_singleton_self _)
  simp [World.setRow, Array.getElem?_modify, hne]
theorem ldv_pkt (hb : Blk w k 49 c) (hs : c.size = 26) : (loadVar 49 ⟨k, 0, none⟩).run Try.prog w = .ok (.agg c) w := by
  have h := run_loadVar_mid (P := Try.prog) w k 0 49 c.toList _ (fun j v hv => by
    rw [Nat.zero_add, hb.cell j]
    simpa using hv) Try.underlying49 rfl (by rw [Array.length_toList, hs]; exact ip_pkt)
  simpa using h
/-- A packet and what stands in a slot, as results. -/
theorem res_pkt {fn : Func} {tmps : Array Value} {i j : Nat} (hr : fn.results = #[.cell i 49, .tmp j]) (hi : tmps.getD i undef = .pointer (some ⟨k, 0, none⟩)) {v : Value} (hj : tmps.getD j undef = v) (hb : Blk w k 49 c) (hs : c.size = 26) :
    (results fn tmps).run Try.prog w = .ok (.tuple #[.agg c, v]) w := by
  subst hj
  have h := ldv_pkt hb hs
  have hi' : tmps[i]?.getD undef = .pointer (some ⟨k, 0, none⟩) := by simpa using hi
  simp [results, hr, hi', asAddr, h]
/-- A packet alone. -/
theorem res_pkt1 {fn : Func} {tmps : Array Value} {i : Nat} (hr : fn.results = #[.cell i 49]) (hi : tmps.getD i undef = .pointer (some ⟨k, 0, none⟩)) (hb : Blk w k 49 c) (hs : c.size = 26) :
    (results fn tmps).run Try.prog w = .ok (.agg c) w := by
  have h := ldv_pkt hb hs
  have hi' : tmps[i]?.getD undef = .pointer (some ⟨k, 0, none⟩) := by simpa using hi
  simp [results, hr, hi', asAddr, h]
theorem one_set {c : Array Value} (h : c.all (·.oneCell') = true) (i : Nat) (u : Value) (hu : u.oneCell' = true) : (c.setIfInBounds i u).all (·.oneCell') = true := by
  rw [Array.all_eq_true_iff_forall_mem] at *
  intro v hv
  rcases Array.mem_or_eq_of_mem_setIfInBounds hv with h1 | h1
  · exact h v h1
  · rw [h1]; exact hu
theorem ldc_pkt (hb : Blk w k 49 c) (hs : c.size = 26) : (loadCellsFrom ⟨k, 0, none⟩ 0 26 #[]).run Try.prog w = .ok c w := ld_pktc w k c hs ⟨_, hb⟩
variable {B : Nat} {A : Option Addr} {L : PL}
theorem PIn.row (h : PIn w B A L) (hb : Blk w k 49 old) (hB : B ≤ k) (c : Array Value) : PIn (w.setRow k c) B A L :=
  h.fr (setRow_fr w k c) fun g hg => by
    rw [List.mem_singleton] at hg
    subst hg
    exact ⟨hB, fun cs hc => hb.other hc (by decide) rfl⟩
theorem PIn.cell (h : PIn w B A L) (hb : Blk w k 49 old) (hB : B ≤ k) (i : Nat) (u : Value) : PIn (w.setCell ⟨k, i, none⟩ u) B A L :=
  h.fr ((Fr.refl [k] w).setCell (p := (⟨k, i, none⟩ : Addr)) (.inl (List.mem_singleton_self k)) u) fun g hg => by
    rw [List.mem_singleton] at hg
    subst hg
    exact ⟨hB, fun cs hc => hb.other hc (by decide) rfl⟩
theorem below_row {w0 : World} (h : Below w0.heap.size w0 w) (hB : w0.heap.size ≤ k) (c : Array Value) : Below w0.heap.size w0 (w.setRow k c) :=
  (setRow_fr w k c).later h (fun b hm => by rw [List.mem_singleton] at hm; omega) h.size
end
end Go.Proofs.Ytkbinmjbbmejpaa
