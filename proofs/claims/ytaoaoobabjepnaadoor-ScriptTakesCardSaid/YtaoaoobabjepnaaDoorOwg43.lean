/- What is proved here, of whatever program: the laws of Own, with facts beside it that last while only blocks of a call's own change. No conditions but those that each theorem names. -/
import Derived.Test.YtaoaoobabjepnaaDoorRob04
import Derived.Test.YtaoaoobabjepnaaDoorOwn
import Derived.Test.YtaoaoobabjepnaaDoorRtm43
namespace Go.Proofs.YtaoaoobabjepnaaDoor
set_option maxRecDepth 100000
open Go.ChangeShapes Go.WideShapes Go.RowKit Go.Deep Go.Extern.Stop Go.Stop Go.Extern
/-- A fact that lasts while memory grows, and while blocks change that are neither a reader nor a fault. -/
structure Stab (G : World → Prop) : Prop where
  below : ∀ W W', Below W.heap.size W W' → G W → G W'
  store : ∀ W W' k t c, Blk W k t c → t ≠ 77 → t ≠ 87 → t ≠ 44 → Fr [k] W W' → G W → G W'
theorem nof_blk {w : World} {k : Nat} {t : TypeId} {c : Array Value} (h : Blk w k t c) (ht : t ≠ 87) : NoF w [k] := NoF.of fun j hj => by
  rw [List.mem_singleton] at hj
  subst hj
  exact ⟨_, _, h, ht⟩
theorem stab_er (S : Nat → Addr) (q : ER) (e : Value) : Stab (fun W => ErrT W S q e) := ⟨fun _ _ hb h => h.later hb, fun _ _ _ _ _ hB _ h2 _ hf h => err_fr h hf (nof_blk hB h2)⟩
theorem stab_ro (S : Nat → Addr) (g : Nat) (s : ByteArray) (R : RV) : Stab (fun W => RObj W S g s R) := ⟨fun _ _ hb h => h.below hb, fun _ _ k _ _ hB h1 h2 _ hf h => h.fr hf (by
  rw [List.mem_singleton]
  intro e
  subst e
  obtain ⟨_, hb, _⟩ := h.blk
  exact hB.other hb h1 rfl) (nof_blk hB h2)⟩
/-- A row of events that a call has made, wherever it stands. -/
def ERow (w : World) (a : Option Addr) (L : List ET) : Prop := ∃ B c, E4Row w B (.slice a L.length c) L
theorem erow_nil (w : World) (a : Option Addr) (ha : a = none) : ERow w a [] := ⟨0, 0, by rw [ha]; exact E4Row.nil _ _⟩
theorem ERow.rd {w : World} {a : Option Addr} {L : List ET} (h : ERow w a L) : ERd w a L := by
  obtain ⟨_, _, h⟩ := h
  exact h.rd
theorem ERow.below {w w' : World} {a : Option Addr} {L : List ET} (h : ERow w a L) (hb : Below w.heap.size w w') : ERow w' a L := by
  obtain ⟨B, c, h⟩ := h
  exact ⟨B, c, h.below hb⟩
theorem stab_row (a : Option Addr) (L : List ET) : Stab (fun W => ERow W a L) := ⟨fun _ _ hb h => h.below hb, fun _ _ k _ _ hB _ _ h3 hf h => by
  obtain ⟨B, c, h⟩ := h
  refine ⟨B, c, h.fr hf fun j hj hm => ?_⟩
  rw [List.mem_singleton] at hm
  subst hm
  obtain ⟨_, _, cs, hh⟩ := h.lt j hj
  exact hB.other hh h3 rfl⟩
theorem Stab.and {G H : World → Prop} (a : Stab G) (b : Stab H) : Stab (fun W => G W ∧ H W) := ⟨fun W W' hb h => ⟨a.below W W' hb h.1, b.below W W' hb h.2⟩, fun W W' k t c hB h1 h2 h3 hf h => ⟨a.store W W' k t c hB h1 h2 h3 hf h.1, b.store W W' k t c hB h1 h2 h3 hf h.2⟩⟩
section
variable {P : Program} {X : List Nat} {w0 w w' : World} {L : OL} {ops : Array Oper} {rest : List Oper} {op : Oper} {a : Act} {Q : Exit → Act → World → Prop} {z c old : Array Value} {k : Nat} {t : TypeId} {G : World → Prop}
theorem wps_alloc (hG : Stab G) (g0 : G w) (hT : Ty P t z) (hO : Own X w0 w L) (hgd : op.guard = none) (ho : op.op = .alloc t)
    (h : ∀ k W, Own X w0 W ((k, t, z) :: L) → G W → wpList P ops Q rest (a.put op.dst (.pointer (some ⟨k, 0, none⟩))) W) : wpList P ops Q (op :: rest) a w :=
  wpList_plain hgd fun _ hK => by
    unfold Oper.wp execOp
    simp only [ho, Instr.alloc, Sem.run_bind, hT.zv, Result.andThen_ok, newVar, run_newRow, Value.cells, Sem.run_pure]
    exact hK _ _ (h _ _ (hO.alloc t z) (hG.below _ _ ((Below.refl _ _).alloc (Nat.le_refl _) _) g0))
theorem wps_box (hG : Stab G) (g0 : G w) (hO : Own X w0 w L) (x : Operand) (hgd : op.guard = none) (ho : op.op = .box t x) (hx : a.eval x = .agg c)
    (h : ∀ k W, Own X w0 W ((k, t, c) :: L) → G W → wpList P ops Q rest (a.put op.dst (.pointer (some ⟨k, 0, none⟩))) W) : wpList P ops Q (op :: rest) a w :=
  wpList_plain hgd fun _ hK => by
    unfold Oper.wp execOp
    simp only [ho, hx, Instr.box, Sem.run_bind, newVar, run_newRow, Value.cells, Result.andThen_ok, Sem.run_pure]
    exact hK _ _ (h _ _ (hO.alloc t c) (hG.below _ _ ((Below.refl _ _).alloc (Nat.le_refl _) _) g0))
theorem wps_store (hG : Stab G) (g0 : G w) (hO : Own X w0 w L) (i : Nat) (hT : Ty P t z) (hi : L[i]? = some (k, t, old)) (h1t : t ≠ 77) (h2t : t ≠ 87) (h3t : t ≠ 44) (x y : Operand) (hgd : op.guard = none) (ho : op.op = .store t x y)
    (hx : a.eval x = .pointer (some ⟨k, 0, none⟩)) (hy : a.eval y = .agg c) (hold : old.size = z.size) (hc : c.size = z.size) (h1 : c.toList.all (·.oneCell') = true)
    (h : ∀ W, Own X w0 W (L.set i (k, t, c)) → G W → wpList P ops Q rest (a.put op.dst undef) W) : wpList P ops Q (op :: rest) a w :=
  wpList_plain hgd fun _ hK => wp_store_row t x y ho k c hx hy t old (hO.get i hi) (by rw [hc]; exact hT.ip) (by rw [hold, hc]) (by simpa using h1) (hK _ _ (h _ (hO.row i hi c) (hG.store _ _ k t old (hO.get i hi) h1t h2t h3t (fr_setRow w k c) g0)))
theorem wpg_store (hO : Own X w0 w L) (i : Nat) (hT : Ty P t z) (hi : L[i]? = some (k, t, old)) (hG : ∀ W, Fr [k] w W → G W) (x y : Operand) (hgd : op.guard = none) (ho : op.op = .store t x y)
    (hx : a.eval x = .pointer (some ⟨k, 0, none⟩)) (hy : a.eval y = .agg c) (hold : old.size = z.size) (hc : c.size = z.size) (h1 : c.toList.all (·.oneCell') = true)
    (h : ∀ W, Own X w0 W (L.set i (k, t, c)) → G W → wpList P ops Q rest (a.put op.dst undef) W) : wpList P ops Q (op :: rest) a w :=
  wpList_plain hgd fun _ hK => wp_store_row t x y ho k c hx hy t old (hO.get i hi) (by rw [hc]; exact hT.ip) (by rw [hold, hc]) (by simpa using h1) (hK _ _ (h _ (hO.row i hi c) (hG _ (fr_setRow w k c))))
theorem wps_cell (hG : Stab G) (g0 : G w) (hO : Own X w0 w L) (i : Nat) (j : Nat) {ty : TypeId} (hI : (P.info? ty).map (·.size) = some 1) (hi : L[i]? = some (k, t, old)) (h1t : t ≠ 77) (h2t : t ≠ 87) (h3t : t ≠ 44) {v : Value} (x y : Operand) (hgd : op.guard = none) (ho : op.op = .store ty x y)
    (hx : a.eval x = .pointer (some ⟨k, j, none⟩)) (hy : a.eval y = v) (hj : j < old.size) (h1 : v.oneCell' = true)
    (h : ∀ W, Own X w0 W (L.set i (k, t, old.setIfInBounds j v)) → G W → wpList P ops Q rest (a.put op.dst undef) W) : wpList P ops Q (op :: rest) a w :=
  wpList_plain hgd fun _ hK => by
    unfold Oper.wp execOp
    simp only [ho, hx, hy, Instr.storeAt, Instr.sureAddr, Sem.run_bind, Sem.run_pure, Result.andThen_ok, run_store_one (hO.get i hi) j hj hI h1]
    exact hK _ _ (h _ (hO.cell i hi j v) (hG.store _ _ k t old (hO.get i hi) h1t h2t h3t (fr_setCell w k j v) g0))
/-- A struct and what stands in a slot, as results. -/
theorem res_own10 {fn : Func} {tmps : Array Value} {i j h : Nat} {tB : TypeId} {zB cB : Array Value} (n : Nat) (hO : Own X w0 w L) (hTB : Ty P tB zB) (hr : fn.results = #[.cell i tB, .tmp j]) (hi : tmps.getD i undef = .pointer (some ⟨h, 0, none⟩)) {u : Value} (hj : tmps.getD j undef = u)
    (hn : L[n]? = some (h, tB, cB)) (nB : cB.size = zB.size) : (results fn tmps).run P w = .ok (.tuple #[.agg cB, u]) w := by
  subst hj
  have h2 := run_load_own hTB (hO.get n hn) nB
  have hi' : tmps[i]?.getD undef = .pointer (some ⟨h, 0, none⟩) := by simpa using hi
  simp [results, hr, hi', asAddr, h2]
/-- A struct and what stands in two slots, as results. -/
theorem res_own100 {fn : Func} {tmps : Array Value} {i j l h : Nat} {tB : TypeId} {zB cB : Array Value} (n : Nat) (hO : Own X w0 w L) (hTB : Ty P tB zB) (hr : fn.results = #[.cell i tB, .tmp j, .tmp l]) (hi : tmps.getD i undef = .pointer (some ⟨h, 0, none⟩)) {u v : Value} (hj : tmps.getD j undef = u) (hl : tmps.getD l undef = v)
    (hn : L[n]? = some (h, tB, cB)) (nB : cB.size = zB.size) : (results fn tmps).run P w = .ok (.tuple #[.agg cB, u, v]) w := by
  subst hj hl
  have h2 := run_load_own hTB (hO.get n hn) nB
  have hi' : tmps[i]?.getD undef = .pointer (some ⟨h, 0, none⟩) := by simpa using hi
  simp [results, hr, hi', asAddr, h2]
/-- A struct, what stands in a slot, and another struct, as results. -/
theorem res_own101 {fn : Func} {tmps : Array Value} {i j l h h' : Nat} {tB tC : TypeId} {zB cB zC cC : Array Value} (n m : Nat) (hO : Own X w0 w L) (hTB : Ty P tB zB) (hTC : Ty P tC zC) (hr : fn.results = #[.cell i tB, .tmp j, .cell l tC]) (hi : tmps.getD i undef = .pointer (some ⟨h, 0, none⟩)) {u : Value} (hj : tmps.getD j undef = u) (hl : tmps.getD l undef = .pointer (some ⟨h', 0, none⟩))
    (hn : L[n]? = some (h, tB, cB)) (hm : L[m]? = some (h', tC, cC)) (nB : cB.size = zB.size) (nC : cC.size = zC.size) : (results fn tmps).run P w = .ok (.tuple #[.agg cB, u, .agg cC]) w := by
  subst hj
  have h2 := run_load_own hTB (hO.get n hn) nB
  have h3 := run_load_own hTC (hO.get m hm) nC
  have hi' : tmps[i]?.getD undef = .pointer (some ⟨h, 0, none⟩) := by simpa using hi
  have hl' : tmps[l]?.getD undef = .pointer (some ⟨h', 0, none⟩) := by simpa using hl
  simp [results, hr, hi', hl', asAddr, h2, h3]
theorem Own.grown43 {v : Value} {te : TypeId} (h : Own X w0 w L) (hg : w.grownBy w' v.ownBlock) (ht : ∀ k, v.ownBlock = some k → w0.heap.size ≤ k ∧ ∃ cs, w.heap[k]? = some (.cells cs te (0, 0))) (hL : ∀ x ∈ L, x.2.1 ≠ te) : Own X w0 w' L := by
  refine ⟨h.fr.grown hg fun k hk => .inr (ht k hk).1, fun x hx => (h.blk x hx).grown hg fun he => ?_, h.new, h.nd⟩
  obtain ⟨_, cs, hh⟩ := ht _ he.symm
  exact (h.blk x hx).other hh (hL x hx) rfl
theorem Own.frg {S : Nat → Addr} {g : Nat} {s : ByteArray} {R : RV} (h : Own X w0 w L) (ho : RObj w S g s R) (hn : Fr [g] w w') (hg : g ∈ X ∨ w0.heap.size ≤ g) (ht : (L.all fun x => !decide (x.2.1 = 77)) = true) : Own X w0 w' L := by
  rw [List.all_eq_true] at ht
  refine ⟨h.fr.trans hn fun b hb hlt => ?_, fun x hx => (h.blk x hx).fr hn ?_, h.new, h.nd⟩
  · rw [List.mem_singleton] at hb
    subst hb
    rcases hg with hg | hg
    · exact hg
    · omega
  · rw [List.mem_singleton]
    intro e
    obtain ⟨_, hb, _⟩ := ho.blk
    exact (h.blk x hx).other hb (by simpa using ht x hx) e
theorem Own.rnext {S : Nat → Addr} {g : Nat} {s : ByteArray} {R R' : RV} (h : Own X w0 w L) (ho : RObj w S g s R) (hn : RNext w w' S g s R') (hg : g ∈ X ∨ w0.heap.size ≤ g) (ht : (L.all fun x => !decide (x.2.1 = 77)) = true) : Own X w0 w' L := h.frg ho hn.fr hg ht
end
end Go.Proofs.YtaoaoobabjepnaaDoor
