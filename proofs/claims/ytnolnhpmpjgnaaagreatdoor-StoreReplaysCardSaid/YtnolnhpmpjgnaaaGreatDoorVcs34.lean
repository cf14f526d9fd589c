/- What is proved here, of whatever program: the blocks that a call has made (and a few elder ones), each known whole, as a list; and what making, building, storing and loading does to that list, as laws for a walk behind which the world is a letter again. No conditions but those that each theorem names. What is proved here, of whatever program: a statement of values, one call, values and one store, in whatever order. No conditions but those that it names. -/
import Derived.Test.YtnolnhpmpjgnaaaGreatDoorPrp
import Derived.Deep.MidRow
import Derived.Deep.WholeRow
import Derived.Deep.RegionHeld3
namespace Go.Proofs.YtnolnhpmpjgnaaaGreatDoor
set_option maxRecDepth 100000
open Go.ChangeShapes Go.WideShapes Go.RowKit Go.Deep
abbrev OL := List (Nat × TypeId × Array Value)
/-- Since w0 nothing has changed but the blocks of X; the blocks of L are known whole, and are different. -/
structure Own (X : List Nat) (w0 w : World) (L : OL) : Prop where
  fr : Fr X w0 w
  blk : ∀ x ∈ L, Blk w x.1 x.2.1 x.2.2
  new : ∀ x ∈ L, x.1 ∈ X ∨ w0.heap.size ≤ x.1
  nd : (L.map (·.1)).Nodup
section
variable {X : List Nat} {w0 w w' : World} {L : OL} {k : Nat} {t : TypeId} {c old : Array Value}
theorem Own.start (X : List Nat) (w : World) : Own X w w [] := ⟨Fr.refl _ _, fun _ h => (by cases h), fun _ h => (by cases h), List.nodup_nil⟩
theorem Own.get (h : Own X w0 w L) (i : Nat) (hi : L[i]? = some (k, t, c)) : Blk w k t c := h.blk _ (List.mem_of_getElem? hi)
theorem Own.bel (h : Own [] w0 w L) : Below w0.heap.size w0 w := h.fr.below (fun _ hb => (by cases hb)) (Nat.le_refl _)
theorem Own.size (h : Own X w0 w L) : w0.heap.size ≤ w.heap.size := h.fr.size
theorem Own.below (h : Own X w0 w L) (hb : Below w.heap.size w w') : Own X w0 w' L :=
  ⟨h.fr.then (Fr.of_below hb), fun x hx => (h.blk x hx).below hb (h.blk x hx).lt, h.new, h.nd⟩
theorem Own.drew (h : Own X w0 w L) : Own X w0 w.drew L := ⟨h.fr.drew, fun x hx => (h.blk x hx).drew, h.new, h.nd⟩
theorem Own.drewN (h : Own X w0 w L) (n : Nat) : Own X w0 (w.drewN n) L := ⟨h.fr.drewN n, fun x hx => (h.blk x hx).drewN n, h.new, h.nd⟩
theorem Own.alloc (h : Own X w0 w L) (t : TypeId) (c : Array Value) : Own X w0 (w.alloc (.cells c t)) ((w.heap.size, t, c) :: L) := by
  refine ⟨h.fr.alloc _, fun x hx => ?_, fun x hx => ?_, ?_⟩
  · rcases List.mem_cons.1 hx with rfl | hx
    · exact Blk.made w t c
    · exact (h.blk x hx).alloc _
  · rcases List.mem_cons.1 hx with rfl | hx
    · exact .inr h.size
    · exact h.new x hx
  · rw [List.map_cons, List.nodup_cons]
    refine ⟨fun hm => ?_, h.nd⟩
    obtain ⟨x, hx, he⟩ := List.mem_map.1 hm
    have := (h.blk x hx).lt
    omega
/-- A block is there that is elder, and may change. -/
theorem Own.elder (h : Own X w0 w L) (hb : Blk w k t c) (hk : k ∈ X) (hn : ∀ x ∈ L, x.1 ≠ k) : Own X w0 w ((k, t, c) :: L) := by
  refine ⟨h.fr, fun x hx => ?_, fun x hx => ?_, ?_⟩
  · rcases List.mem_cons.1 hx with rfl | hx
    · exact hb
    · exact h.blk x hx
  · rcases List.mem_cons.1 hx with rfl | hx
    · exact .inl hk
    · exact h.new x hx
  · rw [List.map_cons, List.nodup_cons]
    refine ⟨fun hm => ?_, h.nd⟩
    obtain ⟨x, hx, he⟩ := List.mem_map.1 hm
    exact hn x hx he
theorem Own.drop (h : Own X w0 w L) (i : Nat) : Own X w0 w (L.eraseIdx i) :=
  ⟨h.fr, fun x hx => h.blk x (List.mem_of_mem_eraseIdx hx), fun x hx => h.new x (List.mem_of_mem_eraseIdx hx), h.nd.sublist ((List.eraseIdx_sublist L i).map _)⟩
theorem own_apart {i j : Nat} {x y : Nat × TypeId × Array Value} (h : Own X w0 w L) (hi : L[i]? = some x) (hj : L[j]? = some y) (hij : i ≠ j) : x.1 ≠ y.1 := by
  intro he
  have h1 : (L.map (·.1))[i]? = some x.1 := by rw [List.getElem?_map, hi]; rfl
  have h2 : (L.map (·.1))[j]? = some y.1 := by rw [List.getElem?_map, hj]; rfl
  have hl : i < (L.map (·.1)).length := (List.getElem?_eq_some_iff.1 h1).1
  rw [he] at h1
  exact hij ((List.getElem?_inj hl h.nd).1 (h1.trans h2.symm))
/-- One of the blocks changes. -/
theorem Own.put (h : Own X w0 w L) (i : Nat) (hi : L[i]? = some (k, t, old)) (hf : Fr [k] w w') (hc : Blk w' k t c) : Own X w0 w' (L.set i (k, t, c)) := by
  have hil : i < L.length := (List.getElem?_eq_some_iff.1 hi).1
  refine ⟨h.fr.trans hf fun b hb hlt => ?_, fun x hx => ?_, fun x hx => ?_, ?_⟩
  · rw [List.mem_singleton] at hb
    subst hb
    rcases h.new _ (List.mem_of_getElem? hi) with h1 | h1
    · exact h1
    · exact absurd h1 (by simp only; omega)
  · obtain ⟨j, hj⟩ := List.getElem?_of_mem hx
    by_cases hij : i = j
    · subst hij
      rw [List.getElem?_set_self hil] at hj
      obtain rfl := Option.some.inj hj
      exact hc
    · rw [List.getElem?_set_ne hij] at hj
      have hne := own_apart h hi hj hij
      exact (h.get (k := x.1) (t := x.2.1) (c := x.2.2) j hj).fr hf (by rw [List.mem_singleton]; exact fun e => hne e.symm)
  · rcases List.mem_or_eq_of_mem_set hx with h1 | h1
    · exact h.new x h1
    · subst h1
      exact h.new (k, t, old) (List.mem_of_getElem? hi)
  · have e : (L.set i (k, t, c)).map (·.1) = L.map (·.1) := by
      rw [List.map_set]
      have h1 : (L.map (·.1))[i]? = some k := by rw [List.getElem?_map, hi]; rfl
      apply List.ext_getElem?
      intro j
      by_cases hij : i = j
      · subst hij
        rw [List.getElem?_set_self (by simpa using hil), h1]
      · rw [List.getElem?_set_ne hij]
    rw [e]
    exact h.nd
theorem blk_setRow (hb : Blk w k t old) (c : Array Value) : Blk (w.setRow k c) k t c := by
  unfold Blk at hb ⊢
  simp [World.setRow, Array.getElem?_modify, hb]
theorem fr_setRow (w : World) (k : Nat) (c : Array Value) : Fr [k] w (w.setRow k c) := by
  refine ⟨rfl, rfl, rfl, by simp [World.setRow], fun b hb hn => ?_⟩
  have hne : ¬ k = b := fun e => hn (by rw [e]; exact List.mem_singleton_self _)
  simp [World.setRow, Array.getElem?_modify, hne]
theorem fr_setCell (w : World) (k j : Nat) (v : Value) : Fr [k] w (w.setCell ⟨k, j, none⟩ v) := (Fr.refl [k] w).setCell (p := (⟨k, j, none⟩ : Addr)) (.inl (List.mem_singleton_self k)) v
theorem Own.row (h : Own X w0 w L) (i : Nat) (hi : L[i]? = some (k, t, old)) (c : Array Value) : Own X w0 (w.setRow k c) (L.set i (k, t, c)) := h.put i hi (fr_setRow w k c) (blk_setRow (h.get i hi) c)
theorem Own.cell (h : Own X w0 w L) (i : Nat) (hi : L[i]? = some (k, t, old)) (j : Nat) (v : Value) : Own X w0 (w.setCell ⟨k, j, none⟩ v) (L.set i (k, t, old.setIfInBounds j v)) := h.put i hi (fr_setCell w k j v) ((h.get i hi).store j v)
end
/-- A struct's type: how many cells, and what its zero is. -/
structure Ty (P : Program) (t : TypeId) (z : Array Value) : Prop where
  zv : ∀ w, (zeroValue t).run P w = .ok (.agg z) w
  ip : (P.info? t).map (·.size) = some z.size
  un : ∃ d, P.underlying t = some d ∧ d.isRow = true
  bt : P.built t [] = some z
  one : z.toList.all (·.oneCell') = true
theorem ty_mk {P : Program} {t : TypeId} {z : Array Value} {n : Nat} {d : TypeDesc} (h : (P.info? t).map (fun i => (i.zero, i.size)) = some (some (.agg z), n)) (hn : z.size = n) (hu : P.underlying t = some d) (hd : d.isRow = true) (hb : P.built t [] = some z) (h1 : z.toList.all (·.oneCell') = true) : Ty P t z :=
  ⟨(zero_of_info h).1, by rw [hn]; exact (zero_of_info h).2, ⟨d, hu, hd⟩, hb, h1⟩
theorem run_newRow {P : Program} (c : Array Value) (t : TypeId) (w : World) : (newRow t c).run P w = .ok ⟨w.heap.size, 0, none⟩ (w.alloc (.cells c t)) := by simp [newRow]
section
variable {P : Program} {X : List Nat} {w0 w : World} {L : OL} {ops : Array Oper} {rest : List Oper} {op : Oper} {a : Act} {Q : Exit → Act → World → Prop} {z c old : Array Value} {k : Nat} {t : TypeId}
/-- A struct variable is made. -/
theorem wpo_alloc (hT : Ty P t z) (hO : Own X w0 w L) (hgd : op.guard = none) (ho : op.op = .alloc t)
    (h : ∀ k W, Own X w0 W ((k, t, z) :: L) → wpList P ops Q rest (a.put op.dst (.pointer (some ⟨k, 0, none⟩))) W) : wpList P ops Q (op :: rest) a w :=
  wpList_plain hgd fun _ hK => by
    unfold Oper.wp execOp
    simp only [ho, Instr.alloc, Sem.run_bind, hT.zv, Result.andThen_ok, newVar, run_newRow, Value.cells, Sem.run_pure]
    exact hK _ _ (h _ _ (hO.alloc t z))
/-- A struct is put into a variable of its own. -/
theorem wpo_box (hO : Own X w0 w L) (x : Operand) (hgd : op.guard = none) (ho : op.op = .box t x) (hx : a.eval x = .agg c)
    (h : ∀ k W, Own X w0 W ((k, t, c) :: L) → wpList P ops Q rest (a.put op.dst (.pointer (some ⟨k, 0, none⟩))) W) : wpList P ops Q (op :: rest) a w :=
  wpList_plain hgd fun _ hK => by
    unfold Oper.wp execOp
    simp only [ho, hx, Instr.box, Sem.run_bind, newVar, run_newRow, Value.cells, Result.andThen_ok, Sem.run_pure]
    exact hK _ _ (h _ _ (hO.alloc t c))
/-- A zero struct is built. -/
theorem wpo_zero (hT : Ty P t z) (hgd : op.guard = none) (ho : op.op = .build t #[]) (h : wpList P ops Q rest (a.put op.dst (.agg z)) w) : wpList P ops Q (op :: rest) a w :=
  wpList_build hgd _ _ ho (by simp [hT.bt]) (by
    have e : P.built t ((#[] : Array (Nat × Operand)).map fun (i, x) => (i, a.eval x)).toList = some z := by simpa using hT.bt
    rw [e]
    exact h)
/-- A struct is built out of parts. -/
theorem wpo_built {parts : Array (Nat × Operand)} {l : List (Nat × Value)} (hb : P.built t l = some c) (hgd : op.guard = none) (ho : op.op = .build t parts) (hl : parts.toList.map (fun x => (x.1, a.eval x.2)) = l)
    (h : wpList P ops Q rest (a.put op.dst (.agg c)) w) : wpList P ops Q (op :: rest) a w :=
  have e : (parts.map fun (i, x) => (i, a.eval x)).toList = l := by rw [Array.toList_map]; exact hl
  wpList_build hgd _ _ ho (by rw [e, hb]; rfl) (by rw [e, hb]; exact h)
/-- A struct is stored whole. -/
theorem wpo_store (hO : Own X w0 w L) (i : Nat) (hT : Ty P t z) (hi : L[i]? = some (k, t, old)) (x y : Operand) (hgd : op.guard = none) (ho : op.op = .store t x y)
    (hx : a.eval x = .pointer (some ⟨k, 0, none⟩)) (hy : a.eval y = .agg c) (hold : old.size = z.size) (hc : c.size = z.size) (h1 : c.toList.all (·.oneCell') = true)
    (h : ∀ W, Own X w0 W (L.set i (k, t, c)) → wpList P ops Q rest (a.put op.dst undef) W) : wpList P ops Q (op :: rest) a w :=
  wpList_plain hgd fun _ hK => wp_store_row t x y ho k c hx hy t old (hO.get i hi) (by rw [hc]; exact hT.ip) (by rw [hold, hc]) (by simpa using h1) (hK _ _ (h _ (hO.row i hi c)))
/-- A struct is loaded whole. -/
theorem run_load_own (hT : Ty P t z) (hb : Blk w k t c) (hc : c.size = z.size) : (loadVar t ⟨k, 0, none⟩).run P w = .ok (.agg c) w := by
  obtain ⟨d, hu, hd⟩ := hT.un
  have h := run_loadVar_mid (P := P) w k 0 t c.toList d (fun j v hv => by
    rw [Nat.zero_add, hb.cell j]
    simpa using hv) hu hd (by rw [Array.length_toList, hc]; exact hT.ip)
  simpa using h
theorem wpo_load (hO : Own X w0 w L) (i : Nat) (hT : Ty P t z) (hi : L[i]? = some (k, t, c)) (hc : c.size = z.size) (x : Operand) (hgd : op.guard = none) (ho : op.op = .load t x)
    (hx : a.eval x = .pointer (some ⟨k, 0, none⟩)) (h : wpList P ops Q rest (a.put op.dst (.agg c)) w) : wpList P ops Q (op :: rest) a w :=
  wpList_plain hgd fun _ hK => by
    unfold Oper.wp execOp
    simp only [ho, hx, Instr.loadAt, Instr.sureAddr, Sem.run_bind, Sem.run_pure, Result.andThen_ok, run_load_own hT (hO.get i hi) hc]
    exact hK _ _ h
theorem yo_load {S : World → Prop} (hw : Region.wanted op (yielded ops a.tmps) = true) (hT : Ty P t z) (hS : ∀ w, S w → Blk w k t c) (hc : c.size = z.size) (x : Operand) (ho : op.op = .load t x) (hx : a.eval x = .pointer (some ⟨k, 0, none⟩)) : YieldsIf P ops S op (.agg c) a :=
  .inl ⟨hw, fun w hw' => by
    unfold execOp
    simp only [ho, hx, Instr.loadAt, Instr.sureAddr, Sem.run_bind, Sem.run_pure, Result.andThen_ok, run_load_own hT (hS w hw') hc]⟩
theorem yo_built {S : World → Prop} {parts : Array (Nat × Operand)} {l : List (Nat × Value)} (hw : Region.wanted op (yielded ops a.tmps) = true) (hb : P.built t l = some c) (ho : op.op = .build t parts) (hl : parts.toList.map (fun x => (x.1, a.eval x.2)) = l) : YieldsIf P ops S op (.agg c) a :=
  .inl ⟨hw, fun w _ => by
    unfold execOp
    simp only [ho, Sem.run_bind, run_build w t _ c (by rw [Array.toList_map]; exact (congrArg _ hl).trans hb), Result.andThen_ok, Sem.run_pure]⟩
theorem yo_zero {S : World → Prop} (hw : Region.wanted op (yielded ops a.tmps) = true) (hT : Ty P t z) (ho : op.op = .build t #[]) : YieldsIf P ops S op (.agg z) a :=
  yo_built hw hT.bt ho (by simp)
/-- The blocks but those at i and j are as they were. -/
def SO (X : List Nat) (w0 : World) (L : OL) (i j : Nat) (W : World) : Prop := ∃ M, Own X w0 W M ∧ ∀ m, m ≠ i → m ≠ j → M[m]? = L[m]?
theorem SO.get {i j : Nat} {W : World} (h : SO X w0 L i j W) (m : Nat) (hi : m ≠ i) (hj : m ≠ j) (hm : L[m]? = some (k, t, c)) : Blk W k t c := by
  obtain ⟨M, hM, he⟩ := h
  exact hM.get m ((he m hi hj).trans hm)
theorem wpo_op_store {o : Oper} {K : Act → World → Prop} (i : Nat) (hT : Ty P t z) (hi : L[i]? = some (k, t, old)) (hO : Own X w0 w L) (hold : old.size = z.size) (hc : c.size = z.size) (h1 : c.toList.all (·.oneCell') = true) (x y : Operand) (ho : o.op = .store t x y) (hd : o.dst = none)
    (hx : a.eval x = .pointer (some ⟨k, 0, none⟩)) (hy : a.eval y = .agg c) (h : K a (w.setRow k c)) : Oper.wp P o a w K Q :=
  wp_store_row t x y ho k c hx hy t old (hO.get i hi) (by rw [hc]; exact hT.ip) (by rw [hold, hc]) (by simpa using h1) (by rw [hd]; exact h)
/-- The values that the operations from i on yield, one after the other, and the slots in which they lie then. -/
def Ylds (P : Program) (ops : Array Oper) (S : World → Prop) : Nat → List (Nat × Value) → Act → Prop
  | _, [], _ => True
  | i, (d, v) :: r, a => (∃ o, ops[i]? = some o ∧ o.dst = some d ∧ YieldsIf P ops S o v a) ∧ Ylds P ops S (i + 1) r (a.put (some d) v)
def putD : List (Nat × Value) → Act → Act
  | [], a => a
  | (d, v) :: r, a => putD r (a.put (some d) v)
def lstN (ops : Array Oper) : Nat → Array Bool
  | 0 => Array.replicate ops.size false
  | i + 1 => (lstN ops i).setIfInBounds i true
def okTk (ops : Array Oper) (n : Nat) : Bool := Region.noSelect ops && (List.range n).all fun i => Region.free .any ops (lstN ops i) i && (Region.ready .any ops (lstN ops i)).contains i
def okY2 (ops : Array Oper) (n : Nat) : Bool :=
  okTk ops n && (ops.size == n + 2) && (Region.ready .any ops ((lstN ops n).setIfInBounds n true) == [n + 1]) && (Region.ready .any ops (((lstN ops n).setIfInBounds n true).setIfInBounds (n + 1) true) == [])
    && ((Region.ready .any ops (lstN ops n) == [n]) || ((Region.ready .any ops (lstN ops n) == [n, n + 1]) && (Region.ready .any ops ((lstN ops n).setIfInBounds (n + 1) true) == [n]) && (Region.ready .any ops (((lstN ops n).setIfInBounds (n + 1) true).setIfInBounds n true) == [])))
def okY1 (ops : Array Oper) (n : Nat) : Bool :=
  okTk ops n && (ops.size == n + 1) && (Region.ready .any ops (lstN ops n) == [n]) && (Region.ready .any ops ((lstN ops n).setIfInBounds n true) == [])
theorem okTk_at {n : Nat} (h : okTk ops n = true) : Region.noSelect ops = true ∧ ∀ i, i < n → Region.free .any ops (lstN ops i) i = true ∧ (Region.ready .any ops (lstN ops i)).contains i = true := by
  simp only [okTk, Bool.and_eq_true, List.all_eq_true, List.mem_range] at h
  exact h
theorem takes {S : World → Prop} {n : Nat} (hok : okTk ops n = true) (hQ : ∀ c a (d : Tmp) v w, Q (.panic c) (Act.put a (some d) v) w → Q (.panic c) a w) (hS : S w) :
    ∀ (vs : List (Nat × Value)) (i : Nat) (a : Act) (fuel : Nat), i + vs.length = n → Ylds P ops S i vs a → wpAnyH P .any ops Q S fuel (lstN ops n) (putD vs a) w → wpAnyH P .any ops Q S (fuel + vs.length) (lstN ops i) a w
  | [], i, a, fuel, hn, _, h => by
    obtain rfl : i = n := by simpa using hn
    exact h
  | (d, v) :: r, i, a, fuel, hn, hy, h => by
    obtain ⟨⟨o, ho, hd, hyo⟩, hr⟩ := hy
    obtain ⟨k1, k2⟩ := okTk_at hok
    obtain ⟨k3, k4⟩ := k2 i (by simp at hn; omega)
    have ih := takes hok hQ hS r (i + 1) (a.put (some d) v) fuel (by simp at hn; omega) hr h
    rw [← hd] at ih
    exact wpAnyH_take (i := i) (oi := o) (v := v) ho k1 k3 k4 (fun c a w => by rw [hd]; exact hQ c a d v w) hyo hS ih
/-- What a store of the block at i does. -/
def Sto (P : Program) (X : List Nat) (w0 : World) (Q : Exit → Act → World → Prop) (o : Oper) (b : Act) (i : Nat) (x y : Nat × TypeId × Array Value) : Prop :=
  o.guard = none ∧ ∀ W M, Own X w0 W M → M[i]? = some x → ∃ W', Own X w0 W' (M.set i y) ∧ ∀ K : Act → World → Prop, K b W' → Oper.wp P o b W K Q
theorem sto_row {o : Oper} {b : Act} {i : Nat} (hT : Ty P t z) (x y : Operand) (ho : o.op = .store t x y) (hd : o.dst = none) (hg : o.guard = none)
    (hx : b.eval x = .pointer (some ⟨k, 0, none⟩)) (hy : b.eval y = .agg c) (hold : old.size = z.size) (hc : c.size = z.size) (h1 : c.toList.all (·.oneCell') = true) : Sto P X w0 Q o b i (k, t, old) (k, t, c) :=
  ⟨hg, fun _ _ hO hi => ⟨_, hO.row i hi c, fun _ hK => wpo_op_store i hT hi hO hold hc h1 x y ho hd hx hy hK⟩⟩
/-- A statement of values, and of two stores behind them, in whatever order. -/
theorem wpo_y2 {id : Nat} {o2 o3 : Oper} {xA yA xB yB : Nat × TypeId × Array Value} (vs : List (Nat × Value)) (i j : Nat) (hm : P.follows .mixedOrders = true) (hok : okY2 ops vs.length = true) (hO : Own X w0 w L)
    (hi : L[i]? = some xA) (hj : L[j]? = some xB) (hij : i ≠ j) (hQ : ∀ c a (d : Tmp) v w, Q (.panic c) (Act.put a (some d) v) w → Q (.panic c) a w)
    (hy : Ylds P ops (SO X w0 L i j) 0 vs a) (h2 : ops[vs.length]? = some o2) (h3 : ops[vs.length + 1]? = some o3)
    (sA : Sto P X w0 Q o2 (putD vs a) i xA yA) (sB : Sto P X w0 Q o3 (putD vs a) j xB yB)
    (H : ∀ W, Own X w0 W ((L.set i yA).set j yB) → Q .normal (putD vs a) W) :
    (Code.region id ops true).wp P Q a w := by
  generalize hn : vs.length = n at *
  simp only [okY2, Bool.and_eq_true, Bool.or_eq_true, beq_iff_eq] at hok
  obtain ⟨⟨⟨⟨k1, k2⟩, k7⟩, k9⟩, k6⟩ := hok
  have hij' : j ≠ i := fun e => hij e.symm
  obtain ⟨g2, sA⟩ := sA
  obtain ⟨g3, sB⟩ := sB
  refine wp_region_held_drew (S := SO X w0 L i j) hm ⟨L, hO.drew, fun _ _ _ => rfl⟩ (fun hHeld => ?_)
  suffices h : wpAnyH P .any ops Q (SO X w0 L i j) 2 (lstN ops n) (putD vs a) w.drew by
    have T := takes (n := n) k1 hQ hHeld vs 0 a 2 (by omega) hy h
    rw [show 2 + vs.length = ops.size by omega] at T
    exact T
  have hD := hO.drew
  generalize w.drew = w1 at *
  generalize putD vs a = b at *
  have hi' : (L.set j yB)[i]? = some xA := by rw [List.getElem?_set_ne hij']; exact hi
  have hj' : (L.set i yA)[j]? = some xB := by rw [List.getElem?_set_ne hij]; exact hj
  have first : ∀ K : Act → World → Prop, Shut (∀ a w, SO X w0 L i j w → (SO X w0 L i j w → wpAnyH P .any ops Q (SO X w0 L i j) 1 ((lstN ops n).setIfInBounds n true) a w) → K a w) → if Region.wanted o2 (yielded ops b.tmps) = true then Oper.wp P o2 b w1 K Q else K (b.put o2.dst undef) w1 := by
    intro K hK
    simp only [Region.wanted, g2, if_true]
    obtain ⟨W1, hW1, step1⟩ := sA w1 L hD hi
    refine step1 K (hK.out _ _ ⟨_, hW1, fun m h1 _ => List.getElem?_set_ne (fun e => h1 e.symm)⟩ (fun _ => ?_))
    refine wpAnyH_ready (rs := [n + 1]) k7 (by simp) ?_
    refine AllReadyH.cons (o := o3) h3 (fun K hK => ?_) AllReadyH.nil
    simp only [Region.wanted, g3, if_true]
    obtain ⟨W2, hW2, step2⟩ := sB W1 _ hW1 hj'
    refine step2 K (hK.out _ _ ⟨_, hW2, fun m h1 h2 => by rw [List.getElem?_set_ne (fun e => h2 e.symm), List.getElem?_set_ne (fun e => h1 e.symm)]⟩ (fun _ => ?_))
    exact wpAnyH_done k9 (H _ hW2) _
  rcases k6 with k6 | ⟨⟨k6, k8⟩, k10⟩
  · exact wpAnyH_ready (rs := [n]) k6 (by simp) (AllReadyH.cons (o := o2) h2 first AllReadyH.nil)
  · refine wpAnyH_ready (rs := [n, n + 1]) k6 (by simp) ?_
    refine AllReadyH.cons (o := o2) h2 first (AllReadyH.cons (o := o3) h3 (fun K hK => ?_) AllReadyH.nil)
    simp only [Region.wanted, g3, if_true]
    obtain ⟨W1, hW1, step1⟩ := sB w1 L hD hj
    refine step1 K (hK.out _ _ ⟨_, hW1, fun m _ h1 => List.getElem?_set_ne (fun e => h1 e.symm)⟩ (fun _ => ?_))
    refine wpAnyH_ready (rs := [n]) k8 (by simp) ?_
    refine AllReadyH.cons (o := o2) h2 (fun K hK => ?_) AllReadyH.nil
    simp only [Region.wanted, g2, if_true]
    obtain ⟨W2, hW2, step2⟩ := sA W1 _ hW1 hi'
    refine step2 K (hK.out _ _ ⟨_, hW2, fun m h1 h2 => by rw [List.getElem?_set_ne (fun e => h1 e.symm), List.getElem?_set_ne (fun e => h2 e.symm)]⟩ (fun _ => ?_))
    rw [List.set_comm _ _ hij'] at hW2
    exact wpAnyH_done k10 (H _ hW2) _
/-- A statement of values, and of one store behind them. -/
theorem wpo_y1 {id : Nat} {o2 : Oper} {xA yA : Nat × TypeId × Array Value} (vs : List (Nat × Value)) (i : Nat) (hm : P.follows .mixedOrders = true) (hok : okY1 ops vs.length = true) (hO : Own X w0 w L)
    (hi : L[i]? = some xA) (hQ : ∀ c a (d : Tmp) v w, Q (.panic c) (Act.put a (some d) v) w → Q (.panic c) a w)
    (hy : Ylds P ops (fun W => ∃ M, Own X w0 W M ∧ ∀ m, m ≠ i → M[m]? = L[m]?) 0 vs a) (h2 : ops[vs.length]? = some o2)
    (sA : Sto P X w0 Q o2 (putD vs a) i xA yA) (H : ∀ W, Own X w0 W (L.set i yA) → Q .normal (putD vs a) W) :
    (Code.region id ops true).wp P Q a w := by
  generalize hn : vs.length = n at *
  simp only [okY1, Bool.and_eq_true, beq_iff_eq] at hok
  obtain ⟨⟨⟨k1, k2⟩, k6⟩, k7⟩ := hok
  obtain ⟨g2, sA⟩ := sA
  refine wp_region_held_drew (S := fun W => ∃ M, Own X w0 W M ∧ ∀ m, m ≠ i → M[m]? = L[m]?) hm ⟨L, hO.drew, fun _ _ => rfl⟩ (fun hHeld => ?_)
  suffices h : wpAnyH P .any ops Q (fun W => ∃ M, Own X w0 W M ∧ ∀ m, m ≠ i → M[m]? = L[m]?) 1 (lstN ops n) (putD vs a) w.drew by
    have T := takes (n := n) k1 hQ hHeld vs 0 a 1 (by omega) hy h
    rw [show 1 + vs.length = ops.size by omega] at T
    exact T
  have hD := hO.drew
  generalize w.drew = w1 at *
  generalize putD vs a = b at *
  refine wpAnyH_ready (rs := [n]) k6 (by simp) ?_
  refine AllReadyH.cons (o := o2) h2 (fun K hK => ?_) AllReadyH.nil
  simp only [Region.wanted, g2, if_true]
  obtain ⟨W1, hW1, step1⟩ := sA w1 L hD hi
  refine step1 K (hK.out _ _ ⟨_, hW1, fun m h1 => List.getElem?_set_ne (fun e => h1 e.symm)⟩ (fun _ => ?_))
  exact wpAnyH_done k7 (H _ hW1) _
/-- A type of one cell. -/
structure Ty1 (P : Program) (t : TypeId) : Prop where
  ip : (P.info? t).map (·.size) = some 1
  un : ∃ d, P.underlying t = some d ∧ d.isRow = false
theorem run_load_one {ty : TypeId} (h : Ty1 P ty) (hb : Blk w k t c) {j : Nat} {v : Value} (hv : c[j]? = some v) : (loadVar ty ⟨k, j, none⟩).run P w = .ok v w := by
  obtain ⟨d, hu, hd⟩ := h.un
  have hc : w.cell? ⟨k, j, none⟩ = some v := (hb.cell j).trans hv
  have hagg : (isAgg ty).run P w = .ok false w := by
    unfold isAgg
    rw [Sem.run_bind, run_underlying hu w]
    cases d <;> simp_all
  simp [loadVar, Sem.run_bind, hagg, run_load, hc]
theorem wpo_ldc {ty : TypeId} {j : Nat} {v : Value} (hb : Blk w k t c) (h1 : Ty1 P ty) (x : Operand) (hgd : op.guard = none) (ho : op.op = .load ty x) (hx : a.eval x = .pointer (some ⟨k, j, none⟩)) (hv : c[j]? = some v)
    (h : wpList P ops Q rest (a.put op.dst v) w) : wpList P ops Q (op :: rest) a w :=
  wpList_plain hgd fun _ hK => by
    unfold Oper.wp execOp
    simp only [ho, hx, Instr.loadAt, Instr.sureAddr, Sem.run_bind, Sem.run_pure, Result.andThen_ok, run_load_one h1 hb hv]
    exact hK _ _ h
theorem yo_ldc {S : World → Prop} {ty : TypeId} {j : Nat} {v : Value} (hw : Region.wanted op (yielded ops a.tmps) = true) (hB : ∀ w, S w → Blk w k t c) (h1 : Ty1 P ty) (x : Operand) (ho : op.op = .load ty x) (hx : a.eval x = .pointer (some ⟨k, j, none⟩)) (hv : c[j]? = some v) : YieldsIf P ops S op v a :=
  .inl ⟨hw, fun w hw' => by
    unfold execOp
    simp only [ho, hx, Instr.loadAt, Instr.sureAddr, Sem.run_bind, Sem.run_pure, Result.andThen_ok, run_load_one h1 (hB w hw') hv]⟩
/-- An elder block that may not change is as it was. -/
theorem Own.eld (h : Own X w0 w L) (hb : Blk w0 k t c) (hg : k ∉ X) : Blk w k t c := hb.fr h.fr hg
theorem SO.eld {i j : Nat} {W : World} (h : SO X w0 L i j W) (hb : Blk w0 k t c) (hg : k ∉ X) : Blk W k t c := by
  obtain ⟨M, hM, _⟩ := h
  exact hM.eld hb hg
/-- One cell is stored. -/
theorem run_store_one (hb : Blk w k t old) (j : Nat) (hj : j < old.size) {ty : TypeId} (hi : (P.info? ty).map (·.size) = some 1) {v : Value} (h1 : v.oneCell' = true) : (storeVar ty ⟨k, j, none⟩ v).run P w = .ok () (w.setCell ⟨k, j, none⟩ v) := by
  have := run_storeCells_cells (P := P) k j [v] 0 w (fun i hi => by
      obtain rfl : i = 0 := by simpa using hi
      rw [show j + 0 + 0 = j from rfl, hb.cell j]
      simp [hj]) (fun i _ => by
      obtain rfl : i = 0 := by simp_all
      exact hb.frozen j) (fun x hx => by simp at hx; subst hx; exact h1)
  have hc : v.cells = #[v] := by cases v <;> first | rfl | cases h1
  cases hq : P.info? ty with
  | none => simp [hq] at hi
  | some i =>
    have hs : i.size = 1 := by simpa [hq] using hi
    simp only [Nat.add_zero, World.setCells] at this
    simp [storeVar, sizeOf, typeInfo, hq, hc, hs, this]
theorem wpo_cell (hO : Own X w0 w L) (i : Nat) (j : Nat) {ty : TypeId} (hI : (P.info? ty).map (·.size) = some 1) (hi : L[i]? = some (k, t, old)) {v : Value} (x y : Operand) (hgd : op.guard = none) (ho : op.op = .store ty x y)
    (hx : a.eval x = .pointer (some ⟨k, j, none⟩)) (hy : a.eval y = v) (hj : j < old.size) (h1 : v.oneCell' = true)
    (h : ∀ W, Own X w0 W (L.set i (k, t, old.setIfInBounds j v)) → wpList P ops Q rest (a.put op.dst undef) W) : wpList P ops Q (op :: rest) a w :=
  wpList_plain hgd fun _ hK => by
    unfold Oper.wp execOp
    simp only [ho, hx, hy, Instr.storeAt, Instr.sureAddr, Sem.run_bind, Sem.run_pure, Result.andThen_ok, run_store_one (hO.get i hi) j hj hI h1]
    exact hK _ _ (h _ (hO.cell i hi j v))
/-- Two structs as results. -/
theorem res_own2 {fn : Func} {tmps : Array Value} {i j g h : Nat} {tA tB : TypeId} {zA zB cA cB : Array Value} (m n : Nat) (hO : Own X w0 w L) (hTA : Ty P tA zA) (hTB : Ty P tB zB) (hr : fn.results = #[.cell i tA, .cell j tB]) (hi : tmps.getD i undef = .pointer (some ⟨g, 0, none⟩)) (hj : tmps.getD j undef = .pointer (some ⟨h, 0, none⟩))
    (hm : L[m]? = some (g, tA, cA)) (hn : L[n]? = some (h, tB, cB)) (nA : cA.size = zA.size) (nB : cB.size = zB.size) : (results fn tmps).run P w = .ok (.tuple #[.agg cA, .agg cB]) w := by
  have h1 := run_load_own hTA (hO.get m hm) nA
  have h2 := run_load_own hTB (hO.get n hn) nB
  have hi' : tmps[i]?.getD undef = .pointer (some ⟨g, 0, none⟩) := by simpa using hi
  have hj' : tmps[j]?.getD undef = .pointer (some ⟨h, 0, none⟩) := by simpa using hj
  simp [results, hr, hi', hj', asAddr, h1, h2]
theorem res_own1 {fn : Func} {tmps : Array Value} {i g : Nat} {tA : TypeId} {zA cA : Array Value} (m : Nat) (hO : Own X w0 w L) (hTA : Ty P tA zA) (hr : fn.results = #[.cell i tA]) (hi : tmps.getD i undef = .pointer (some ⟨g, 0, none⟩))
    (hm : L[m]? = some (g, tA, cA)) (nA : cA.size = zA.size) : (results fn tmps).run P w = .ok (.agg cA) w := by
  have h1 := run_load_own hTA (hO.get m hm) nA
  have hi' : tmps[i]?.getD undef = .pointer (some ⟨g, 0, none⟩) := by simpa using hi
  simp [results, hr, hi', asAddr, h1]
end
end Go.Proofs.YtnolnhpmpjgnaaaGreatDoor
namespace Go.Proofs.YtnolnhpmpjgnaaaGreatDoor
set_option maxRecDepth 100000
open Go.ChangeShapes Go.WideShapes Go.RowKit Go.Deep
def okC (ops : Array Oper) (n m : Nat) : Bool :=
  okTk ops n && (ops.size == n + m + 2) && (Region.ready .any ops (lstN ops n) == [n]) && ((List.range m).all fun j => Region.free .any ops (lstN ops (n + 1 + j)) (n + 1 + j) && (Region.ready .any ops (lstN ops (n + 1 + j))).contains (n + 1 + j))
    && (Region.ready .any ops (lstN ops (n + 1 + m)) == [n + 1 + m]) && (Region.ready .any ops ((lstN ops (n + 1 + m)).setIfInBounds (n + 1 + m) true) == [])
section
variable {P : Program} {w : World} {ops : Array Oper} {a : Act} {Q : Exit → Act → World → Prop}
theorem takesR {S : World → Prop} {s b : Nat} (hns : Region.noSelect ops = true) (hf : ∀ i, s ≤ i → i < b → Region.free .any ops (lstN ops i) i = true ∧ (Region.ready .any ops (lstN ops i)).contains i = true) (hQ : ∀ c a (d : Tmp) v w, Q (.panic c) (Act.put a (some d) v) w → Q (.panic c) a w) (hS : S w) :
    ∀ (vs : List (Nat × Value)) (i : Nat) (a : Act) (fuel : Nat), s ≤ i → i + vs.length = b → Ylds P ops S i vs a → wpAnyH P .any ops Q S fuel (lstN ops b) (putD vs a) w → wpAnyH P .any ops Q S (fuel + vs.length) (lstN ops i) a w
  | [], i, a, fuel, _, hn, _, h => by
    obtain rfl : i = b := by simpa using hn
    exact h
  | (d, v) :: r, i, a, fuel, hsi, hn, hy, h => by
    obtain ⟨⟨o, ho, hd, hyo⟩, hr⟩ := hy
    obtain ⟨k3, k4⟩ := hf i hsi (by simp at hn; omega)
    have ih := takesR hns hf hQ hS r (i + 1) (a.put (some d) v) fuel (by omega) (by simp at hn; omega) hr h
    rw [← hd] at ih
    exact wpAnyH_take (i := i) (oi := o) (v := v) ho hns k3 k4 (fun c a w => by rw [hd]; exact hQ c a d v w) hyo hS ih
/-- What a store does. -/
def StoAt (P : Program) (Q : Exit → Act → World → Prop) (o : Oper) (b : Act) (w2 w3 : World) : Prop := ∀ K : Act → World → Prop, K b w3 → Oper.wp P o b w2 K Q
theorem stoAt_row {o : Oper} {b : Act} {t : TypeId} {z c old : Array Value} {k : Nat} {w2 : World} (hT : Ty P t z) (hb : Blk w2 k t old) (x y : Operand) (ho : o.op = .store t x y) (hd : o.dst = none)
    (hx : b.eval x = .pointer (some ⟨k, 0, none⟩)) (hy : b.eval y = .agg c) (hold : old.size = z.size) (hc : c.size = z.size) (h1 : c.toList.all (·.oneCell') = true) : StoAt P Q o b w2 (w2.setRow k c) := fun _ h =>
  wp_store_row t x y ho k c hx hy t old hb (by rw [hc]; exact hT.ip) (by rw [hold, hc]) (by simpa using h1) (by rw [hd]; exact h)
theorem wp_vcs {id : Nat} {oc os : Oper} {S : World → Prop} (vs : List (Nat × Value)) (us : Value → List (Nat × Value)) (m : Nat) (d : Tmp) (R : Value → Prop) (F : Value → World → Prop) (hm : P.follows .mixedOrders = true) (hok : okC ops vs.length m = true) (hlen : ∀ v, R v → (us v).length = m) (hS : S w.drew)
    (hQ : ∀ c a (d : Tmp) v w, Q (.panic c) (Act.put a (some d) v) w → Q (.panic c) a w) (hy : Ylds P ops S 0 vs a) (hc : ops[vs.length]? = some oc) (gc : oc.guard = none)
    (C : ∀ w1, S w1 → ∀ K : Act → World → Prop, (∀ v w2, S w2 → R v → K ((putD vs a).put (some d) v) w2) → Oper.wp P oc (putD vs a) w1 K Q)
    (hy2 : ∀ v, R v → Ylds P ops S (vs.length + 1) (us v) ((putD vs a).put (some d) v))
    (hs : ops[vs.length + 1 + m]? = some os) (gs : os.guard = none)
    (ST : ∀ v, R v → ∀ w2, S w2 → ∃ w3, S w3 ∧ F v w3 ∧ StoAt P Q os (putD (us v) ((putD vs a).put (some d) v)) w2 w3)
    (H : ∀ v w3, R v → S w3 → F v w3 → Q .normal (putD (us v) ((putD vs a).put (some d) v)) w3) : (Code.region id ops true).wp P Q a w := by
  generalize hn : vs.length = n at *
  simp only [okC, Bool.and_eq_true, beq_iff_eq, List.all_eq_true, List.mem_range] at hok
  obtain ⟨⟨⟨⟨⟨k1, k2⟩, k6⟩, k7⟩, k8⟩, k9⟩ := hok
  obtain ⟨kn, kf⟩ := okTk_at k1
  refine wp_region_held_drew (S := S) hm hS (fun hHeld => ?_)
  suffices h : wpAnyH P .any ops Q S (m + 2) (lstN ops n) (putD vs a) w.drew by
    have T := takesR (s := 0) (b := n) kn (fun i _ hi => kf i hi) hQ hHeld vs 0 a (m + 2) (Nat.zero_le _) (by omega) hy h
    rw [show m + 2 + vs.length = ops.size by omega] at T
    exact T
  refine wpAnyH_ready (rs := [n]) k6 (by simp) ?_
  refine AllReadyH.cons (o := oc) hc (fun K hK => ?_) AllReadyH.nil
  simp only [Region.wanted, gc, if_true]
  refine C _ hS K (fun v w2 hs2 hR => hK.out _ _ hs2 (fun hHeld2 => ?_))
  show wpAnyH P .any ops Q S (m + 1) (lstN ops (n + 1)) ((putD vs a).put (some d) v) w2
  suffices h : wpAnyH P .any ops Q S 1 (lstN ops (n + 1 + m)) (putD (us v) ((putD vs a).put (some d) v)) w2 by
    have T := takesR (s := n + 1) (b := n + 1 + m) kn (fun i h1 h2 => by
      have := k7 (i - (n + 1)) (by omega)
      rw [show n + 1 + (i - (n + 1)) = i by omega] at this
      exact this) hQ hHeld2 (us v) (n + 1) _ 1 (Nat.le_refl _) (by rw [hlen v hR]) (hy2 v hR) h
    rw [hlen v hR, Nat.add_comm 1 m] at T
    exact T
  refine wpAnyH_ready (rs := [n + 1 + m]) k8 (by simp) ?_
  refine AllReadyH.cons (o := os) hs (fun K hK => ?_) AllReadyH.nil
  simp only [Region.wanted, gs, if_true]
  obtain ⟨w3, hs3, hF, step⟩ := ST v hR w2 hs2
  exact step K (hK.out _ _ hs3 (fun _ => wpAnyH_done k9 (H v w3 hR hs3 hF) _))
end
end Go.Proofs.YtnolnhpmpjgnaaaGreatDoor
