/- What is proved here: rows of one's own of texts, numbers and subscriptions: append, what they read. Conditions: few of them. -/
import Derived.Test.YtbfbmdjnobdjpaaGreatDoorDcj08
namespace Go.Proofs.YtbfbmdjnobdjpaaGreatDoor
set_option maxRecDepth 100000
open Go.ChangeShapes Go.WideShapes Go.RowKit Go.Deep Go.Extern.Stop Go.Stop Go.Extern

/-- A row of one's own of texts. -/
def T8Row (w : World) (B : Nat) (v : Value) (L : List ByteArray) : Prop := w.ownsRow B 9 1 v L.length (L.flatMap tCell)
structure T8Next (w w' : World) (B : Nat) (v v' : Value) (L' : List ByteArray) : Prop where
  row : T8Row w' B v' L'
  grown : w.grownBy w' v.ownBlock
  own : v'.ownBlock = v.ownBlock ∨ ∃ k, v'.ownBlock = some k ∧ w.heap.size ≤ k
theorem Tryz.infoT8 : (Tryz.prog.info? 9).map (fun i => (i.zero, i.size, i.bytes)) = some (some (.string ⟨#[]⟩), 1, 16) := by kernel_rfl
theorem T8cl_len (x : ByteArray) : (tCell x).length = 1 := rfl
theorem T8cl_one (L : List ByteArray) : ∀ u ∈ L.flatMap tCell, u.oneCell' = true := by
  intro u hu
  obtain ⟨x, _, hx⟩ := List.mem_flatMap.1 hu
  unfold tCell at hx
  simp only [List.mem_cons, List.not_mem_nil, or_false] at hx
  rcases hx with rfl <;> rfl
section
variable {w w' : World} {B B' : Nat} {v : Value} {L M : List ByteArray} {X : List Nat}
theorem T8Row.nil (w : World) (B : Nat) : T8Row w B (.slice none 0 0) [] := World.ownsRow_nil _ _ _ _
theorem T8Row.some_form (h : T8Row w B v L) : ∃ a n c, v = .slice a n c ∧ n = L.length ∧ n ≤ c := by
  rcases h.2 with ⟨rfl, h0⟩ | ⟨gr, cap, cur, rfl, _, _, hc, _⟩
  · exact ⟨none, 0, 0, rfl, h0.symm, Nat.le_refl _⟩
  · exact ⟨_, _, _, rfl, rfl, hc⟩
theorem T8Row.fr (h : T8Row w B v L) (hf : Fr X w w') (hn : ∀ k, v.ownBlock = some k → k ∉ X) : T8Row w' B v L := by
  obtain ⟨h1, h2⟩ := h
  refine ⟨h1, ?_⟩
  rcases h2 with h2 | ⟨gr, cap, cur, rfl, hB, hh, h3⟩
  · exact .inl h2
  · exact .inr ⟨gr, cap, cur, rfl, hB, (hf.block gr (lt_of_block hh) (hn gr rfl)).trans hh, h3⟩
theorem T8Row.below (h : T8Row w B v L) (hb : Below w.heap.size w w') : T8Row w' B v L := h.fr (X := []) (Fr.of_below hb) (by simp)
theorem T8Row.lt (h : T8Row w B v L) (k : Nat) (hk : v.ownBlock = some k) : B ≤ k ∧ k < w.heap.size ∧ ∃ cs, w.heap[k]? = some (.cells cs 9 (0, 0)) := by
  rcases h.2 with ⟨rfl, _⟩ | ⟨g, cap, cur, rfl, hb, hg, _⟩
  · cases hk
  · obtain rfl : g = k := Option.some.inj hk
    exact ⟨hb, lt_of_block hg, cur, hg⟩
theorem T8Row.nof (hr : T8Row w B v L) : NoF w v.ownBlock.toList := NoF.of fun k hk => by
  obtain ⟨_, _, cs, hh⟩ := hr.lt k (own_list.1 hk)
  exact ⟨_, _, hh, by decide⟩
theorem T8Row.base (h : T8Row w B' v L) (hb : B ≤ B') : T8Row w B v L := by
  obtain ⟨h1, h2⟩ := h
  refine ⟨h1, ?_⟩
  rcases h2 with h2 | ⟨gr, cap, cur, rfl, hB, h3⟩
  · exact .inl h2
  · exact .inr ⟨gr, cap, cur, rfl, Nat.le_trans hb hB, h3⟩
theorem T8Row.cin {a : Option Addr} {n c : Nat} (h : T8Row w B (.slice a n c) L) : CIn w B' 9 a (L.flatMap tCell) := by
  intro hp
  rcases h.2 with ⟨hs, h0⟩ | ⟨gr, cap, cur, hs, hB, hh, hnc, hcm, hcs, htake⟩
  · have hl := flat_len tCell 1 T8cl_len L
    rw [h0] at hl
    omega
  · injection hs with h1 h2 h3
    refine ⟨gr, 0, h1, fun j u hj => ?_, .inr ⟨_, hh⟩⟩
    have h4 : cur[j]? = some u := by
      have h5 := htake
      have h6 : (L.flatMap tCell)[j]? = some u := hj
      have hlt : j < (L.flatMap tCell).length := (List.getElem?_eq_some_iff.1 hj).1
      rw [← h5] at h6
      have h7 := h6
      simp [List.getElem?_take] at h7
      exact h7.2
    rw [Nat.zero_add]
    simp only [World.cell?, hh]
    simpa using h4
/-- append of one that was just laid down. -/
theorem T8_append {ops : Array Oper} {rest : List Oper} {o : Oper} {a : Act} {Q : Exit → Act → World → Prop} (p : ByteArray) (hgd : o.guard = none) (s x : Operand) (ho : o.op = .call { callee := .builtin .append, args := #[s, x], argTypes := #[26, 26] })
    (ht : T8Row w B v L) (hB : B ≤ w.heap.size) (hs : a.eval s = v) (k c : Nat) (hx : a.eval x = .slice (some ⟨k, 0, none⟩) 1 c) (hk : k = w.heap.size) (hl : L.length ≤ 1000) {cs : Array Value} (hcs : cs.toList = tCell p)
    (h : ∀ v' w', T8Next w w' B v v' (L ++ [p]) → wpList Tryz.prog ops Q rest (a.put o.dst v') w') : wpList Tryz.prog ops Q (o :: rest) a (w.alloc (.cells cs 9)) := by
  subst hk
  have hb : Below w.heap.size w (w.alloc (.cells cs 9)) := (Below.refl _ _).alloc (Nat.le_refl _) _
  obtain ⟨i0, hi0, hz0, hz1, hz2⟩ := info_parts Tryz.infoT8
  obtain ⟨v', w', hr, ho', hg, _, hat⟩ := run_append_own_at (P := Tryz.prog) (w.alloc (.cells cs 9)) B 26 o.type 9 i0 (.string ⟨#[]⟩) 1 16 Tryz.underlying26 hi0 hz0 hz1 hz2 rfl (by decide) v L.length (L.flatMap tCell) (ht.below hb) ⟨w.heap.size, 0, none⟩ 1 c (tCell p) (by rw [T8cl_len]) (fun j u hj => by
    rw [Addr.add_lit, Nat.zero_add, (Blk.made w 9 cs).cell j, ← Array.getElem?_toList, hcs]
    exact hj) (fun u hu => T8cl_one [p] u (by simpa using hu)) (by unfold maxLen; omega) (by omega) (Nat.le_trans hB hb.size)
  refine Lib.wpList_append_run _ hgd s x 26 26 ho v _ hs hx v' w' hr (h v' w' ⟨?_, (World.grownBy_alloc w _ _).trans hg, ?_⟩)
  · unfold T8Row
    rw [List.length_append, List.flatMap_append, List.length_singleton, List.flatMap_singleton]
    exact ho'
  · rcases hat with e | e
    · exact .inl e
    · refine .inr ⟨_, e, ?_⟩
      rw [World.size_alloc]
      omega
end

/-- A row of one's own of numbers. -/
def I8Row (w : World) (B : Nat) (v : Value) (L : List Int) : Prop := w.ownsRow B 3 1 v L.length (L.flatMap iCell)
structure I8Next (w w' : World) (B : Nat) (v v' : Value) (L' : List Int) : Prop where
  row : I8Row w' B v' L'
  grown : w.grownBy w' v.ownBlock
  own : v'.ownBlock = v.ownBlock ∨ ∃ k, v'.ownBlock = some k ∧ w.heap.size ≤ k
theorem Tryz.infoI8 : (Tryz.prog.info? 3).map (fun i => (i.zero, i.size, i.bytes)) = some (some (.int .i64 0), 1, 8) := by kernel_rfl
theorem I8cl_len (x : Int) : (iCell x).length = 1 := rfl
theorem I8cl_one (L : List Int) : ∀ u ∈ L.flatMap iCell, u.oneCell' = true := by
  intro u hu
  obtain ⟨x, _, hx⟩ := List.mem_flatMap.1 hu
  unfold iCell at hx
  simp only [List.mem_cons, List.not_mem_nil, or_false] at hx
  rcases hx with rfl <;> rfl
section
variable {w w' : World} {B B' : Nat} {v : Value} {L M : List Int} {X : List Nat}
theorem I8Row.nil (w : World) (B : Nat) : I8Row w B (.slice none 0 0) [] := World.ownsRow_nil _ _ _ _
theorem I8Row.some_form (h : I8Row w B v L) : ∃ a n c, v = .slice a n c ∧ n = L.length ∧ n ≤ c := by
  rcases h.2 with ⟨rfl, h0⟩ | ⟨gr, cap, cur, rfl, _, _, hc, _⟩
  · exact ⟨none, 0, 0, rfl, h0.symm, Nat.le_refl _⟩
  · exact ⟨_, _, _, rfl, rfl, hc⟩
theorem I8Row.fr (h : I8Row w B v L) (hf : Fr X w w') (hn : ∀ k, v.ownBlock = some k → k ∉ X) : I8Row w' B v L := by
  obtain ⟨h1, h2⟩ := h
  refine ⟨h1, ?_⟩
  rcases h2 with h2 | ⟨gr, cap, cur, rfl, hB, hh, h3⟩
  · exact .inl h2
  · exact .inr ⟨gr, cap, cur, rfl, hB, (hf.block gr (lt_of_block hh) (hn gr rfl)).trans hh, h3⟩
theorem I8Row.below (h : I8Row w B v L) (hb : Below w.heap.size w w') : I8Row w' B v L := h.fr (X := []) (Fr.of_below hb) (by simp)
theorem I8Row.lt (h : I8Row w B v L) (k : Nat) (hk : v.ownBlock = some k) : B ≤ k ∧ k < w.heap.size ∧ ∃ cs, w.heap[k]? = some (.cells cs 3 (0, 0)) := by
  rcases h.2 with ⟨rfl, _⟩ | ⟨g, cap, cur, rfl, hb, hg, _⟩
  · cases hk
  · obtain rfl : g = k := Option.some.inj hk
    exact ⟨hb, lt_of_block hg, cur, hg⟩
theorem I8Row.nof (hr : I8Row w B v L) : NoF w v.ownBlock.toList := NoF.of fun k hk => by
  obtain ⟨_, _, cs, hh⟩ := hr.lt k (own_list.1 hk)
  exact ⟨_, _, hh, by decide⟩
theorem I8Row.base (h : I8Row w B' v L) (hb : B ≤ B') : I8Row w B v L := by
  obtain ⟨h1, h2⟩ := h
  refine ⟨h1, ?_⟩
  rcases h2 with h2 | ⟨gr, cap, cur, rfl, hB, h3⟩
  · exact .inl h2
  · exact .inr ⟨gr, cap, cur, rfl, Nat.le_trans hb hB, h3⟩
theorem I8Row.cin {a : Option Addr} {n c : Nat} (h : I8Row w B (.slice a n c) L) : CIn w B' 3 a (L.flatMap iCell) := by
  intro hp
  rcases h.2 with ⟨hs, h0⟩ | ⟨gr, cap, cur, hs, hB, hh, hnc, hcm, hcs, htake⟩
  · have hl := flat_len iCell 1 I8cl_len L
    rw [h0] at hl
    omega
  · injection hs with h1 h2 h3
    refine ⟨gr, 0, h1, fun j u hj => ?_, .inr ⟨_, hh⟩⟩
    have h4 : cur[j]? = some u := by
      have h5 := htake
      have h6 : (L.flatMap iCell)[j]? = some u := hj
      have hlt : j < (L.flatMap iCell).length := (List.getElem?_eq_some_iff.1 hj).1
      rw [← h5] at h6
      have h7 := h6
      simp [List.getElem?_take] at h7
      exact h7.2
    rw [Nat.zero_add]
    simp only [World.cell?, hh]
    simpa using h4
/-- append of one that was just laid down. -/
theorem I8_append {ops : Array Oper} {rest : List Oper} {o : Oper} {a : Act} {Q : Exit → Act → World → Prop} (p : Int) (hgd : o.guard = none) (s x : Operand) (ho : o.op = .call { callee := .builtin .append, args := #[s, x], argTypes := #[27, 27] })
    (ht : I8Row w B v L) (hB : B ≤ w.heap.size) (hs : a.eval s = v) (k c : Nat) (hx : a.eval x = .slice (some ⟨k, 0, none⟩) 1 c) (hk : k = w.heap.size) (hl : L.length ≤ 1000) {cs : Array Value} (hcs : cs.toList = iCell p)
    (h : ∀ v' w', I8Next w w' B v v' (L ++ [p]) → wpList Tryz.prog ops Q rest (a.put o.dst v') w') : wpList Tryz.prog ops Q (o :: rest) a (w.alloc (.cells cs 3)) := by
  subst hk
  have hb : Below w.heap.size w (w.alloc (.cells cs 3)) := (Below.refl _ _).alloc (Nat.le_refl _) _
  obtain ⟨i0, hi0, hz0, hz1, hz2⟩ := info_parts Tryz.infoI8
  obtain ⟨v', w', hr, ho', hg, _, hat⟩ := run_append_own_at (P := Tryz.prog) (w.alloc (.cells cs 3)) B 27 o.type 3 i0 (.int .i64 0) 1 8 Tryz.underlying27 hi0 hz0 hz1 hz2 rfl (by decide) v L.length (L.flatMap iCell) (ht.below hb) ⟨w.heap.size, 0, none⟩ 1 c (iCell p) (by rw [I8cl_len]) (fun j u hj => by
    rw [Addr.add_lit, Nat.zero_add, (Blk.made w 3 cs).cell j, ← Array.getElem?_toList, hcs]
    exact hj) (fun u hu => I8cl_one [p] u (by simpa using hu)) (by unfold maxLen; omega) (by omega) (Nat.le_trans hB hb.size)
  refine Lib.wpList_append_run _ hgd s x 27 27 ho v _ hs hx v' w' hr (h v' w' ⟨?_, (World.grownBy_alloc w _ _).trans hg, ?_⟩)
  · unfold I8Row
    rw [List.length_append, List.flatMap_append, List.length_singleton, List.flatMap_singleton]
    exact ho'
  · rcases hat with e | e
    · exact .inl e
    · refine .inr ⟨_, e, ?_⟩
      rw [World.size_alloc]
      omega
end

/-- A row of one's own of subscriptions. -/
def V8Row (w : World) (B : Nat) (v : Value) (L : List SV) : Prop := w.ownsRow B 58 5 v L.length (L.flatMap SV.cells)
structure V8Next (w w' : World) (B : Nat) (v v' : Value) (L' : List SV) : Prop where
  row : V8Row w' B v' L'
  grown : w.grownBy w' v.ownBlock
  own : v'.ownBlock = v.ownBlock ∨ ∃ k, v'.ownBlock = some k ∧ w.heap.size ≤ k
theorem Tryz.infoV8 : (Tryz.prog.info? 58).map (fun i => (i.zero, i.size, i.bytes)) = some (some (.agg #[.string ⟨#[]⟩, .int .i64 0, .bool false, .bool false, .int .i64 0]), 5, 40) := by kernel_rfl
theorem V8cl_len (x : SV) : (SV.cells x).length = 5 := rfl
theorem V8cl_one (L : List SV) : ∀ u ∈ L.flatMap SV.cells, u.oneCell' = true := by
  intro u hu
  obtain ⟨x, _, hx⟩ := List.mem_flatMap.1 hu
  unfold SV.cells at hx
  simp only [List.mem_cons, List.not_mem_nil, or_false] at hx
  rcases hx with rfl | rfl | rfl | rfl | rfl <;> rfl
section
variable {w w' : World} {B B' : Nat} {v : Value} {L M : List SV} {X : List Nat}
theorem V8Row.nil (w : World) (B : Nat) : V8Row w B (.slice none 0 0) [] := World.ownsRow_nil _ _ _ _
theorem V8Row.some_form (h : V8Row w B v L) : ∃ a n c, v = .slice a n c ∧ n = L.length ∧ n ≤ c := by
  rcases h.2 with ⟨rfl, h0⟩ | ⟨gr, cap, cur, rfl, _, _, hc, _⟩
  · exact ⟨none, 0, 0, rfl, h0.symm, Nat.le_refl _⟩
  · exact ⟨_, _, _, rfl, rfl, hc⟩
theorem V8Row.fr (h : V8Row w B v L) (hf : Fr X w w') (hn : ∀ k, v.ownBlock = some k → k ∉ X) : V8Row w' B v L := by
  obtain ⟨h1, h2⟩ := h
  refine ⟨h1, ?_⟩
  rcases h2 with h2 | ⟨gr, cap, cur, rfl, hB, hh, h3⟩
  · exact .inl h2
  · exact .inr ⟨gr, cap, cur, rfl, hB, (hf.block gr (lt_of_block hh) (hn gr rfl)).trans hh, h3⟩
theorem V8Row.below (h : V8Row w B v L) (hb : Below w.heap.size w w') : V8Row w' B v L := h.fr (X := []) (Fr.of_below hb) (by simp)
theorem V8Row.lt (h : V8Row w B v L) (k : Nat) (hk : v.ownBlock = some k) : B ≤ k ∧ k < w.heap.size ∧ ∃ cs, w.heap[k]? = some (.cells cs 58 (0, 0)) := by
  rcases h.2 with ⟨rfl, _⟩ | ⟨g, cap, cur, rfl, hb, hg, _⟩
  · cases hk
  · obtain rfl : g = k := Option.some.inj hk
    exact ⟨hb, lt_of_block hg, cur, hg⟩
theorem V8Row.nof (hr : V8Row w B v L) : NoF w v.ownBlock.toList := NoF.of fun k hk => by
  obtain ⟨_, _, cs, hh⟩ := hr.lt k (own_list.1 hk)
  exact ⟨_, _, hh, by decide⟩
theorem V8Row.base (h : V8Row w B' v L) (hb : B ≤ B') : V8Row w B v L := by
  obtain ⟨h1, h2⟩ := h
  refine ⟨h1, ?_⟩
  rcases h2 with h2 | ⟨gr, cap, cur, rfl, hB, h3⟩
  · exact .inl h2
  · exact .inr ⟨gr, cap, cur, rfl, Nat.le_trans hb hB, h3⟩
theorem V8Row.cin {a : Option Addr} {n c : Nat} (h : V8Row w B (.slice a n c) L) : CIn w B' 58 a (L.flatMap SV.cells) := by
  intro hp
  rcases h.2 with ⟨hs, h0⟩ | ⟨gr, cap, cur, hs, hB, hh, hnc, hcm, hcs, htake⟩
  · have hl := flat_len SV.cells 5 V8cl_len L
    rw [h0] at hl
    omega
  · injection hs with h1 h2 h3
    refine ⟨gr, 0, h1, fun j u hj => ?_, .inr ⟨_, hh⟩⟩
    have h4 : cur[j]? = some u := by
      have h5 := htake
      have h6 : (L.flatMap SV.cells)[j]? = some u := hj
      have hlt : j < (L.flatMap SV.cells).length := (List.getElem?_eq_some_iff.1 hj).1
      rw [← h5] at h6
      have h7 := h6
      simp [List.getElem?_take] at h7
      exact h7.2
    rw [Nat.zero_add]
    simp only [World.cell?, hh]
    simpa using h4
/-- append of one that was just laid down. -/
theorem V8_append {ops : Array Oper} {rest : List Oper} {o : Oper} {a : Act} {Q : Exit → Act → World → Prop} (p : SV) (hgd : o.guard = none) (s x : Operand) (ho : o.op = .call { callee := .builtin .append, args := #[s, x], argTypes := #[25, 25] })
    (ht : V8Row w B v L) (hB : B ≤ w.heap.size) (hs : a.eval s = v) (k c : Nat) (hx : a.eval x = .slice (some ⟨k, 0, none⟩) 1 c) (hk : k = w.heap.size) (hl : L.length ≤ 1000) {cs : Array Value} (hcs : cs.toList = SV.cells p)
    (h : ∀ v' w', V8Next w w' B v v' (L ++ [p]) → wpList Tryz.prog ops Q rest (a.put o.dst v') w') : wpList Tryz.prog ops Q (o :: rest) a (w.alloc (.cells cs 58)) := by
  subst hk
  have hb : Below w.heap.size w (w.alloc (.cells cs 58)) := (Below.refl _ _).alloc (Nat.le_refl _) _
  obtain ⟨i0, hi0, hz0, hz1, hz2⟩ := info_parts Tryz.infoV8
  obtain ⟨v', w', hr, ho', hg, _, hat⟩ := run_append_own_at (P := Tryz.prog) (w.alloc (.cells cs 58)) B 25 o.type 58 i0 (.agg #[.string ⟨#[]⟩, .int .i64 0, .bool false, .bool false, .int .i64 0]) 5 40 Tryz.underlying25 hi0 hz0 hz1 hz2 rfl (by decide) v L.length (L.flatMap SV.cells) (ht.below hb) ⟨w.heap.size, 0, none⟩ 1 c (SV.cells p) (by rw [V8cl_len]) (fun j u hj => by
    rw [Addr.add_lit, Nat.zero_add, (Blk.made w 58 cs).cell j, ← Array.getElem?_toList, hcs]
    exact hj) (fun u hu => V8cl_one [p] u (by simpa using hu)) (by unfold maxLen; omega) (by omega) (Nat.le_trans hB hb.size)
  refine Lib.wpList_append_run _ hgd s x 25 25 ho v _ hs hx v' w' hr (h v' w' ⟨?_, (World.grownBy_alloc w _ _).trans hg, ?_⟩)
  · unfold V8Row
    rw [List.length_append, List.flatMap_append, List.length_singleton, List.flatMap_singleton]
    exact ho'
  · rcases hat with e | e
    · exact .inl e
    · refine .inr ⟨_, e, ?_⟩
      rw [World.size_alloc]
      omega
end
end Go.Proofs.YtbfbmdjnobdjpaaGreatDoor
