/- What is proved here: rows of one's own of texts, numbers and subscriptions: append, what they read. Conditions: few of them. What is proved here, on plain values: what a Subscribe or a Suback is encoded to is decoded as it was, with nothing of what its kind has not; and what is decoded is encoded, and decoded, as it was. Conditions: few bytes. What is proved here: what the document's Encode of layer 12 tells. Conditions: few bytes, the packet's parts stand where it says. -/
import Derived.Test.YtinhecggmakbnaaGreatDoorDcj08
import Derived.Deep.QuietTactic
import Derived.BigQuiet
import Derived.Deep.DeepMust
namespace Go.Proofs.YtinhecggmakbnaaGreatDoor
set_option maxRecDepth 100000
open Go.ChangeShapes Go.WideShapes Go.RowKit Go.Deep Go.Extern.Stop Go.Stop Go.Extern

/-- A row of one's own of texts. -/
def T8Row (w : World) (B : Nat) (v : Value) (L : List ByteArray) : Prop := w.ownsRow B 9 1 v L.length (L.flatMap tCell)
structure T8Next (w w' : World) (B : Nat) (v v' : Value) (L' : List ByteArray) : Prop where
  row : T8Row w' B v' L'
  grown : w.grownBy w' v.ownBlock
  own : v'.ownBlock = v.ownBlock ∨ ∃ k, v'.ownBlock = some k ∧ w.heap.size ≤ k
theorem Tryz.infoT8 : (Tryz.prog.info? 9).map (fun i => (i.zero, i.size, i.bytes)) = some (some (.string ⟨#[]⟩), 1, 16) := by kernel_rfl
theorem T8cl_len (x : ByteArray) : (tCell x).length = 1 := rfl
theorem T8cl_one (L : List ByteArray) : ∀ u ∈ L.flatMap tCell, u.oneCell' = true := by
  intro u hu
  obtain ⟨x, _, hx⟩ := List.mem_flatMap.1 hu
  unfold tCell at hx
  simp only [List.mem_cons, List.not_mem_nil, or_false] at hx
  rcases hx with rfl <;> rfl
section
variable {w w' : World} {B B' : Nat} {v : Value} {L M : List ByteArray} {X : List Nat}
theorem T8Row.nil (w : World) (B : Nat) : T8Row w B (.slice none 0 0) [] := World.ownsRow_nil _ _ _ _
theorem T8Row.some_form (h : T8Row w B v L) : ∃ a n c, v = .slice a n c ∧ n = L.length ∧ n ≤ c := by
  rcases h.2 with ⟨rfl, h0⟩ | ⟨gr, cap, cur, rfl, _, _, hc, _⟩
  · exact ⟨none, 0, 0, rfl, h0.symm, Nat.le_refl _⟩
  · exact ⟨_, _, _, rfl, rfl, hc⟩
theorem T8Row.fr (h : T8Row w B v L) (hf : Fr X w w') (hn : ∀ k, v.ownBlock = some k → k ∉ X) : T8Row w' B v L := by
  obtain ⟨h1, h2⟩ := h
  refine ⟨h1, ?_⟩
  rcases h2 with h2 | ⟨gr, cap, cur, rfl, hB, hh, h3⟩
  · exact .inl h2
  · exact .inr ⟨gr, cap, cur, rfl, hB, (hf.block gr (lt_of_block hh) (hn gr rfl)).trans hh, h3⟩
theorem T8Row.below (h : T8Row w B v L) (hb : Below w.heap.size w w') : T8Row w' B v L := h.fr (X := []) (Fr.of_below hb) (by simp)
theorem T8Row.lt (h : T8Row w B v L) (k : Nat) (hk : v.ownBlock = some k) : B ≤ k ∧ k < w.heap.size ∧ ∃ cs, w.heap[k]? = some (.cells cs 9 (0, 0)) := by
  rcases h.2 with ⟨rfl, _⟩ | ⟨g, cap, cur, rfl, hb, hg, _⟩
  · cases hk
  · obtain rfl : g = k := Option.some.inj hk
    exact ⟨hb, lt_of_block hg, cur, hg⟩
theorem T8Row.nof (hr : T8Row w B v L) : NoF w v.ownBlock.toList := NoF.of fun k hk => by
  obtain ⟨_, _, cs, hh⟩ := hr.lt k (own_list.1 hk)
  exact ⟨_, _, hh, by decide⟩
theorem T8Row.base (h : T8Row w B' v L) (hb : B ≤ B') : T8Row w B v L := by
  obtain ⟨h1, h2⟩ := h
  refine ⟨h1, ?_⟩
  rcases h2 with h2 | ⟨gr, cap, cur, rfl, hB, h3⟩
  · exact .inl h2
  · exact .inr ⟨gr, cap, cur, rfl, Nat.le_trans hb hB, h3⟩
theorem T8Row.cin {a : Option Addr} {n c : Nat} (h : T8Row w B (.slice a n c) L) : CIn w B' 9 a (L.flatMap tCell) := by
  intro hp
  rcases h.2 with ⟨hs, h0⟩ | ⟨gr, cap, cur, hs, hB, hh, hnc, hcm, hcs, htake⟩
  · have hl := flat_len tCell 1 T8cl_len L
    rw [h0] at hl
    omega
  · injection hs with h1 h2 h3
    refine ⟨gr, 0, h1, fun j u hj => ?_, .inr ⟨_, hh⟩⟩
    have h4 : cur[j]? = some u := by
      have h5 := htake
      have h6 : (L.flatMap tCell)[j]? = some u := hj
      have hlt : j < (L.flatMap tCell).length := (List.getElem?_eq_some_iff.1 hj).1
      rw [← h5] at h6
      have h7 := h6
      simp [List.getElem?_take] at h7
      exact h7.2
    rw [Nat.zero_add]
    simp only [World.cell?, hh]
    simpa using h4
/-- append of one that was just laid down. -/
theorem T8_append {ops : Array Oper} {rest : List Oper} {o : Oper} {a : Act} {Q : Exit → Act → World → Prop} (p : ByteArray) (hgd : o.guard = none) (s x : Operand) (ho : o.op = .call { callee := .builtin .append, args := #[s, x], argTypes := #[26, 26] })
    (ht : T8Row w B v L) (hB : B ≤ w.heap.size) (hs : a.eval s = v) (k c : Nat) (hx : a.eval x = .slice (some ⟨k, 0, none⟩) 1 c) (hk : k = w.heap.size) (hl : L.length ≤ 1000) {cs : Array Value} (hcs : cs.toList = tCell p)
    (h : ∀ v' w', T8Next w w' B v v' (L ++ [p]) → wpList Tryz.prog ops Q rest (a.put o.dst v') w') : wpList Tryz.prog ops Q (o :: rest) a (w.alloc (.cells cs 9)) := by
  subst hk
  have hb : Below w.heap.size w (w.alloc (.cells cs 9)) := (Below.refl _ _).alloc (Nat.le_refl _) _
  obtain ⟨i0, hi0, hz0, hz1, hz2⟩ := info_parts Tryz.infoT8
  obtain ⟨v', w', hr, ho', hg, _, hat⟩ := run_append_own_at (P := Tryz.prog) (w.alloc (.cells cs 9)) B 26 o.type 9 i0 (.string ⟨#[]⟩) 1 16 Tryz.underlying26 hi0 hz0 hz1 hz2 rfl (by decide) v L.length (L.flatMap tCell) (ht.below hb) ⟨w.heap.size, 0, none⟩ 1 c (tCell p) (by rw [T8cl_len]) (fun j u hj => by
    rw [Addr.add_lit, Nat.zero_add, (Blk.made w 9 cs).cell j, ← Array.getElem?_toList, hcs]
    exact hj) (fun u hu => T8cl_one [p] u (by simpa using hu)) (by unfold maxLen; omega) (by omega) (Nat.le_trans hB hb.size)
  refine Lib.wpList_append_run _ hgd s x 26 26 ho v _ hs hx v' w' hr (h v' w' ⟨?_, (World.grownBy_alloc w _ _).trans hg, ?_⟩)
  · unfold T8Row
    rw [List.length_append, List.flatMap_append, List.length_singleton, List.flatMap_singleton]
    exact ho'
  · rcases hat with e | e
    · exact .inl e
    · refine .inr ⟨_, e, ?_⟩
      rw [World.size_alloc]
      omega
end

/-- A row of one's own of numbers. -/
def I8Row (w : World) (B : Nat) (v : Value) (L : List Int) : Prop := w.ownsRow B 3 1 v L.length (L.flatMap iCell)
structure I8Next (w w' : World) (B : Nat) (v v' : Value) (L' : List Int) : Prop where
  row : I8Row w' B v' L'
  grown : w.grownBy w' v.ownBlock
  own : v'.ownBlock = v.ownBlock ∨ ∃ k, v'.ownBlock = some k ∧ w.heap.size ≤ k
theorem Tryz.infoI8 : (Tryz.prog.info? 3).map (fun i => (i.zero, i.size, i.bytes)) = some (some (.int .i64 0), 1, 8) := by kernel_rfl
theorem I8cl_len (x : Int) : (iCell x).length = 1 := rfl
theorem I8cl_one (L : List Int) : ∀ u ∈ L.flatMap iCell, u.oneCell' = true := by
  intro u hu
  obtain ⟨x, _, hx⟩ := List.mem_flatMap.1 hu
  unfold iCell at hx
  simp only [List.mem_cons, List.not_mem_nil, or_false] at hx
  rcases hx with rfl <;> rfl
section
variable {w w' : World} {B B' : Nat} {v : Value} {L M : List Int} {X : List Nat}
theorem I8Row.nil (w : World) (B : Nat) : I8Row w B (.slice none 0 0) [] := World.ownsRow_nil _ _ _ _
theorem I8Row.some_form (h : I8Row w B v L) : ∃ a n c, v = .slice a n c ∧ n = L.length ∧ n ≤ c := by
  rcases h.2 with ⟨rfl, h0⟩ | ⟨gr, cap, cur, rfl, _, _, hc, _⟩
  · exact ⟨none, 0, 0, rfl, h0.symm, Nat.le_refl _⟩
  · exact ⟨_, _, _, rfl, rfl, hc⟩
theorem I8Row.fr (h : I8Row w B v L) (hf : Fr X w w') (hn : ∀ k, v.ownBlock = some k → k ∉ X) : I8Row w' B v L := by
  obtain ⟨h1, h2⟩ := h
  refine ⟨h1, ?_⟩
  rcases h2 with h2 | ⟨gr, cap, cur, rfl, hB, hh, h3⟩
  · exact .inl h2
  · exact .inr ⟨gr, cap, cur, rfl, hB, (hf.block gr (lt_of_block hh) (hn gr rfl)).trans hh, h3⟩
theorem I8Row.below (h : I8Row w B v L) (hb : Below w.heap.size w w') : I8Row w' B v L := h.fr (X := []) (Fr.of_below hb) (by simp)
theorem I8Row.lt (h : I8Row w B v L) (k : Nat) (hk : v.ownBlock = some k) : B ≤ k ∧ k < w.heap.size ∧ ∃ cs, w.heap[k]? = some (.cells cs 3 (0, 0)) := by
  rcases h.2 with ⟨rfl, _⟩ | ⟨g, cap, cur, rfl, hb, hg, _⟩
  · cases hk
  · obtain rfl : g = k := Option.some.inj hk
    exact ⟨hb, lt_of_block hg, cur, hg⟩
theorem I8Row.nof (hr : I8Row w B v L) : NoF w v.ownBlock.toList := NoF.of fun k hk => by
  obtain ⟨_, _, cs, hh⟩ := hr.lt k (own_list.1 hk)
  exact ⟨_, _, hh, by decide⟩
theorem I8Row.base (h : I8Row w B' v L) (hb : B ≤ B') : I8Row w B v L := by
  obtain ⟨h1, h2⟩ := h
  refine ⟨h1, ?_⟩
  rcases h2 with h2 | ⟨gr, cap, cur, rfl, hB, h3⟩
  · exact .inl h2
  · exact .inr ⟨gr, cap, cur, rfl, Nat.le_trans hb hB, h3⟩
theorem I8Row.cin {a : Option Addr} {n c : Nat} (h : I8Row w B (.slice a n c) L) : CIn w B' 3 a (L.flatMap iCell) := by
  intro hp
  rcases h.2 with ⟨hs, h0⟩ | ⟨gr, cap, cur, hs, hB, hh, hnc, hcm, hcs, htake⟩
  · have hl := flat_len iCell 1 I8cl_len L
    rw [h0] at hl
    omega
  · injection hs with h1 h2 h3
    refine ⟨gr, 0, h1, fun j u hj => ?_, .inr ⟨_, hh⟩⟩
    have h4 : cur[j]? = some u := by
      have h5 := htake
      have h6 : (L.flatMap iCell)[j]? = some u := hj
      have hlt : j < (L.flatMap iCell).length := (List.getElem?_eq_some_iff.1 hj).1
      rw [← h5] at h6
      have h7 := h6
      simp [List.getElem?_take] at h7
      exact h7.2
    rw [Nat.zero_add]
    simp only [World.cell?, hh]
    simpa using h4
/-- append of one that was just laid down. -/
theorem I8_append {ops : Array Oper} {rest : List Oper} {o : Oper} {a : Act} {Q : Exit → Act → World → Prop} (p : Int) (hgd : o.guard = none) (s x : Operand) (ho : o.op = .call { callee := .builtin .append, args := #[s, x], argTypes := #[27, 27] })
    (ht : I8Row w B v L) (hB : B ≤ w.heap.size) (hs : a.eval s = v) (k c : Nat) (hx : a.eval x = .slice (some ⟨k, 0, none⟩) 1 c) (hk : k = w.heap.size) (hl : L.length ≤ 1000) {cs : Array Value} (hcs : cs.toList = iCell p)
    (h : ∀ v' w', I8Next w w' B v v' (L ++ [p]) → wpList Tryz.prog ops Q rest (a.put o.dst v') w') : wpList Tryz.prog ops Q (o :: rest) a (w.alloc (.cells cs 3)) := by
  subst hk
  have hb : Below w.heap.size w (w.alloc (.cells cs 3)) := (Below.refl _ _).alloc (Nat.le_refl _) _
  obtain ⟨i0, hi0, hz0, hz1, hz2⟩ := info_parts Tryz.infoI8
  obtain ⟨v', w', hr, ho', hg, _, hat⟩ := run_append_own_at (P := Tryz.prog) (w.alloc (.cells cs 3)) B 27 o.type 3 i0 (.int .i64 0) 1 8 Tryz.underlying27 hi0 hz0 hz1 hz2 rfl (by decide) v L.length (L.flatMap iCell) (ht.below hb) ⟨w.heap.size, 0, none⟩ 1 c (iCell p) (by rw [I8cl_len]) (fun j u hj => by
    rw [Addr.add_lit, Nat.zero_add, (Blk.made w 3 cs).cell j, ← Array.getElem?_toList, hcs]
    exact hj) (fun u hu => I8cl_one [p] u (by simpa using hu)) (by unfold maxLen; omega) (by omega) (Nat.le_trans hB hb.size)
  refine Lib.wpList_append_run _ hgd s x 27 27 ho v _ hs hx v' w' hr (h v' w' ⟨?_, (World.grownBy_alloc w _ _).trans hg, ?_⟩)
  · unfold I8Row
    rw [List.length_append, List.flatMap_append, List.length_singleton, List.flatMap_singleton]
    exact ho'
  · rcases hat with e | e
    · exact .inl e
    · refine .inr ⟨_, e, ?_⟩
      rw [World.size_alloc]
      omega
end

/-- A row of one's own of subscriptions. -/
def V8Row (w : World) (B : Nat) (v : Value) (L : List SV) : Prop := w.ownsRow B 55 5 v L.length (L.flatMap SV.cells)
structure V8Next (w w' : World) (B : Nat) (v v' : Value) (L' : List SV) : Prop where
  row : V8Row w' B v' L'
  grown : w.grownBy w' v.ownBlock
  own : v'.ownBlock = v.ownBlock ∨ ∃ k, v'.ownBlock = some k ∧ w.heap.size ≤ k
theorem Tryz.infoV8 : (Tryz.prog.info? 55).map (fun i => (i.zero, i.size, i.bytes)) = some (some (.agg #[.string ⟨#[]⟩, .int .i64 0, .bool false, .bool false, .int .i64 0]), 5, 40) := by kernel_rfl
theorem V8cl_len (x : SV) : (SV.cells x).length = 5 := rfl
theorem V8cl_one (L : List SV) : ∀ u ∈ L.flatMap SV.cells, u.oneCell' = true := by
  intro u hu
  obtain ⟨x, _, hx⟩ := List.mem_flatMap.1 hu
  unfold SV.cells at hx
  simp only [List.mem_cons, List.not_mem_nil, or_false] at hx
  rcases hx with rfl | rfl | rfl | rfl | rfl <;> rfl
section
variable {w w' : World} {B B' : Nat} {v : Value} {L M : List SV} {X : List Nat}
theorem V8Row.nil (w : World) (B : Nat) : V8Row w B (.slice none 0 0) [] := World.ownsRow_nil _ _ _ _
theorem V8Row.some_form (h : V8Row w B v L) : ∃ a n c, v = .slice a n c ∧ n = L.length ∧ n ≤ c := by
  rcases h.2 with ⟨rfl, h0⟩ | ⟨gr, cap, cur, rfl, _, _, hc, _⟩
  · exact ⟨none, 0, 0, rfl, h0.symm, Nat.le_refl _⟩
  · exact ⟨_, _, _, rfl, rfl, hc⟩
theorem V8Row.fr (h : V8Row w B v L) (hf : Fr X w w') (hn : ∀ k, v.ownBlock = some k → k ∉ X) : V8Row w' B v L := by
  obtain ⟨h1, h2⟩ := h
  refine ⟨h1, ?_⟩
  rcases h2 with h2 | ⟨gr, cap, cur, rfl, hB, hh, h3⟩
  · exact .inl h2
  · exact .inr ⟨gr, cap, cur, rfl, hB, (hf.block gr (lt_of_block hh) (hn gr rfl)).trans hh, h3⟩
theorem V8Row.below (h : V8Row w B v L) (hb : Below w.heap.size w w') : V8Row w' B v L := h.fr (X := []) (Fr.of_below hb) (by simp)
theorem V8Row.lt (h : V8Row w B v L) (k : Nat) (hk : v.ownBlock = some k) : B ≤ k ∧ k < w.heap.size ∧ ∃ cs, w.heap[k]? = some (.cells cs 55 (0, 0)) := by
  rcases h.2 with ⟨rfl, _⟩ | ⟨g, cap, cur, rfl, hb, hg, _⟩
  · cases hk
  · obtain rfl : g = k := Option.some.inj hk
    exact ⟨hb, lt_of_block hg, cur, hg⟩
theorem V8Row.nof (hr : V8Row w B v L) : NoF w v.ownBlock.toList := NoF.of fun k hk => by
  obtain ⟨_, _, cs, hh⟩ := hr.lt k (own_list.1 hk)
  exact ⟨_, _, hh, by decide⟩
theorem V8Row.base (h : V8Row w B' v L) (hb : B ≤ B') : V8Row w B v L := by
  obtain ⟨h1, h2⟩ := h
  refine ⟨h1, ?_⟩
  rcases h2 with h2 | ⟨gr, cap, cur, rfl, hB, h3⟩
  · exact .inl h2
  · exact .inr ⟨gr, cap, cur, rfl, Nat.le_trans hb hB, h3⟩
theorem V8Row.cin {a : Option Addr} {n c : Nat} (h : V8Row w B (.slice a n c) L) : CIn w B' 55 a (L.flatMap SV.cells) := by
  intro hp
  rcases h.2 with ⟨hs, h0⟩ | ⟨gr, cap, cur, hs, hB, hh, hnc, hcm, hcs, htake⟩
  · have hl := flat_len SV.cells 5 V8cl_len L
    rw [h0] at hl
    omega
  · injection hs with h1 h2 h3
    refine ⟨gr, 0, h1, fun j u hj => ?_, .inr ⟨_, hh⟩⟩
    have h4 : cur[j]? = some u := by
      have h5 := htake
      have h6 : (L.flatMap SV.cells)[j]? = some u := hj
      have hlt : j < (L.flatMap SV.cells).length := (List.getElem?_eq_some_iff.1 hj).1
      rw [← h5] at h6
      have h7 := h6
      simp [List.getElem?_take] at h7
      exact h7.2
    rw [Nat.zero_add]
    simp only [World.cell?, hh]
    simpa using h4
/-- append of one that was just laid down. -/
theorem V8_append {ops : Array Oper} {rest : List Oper} {o : Oper} {a : Act} {Q : Exit → Act → World → Prop} (p : SV) (hgd : o.guard = none) (s x : Operand) (ho : o.op = .call { callee := .builtin .append, args := #[s, x], argTypes := #[25, 25] })
    (ht : V8Row w B v L) (hB : B ≤ w.heap.size) (hs : a.eval s = v) (k c : Nat) (hx : a.eval x = .slice (some ⟨k, 0, none⟩) 1 c) (hk : k = w.heap.size) (hl : L.length ≤ 1000) {cs : Array Value} (hcs : cs.toList = SV.cells p)
    (h : ∀ v' w', V8Next w w' B v v' (L ++ [p]) → wpList Tryz.prog ops Q rest (a.put o.dst v') w') : wpList Tryz.prog ops Q (o :: rest) a (w.alloc (.cells cs 55)) := by
  subst hk
  have hb : Below w.heap.size w (w.alloc (.cells cs 55)) := (Below.refl _ _).alloc (Nat.le_refl _) _
  obtain ⟨i0, hi0, hz0, hz1, hz2⟩ := info_parts Tryz.infoV8
  obtain ⟨v', w', hr, ho', hg, _, hat⟩ := run_append_own_at (P := Tryz.prog) (w.alloc (.cells cs 55)) B 25 o.type 55 i0 (.agg #[.string ⟨#[]⟩, .int .i64 0, .bool false, .bool false, .int .i64 0]) 5 40 Tryz.underlying25 hi0 hz0 hz1 hz2 rfl (by decide) v L.length (L.flatMap SV.cells) (ht.below hb) ⟨w.heap.size, 0, none⟩ 1 c (SV.cells p) (by rw [V8cl_len]) (fun j u hj => by
    rw [Addr.add_lit, Nat.zero_add, (Blk.made w 55 cs).cell j, ← Array.getElem?_toList, hcs]
    exact hj) (fun u hu => V8cl_one [p] u (by simpa using hu)) (by unfold maxLen; omega) (by omega) (Nat.le_trans hB hb.size)
  refine Lib.wpList_append_run _ hgd s x 25 25 ho v _ hs hx v' w' hr (h v' w' ⟨?_, (World.grownBy_alloc w _ _).trans hg, ?_⟩)
  · unfold V8Row
    rw [List.length_append, List.flatMap_append, List.length_singleton, List.flatMap_singleton]
    exact ho'
  · rcases hat with e | e
    · exact .inl e
    · refine .inr ⟨_, e, ?_⟩
      rw [World.size_alloc]
      omega
end
end Go.Proofs.YtinhecggmakbnaaGreatDoor
namespace Go.Proofs.YtinhecggmakbnaaGreatDoor
set_option maxRecDepth 100000
open Go.RowKit Go.Extern.Stop Go.Stop Go.Extern
/-- The options of a subscription. -/
def opN (q : Nat) (nl ai : Bool) (r : Nat) : Nat := q + 16 * r + (if nl then 4 else 0) + (if ai then 8 else 0)
def opI (x : SV) : Int := if x.qos < 0 ∨ 3 < x.qos ∨ x.retain < 0 ∨ 3 < x.retain then -1 else ((opN x.qos.toNat x.noLocal x.asIs x.retain.toNat : Nat) : Int)
def svO (t : ByteArray) (n : Nat) : SV := ⟨t, (n % 4 : Nat), decide (n / 4 % 2 = 1), decide (n / 8 % 2 = 1), (n / 16 : Nat)⟩
/-- A subscription as a part. -/
def rdS (s : ByteArray) (R : RV) : Er × SV × RV :=
  if (rNum s 1 (rText s R).2).2.no = 0 then
    if 63 < (rNum s 1 (rText s R).2).1 then (⟨2, 129, (rText s R).2.p⟩, sv0, (rNum s 1 (rText s R).2).2)
    else if (rNum s 1 (rText s R).2).1 % 4 = 3 ∨ (rNum s 1 (rText s R).2).1 / 16 = 3 then (⟨3, 130, (rText s R).2.p⟩, sv0, (rNum s 1 (rText s R).2).2)
    else (e00, svO (rText s R).1 (rNum s 1 (rText s R).2).1, (rNum s 1 (rText s R).2).2)
  else (⟨(rNum s 1 (rText s R).2).2.no, 129, (rNum s 1 (rText s R).2).2.ea⟩, sv0, (rNum s 1 (rText s R).2).2)
def stS (W : EV) (x : SV) : EV := stepW (stepW W (textE x.filter)) (numE 1 (opI x))
def preS (x : SV) : Prop := (checkOf x.filter).1 = 0 ∧ ¬ (x.qos < 0 ∨ 3 < x.qos ∨ x.retain < 0 ∨ 3 < x.retain)
def postS (s : ByteArray) (x : SV) : Prop := preS x ∧ ¬ x.qos = 3 ∧ ¬ x.retain = 3 ∧ x.filter.size ≤ s.size
def byS8 (x : SV) : List UInt8 := (be 2 x.filter.size ++ x.filter.data.toList) ++ be 1 (opN x.qos.toNat x.noLocal x.asIs x.retain.toNat)
theorem op_cases : ∀ q, q < 4 → ∀ r, r < 4 → ∀ a b : Bool, opN q a b r < 64 ∧ opN q a b r % 4 = q ∧ opN q a b r / 16 = r ∧ decide (opN q a b r / 4 % 2 = 1) = a ∧ decide (opN q a b r / 8 % 2 = 1) = b := by decide +kernel
theorem op_back : ∀ n, n < 64 → opN (n % 4) (decide (n / 4 % 2 = 1)) (decide (n / 8 % 2 = 1)) (n / 16) = n := by decide +kernel
theorem pre_op {x : SV} (h : preS x) : opI x = ((opN x.qos.toNat x.noLocal x.asIs x.retain.toNat : Nat) : Int) ∧ opN x.qos.toNat x.noLocal x.asIs x.retain.toNat < 64 ∧ svO x.filter (opN x.qos.toNat x.noLocal x.asIs x.retain.toNat) = x ∧ opN x.qos.toNat x.noLocal x.asIs x.retain.toNat % 4 = x.qos.toNat ∧ opN x.qos.toNat x.noLocal x.asIs x.retain.toNat / 16 = x.retain.toNat := by
  obtain ⟨_, h2⟩ := h
  obtain ⟨c1, c2, c3, c4, c5⟩ := op_cases x.qos.toNat (by omega) x.retain.toNat (by omega) x.noLocal x.asIs
  refine ⟨by unfold opI; rw [if_neg h2], c1, ?_, c2, c3⟩
  unfold svO
  rw [c2, c3, c4, c5]
  obtain ⟨f, q, a, b, r⟩ := x
  simp only at h2 ⊢
  rw [show ((q.toNat : Nat) : Int) = q by omega, show ((r.toNat : Nat) : Int) = r by omega]
theorem partS (s : ByteArray) : PartK (rdS s) s stS byS8 preS (postS s) where
  st_no W x h := by
    unfold stS at h ⊢
    obtain ⟨h1, m, hm, hm2, hs⟩ := stepW_num_no h
    obtain ⟨h0, ht, hs1⟩ := stepW_text_no h1
    have hp : preS x := ⟨ht, fun hh => by
      unfold opI at hm
      rw [if_pos hh] at hm
      omega⟩
    refine ⟨h0, hp, ?_⟩
    obtain ⟨e1, e2, _⟩ := pre_op hp
    rw [e1] at hm
    obtain rfl : opN x.qos.toNat x.noLocal x.asIs x.retain.toNat = m := by omega
    rw [hs, hs1]
    unfold byS8
    rw [List.append_assoc]
  st_of W x h hp := by
    obtain ⟨e1, e2, _⟩ := pre_op hp
    unfold stS
    rw [stepW_text h hp.1, e1, stepW_num rfl (by omega)]
    unfold byS8
    rw [List.append_assoc]
  pos x := by
    unfold byS8
    rw [List.length_append, List.length_append, be_len]
    omega
  rd_of R x l hc hp h := by
    obtain ⟨e1, e2, e3, e4, e5⟩ := pre_op hp
    unfold byS8 at hc
    rw [List.append_assoc] at hc
    obtain ⟨R1, t1, _, c1⟩ := hc.text hp.1
    obtain ⟨R2, t2, _, c2⟩ := c1.num (k := 1) (n := opN x.qos.toNat x.noLocal x.asIs x.retain.toNat) (by omega)
    refine ⟨R2, ?_, c2⟩
    unfold rdS at h ⊢
    rw [t1] at h ⊢
    simp only at h ⊢
    rw [t2] at h ⊢
    simp only at h ⊢
    rw [if_pos c2.no, if_neg (by omega)] at h ⊢
    by_cases c : opN x.qos.toNat x.noLocal x.asIs x.retain.toNat % 4 = 3 ∨ opN x.qos.toNat x.noLocal x.asIs x.retain.toNat / 16 = 3
    · rw [if_pos c] at h
      exact absurd (show (3 : Nat) = 0 from h) (by decide)
    · rw [if_neg c, e3]
  rd_no R x l hc hp := by
    obtain ⟨e1, e2, e3, e4, e5⟩ := pre_op hp.1
    unfold byS8 at hc
    rw [List.append_assoc] at hc
    obtain ⟨R1, t1, _, c1⟩ := hc.text hp.1.1
    obtain ⟨R2, t2, _, c2⟩ := c1.num (k := 1) (n := opN x.qos.toNat x.noLocal x.asIs x.retain.toNat) (by omega)
    unfold rdS
    rw [t1]
    simp only
    rw [t2]
    simp only
    obtain ⟨h1, h2, h3, _⟩ := hp
    have h4 := h1.2
    rw [if_pos c2.no, if_neg (by omega), if_neg (by rw [e4, e5]; omega)]
    rfl
  of_rd R h0 hp h := by
    unfold rdS at h ⊢
    by_cases c : (rNum s 1 (rText s R).2).2.no = 0
    · rw [if_pos c] at h ⊢
      by_cases c1 : 63 < (rNum s 1 (rText s R).2).1
      · rw [if_pos c1] at h
        exact absurd (show (2 : Nat) = 0 from h) (by decide)
      · rw [if_neg c1] at h ⊢
        by_cases c2 : (rNum s 1 (rText s R).2).1 % 4 = 3 ∨ (rNum s 1 (rText s R).2).1 / 16 = 3
        · rw [if_pos c2] at h
          exact absurd (show (3 : Nat) = 0 from h) (by decide)
        · rw [if_neg c2]
          have ht : (rText s R).2.no = 0 := no_of c fun hh => by rw [rNum_stuck hh]
          obtain ⟨k1, k2, k3⟩ := rText_sz h0 (by omega) ht
          refine ⟨⟨⟨k1, ?_⟩, ?_, ?_, k2⟩, c, (rTake_le k3).1⟩
          · unfold svO; simp only; omega
          · unfold svO; simp only; omega
          · unfold svO; simp only; omega
    · rw [if_neg c] at h
      exact absurd h c
  pre_of x h := h.1
def kS (first : Int) : Int := if first = 130 then 8 else if first = 144 then 9 else 0
def fS (kind : Int) : Int := if kind = 8 then 130 else if kind = 9 then 144 else 0
theorem kS_of {first : Int} (h : ¬ kS first = 0) : (first = 130 ∧ kS first = 8) ∨ (first = 144 ∧ kS first = 9) := by
  unfold kS at h ⊢
  by_cases h1 : first = 130
  · exact .inl ⟨h1, by rw [if_pos h1]⟩
  · rw [if_neg h1] at h
    by_cases h2 : first = 144
    · exact .inr ⟨h2, by rw [if_neg h1, if_pos h2]⟩
    · rw [if_neg h2] at h
      exact absurd rfl h
theorem fS_of {kind : Int} (h : ¬ fS kind = 0) : (kind = 8 ∧ fS kind = 130 ∧ kS (fS kind) = 8) ∨ (kind = 9 ∧ fS kind = 144 ∧ kS (fS kind) = 9) := by
  unfold fS at h ⊢
  by_cases h1 : kind = 8
  · subst h1; exact .inl ⟨rfl, rfl, rfl⟩
  · rw [if_neg h1] at h
    by_cases h2 : kind = 9
    · subst h2; exact .inr ⟨rfl, rfl, rfl⟩
    · rw [if_neg h2] at h
      exact absurd rfl h
def dcS_a (t : TH) (q : Er × List SV) : Er × Pk := if q.1.no = 0 then (e00, pkS 8 t.id t.L q.2 [] []) else (q.1, pk0)
def dcS_b (t : TH) (q : Er × List Int) : Er × Pk := if q.1.no = 0 then (e00, pkS 9 t.id t.L [] [] q.2) else (q.1, pk0)
/-- What Decode tells of any bytes. -/
def dcS (first : Int) (s : ByteArray) : Er × Pk :=
  if kS first = 0 then (⟨2, 129, 0⟩, pk0)
  else if (thF (kS first) s).e.no = 0 then
    if kS first = 8 then dcS_a (thF 8 s) (ptL (rdS s) s 32 [] (thF 8 s).R) else dcS_b (thF 9 s) (ptL (rdC 9 s) s 32 [] (thF 9 s).R)
  else ((thF (kS first) s).e, pk0)
def wrS (p : Pk) : EV := if p.kind = 8 then p.subs.foldl stS (phW p) else p.codes.foldl stC (phW p)
/-- What Encode tells of any packet. -/
def enS (p : Pk) : FrR :=
  if fS p.kind = 0 then ⟨⟨7, 128, 0⟩, 0, ⟨#[]⟩⟩
  else if (encR p.kind p.props).no = 0 then frR (wrS p) (fS p.kind) (dcS (fS p.kind) ⟨(wrS p).L.toArray⟩).1
  else ⟨⟨(encR p.kind p.props).no, (encR p.kind p.props).r, (encR p.kind p.props).at_⟩, 0, ⟨#[]⟩⟩
/-- A packet with nothing of what its kind has not. -/
def bareS (p : Pk) : Pk := if p.kind = 8 then pkS p.kind p.id (plL p.props) p.subs [] [] else pkS p.kind p.id (plL p.props) [] [] p.codes
theorem bareS_a {p : Pk} (h : p.kind = 8) : bareS p = pkS p.kind p.id (plL p.props) p.subs [] [] := by unfold bareS; rw [if_pos h]
theorem bareS_b {p : Pk} (h : ¬ p.kind = 8) : bareS p = pkS p.kind p.id (plL p.props) [] [] p.codes := by unfold bareS; rw [if_neg h]
theorem enS_bad {p : Pk} (h : (enS p).e.no ≠ 0) : (enS p).first = 0 ∧ (enS p).s = ⟨#[]⟩ := by
  unfold enS at h ⊢
  by_cases h0 : fS p.kind = 0
  · rw [if_pos h0]
    exact ⟨rfl, rfl⟩
  · rw [if_neg h0] at h ⊢
    by_cases h1 : (encR p.kind p.props).no = 0
    · rw [if_pos h1] at h ⊢
      exact frR_bad8 h
    · rw [if_neg h1]
      exact ⟨rfl, rfl⟩
theorem dcS_bad {first : Int} {s : ByteArray} (h : (dcS first s).1.no ≠ 0) : (dcS first s).2 = pk0 := by
  unfold dcS at h ⊢
  by_cases c0 : kS first = 0
  · rw [if_pos c0]
  · rw [if_neg c0] at h ⊢
    by_cases c1 : (thF (kS first) s).e.no = 0
    · rw [if_pos c1] at h ⊢
      unfold dcS_a dcS_b at h ⊢
      by_cases c2 : kS first = 8
      · rw [if_pos c2] at h ⊢
        by_cases c3 : (ptL (rdS s) s 32 [] (thF 8 s).R).1.no = 0
        · rw [if_pos c3] at h
          exact absurd rfl h
        · rw [if_neg c3]
      · rw [if_neg c2] at h ⊢
        by_cases c3 : (ptL (rdC 9 s) s 32 [] (thF 9 s).R).1.no = 0
        · rw [if_pos c3] at h
          exact absurd rfl h
        · rw [if_neg c3]
    · rw [if_neg c1]
/-- What is decoded. -/
structure DcS (first : Int) (s : ByteArray) (k : Int) (id : Nat) (L : PL) (F : List SV) (C : List Int) : Prop where
  fst : first = fS k
  idk : id ≠ 0 ∧ id < 65536
  ok : RdOk k s L
  pk : dcS first s = (e00, pkS k id L F [] C)
  parts : (k = 8 ∧ C = [] ∧ F ≠ [] ∧ F.length ≤ 32 ∧ ∀ x ∈ F, postS s x) ∨ (k = 9 ∧ F = [] ∧ C ≠ [] ∧ C.length ≤ 32 ∧ ∀ x ∈ C, postC 9 x)
theorem dcS_ok {first : Int} {s : ByteArray} (h : (dcS first s).1.no = 0) : ∃ k id L F C, DcS first s k id L F C := by
  have h' := h
  unfold dcS at h
  by_cases c0 : kS first = 0
  · rw [if_pos c0] at h
    exact absurd (show (2 : Nat) = 0 from h) (by decide)
  · rw [if_neg c0] at h
    by_cases c1 : (thF (kS first) s).e.no = 0
    · rw [if_pos c1] at h
      have ht := th_ok c1
      rcases kS_of c0 with ⟨hf, hk⟩ | ⟨hf, hk⟩
      · rw [if_pos hk] at h
        rw [hk] at ht c1
        unfold dcS_a at h
        by_cases c3 : (ptL (rdS s) s 32 [] (thF 8 s).R).1.no = 0
        · obtain ⟨P, p1, p2, p3, p4⟩ := (partS s).rdo 32 [] _ ht.no ht.le c3
          refine ⟨8, _, _, P, [], hf, ht.id, ht.ok, ?_, .inl ⟨rfl, rfl, p3, p4, p2⟩⟩
          unfold dcS
          rw [if_neg c0, hk, if_pos c1, if_pos rfl, p1]
          unfold dcS_a
          rw [if_pos (show e00.no = 0 from rfl)]
          rfl
        · rw [if_neg c3] at h
          exact absurd h c3
      · rw [if_neg (by rw [hk]; decide)] at h
        rw [hk] at ht c1
        unfold dcS_b at h
        by_cases c3 : (ptL (rdC 9 s) s 32 [] (thF 9 s).R).1.no = 0
        · obtain ⟨P, p1, p2, p3, p4⟩ := (partC 9 s).rdo 32 [] _ ht.no ht.le c3
          refine ⟨9, _, _, [], P, hf, ht.id, ht.ok, ?_, .inr ⟨rfl, rfl, p3, p4, p2⟩⟩
          unfold dcS
          rw [if_neg c0, hk, if_pos c1, if_neg (by decide), p1]
          unfold dcS_b
          rw [if_pos (show e00.no = 0 from rfl)]
          rfl
        · rw [if_neg c3] at h
          exact absurd h c3
    · rw [if_neg c1] at h
      exact absurd h c1
/-- What is encoded is decoded as it was. -/
theorem enS_back {p : Pk} (hsz : ∀ q ∈ p.props, q.s.size < 65536 ∧ q.v.size < 65536) (hl : (wrAll (actsL6 p.props)).L.length ≤ 268435455) (h : (enS p).e.no = 0) : dcS (enS p).first (enS p).s = (e00, bareS p) := by
  unfold enS at h ⊢
  by_cases h0 : fS p.kind = 0
  · rw [if_pos h0] at h
    exact absurd (show (7 : Nat) = 0 from h) (by decide)
  · rw [if_neg h0] at h ⊢
    by_cases h1 : (encR p.kind p.props).no = 0
    · rw [if_pos h1] at h ⊢
      obtain ⟨hV, hd, he⟩ := frR_ok8 h
      rw [he]
      simp only
      have key : ∀ (id : Nat) (l : List UInt8), id < 65536 → (wrS p).L = be 2 id ++ ((encR p.kind p.props).L ++ l) → ∀ k, kS (fS p.kind) = k → p.kind = k → (¬ k = 0) → ∃ R, (thF k ⟨(wrS p).L.toArray⟩) = ⟨e00, id, plL p.props, R⟩ ∧ Cur ⟨(wrS p).L.toArray⟩ R l := by
        intro id l hid hL k hk hpk hk0
        rw [hpk] at h1 hL
        have hw := th_wr (k := k) (s := ⟨(wrS p).L.toArray⟩) (l := l) hid h1 hsz hl (by rw [arr_list8, hL])
        by_cases c : id = 0
        · rw [if_pos c] at hw
          exfalso
          unfold dcS at hd
          rw [hk, if_neg hk0, if_neg (by rw [hw]; decide)] at hd
          simp only at hd
          rw [hw] at hd
          exact absurd hd (by decide)
        · rw [if_neg c] at hw
          exact hw
      rcases fS_of h0 with ⟨hk, hf, hkf⟩ | ⟨hk, hf, hkf⟩
      · have hW : wrS p = p.subs.foldl stS (phW p) := by unfold wrS; rw [if_pos hk]
        have hV2 := hV
        rw [hW] at hV2
        obtain ⟨w1, w2, w3⟩ := (partS ⟨(wrS p).L.toArray⟩).fold_no p.subs (phW p) hV2
        obtain ⟨m, hm, hm2, hpL⟩ := phW_no w1
        have hL : (wrS p).L = be 2 m ++ ((encR p.kind p.props).L ++ p.subs.flatMap byS8) := by
          rw [hW, w3]
          show (phW p).L ++ _ = _
          rw [hpL, List.append_assoc]
        obtain ⟨R, e, hc⟩ := key m _ hm2 hL 8 hkf hk (by decide)
        unfold dcS at hd ⊢
        rw [hkf, if_neg (by decide), if_pos (by rw [e]; rfl), if_pos rfl, e] at hd ⊢
        unfold dcS_a at hd ⊢
        by_cases c3 : (ptL (rdS ⟨(wrS p).L.toArray⟩) ⟨(wrS p).L.toArray⟩ 32 [] R).1.no = 0
        · have h4 := (partS ⟨(wrS p).L.toArray⟩).wr p.subs 32 [] R hc w2 c3
          rw [List.nil_append] at h4
          unfold bareS
          rw [if_pos hk, hk, hm]
          simp only
          rw [h4, if_pos (show e00.no = 0 from rfl)]
        · simp only at hd
          rw [if_neg c3] at hd
          exact absurd hd c3
      · have hk10 : ¬ p.kind = 8 := by rw [hk]; decide
        have hW : wrS p = p.codes.foldl stC (phW p) := by unfold wrS; rw [if_neg hk10]
        have hV2 := hV
        rw [hW] at hV2
        obtain ⟨w1, w2, w3⟩ := (partC 9 ⟨(wrS p).L.toArray⟩).fold_no p.codes (phW p) hV2
        obtain ⟨m, hm, hm2, hpL⟩ := phW_no w1
        have hL : (wrS p).L = be 2 m ++ ((encR p.kind p.props).L ++ p.codes.flatMap byC8) := by
          rw [hW, w3]
          show (phW p).L ++ _ = _
          rw [hpL, List.append_assoc]
        obtain ⟨R, e, hc⟩ := key m _ hm2 hL 9 hkf hk (by decide)
        unfold dcS at hd ⊢
        rw [hkf, if_neg (by decide), if_pos (by rw [e]; rfl), if_neg (by decide), e] at hd ⊢
        unfold dcS_b at hd ⊢
        by_cases c3 : (ptL (rdC 9 ⟨(wrS p).L.toArray⟩) ⟨(wrS p).L.toArray⟩ 32 [] R).1.no = 0
        · have h4 := (partC 9 ⟨(wrS p).L.toArray⟩).wr p.codes 32 [] R hc w2 c3
          rw [List.nil_append] at h4
          unfold bareS
          rw [if_neg hk10, hk, hm]
          simp only
          rw [h4, if_pos (show e00.no = 0 from rfl)]
        · simp only at hd
          rw [if_neg c3] at hd
          exact absurd hd c3
    · rw [if_neg h1] at h
      exact absurd h h1
theorem wrS_a {p : Pk} (h : p.kind = 8) : wrS p = p.subs.foldl stS (phW p) := by unfold wrS; rw [if_pos h]
theorem wrS_b {p : Pk} (h : ¬ p.kind = 8) : wrS p = p.codes.foldl stC (phW p) := by unfold wrS; rw [if_neg h]
theorem enS_of {first : Int} {s : ByteArray} {k : Int} {id : Nat} {L : PL} {F : List SV} {C : List Int} (hd : DcS first s k id L F C) (hss : s.size ≤ 60000) : (enS (pkS k id L F [] C)).e.no = 0 := by
  have hl := Nat.le_trans hd.ok.len (show s.size ≤ 268435455 by omega)
  have hid := hd.idk
  rcases hd.parts with ⟨rfl, rfl, hne, hle, hps⟩ | ⟨rfl, rfl, hne, hle, hps⟩
  · have hW : wrS (pkS 8 id L F [] []) = ⟨0, 0, be 2 id ++ ((encR 8 L).L ++ F.flatMap byS8)⟩ := by
      rw [wrS_a (p := pkS 8 id L F [] []) rfl, show (pkS 8 id L F [] []).subs = F from rfl, phW_of hid.2, (partS s).fold_of F _ rfl fun x hx => (hps x hx).1, List.append_assoc]
    unfold enS
    rw [show (pkS 8 id L F [] []).kind = 8 from rfl, show (pkS 8 id L F [] []).props = L from rfl, show fS 8 = 130 from rfl, if_neg (by decide), if_pos hd.ok.enc, hW]
    obtain ⟨s2, hs2⟩ : ∃ s2 : ByteArray, s2 = ⟨(be 2 id ++ ((encR 8 L).L ++ F.flatMap byS8)).toArray⟩ := ⟨_, rfl⟩
    have hw := th_wr (k := 8) (s := s2) (l := F.flatMap byS8) hid.2 hd.ok.enc hd.ok.sz hl (by rw [hs2, arr_list8])
    rw [if_neg hid.1] at hw
    obtain ⟨R, e, hc⟩ := hw
    have hz : ∀ x ∈ F, postS s2 x := fun x hx => ⟨(hps x hx).1, (hps x hx).2.1, (hps x hx).2.2.1, by
      have h1 : (F.flatMap byS8).length ≤ s2.size := by
        rw [hs2, bsize, List.length_append, List.length_append]
        omega
      have h2 : (byS8 x).length ≤ (F.flatMap byS8).length := by
        obtain ⟨a, b, rfl⟩ := List.append_of_mem hx
        rw [List.flatMap_append, List.flatMap_cons, List.length_append, List.length_append]
        omega
      have h3 : (byS8 x).length = 2 + x.filter.size + 1 := by
        unfold byS8
        rw [List.length_append, List.length_append, be_len, bLen, be_len]
      omega⟩
    have h4 := (partS s2).of F 32 [] R hc hz (by simpa using hne) hle
    have h5 : (dcS 130 s2).1.no = 0 := by
      unfold dcS
      rw [show kS 130 = 8 from rfl, if_neg (by decide), if_pos (by rw [e]; rfl), if_pos rfl, e]
      unfold dcS_a
      simp only
      rw [if_pos h4]
      rfl
    rw [show (⟨(EV.L ⟨0, 0, be 2 id ++ ((encR 8 L).L ++ F.flatMap byS8)⟩).toArray⟩ : ByteArray) = s2 from hs2.symm, frR_of8 rfl h5]
    rfl
  · have hW : wrS (pkS 9 id L [] [] C) = ⟨0, 0, be 2 id ++ ((encR 9 L).L ++ C.flatMap byC8)⟩ := by
      rw [wrS_b (p := pkS 9 id L [] [] C) (show ¬ (9 : Int) = 8 by decide), show (pkS 9 id L [] [] C).codes = C from rfl, phW_of hid.2, (partC 9 s).fold_of C _ rfl fun x hx => (hps x hx).2, List.append_assoc]
    unfold enS
    rw [show (pkS 9 id L [] [] C).kind = 9 from rfl, show (pkS 9 id L [] [] C).props = L from rfl, show fS 9 = 144 from rfl, if_neg (by decide), if_pos hd.ok.enc, hW]
    obtain ⟨s2, hs2⟩ : ∃ s2 : ByteArray, s2 = ⟨(be 2 id ++ ((encR 9 L).L ++ C.flatMap byC8)).toArray⟩ := ⟨_, rfl⟩
    have hw := th_wr (k := 9) (s := s2) (l := C.flatMap byC8) hid.2 hd.ok.enc hd.ok.sz hl (by rw [hs2, arr_list8])
    rw [if_neg hid.1] at hw
    obtain ⟨R, e, hc⟩ := hw
    have h4 := (partC 9 s2).of C 32 [] R hc hps (by simpa using hne) hle
    have h5 : (dcS 144 s2).1.no = 0 := by
      unfold dcS
      rw [show kS 144 = 9 from rfl, if_neg (by decide), if_pos (by rw [e]; rfl), if_neg (by decide), e]
      unfold dcS_b
      simp only
      rw [if_pos h4]
      rfl
    rw [show (⟨(EV.L ⟨0, 0, be 2 id ++ ((encR 9 L).L ++ C.flatMap byC8)⟩).toArray⟩ : ByteArray) = s2 from hs2.symm, frR_of8 rfl h5]
    rfl
/-- Few filters and codes, of few bytes. -/
def SmS (p : Pk) : Prop := SmallP p.props ∧ p.subs.length ≤ 40 ∧ p.codes.length ≤ 40 ∧ ∀ x ∈ p.subs, x.filter.size ≤ 2048
/-- What is decoded has few parts, is encoded, and is decoded as it was. -/
theorem deS_back {first : Int} {s : ByteArray} (hss : s.size ≤ 2048) (h : (dcS first s).1.no = 0) :
    SmS (dcS first s).2 ∧ (enS (dcS first s).2).e.no = 0 ∧ dcS (enS (dcS first s).2).first (enS (dcS first s).2).s = (e00, (dcS first s).2) := by
  obtain ⟨k, id, L, F, C, hd⟩ := dcS_ok h
  rw [hd.pk]
  have hen := enS_of hd (by omega)
  have hF : F.length ≤ 40 ∧ C.length ≤ 40 ∧ ∀ x ∈ F, x.filter.size ≤ 2048 := by
    rcases hd.parts with ⟨_, rfl, _, hle, hps⟩ | ⟨_, rfl, _, hle, hps⟩
    · exact ⟨by omega, Nat.zero_le _, fun x hx => Nat.le_trans (hps x hx).2.2.2 hss⟩
    · exact ⟨Nat.zero_le _, by omega, fun x hx => by cases hx⟩
  refine ⟨⟨hd.ok.small (by omega), hF⟩, hen, ?_⟩
  rw [enS_back (p := pkS k id L F [] C) hd.ok.sz (Nat.le_trans hd.ok.len (by omega)) hen]
  rcases hd.parts with ⟨rfl, rfl, _⟩ | ⟨rfl, rfl, _⟩
  · rw [bareS_a (p := pkS 8 id L F [] []) rfl]
    show (e00, pkS 8 id (plL L) F [] []) = _
    rw [hd.ok.pl]
  · rw [bareS_b (p := pkS 9 id L [] [] C) (show ¬ (9 : Int) = 8 by decide)]
    show (e00, pkS 9 id (plL L) [] [] C) = _
    rw [hd.ok.pl]
theorem phW_len12 {p : Pk} (hS : SmallP p.props) : (phW p).L.length ≤ 63846 := by
  unfold phW
  have h1 := stepW_len (stepW w0 (numE 2 p.id)) ⟨0, 0, (encR p.kind p.props).L⟩
  have h2 := stepW_len w0 (numE 2 p.id)
  have h3 := numE_len 2 p.id
  have h4 := encR_len (k := p.kind) hS
  have h5 : w0.L.length = 0 := rfl
  simp only at h1
  omega
theorem foldS_len : ∀ (F : List SV) (W : EV), (∀ x ∈ F, x.filter.size ≤ 2048) → (F.foldl stS W).L.length ≤ W.L.length + F.length * 2051 := by
  intro F
  induction F with
  | nil => intro W _; exact Nat.le_add_right _ _
  | cons x F ih =>
    intro W h
    rw [List.foldl_cons, List.length_cons, Nat.succ_mul]
    have h1 := ih (stS W x) fun y hy => h y (List.mem_cons_of_mem _ hy)
    have h2 := stepW_len W (textE x.filter)
    have h3 := textE_len x.filter
    have h4 := h x (List.mem_cons_self ..)
    have h5 := stepW_len (stepW W (textE x.filter)) (numE 1 (opI x))
    have h6 := numE_len 1 (opI x)
    unfold stS at h1 ⊢
    omega
theorem foldC_len12 : ∀ (C : List Int) (W : EV), (C.foldl stC W).L.length ≤ W.L.length + C.length := by
  intro C
  induction C with
  | nil => intro W; exact Nat.le_add_right _ _
  | cons x C ih =>
    intro W
    rw [List.foldl_cons, List.length_cons]
    have h1 := ih (stC W x)
    have h2 := stepW_len W (numE 1 x)
    have h3 := numE_len 1 x
    unfold stC at h1 ⊢
    omega
theorem wrS_len {p : Pk} (hS : SmS p) : (wrS p).L.length ≤ 150000 := by
  obtain ⟨h1, h2, h3, h4⟩ := hS
  have h5 := phW_len12 h1
  unfold wrS
  split
  · have := foldS_len p.subs (phW p) h4
    omega
  · have := foldC_len12 p.codes (phW p)
    omega
theorem enS_len {p : Pk} (hS : SmS p) : (enS p).s.size ≤ 150000 := by
  unfold enS
  split
  · exact Nat.zero_le _
  · split
    · exact Nat.le_trans frR_len8 (wrS_len hS)
    · exact Nat.zero_le _
theorem dcS_lists (first : Int) (s : ByteArray) : (dcS first s).2.filters = [] ∧ (dcS first s).2.wProps = [] := by
  unfold dcS dcS_a dcS_b
  (repeat' split) <;> exact ⟨rfl, rfl⟩
end Go.Proofs.YtinhecggmakbnaaGreatDoor
namespace Go.Proofs.YtinhecggmakbnaaGreatDoor
set_option maxRecDepth 100000
open Go.ChangeShapes Go.WideShapes Go.RowKit Go.Deep Go.Extern.Stop Go.Stop Go.Extern
set_option maxHeartbeats 8000000 in
theorem ropt12_b1 (f : ByteArray) (q r : Int) (a b : Bool) (w : World) (h1 : q < 0) : Calls Tryz.prog 72 #[.agg #[.string f, .int .i64 q, .bool a, .bool b, .int .i64 r]] w fun r w' => r = .returned (.int .i64 (-1)) ∧ Below w.heap.size w w' := by
  go_enter Tryz.func72, Tryz.ntmps72
  go_wp2_with fail
  go_ret
  exact ⟨rfl, (Below.refl _ _).alloc (Nat.le_refl _) _⟩
set_option maxHeartbeats 8000000 in
theorem ropt12_b2 (f : ByteArray) (q r : Int) (a b : Bool) (w : World) (h1 : ¬ q < 0) (h2 : 3 < q) : Calls Tryz.prog 72 #[.agg #[.string f, .int .i64 q, .bool a, .bool b, .int .i64 r]] w fun r w' => r = .returned (.int .i64 (-1)) ∧ Below w.heap.size w w' := by
  go_enter Tryz.func72, Tryz.ntmps72
  go_wp2_with fail
  go_ret
  exact ⟨rfl, (Below.refl _ _).alloc (Nat.le_refl _) _⟩
set_option maxHeartbeats 8000000 in
theorem ropt12_b3 (f : ByteArray) (q r : Int) (a b : Bool) (w : World) (h1 : ¬ q < 0) (h2 : ¬ 3 < q) (h3 : r < 0) : Calls Tryz.prog 72 #[.agg #[.string f, .int .i64 q, .bool a, .bool b, .int .i64 r]] w fun r w' => r = .returned (.int .i64 (-1)) ∧ Below w.heap.size w w' := by
  go_enter Tryz.func72, Tryz.ntmps72
  go_wp2_with fail
  go_ret
  exact ⟨rfl, (Below.refl _ _).alloc (Nat.le_refl _) _⟩
set_option maxHeartbeats 8000000 in
theorem ropt12_b4 (f : ByteArray) (q r : Int) (a b : Bool) (w : World) (h1 : ¬ q < 0) (h2 : ¬ 3 < q) (h3 : ¬ r < 0) (h4 : 3 < r) : Calls Tryz.prog 72 #[.agg #[.string f, .int .i64 q, .bool a, .bool b, .int .i64 r]] w fun r w' => r = .returned (.int .i64 (-1)) ∧ Below w.heap.size w w' := by
  go_enter Tryz.func72, Tryz.ntmps72
  go_wp2_with fail
  go_ret
  exact ⟨rfl, (Below.refl _ _).alloc (Nat.le_refl _) _⟩
theorem ropt12_bad (x : SV) (w : World) (h : x.qos < 0 ∨ 3 < x.qos ∨ x.retain < 0 ∨ 3 < x.retain) : Calls Tryz.prog 72 #[.agg #[.string x.filter, .int .i64 x.qos, .bool x.noLocal, .bool x.asIs, .int .i64 x.retain]] w fun r w' => r = .returned (.int .i64 (-1)) ∧ Below w.heap.size w w' := by
  obtain ⟨f, q, a, b, r⟩ := x
  simp only at h ⊢
  by_cases h1 : q < 0
  · exact ropt12_b1 f q r a b w h1
  by_cases h2 : 3 < q
  · exact ropt12_b2 f q r a b w h1 h2
  by_cases h3 : r < 0
  · exact ropt12_b3 f q r a b w h1 h2 h3
  exact ropt12_b4 f q r a b w h1 h2 h3 (by omega)
set_option maxHeartbeats 8000000 in
theorem ropt12_good (f : ByteArray) (q : Nat) (a b : Bool) (r : Nat) (w : World) (hq : q < 4) (hr : r < 4) : Calls Tryz.prog 72 #[.agg #[.string f, .int .i64 q, .bool a, .bool b, .int .i64 r]] w fun x w' => x = .returned (.int .i64 (opN q a b r : Nat)) ∧ Below w.heap.size w w' := by
  have h1 : ¬ (q : Int) < 0 := by omega
  have h2 : ¬ (3 : Int) < q := by omega
  have h3 : ¬ (r : Int) < 0 := by omega
  have h4 : ¬ (3 : Int) < r := by omega
  cases a <;> cases b
  all_goals
    go_enter Tryz.func72, Tryz.ntmps72
    go_wp2
    go_ret
    exact ⟨by unfold opN; go_num, (Below.refl _ _).alloc (Nat.le_refl _) _⟩
theorem ropt12 (x : SV) (w : World) : Calls Tryz.prog 72 #[.agg #[.string x.filter, .int .i64 x.qos, .bool x.noLocal, .bool x.asIs, .int .i64 x.retain]] w fun r w' => r = .returned (.int .i64 (opI x)) ∧ Below w.heap.size w w' := by
  by_cases h : x.qos < 0 ∨ 3 < x.qos ∨ x.retain < 0 ∨ 3 < x.retain
  · unfold opI
    rw [if_pos h]
    exact ropt12_bad x w h
  · unfold opI
    rw [if_neg h]
    obtain ⟨f, q, a, b, r⟩ := x
    simp only at h ⊢
    have h1 := ropt12_good f q.toNat a b r.toNat w (by omega) (by omega)
    rw [show ((q.toNat : Nat) : Int) = q by omega, show ((r.toNat : Nat) : Int) = r by omega] at h1
    exact h1
end Go.Proofs.YtinhecggmakbnaaGreatDoor
