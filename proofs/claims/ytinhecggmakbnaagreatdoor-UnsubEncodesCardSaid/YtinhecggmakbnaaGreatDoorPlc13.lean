/- What is proved here: rows of one's own of texts, numbers and subscriptions: append, what they read. Conditions: few of them. What is proved here, on plain values: what an Unsubscribe or an Unsuback is encoded to is decoded as it was, with nothing of what its kind has not; and what is decoded is encoded, and decoded, as it was. Conditions: few bytes. -/
import Derived.Test.YtinhecggmakbnaaGreatDoorDcj08
import Derived.Test.YtinhecggmakbnaaGreatDoorPar08
namespace Go.Proofs.YtinhecggmakbnaaGreatDoor
set_option maxRecDepth 100000
open Go.ChangeShapes Go.WideShapes Go.RowKit Go.Deep Go.Extern.Stop Go.Stop Go.Extern

/-- A row of one's own of texts. -/
def T8Row (w : World) (B : Nat) (v : Value) (L : List ByteArray) : Prop := w.ownsRow B 9 1 v L.length (L.flatMap tCell)
structure T8Next (w w' : World) (B : Nat) (v v' : Value) (L' : List ByteArray) : Prop where
  row : T8Row w' B v' L'
  grown : w.grownBy w' v.ownBlock
  own : v'.ownBlock = v.ownBlock ∨ ∃ k, v'.ownBlock = some k ∧ w.heap.size ≤ k
theorem Tryz.infoT8 : (Tryz.prog.info? 9).map (fun i => (i.zero, i.size, i.bytes)) = some (some (.string ⟨#[]⟩), 1, 16) := by kernel_rfl
theorem T8cl_len (x : ByteArray) : (tCell x).length = 1 := rfl
theorem T8cl_one (L : List ByteArray) : ∀ u ∈ L.flatMap tCell, u.oneCell' = true := by
  intro u hu
  obtain ⟨x, _, hx⟩ := List.mem_flatMap.1 hu
  unfold tCell at hx
  simp only [List.mem_cons, List.not_mem_nil, or_false] at hx
  rcases hx with rfl <;> rfl
section
variable {w w' : World} {B B' : Nat} {v : Value} {L M : List ByteArray} {X : List Nat}
theorem T8Row.nil (w : World) (B : Nat) : T8Row w B (.slice none 0 0) [] := World.ownsRow_nil _ _ _ _
theorem T8Row.some_form (h : T8Row w B v L) : ∃ a n c, v = .slice a n c ∧ n = L.length ∧ n ≤ c := by
  rcases h.2 with ⟨rfl, h0⟩ | ⟨gr, cap, cur, rfl, _, _, hc, _⟩
  · exact ⟨none, 0, 0, rfl, h0.symm, Nat.le_refl _⟩
  · exact ⟨_, _, _, rfl, rfl, hc⟩
theorem T8Row.fr (h : T8Row w B v L) (hf : Fr X w w') (hn : ∀ k, v.ownBlock = some k → k ∉ X) : T8Row w' B v L := by
  obtain ⟨h1, h2⟩ := h
  refine ⟨h1, ?_⟩
  rcases h2 with h2 | ⟨gr, cap, cur, rfl, hB, hh, h3⟩
  · exact .inl h2
  · exact .inr ⟨gr, cap, cur, rfl, hB, (hf.block gr (lt_of_block hh) (hn gr rfl)).trans hh, h3⟩
theorem T8Row.below (h : T8Row w B v L) (hb : Below w.heap.size w w') : T8Row w' B v L := h.fr (X := []) (Fr.of_below hb) (by simp)
theorem T8Row.lt (h : T8Row w B v L) (k : Nat) (hk : v.ownBlock = some k) : B ≤ k ∧ k < w.heap.size ∧ ∃ cs, w.heap[k]? = some (.cells cs 9 (0, 0)) := by
  rcases h.2 with ⟨rfl, _⟩ | ⟨g, cap, cur, rfl, hb, hg, _⟩
  · cases hk
  · obtain rfl : g = k := Option.some.inj hk
    exact ⟨hb, lt_of_block hg, cur, hg⟩
theorem T8Row.nof (hr : T8Row w B v L) : NoF w v.ownBlock.toList := NoF.of fun k hk => by
  obtain ⟨_, _, cs, hh⟩ := hr.lt k (own_list.1 hk)
  exact ⟨_, _, hh, by decide⟩
theorem T8Row.base (h : T8Row w B' v L) (hb : B ≤ B') : T8Row w B v L := by
  obtain ⟨h1, h2⟩ := h
  refine ⟨h1, ?_⟩
  rcases h2 with h2 | ⟨gr, cap, cur, rfl, hB, h3⟩
  · exact .inl h2
  · exact .inr ⟨gr, cap, cur, rfl, Nat.le_trans hb hB, h3⟩
theorem T8Row.cin {a : Option Addr} {n c : Nat} (h : T8Row w B (.slice a n c) L) : CIn w B' 9 a (L.flatMap tCell) := by
  intro hp
  rcases h.2 with ⟨hs, h0⟩ | ⟨gr, cap, cur, hs, hB, hh, hnc, hcm, hcs, htake⟩
  · have hl := flat_len tCell 1 T8cl_len L
    rw [h0] at hl
    omega
  · injection hs with h1 h2 h3
    refine ⟨gr, 0, h1, fun j u hj => ?_, .inr ⟨_, hh⟩⟩
    have h4 : cur[j]? = some u := by
      have h5 := htake
      have h6 : (L.flatMap tCell)[j]? = some u := hj
      have hlt : j < (L.flatMap tCell).length := (List.getElem?_eq_some_iff.1 hj).1
      rw [← h5] at h6
      have h7 := h6
      simp [List.getElem?_take] at h7
      exact h7.2
    rw [Nat.zero_add]
    simp only [World.cell?, hh]
    simpa using h4
/-- append of one that was just laid down. -/
theorem T8_append {ops : Array Oper} {rest : List Oper} {o : Oper} {a : Act} {Q : Exit → Act → World → Prop} (p : ByteArray) (hgd : o.guard = none) (s x : Operand) (ho : o.op = .call { callee := .builtin .append, args := #[s, x], argTypes := #[26, 26] })
    (ht : T8Row w B v L) (hB : B ≤ w.heap.size) (hs : a.eval s = v) (k c : Nat) (hx : a.eval x = .slice (some ⟨k, 0, none⟩) 1 c) (hk : k = w.heap.size) (hl : L.length ≤ 1000) {cs : Array Value} (hcs : cs.toList = tCell p)
    (h : ∀ v' w', T8Next w w' B v v' (L ++ [p]) → wpList Tryz.prog ops Q rest (a.put o.dst v') w') : wpList Tryz.prog ops Q (o :: rest) a (w.alloc (.cells cs 9)) := by
  subst hk
  have hb : Below w.heap.size w (w.alloc (.cells cs 9)) := (Below.refl _ _).alloc (Nat.le_refl _) _
  obtain ⟨i0, hi0, hz0, hz1, hz2⟩ := info_parts Tryz.infoT8
  obtain ⟨v', w', hr, ho', hg, _, hat⟩ := run_append_own_at (P := Tryz.prog) (w.alloc (.cells cs 9)) B 26 o.type 9 i0 (.string ⟨#[]⟩) 1 16 Tryz.underlying26 hi0 hz0 hz1 hz2 rfl (by decide) v L.length (L.flatMap tCell) (ht.below hb) ⟨w.heap.size, 0, none⟩ 1 c (tCell p) (by rw [T8cl_len]) (fun j u hj => by
    rw [Addr.add_lit, Nat.zero_add, (Blk.made w 9 cs).cell j, ← Array.getElem?_toList, hcs]
    exact hj) (fun u hu => T8cl_one [p] u (by simpa using hu)) (by unfold maxLen; omega) (by omega) (Nat.le_trans hB hb.size)
  refine Lib.wpList_append_run _ hgd s x 26 26 ho v _ hs hx v' w' hr (h v' w' ⟨?_, (World.grownBy_alloc w _ _).trans hg, ?_⟩)
  · unfold T8Row
    rw [List.length_append, List.flatMap_append, List.length_singleton, List.flatMap_singleton]
    exact ho'
  · rcases hat with e | e
    · exact .inl e
    · refine .inr ⟨_, e, ?_⟩
      rw [World.size_alloc]
      omega
end

/-- A row of one's own of numbers. -/
def I8Row (w : World) (B : Nat) (v : Value) (L : List Int) : Prop := w.ownsRow B 3 1 v L.length (L.flatMap iCell)
structure I8Next (w w' : World) (B : Nat) (v v' : Value) (L' : List Int) : Prop where
  row : I8Row w' B v' L'
  grown : w.grownBy w' v.ownBlock
  own : v'.ownBlock = v.ownBlock ∨ ∃ k, v'.ownBlock = some k ∧ w.heap.size ≤ k
theorem Tryz.infoI8 : (Tryz.prog.info? 3).map (fun i => (i.zero, i.size, i.bytes)) = some (some (.int .i64 0), 1, 8) := by kernel_rfl
theorem I8cl_len (x : Int) : (iCell x).length = 1 := rfl
theorem I8cl_one (L : List Int) : ∀ u ∈ L.flatMap iCell, u.oneCell' = true := by
  intro u hu
  obtain ⟨x, _, hx⟩ := List.mem_flatMap.1 hu
  unfold iCell at hx
  simp only [List.mem_cons, List.not_mem_nil, or_false] at hx
  rcases hx with rfl <;> rfl
section
variable {w w' : World} {B B' : Nat} {v : Value} {L M : List Int} {X : List Nat}
theorem I8Row.nil (w : World) (B : Nat) : I8Row w B (.slice none 0 0) [] := World.ownsRow_nil _ _ _ _
theorem I8Row.some_form (h : I8Row w B v L) : ∃ a n c, v = .slice a n c ∧ n = L.length ∧ n ≤ c := by
  rcases h.2 with ⟨rfl, h0⟩ | ⟨gr, cap, cur, rfl, _, _, hc, _⟩
  · exact ⟨none, 0, 0, rfl, h0.symm, Nat.le_refl _⟩
  · exact ⟨_, _, _, rfl, rfl, hc⟩
theorem I8Row.fr (h : I8Row w B v L) (hf : Fr X w w') (hn : ∀ k, v.ownBlock = some k → k ∉ X) : I8Row w' B v L := by
  obtain ⟨h1, h2⟩ := h
  refine ⟨h1, ?_⟩
  rcases h2 with h2 | ⟨gr, cap, cur, rfl, hB, hh, h3⟩
  · exact .inl h2
  · exact .inr ⟨gr, cap, cur, rfl, hB, (hf.block gr (lt_of_block hh) (hn gr rfl)).trans hh, h3⟩
theorem I8Row.below (h : I8Row w B v L) (hb : Below w.heap.size w w') : I8Row w' B v L := h.fr (X := []) (Fr.of_below hb) (by simp)
theorem I8Row.lt (h : I8Row w B v L) (k : Nat) (hk : v.ownBlock = some k) : B ≤ k ∧ k < w.heap.size ∧ ∃ cs, w.heap[k]? = some (.cells cs 3 (0, 0)) := by
  rcases h.2 with ⟨rfl, _⟩ | ⟨g, cap, cur, rfl, hb, hg, _⟩
  · cases hk
  · obtain rfl : g = k := Option.some.inj hk
    exact ⟨hb, lt_of_block hg, cur, hg⟩
theorem I8Row.nof (hr : I8Row w B v L) : NoF w v.ownBlock.toList := NoF.of fun k hk => by
  obtain ⟨_, _, cs, hh⟩ := hr.lt k (own_list.1 hk)
  exact ⟨_, _, hh, by decide⟩
theorem I8Row.base (h : I8Row w B' v L) (hb : B ≤ B') : I8Row w B v L := by
  obtain ⟨h1, h2⟩ := h
  refine ⟨h1, ?_⟩
  rcases h2 with h2 | ⟨gr, cap, cur, rfl, hB, h3⟩
  · exact .inl h2
  · exact .inr ⟨gr, cap, cur, rfl, Nat.le_trans hb hB, h3⟩
theorem I8Row.cin {a : Option Addr} {n c : Nat} (h : I8Row w B (.slice a n c) L) : CIn w B' 3 a (L.flatMap iCell) := by
  intro hp
  rcases h.2 with ⟨hs, h0⟩ | ⟨gr, cap, cur, hs, hB, hh, hnc, hcm, hcs, htake⟩
  · have hl := flat_len iCell 1 I8cl_len L
    rw [h0] at hl
    omega
  · injection hs with h1 h2 h3
    refine ⟨gr, 0, h1, fun j u hj => ?_, .inr ⟨_, hh⟩⟩
    have h4 : cur[j]? = some u := by
      have h5 := htake
      have h6 : (L.flatMap iCell)[j]? = some u := hj
      have hlt : j < (L.flatMap iCell).length := (List.getElem?_eq_some_iff.1 hj).1
      rw [← h5] at h6
      have h7 := h6
      simp [List.getElem?_take] at h7
      exact h7.2
    rw [Nat.zero_add]
    simp only [World.cell?, hh]
    simpa using h4
/-- append of one that was just laid down. -/
theorem I8_append {ops : Array Oper} {rest : List Oper} {o : Oper} {a : Act} {Q : Exit → Act → World → Prop} (p : Int) (hgd : o.guard = none) (s x : Operand) (ho : o.op = .call { callee := .builtin .append, args := #[s, x], argTypes := #[27, 27] })
    (ht : I8Row w B v L) (hB : B ≤ w.heap.size) (hs : a.eval s = v) (k c : Nat) (hx : a.eval x = .slice (some ⟨k, 0, none⟩) 1 c) (hk : k = w.heap.size) (hl : L.length ≤ 1000) {cs : Array Value} (hcs : cs.toList = iCell p)
    (h : ∀ v' w', I8Next w w' B v v' (L ++ [p]) → wpList Tryz.prog ops Q rest (a.put o.dst v') w') : wpList Tryz.prog ops Q (o :: rest) a (w.alloc (.cells cs 3)) := by
  subst hk
  have hb : Below w.heap.size w (w.alloc (.cells cs 3)) := (Below.refl _ _).alloc (Nat.le_refl _) _
  obtain ⟨i0, hi0, hz0, hz1, hz2⟩ := info_parts Tryz.infoI8
  obtain ⟨v', w', hr, ho', hg, _, hat⟩ := run_append_own_at (P := Tryz.prog) (w.alloc (.cells cs 3)) B 27 o.type 3 i0 (.int .i64 0) 1 8 Tryz.underlying27 hi0 hz0 hz1 hz2 rfl (by decide) v L.length (L.flatMap iCell) (ht.below hb) ⟨w.heap.size, 0, none⟩ 1 c (iCell p) (by rw [I8cl_len]) (fun j u hj => by
    rw [Addr.add_lit, Nat.zero_add, (Blk.made w 3 cs).cell j, ← Array.getElem?_toList, hcs]
    exact hj) (fun u hu => I8cl_one [p] u (by simpa using hu)) (by unfold maxLen; omega) (by omega) (Nat.le_trans hB hb.size)
  refine Lib.wpList_append_run _ hgd s x 27 27 ho v _ hs hx v' w' hr (h v' w' ⟨?_, (World.grownBy_alloc w _ _).trans hg, ?_⟩)
  · unfold I8Row
    rw [List.length_append, List.flatMap_append, List.length_singleton, List.flatMap_singleton]
    exact ho'
  · rcases hat with e | e
    · exact .inl e
    · refine .inr ⟨_, e, ?_⟩
      rw [World.size_alloc]
      omega
end

/-- A row of one's own of subscriptions. -/
def V8Row (w : World) (B : Nat) (v : Value) (L : List SV) : Prop := w.ownsRow B 55 5 v L.length (L.flatMap SV.cells)
structure V8Next (w w' : World) (B : Nat) (v v' : Value) (L' : List SV) : Prop where
  row : V8Row w' B v' L'
  grown : w.grownBy w' v.ownBlock
  own : v'.ownBlock = v.ownBlock ∨ ∃ k, v'.ownBlock = some k ∧ w.heap.size ≤ k
theorem Tryz.infoV8 : (Tryz.prog.info? 55).map (fun i => (i.zero, i.size, i.bytes)) = some (some (.agg #[.string ⟨#[]⟩, .int .i64 0, .bool false, .bool false, .int .i64 0]), 5, 40) := by kernel_rfl
theorem V8cl_len (x : SV) : (SV.cells x).length = 5 := rfl
theorem V8cl_one (L : List SV) : ∀ u ∈ L.flatMap SV.cells, u.oneCell' = true := by
  intro u hu
  obtain ⟨x, _, hx⟩ := List.mem_flatMap.1 hu
  unfold SV.cells at hx
  simp only [List.mem_cons, List.not_mem_nil, or_false] at hx
  rcases hx with rfl | rfl | rfl | rfl | rfl <;> rfl
section
variable {w w' : World} {B B' : Nat} {v : Value} {L M : List SV} {X : List Nat}
theorem V8Row.nil (w : World) (B : Nat) : V8Row w B (.slice none 0 0) [] := World.ownsRow_nil _ _ _ _
theorem V8Row.some_form (h : V8Row w B v L) : ∃ a n c, v = .slice a n c ∧ n = L.length ∧ n ≤ c := by
  rcases h.2 with ⟨rfl, h0⟩ | ⟨gr, cap, cur, rfl, _, _, hc, _⟩
  · exact ⟨none, 0, 0, rfl, h0.symm, Nat.le_refl _⟩
  · exact ⟨_, _, _, rfl, rfl, hc⟩
theorem V8Row.fr (h : V8Row w B v L) (hf : Fr X w w') (hn : ∀ k, v.ownBlock = some k → k ∉ X) : V8Row w' B v L := by
  obtain ⟨h1, h2⟩ := h
  refine ⟨h1, ?_⟩
  rcases h2 with h2 | ⟨gr, cap, cur, rfl, hB, hh, h3⟩
  · exact .inl h2
  · exact .inr ⟨gr, cap, cur, rfl, hB, (hf.block gr (lt_of_block hh) (hn gr rfl)).trans hh, h3⟩
theorem V8Row.below (h : V8Row w B v L) (hb : Below w.heap.size w w') : V8Row w' B v L := h.fr (X := []) (Fr.of_below hb) (by simp)
theorem V8Row.lt (h : V8Row w B v L) (k : Nat) (hk : v.ownBlock = some k) : B ≤ k ∧ k < w.heap.size ∧ ∃ cs, w.heap[k]? = some (.cells cs 55 (0, 0)) := by
  rcases h.2 with ⟨rfl, _⟩ | ⟨g, cap, cur, rfl, hb, hg, _⟩
  · cases hk
  · obtain rfl : g = k := Option.some.inj hk
    exact ⟨hb, lt_of_block hg, cur, hg⟩
theorem V8Row.nof (hr : V8Row w B v L) : NoF w v.ownBlock.toList := NoF.of fun k hk => by
  obtain ⟨_, _, cs, hh⟩ := hr.lt k (own_list.1 hk)
  exact ⟨_, _, hh, by decide⟩
theorem V8Row.base (h : V8Row w B' v L) (hb : B ≤ B') : V8Row w B v L := by
  obtain ⟨h1, h2⟩ := h
  refine ⟨h1, ?_⟩
  rcases h2 with h2 | ⟨gr, cap, cur, rfl, hB, h3⟩
  · exact .inl h2
  · exact .inr ⟨gr, cap, cur, rfl, Nat.le_trans hb hB, h3⟩
theorem V8Row.cin {a : Option Addr} {n c : Nat} (h : V8Row w B (.slice a n c) L) : CIn w B' 55 a (L.flatMap SV.cells) := by
  intro hp
  rcases h.2 with ⟨hs, h0⟩ | ⟨gr, cap, cur, hs, hB, hh, hnc, hcm, hcs, htake⟩
  · have hl := flat_len SV.cells 5 V8cl_len L
    rw [h0] at hl
    omega
  · injection hs with h1 h2 h3
    refine ⟨gr, 0, h1, fun j u hj => ?_, .inr ⟨_, hh⟩⟩
    have h4 : cur[j]? = some u := by
      have h5 := htake
      have h6 : (L.flatMap SV.cells)[j]? = some u := hj
      have hlt : j < (L.flatMap SV.cells).length := (List.getElem?_eq_some_iff.1 hj).1
      rw [← h5] at h6
      have h7 := h6
      simp [List.getElem?_take] at h7
      exact h7.2
    rw [Nat.zero_add]
    simp only [World.cell?, hh]
    simpa using h4
/-- append of one that was just laid down. -/
theorem V8_append {ops : Array Oper} {rest : List Oper} {o : Oper} {a : Act} {Q : Exit → Act → World → Prop} (p : SV) (hgd : o.guard = none) (s x : Operand) (ho : o.op = .call { callee := .builtin .append, args := #[s, x], argTypes := #[25, 25] })
    (ht : V8Row w B v L) (hB : B ≤ w.heap.size) (hs : a.eval s = v) (k c : Nat) (hx : a.eval x = .slice (some ⟨k, 0, none⟩) 1 c) (hk : k = w.heap.size) (hl : L.length ≤ 1000) {cs : Array Value} (hcs : cs.toList = SV.cells p)
    (h : ∀ v' w', V8Next w w' B v v' (L ++ [p]) → wpList Tryz.prog ops Q rest (a.put o.dst v') w') : wpList Tryz.prog ops Q (o :: rest) a (w.alloc (.cells cs 55)) := by
  subst hk
  have hb : Below w.heap.size w (w.alloc (.cells cs 55)) := (Below.refl _ _).alloc (Nat.le_refl _) _
  obtain ⟨i0, hi0, hz0, hz1, hz2⟩ := info_parts Tryz.infoV8
  obtain ⟨v', w', hr, ho', hg, _, hat⟩ := run_append_own_at (P := Tryz.prog) (w.alloc (.cells cs 55)) B 25 o.type 55 i0 (.agg #[.string ⟨#[]⟩, .int .i64 0, .bool false, .bool false, .int .i64 0]) 5 40 Tryz.underlying25 hi0 hz0 hz1 hz2 rfl (by decide) v L.length (L.flatMap SV.cells) (ht.below hb) ⟨w.heap.size, 0, none⟩ 1 c (SV.cells p) (by rw [V8cl_len]) (fun j u hj => by
    rw [Addr.add_lit, Nat.zero_add, (Blk.made w 55 cs).cell j, ← Array.getElem?_toList, hcs]
    exact hj) (fun u hu => V8cl_one [p] u (by simpa using hu)) (by unfold maxLen; omega) (by omega) (Nat.le_trans hB hb.size)
  refine Lib.wpList_append_run _ hgd s x 25 25 ho v _ hs hx v' w' hr (h v' w' ⟨?_, (World.grownBy_alloc w _ _).trans hg, ?_⟩)
  · unfold V8Row
    rw [List.length_append, List.flatMap_append, List.length_singleton, List.flatMap_singleton]
    exact ho'
  · rcases hat with e | e
    · exact .inl e
    · refine .inr ⟨_, e, ?_⟩
      rw [World.size_alloc]
      omega
end
end Go.Proofs.YtinhecggmakbnaaGreatDoor
namespace Go.Proofs.YtinhecggmakbnaaGreatDoor
set_option maxRecDepth 100000
open Go.RowKit Go.Extern.Stop Go.Stop Go.Extern
def kU (first : Int) : Int := if first = 162 then 10 else if first = 176 then 11 else 0
def fU (kind : Int) : Int := if kind = 10 then 162 else if kind = 11 then 176 else 0
theorem kU_of {first : Int} (h : ¬ kU first = 0) : (first = 162 ∧ kU first = 10) ∨ (first = 176 ∧ kU first = 11) := by
  unfold kU at h ⊢
  by_cases h1 : first = 162
  · exact .inl ⟨h1, by rw [if_pos h1]⟩
  · rw [if_neg h1] at h
    by_cases h2 : first = 176
    · exact .inr ⟨h2, by rw [if_neg h1, if_pos h2]⟩
    · rw [if_neg h2] at h
      exact absurd rfl h
theorem fU_of {kind : Int} (h : ¬ fU kind = 0) : (kind = 10 ∧ fU kind = 162 ∧ kU (fU kind) = 10) ∨ (kind = 11 ∧ fU kind = 176 ∧ kU (fU kind) = 11) := by
  unfold fU at h ⊢
  by_cases h1 : kind = 10
  · subst h1; exact .inl ⟨rfl, rfl, rfl⟩
  · rw [if_neg h1] at h
    by_cases h2 : kind = 11
    · subst h2; exact .inr ⟨rfl, rfl, rfl⟩
    · rw [if_neg h2] at h
      exact absurd rfl h
def dcU10 (t : TH) (q : Er × List ByteArray) : Er × Pk := if q.1.no = 0 then (e00, pkS 10 t.id t.L [] q.2 []) else (q.1, pk0)
def dcU11 (t : TH) (q : Er × List Int) : Er × Pk := if q.1.no = 0 then (e00, pkS 11 t.id t.L [] [] q.2) else (q.1, pk0)
/-- What Decode tells of any bytes. -/
def dcU (first : Int) (s : ByteArray) : Er × Pk :=
  if kU first = 0 then (⟨2, 129, 0⟩, pk0)
  else if (thF (kU first) s).e.no = 0 then
    if kU first = 10 then dcU10 (thF 10 s) (ptL (rdT s) s 32 [] (thF 10 s).R) else dcU11 (thF 11 s) (ptL (rdC 11 s) s 32 [] (thF 11 s).R)
  else ((thF (kU first) s).e, pk0)
def wrU (p : Pk) : EV := if p.kind = 10 then p.filters.foldl stT (phW p) else p.codes.foldl stC (phW p)
/-- What Encode tells of any packet. -/
def enU (p : Pk) : FrR :=
  if fU p.kind = 0 then ⟨⟨7, 128, 0⟩, 0, ⟨#[]⟩⟩
  else if (encR p.kind p.props).no = 0 then frR (wrU p) (fU p.kind) (dcU (fU p.kind) ⟨(wrU p).L.toArray⟩).1
  else ⟨⟨(encR p.kind p.props).no, (encR p.kind p.props).r, (encR p.kind p.props).at_⟩, 0, ⟨#[]⟩⟩
/-- A packet with nothing of what its kind has not. -/
def bareU (p : Pk) : Pk := if p.kind = 10 then pkS p.kind p.id (plL p.props) [] p.filters [] else pkS p.kind p.id (plL p.props) [] [] p.codes
theorem bareU_a {p : Pk} (h : p.kind = 10) : bareU p = pkS p.kind p.id (plL p.props) [] p.filters [] := by unfold bareU; rw [if_pos h]
theorem bareU_b {p : Pk} (h : ¬ p.kind = 10) : bareU p = pkS p.kind p.id (plL p.props) [] [] p.codes := by unfold bareU; rw [if_neg h]
theorem enU_bad {p : Pk} (h : (enU p).e.no ≠ 0) : (enU p).first = 0 ∧ (enU p).s = ⟨#[]⟩ := by
  unfold enU at h ⊢
  by_cases h0 : fU p.kind = 0
  · rw [if_pos h0]
    exact ⟨rfl, rfl⟩
  · rw [if_neg h0] at h ⊢
    by_cases h1 : (encR p.kind p.props).no = 0
    · rw [if_pos h1] at h ⊢
      exact frR_bad8 h
    · rw [if_neg h1]
      exact ⟨rfl, rfl⟩
theorem dcU_bad {first : Int} {s : ByteArray} (h : (dcU first s).1.no ≠ 0) : (dcU first s).2 = pk0 := by
  unfold dcU at h ⊢
  by_cases c0 : kU first = 0
  · rw [if_pos c0]
  · rw [if_neg c0] at h ⊢
    by_cases c1 : (thF (kU first) s).e.no = 0
    · rw [if_pos c1] at h ⊢
      unfold dcU10 dcU11 at h ⊢
      by_cases c2 : kU first = 10
      · rw [if_pos c2] at h ⊢
        by_cases c3 : (ptL (rdT s) s 32 [] (thF 10 s).R).1.no = 0
        · rw [if_pos c3] at h
          exact absurd rfl h
        · rw [if_neg c3]
      · rw [if_neg c2] at h ⊢
        by_cases c3 : (ptL (rdC 11 s) s 32 [] (thF 11 s).R).1.no = 0
        · rw [if_pos c3] at h
          exact absurd rfl h
        · rw [if_neg c3]
    · rw [if_neg c1]
/-- What is decoded. -/
structure DcU (first : Int) (s : ByteArray) (k : Int) (id : Nat) (L : PL) (F : List ByteArray) (C : List Int) : Prop where
  fst : first = fU k
  idk : id ≠ 0 ∧ id < 65536
  ok : RdOk k s L
  pk : dcU first s = (e00, pkS k id L [] F C)
  parts : (k = 10 ∧ C = [] ∧ F ≠ [] ∧ F.length ≤ 32 ∧ ∀ x ∈ F, postT s x) ∨ (k = 11 ∧ F = [] ∧ C ≠ [] ∧ C.length ≤ 32 ∧ ∀ x ∈ C, postC 11 x)
theorem dcU_ok {first : Int} {s : ByteArray} (h : (dcU first s).1.no = 0) : ∃ k id L F C, DcU first s k id L F C := by
  have h' := h
  unfold dcU at h
  by_cases c0 : kU first = 0
  · rw [if_pos c0] at h
    exact absurd (show (2 : Nat) = 0 from h) (by decide)
  · rw [if_neg c0] at h
    by_cases c1 : (thF (kU first) s).e.no = 0
    · rw [if_pos c1] at h
      have ht := th_ok c1
      rcases kU_of c0 with ⟨hf, hk⟩ | ⟨hf, hk⟩
      · rw [if_pos hk] at h
        rw [hk] at ht c1
        unfold dcU10 at h
        by_cases c3 : (ptL (rdT s) s 32 [] (thF 10 s).R).1.no = 0
        · obtain ⟨P, p1, p2, p3, p4⟩ := (partT s).rdo 32 [] _ ht.no ht.le c3
          refine ⟨10, _, _, P, [], hf, ht.id, ht.ok, ?_, .inl ⟨rfl, rfl, p3, p4, p2⟩⟩
          unfold dcU
          rw [if_neg c0, hk, if_pos c1, if_pos rfl, p1]
          unfold dcU10
          rw [if_pos (show e00.no = 0 from rfl)]
          rfl
        · rw [if_neg c3] at h
          exact absurd h c3
      · rw [if_neg (by rw [hk]; decide)] at h
        rw [hk] at ht c1
        unfold dcU11 at h
        by_cases c3 : (ptL (rdC 11 s) s 32 [] (thF 11 s).R).1.no = 0
        · obtain ⟨P, p1, p2, p3, p4⟩ := (partC 11 s).rdo 32 [] _ ht.no ht.le c3
          refine ⟨11, _, _, [], P, hf, ht.id, ht.ok, ?_, .inr ⟨rfl, rfl, p3, p4, p2⟩⟩
          unfold dcU
          rw [if_neg c0, hk, if_pos c1, if_neg (by decide), p1]
          unfold dcU11
          rw [if_pos (show e00.no = 0 from rfl)]
          rfl
        · rw [if_neg c3] at h
          exact absurd h c3
    · rw [if_neg c1] at h
      exact absurd h c1
/-- What is encoded is decoded as it was. -/
theorem enU_back {p : Pk} (hsz : ∀ q ∈ p.props, q.s.size < 65536 ∧ q.v.size < 65536) (hl : (wrAll (actsL6 p.props)).L.length ≤ 268435455) (h : (enU p).e.no = 0) : dcU (enU p).first (enU p).s = (e00, bareU p) := by
  unfold enU at h ⊢
  by_cases h0 : fU p.kind = 0
  · rw [if_pos h0] at h
    exact absurd (show (7 : Nat) = 0 from h) (by decide)
  · rw [if_neg h0] at h ⊢
    by_cases h1 : (encR p.kind p.props).no = 0
    · rw [if_pos h1] at h ⊢
      obtain ⟨hV, hd, he⟩ := frR_ok8 h
      rw [he]
      simp only
      have key : ∀ (id : Nat) (l : List UInt8), id < 65536 → (wrU p).L = be 2 id ++ ((encR p.kind p.props).L ++ l) → ∀ k, kU (fU p.kind) = k → p.kind = k → (¬ k = 0) → ∃ R, (thF k ⟨(wrU p).L.toArray⟩) = ⟨e00, id, plL p.props, R⟩ ∧ Cur ⟨(wrU p).L.toArray⟩ R l := by
        intro id l hid hL k hk hpk hk0
        rw [hpk] at h1 hL
        have hw := th_wr (k := k) (s := ⟨(wrU p).L.toArray⟩) (l := l) hid h1 hsz hl (by rw [arr_list8, hL])
        by_cases c : id = 0
        · rw [if_pos c] at hw
          exfalso
          unfold dcU at hd
          rw [hk, if_neg hk0, if_neg (by rw [hw]; decide)] at hd
          simp only at hd
          rw [hw] at hd
          exact absurd hd (by decide)
        · rw [if_neg c] at hw
          exact hw
      rcases fU_of h0 with ⟨hk, hf, hkf⟩ | ⟨hk, hf, hkf⟩
      · have hW : wrU p = p.filters.foldl stT (phW p) := by unfold wrU; rw [if_pos hk]
        have hV2 := hV
        rw [hW] at hV2
        obtain ⟨w1, w2, w3⟩ := (partT ⟨(wrU p).L.toArray⟩).fold_no p.filters (phW p) hV2
        obtain ⟨m, hm, hm2, hpL⟩ := phW_no w1
        have hL : (wrU p).L = be 2 m ++ ((encR p.kind p.props).L ++ p.filters.flatMap byT8) := by
          rw [hW, w3]
          show (phW p).L ++ _ = _
          rw [hpL, List.append_assoc]
        obtain ⟨R, e, hc⟩ := key m _ hm2 hL 10 hkf hk (by decide)
        unfold dcU at hd ⊢
        rw [hkf, if_neg (by decide), if_pos (by rw [e]; rfl), if_pos rfl, e] at hd ⊢
        unfold dcU10 at hd ⊢
        by_cases c3 : (ptL (rdT ⟨(wrU p).L.toArray⟩) ⟨(wrU p).L.toArray⟩ 32 [] R).1.no = 0
        · have h4 := (partT ⟨(wrU p).L.toArray⟩).wr p.filters 32 [] R hc w2 c3
          rw [List.nil_append] at h4
          unfold bareU
          rw [if_pos hk, hk, hm]
          simp only
          rw [h4, if_pos (show e00.no = 0 from rfl)]
        · simp only at hd
          rw [if_neg c3] at hd
          exact absurd hd c3
      · have hk10 : ¬ p.kind = 10 := by rw [hk]; decide
        have hW : wrU p = p.codes.foldl stC (phW p) := by unfold wrU; rw [if_neg hk10]
        have hV2 := hV
        rw [hW] at hV2
        obtain ⟨w1, w2, w3⟩ := (partC 11 ⟨(wrU p).L.toArray⟩).fold_no p.codes (phW p) hV2
        obtain ⟨m, hm, hm2, hpL⟩ := phW_no w1
        have hL : (wrU p).L = be 2 m ++ ((encR p.kind p.props).L ++ p.codes.flatMap byC8) := by
          rw [hW, w3]
          show (phW p).L ++ _ = _
          rw [hpL, List.append_assoc]
        obtain ⟨R, e, hc⟩ := key m _ hm2 hL 11 hkf hk (by decide)
        unfold dcU at hd ⊢
        rw [hkf, if_neg (by decide), if_pos (by rw [e]; rfl), if_neg (by decide), e] at hd ⊢
        unfold dcU11 at hd ⊢
        by_cases c3 : (ptL (rdC 11 ⟨(wrU p).L.toArray⟩) ⟨(wrU p).L.toArray⟩ 32 [] R).1.no = 0
        · have h4 := (partC 11 ⟨(wrU p).L.toArray⟩).wr p.codes 32 [] R hc w2 c3
          rw [List.nil_append] at h4
          unfold bareU
          rw [if_neg hk10, hk, hm]
          simp only
          rw [h4, if_pos (show e00.no = 0 from rfl)]
        · simp only at hd
          rw [if_neg c3] at hd
          exact absurd hd c3
    · rw [if_neg h1] at h
      exact absurd h h1
theorem wrU_a {p : Pk} (h : p.kind = 10) : wrU p = p.filters.foldl stT (phW p) := by unfold wrU; rw [if_pos h]
theorem wrU_b {p : Pk} (h : ¬ p.kind = 10) : wrU p = p.codes.foldl stC (phW p) := by unfold wrU; rw [if_neg h]
theorem enU_of {first : Int} {s : ByteArray} {k : Int} {id : Nat} {L : PL} {F : List ByteArray} {C : List Int} (hd : DcU first s k id L F C) (hss : s.size ≤ 60000) : (enU (pkS k id L [] F C)).e.no = 0 := by
  have hl := Nat.le_trans hd.ok.len (show s.size ≤ 268435455 by omega)
  have hid := hd.idk
  rcases hd.parts with ⟨rfl, rfl, hne, hle, hps⟩ | ⟨rfl, rfl, hne, hle, hps⟩
  · have hW : wrU (pkS 10 id L [] F []) = ⟨0, 0, be 2 id ++ ((encR 10 L).L ++ F.flatMap byT8)⟩ := by
      rw [wrU_a (p := pkS 10 id L [] F []) rfl, show (pkS 10 id L [] F []).filters = F from rfl, phW_of hid.2, (partT s).fold_of F _ rfl fun x hx => (hps x hx).1, List.append_assoc]
    unfold enU
    rw [show (pkS 10 id L [] F []).kind = 10 from rfl, show (pkS 10 id L [] F []).props = L from rfl, show fU 10 = 162 from rfl, if_neg (by decide), if_pos hd.ok.enc, hW]
    obtain ⟨s2, hs2⟩ : ∃ s2 : ByteArray, s2 = ⟨(be 2 id ++ ((encR 10 L).L ++ F.flatMap byT8)).toArray⟩ := ⟨_, rfl⟩
    have hw := th_wr (k := 10) (s := s2) (l := F.flatMap byT8) hid.2 hd.ok.enc hd.ok.sz hl (by rw [hs2, arr_list8])
    rw [if_neg hid.1] at hw
    obtain ⟨R, e, hc⟩ := hw
    have hz : ∀ x ∈ F, postT s2 x := fun x hx => ⟨(hps x hx).1, by
      have h1 : (F.flatMap byT8).length ≤ s2.size := by
        rw [hs2, bsize, List.length_append, List.length_append]
        omega
      have h2 : (byT8 x).length ≤ (F.flatMap byT8).length := by
        obtain ⟨a, b, rfl⟩ := List.append_of_mem hx
        rw [List.flatMap_append, List.flatMap_cons, List.length_append, List.length_append]
        omega
      have h3 : (byT8 x).length = 2 + x.size := by
        unfold byT8
        rw [List.length_append, be_len, bLen]
      omega⟩
    have h4 := (partT s2).of F 32 [] R hc hz (by simpa using hne) hle
    have h5 : (dcU 162 s2).1.no = 0 := by
      unfold dcU
      rw [show kU 162 = 10 from rfl, if_neg (by decide), if_pos (by rw [e]; rfl), if_pos rfl, e]
      unfold dcU10
      simp only
      rw [if_pos h4]
      rfl
    rw [show (⟨(EV.L ⟨0, 0, be 2 id ++ ((encR 10 L).L ++ F.flatMap byT8)⟩).toArray⟩ : ByteArray) = s2 from hs2.symm, frR_of8 rfl h5]
    rfl
  · have hW : wrU (pkS 11 id L [] [] C) = ⟨0, 0, be 2 id ++ ((encR 11 L).L ++ C.flatMap byC8)⟩ := by
      rw [wrU_b (p := pkS 11 id L [] [] C) (show ¬ (11 : Int) = 10 by decide), show (pkS 11 id L [] [] C).codes = C from rfl, phW_of hid.2, (partC 11 s).fold_of C _ rfl fun x hx => (hps x hx).2, List.append_assoc]
    unfold enU
    rw [show (pkS 11 id L [] [] C).kind = 11 from rfl, show (pkS 11 id L [] [] C).props = L from rfl, show fU 11 = 176 from rfl, if_neg (by decide), if_pos hd.ok.enc, hW]
    obtain ⟨s2, hs2⟩ : ∃ s2 : ByteArray, s2 = ⟨(be 2 id ++ ((encR 11 L).L ++ C.flatMap byC8)).toArray⟩ := ⟨_, rfl⟩
    have hw := th_wr (k := 11) (s := s2) (l := C.flatMap byC8) hid.2 hd.ok.enc hd.ok.sz hl (by rw [hs2, arr_list8])
    rw [if_neg hid.1] at hw
    obtain ⟨R, e, hc⟩ := hw
    have h4 := (partC 11 s2).of C 32 [] R hc hps (by simpa using hne) hle
    have h5 : (dcU 176 s2).1.no = 0 := by
      unfold dcU
      rw [show kU 176 = 11 from rfl, if_neg (by decide), if_pos (by rw [e]; rfl), if_neg (by decide), e]
      unfold dcU11
      simp only
      rw [if_pos h4]
      rfl
    rw [show (⟨(EV.L ⟨0, 0, be 2 id ++ ((encR 11 L).L ++ C.flatMap byC8)⟩).toArray⟩ : ByteArray) = s2 from hs2.symm, frR_of8 rfl h5]
    rfl
/-- Few filters and codes, of few bytes. -/
def SmU (p : Pk) : Prop := SmallP p.props ∧ p.filters.length ≤ 40 ∧ p.codes.length ≤ 40 ∧ ∀ x ∈ p.filters, x.size ≤ 2048
/-- What is decoded has few parts, is encoded, and is decoded as it was. -/
theorem deU_back {first : Int} {s : ByteArray} (hss : s.size ≤ 2048) (h : (dcU first s).1.no = 0) :
    SmU (dcU first s).2 ∧ (enU (dcU first s).2).e.no = 0 ∧ dcU (enU (dcU first s).2).first (enU (dcU first s).2).s = (e00, (dcU first s).2) := by
  obtain ⟨k, id, L, F, C, hd⟩ := dcU_ok h
  rw [hd.pk]
  have hen := enU_of hd (by omega)
  have hF : F.length ≤ 40 ∧ C.length ≤ 40 ∧ ∀ x ∈ F, x.size ≤ 2048 := by
    rcases hd.parts with ⟨_, rfl, _, hle, hps⟩ | ⟨_, rfl, _, hle, hps⟩
    · exact ⟨by omega, Nat.zero_le _, fun x hx => Nat.le_trans (hps x hx).2 hss⟩
    · exact ⟨Nat.zero_le _, by omega, fun x hx => by cases hx⟩
  refine ⟨⟨hd.ok.small (by omega), hF⟩, hen, ?_⟩
  rw [enU_back (p := pkS k id L [] F C) hd.ok.sz (Nat.le_trans hd.ok.len (by omega)) hen]
  rcases hd.parts with ⟨rfl, rfl, _⟩ | ⟨rfl, rfl, _⟩
  · rw [bareU_a (p := pkS 10 id L [] F []) rfl]
    show (e00, pkS 10 id (plL L) [] F []) = _
    rw [hd.ok.pl]
  · rw [bareU_b (p := pkS 11 id L [] [] C) (show ¬ (11 : Int) = 10 by decide)]
    show (e00, pkS 11 id (plL L) [] [] C) = _
    rw [hd.ok.pl]
theorem phW_len {p : Pk} (hS : SmallP p.props) : (phW p).L.length ≤ 63846 := by
  unfold phW
  have h1 := stepW_len (stepW w0 (numE 2 p.id)) ⟨0, 0, (encR p.kind p.props).L⟩
  have h2 := stepW_len w0 (numE 2 p.id)
  have h3 := numE_len 2 p.id
  have h4 := encR_len (k := p.kind) hS
  have h5 : w0.L.length = 0 := rfl
  simp only at h1
  omega
theorem foldT_len : ∀ (F : List ByteArray) (W : EV), (∀ x ∈ F, x.size ≤ 2048) → (F.foldl stT W).L.length ≤ W.L.length + F.length * 2050 := by
  intro F
  induction F with
  | nil => intro W _; exact Nat.le_add_right _ _
  | cons x F ih =>
    intro W h
    rw [List.foldl_cons, List.length_cons, Nat.succ_mul]
    have h1 := ih (stT W x) fun y hy => h y (List.mem_cons_of_mem _ hy)
    have h2 := stepW_len W (textE x)
    have h3 := textE_len x
    have h4 := h x (List.mem_cons_self ..)
    unfold stT at h1 ⊢
    omega
theorem foldC_len : ∀ (C : List Int) (W : EV), (C.foldl stC W).L.length ≤ W.L.length + C.length := by
  intro C
  induction C with
  | nil => intro W; exact Nat.le_add_right _ _
  | cons x C ih =>
    intro W
    rw [List.foldl_cons, List.length_cons]
    have h1 := ih (stC W x)
    have h2 := stepW_len W (numE 1 x)
    have h3 := numE_len 1 x
    unfold stC at h1 ⊢
    omega
theorem wrU_len {p : Pk} (hS : SmU p) : (wrU p).L.length ≤ 150000 := by
  obtain ⟨h1, h2, h3, h4⟩ := hS
  have h5 := phW_len h1
  unfold wrU
  split
  · have := foldT_len p.filters (phW p) h4
    omega
  · have := foldC_len p.codes (phW p)
    omega
theorem enU_len {p : Pk} (hS : SmU p) : (enU p).s.size ≤ 150000 := by
  unfold enU
  split
  · exact Nat.zero_le _
  · split
    · exact Nat.le_trans frR_len8 (wrU_len hS)
    · exact Nat.zero_le _
theorem dcU_lists (first : Int) (s : ByteArray) : (dcU first s).2.subs = [] ∧ (dcU first s).2.wProps = [] := by
  unfold dcU dcU10 dcU11
  (repeat' split) <;> exact ⟨rfl, rfl⟩
end Go.Proofs.YtinhecggmakbnaaGreatDoor
