/- What is proved here: rows of one's own of texts, numbers and subscriptions: append, what they read. Conditions: few of them. What is proved here, on plain values: what a Connect is encoded to is decoded as it was, with nothing of what its kind has not; and what is decoded is encoded, and decoded, as it was. Conditions: few bytes. What is proved here: a frame that is decoded by connect.Decode. Conditions: the writer is there; what Decode tells. -/
import Derived.Test.YtfkimpcaokgldaaGreatDoorDcj08
import Derived.Test.YtfkimpcaokgldaaGreatDoorBod08
namespace Go.Proofs.YtfkimpcaokgldaaGreatDoor
set_option maxRecDepth 100000
open Go.ChangeShapes Go.WideShapes Go.RowKit Go.Deep Go.Extern.Stop Go.Stop Go.Extern

/-- A row of one's own of texts. -/
def T8Row (w : World) (B : Nat) (v : Value) (L : List ByteArray) : Prop := w.ownsRow B 9 1 v L.length (L.flatMap tCell)
structure T8Next (w w' : World) (B : Nat) (v v' : Value) (L' : List ByteArray) : Prop where
  row : T8Row w' B v' L'
  grown : w.grownBy w' v.ownBlock
  own : v'.ownBlock = v.ownBlock ∨ ∃ k, v'.ownBlock = some k ∧ w.heap.size ≤ k
theorem Tryz.infoT8 : (Tryz.prog.info? 9).map (fun i => (i.zero, i.size, i.bytes)) = some (some (.string ⟨#[]⟩), 1, 16) := by kernel_rfl
theorem T8cl_len (x : ByteArray) : (tCell x).length = 1 := rfl
theorem T8cl_one (L : List ByteArray) : ∀ u ∈ L.flatMap tCell, u.oneCell' = true := by
  intro u hu
  obtain ⟨x, _, hx⟩ := List.mem_flatMap.1 hu
  unfold tCell at hx
  simp only [List.mem_cons, List.not_mem_nil, or_false] at hx
  rcases hx with rfl <;> rfl
section
variable {w w' : World} {B B' : Nat} {v : Value} {L M : List ByteArray} {X : List Nat}
theorem T8Row.nil (w : World) (B : Nat) : T8Row w B (.slice none 0 0) [] := World.ownsRow_nil _ _ _ _
theorem T8Row.some_form (h : T8Row w B v L) : ∃ a n c, v = .slice a n c ∧ n = L.length ∧ n ≤ c := by
  rcases h.2 with ⟨rfl, h0⟩ | ⟨gr, cap, cur, rfl, _, _, hc, _⟩
  · exact ⟨none, 0, 0, rfl, h0.symm, Nat.le_refl _⟩
  · exact ⟨_, _, _, rfl, rfl, hc⟩
theorem T8Row.fr (h : T8Row w B v L) (hf : Fr X w w') (hn : ∀ k, v.ownBlock = some k → k ∉ X) : T8Row w' B v L := by
  obtain ⟨h1, h2⟩ := h
  refine ⟨h1, ?_⟩
  rcases h2 with h2 | ⟨gr, cap, cur, rfl, hB, hh, h3⟩
  · exact .inl h2
  · exact .inr ⟨gr, cap, cur, rfl, hB, (hf.block gr (lt_of_block hh) (hn gr rfl)).trans hh, h3⟩
theorem T8Row.below (h : T8Row w B v L) (hb : Below w.heap.size w w') : T8Row w' B v L := h.fr (X := []) (Fr.of_below hb) (by simp)
theorem T8Row.lt (h : T8Row w B v L) (k : Nat) (hk : v.ownBlock = some k) : B ≤ k ∧ k < w.heap.size ∧ ∃ cs, w.heap[k]? = some (.cells cs 9 (0, 0)) := by
  rcases h.2 with ⟨rfl, _⟩ | ⟨g, cap, cur, rfl, hb, hg, _⟩
  · cases hk
  · obtain rfl : g = k := Option.some.inj hk
    exact ⟨hb, lt_of_block hg, cur, hg⟩
theorem T8Row.nof (hr : T8Row w B v L) : NoF w v.ownBlock.toList := NoF.of fun k hk => by
  obtain ⟨_, _, cs, hh⟩ := hr.lt k (own_list.1 hk)
  exact ⟨_, _, hh, by decide⟩
theorem T8Row.base (h : T8Row w B' v L) (hb : B ≤ B') : T8Row w B v L := by
  obtain ⟨h1, h2⟩ := h
  refine ⟨h1, ?_⟩
  rcases h2 with h2 | ⟨gr, cap, cur, rfl, hB, h3⟩
  · exact .inl h2
  · exact .inr ⟨gr, cap, cur, rfl, Nat.le_trans hb hB, h3⟩
theorem T8Row.cin {a : Option Addr} {n c : Nat} (h : T8Row w B (.slice a n c) L) : CIn w B' 9 a (L.flatMap tCell) := by
  intro hp
  rcases h.2 with ⟨hs, h0⟩ | ⟨gr, cap, cur, hs, hB, hh, hnc, hcm, hcs, htake⟩
  · have hl := flat_len tCell 1 T8cl_len L
    rw [h0] at hl
    omega
  · injection hs with h1 h2 h3
    refine ⟨gr, 0, h1, fun j u hj => ?_, .inr ⟨_, hh⟩⟩
    have h4 : cur[j]? = some u := by
      have h5 := htake
      have h6 : (L.flatMap tCell)[j]? = some u := hj
      have hlt : j < (L.flatMap tCell).length := (List.getElem?_eq_some_iff.1 hj).1
      rw [← h5] at h6
      have h7 := h6
      simp [List.getElem?_take] at h7
      exact h7.2
    rw [Nat.zero_add]
    simp only [World.cell?, hh]
    simpa using h4
/-- append of one that was just laid down. -/
theorem T8_append {ops : Array Oper} {rest : List Oper} {o : Oper} {a : Act} {Q : Exit → Act → World → Prop} (p : ByteArray) (hgd : o.guard = none) (s x : Operand) (ho : o.op = .call { callee := .builtin .append, args := #[s, x], argTypes := #[26, 26] })
    (ht : T8Row w B v L) (hB : B ≤ w.heap.size) (hs : a.eval s = v) (k c : Nat) (hx : a.eval x = .slice (some ⟨k, 0, none⟩) 1 c) (hk : k = w.heap.size) (hl : L.length ≤ 1000) {cs : Array Value} (hcs : cs.toList = tCell p)
    (h : ∀ v' w', T8Next w w' B v v' (L ++ [p]) → wpList Tryz.prog ops Q rest (a.put o.dst v') w') : wpList Tryz.prog ops Q (o :: rest) a (w.alloc (.cells cs 9)) := by
  subst hk
  have hb : Below w.heap.size w (w.alloc (.cells cs 9)) := (Below.refl _ _).alloc (Nat.le_refl _) _
  obtain ⟨i0, hi0, hz0, hz1, hz2⟩ := info_parts Tryz.infoT8
  obtain ⟨v', w', hr, ho', hg, _, hat⟩ := run_append_own_at (P := Tryz.prog) (w.alloc (.cells cs 9)) B 26 o.type 9 i0 (.string ⟨#[]⟩) 1 16 Tryz.underlying26 hi0 hz0 hz1 hz2 rfl (by decide) v L.length (L.flatMap tCell) (ht.below hb) ⟨w.heap.size, 0, none⟩ 1 c (tCell p) (by rw [T8cl_len]) (fun j u hj => by
    rw [Addr.add_lit, Nat.zero_add, (Blk.made w 9 cs).cell j, ← Array.getElem?_toList, hcs]
    exact hj) (fun u hu => T8cl_one [p] u (by simpa using hu)) (by unfold maxLen; omega) (by omega) (Nat.le_trans hB hb.size)
  refine Lib.wpList_append_run _ hgd s x 26 26 ho v _ hs hx v' w' hr (h v' w' ⟨?_, (World.grownBy_alloc w _ _).trans hg, ?_⟩)
  · unfold T8Row
    rw [List.length_append, List.flatMap_append, List.length_singleton, List.flatMap_singleton]
    exact ho'
  · rcases hat with e | e
    · exact .inl e
    · refine .inr ⟨_, e, ?_⟩
      rw [World.size_alloc]
      omega
end

/-- A row of one's own of numbers. -/
def I8Row (w : World) (B : Nat) (v : Value) (L : List Int) : Prop := w.ownsRow B 3 1 v L.length (L.flatMap iCell)
structure I8Next (w w' : World) (B : Nat) (v v' : Value) (L' : List Int) : Prop where
  row : I8Row w' B v' L'
  grown : w.grownBy w' v.ownBlock
  own : v'.ownBlock = v.ownBlock ∨ ∃ k, v'.ownBlock = some k ∧ w.heap.size ≤ k
theorem Tryz.infoI8 : (Tryz.prog.info? 3).map (fun i => (i.zero, i.size, i.bytes)) = some (some (.int .i64 0), 1, 8) := by kernel_rfl
theorem I8cl_len (x : Int) : (iCell x).length = 1 := rfl
theorem I8cl_one (L : List Int) : ∀ u ∈ L.flatMap iCell, u.oneCell' = true := by
  intro u hu
  obtain ⟨x, _, hx⟩ := List.mem_flatMap.1 hu
  unfold iCell at hx
  simp only [List.mem_cons, List.not_mem_nil, or_false] at hx
  rcases hx with rfl <;> rfl
section
variable {w w' : World} {B B' : Nat} {v : Value} {L M : List Int} {X : List Nat}
theorem I8Row.nil (w : World) (B : Nat) : I8Row w B (.slice none 0 0) [] := World.ownsRow_nil _ _ _ _
theorem I8Row.some_form (h : I8Row w B v L) : ∃ a n c, v = .slice a n c ∧ n = L.length ∧ n ≤ c := by
  rcases h.2 with ⟨rfl, h0⟩ | ⟨gr, cap, cur, rfl, _, _, hc, _⟩
  · exact ⟨none, 0, 0, rfl, h0.symm, Nat.le_refl _⟩
  · exact ⟨_, _, _, rfl, rfl, hc⟩
theorem I8Row.fr (h : I8Row w B v L) (hf : Fr X w w') (hn : ∀ k, v.ownBlock = some k → k ∉ X) : I8Row w' B v L := by
  obtain ⟨h1, h2⟩ := h
  refine ⟨h1, ?_⟩
  rcases h2 with h2 | ⟨gr, cap, cur, rfl, hB, hh, h3⟩
  · exact .inl h2
  · exact .inr ⟨gr, cap, cur, rfl, hB, (hf.block gr (lt_of_block hh) (hn gr rfl)).trans hh, h3⟩
theorem I8Row.below (h : I8Row w B v L) (hb : Below w.heap.size w w') : I8Row w' B v L := h.fr (X := []) (Fr.of_below hb) (by simp)
theorem I8Row.lt (h : I8Row w B v L) (k : Nat) (hk : v.ownBlock = some k) : B ≤ k ∧ k < w.heap.size ∧ ∃ cs, w.heap[k]? = some (.cells cs 3 (0, 0)) := by
  rcases h.2 with ⟨rfl, _⟩ | ⟨g, cap, cur, rfl, hb, hg, _⟩
  · cases hk
  · obtain rfl : g = k := Option.some.inj hk
    exact ⟨hb, lt_of_block hg, cur, hg⟩
theorem I8Row.nof (hr : I8Row w B v L) : NoF w v.ownBlock.toList := NoF.of fun k hk => by
  obtain ⟨_, _, cs, hh⟩ := hr.lt k (own_list.1 hk)
  exact ⟨_, _, hh, by decide⟩
theorem I8Row.base (h : I8Row w B' v L) (hb : B ≤ B') : I8Row w B v L := by
  obtain ⟨h1, h2⟩ := h
  refine ⟨h1, ?_⟩
  rcases h2 with h2 | ⟨gr, cap, cur, rfl, hB, h3⟩
  · exact .inl h2
  · exact .inr ⟨gr, cap, cur, rfl, Nat.le_trans hb hB, h3⟩
theorem I8Row.cin {a : Option Addr} {n c : Nat} (h : I8Row w B (.slice a n c) L) : CIn w B' 3 a (L.flatMap iCell) := by
  intro hp
  rcases h.2 with ⟨hs, h0⟩ | ⟨gr, cap, cur, hs, hB, hh, hnc, hcm, hcs, htake⟩
  · have hl := flat_len iCell 1 I8cl_len L
    rw [h0] at hl
    omega
  · injection hs with h1 h2 h3
    refine ⟨gr, 0, h1, fun j u hj => ?_, .inr ⟨_, hh⟩⟩
    have h4 : cur[j]? = some u := by
      have h5 := htake
      have h6 : (L.flatMap iCell)[j]? = some u := hj
      have hlt : j < (L.flatMap iCell).length := (List.getElem?_eq_some_iff.1 hj).1
      rw [← h5] at h6
      have h7 := h6
      simp [List.getElem?_take] at h7
      exact h7.2
    rw [Nat.zero_add]
    simp only [World.cell?, hh]
    simpa using h4
/-- append of one that was just laid down. -/
theorem I8_append {ops : Array Oper} {rest : List Oper} {o : Oper} {a : Act} {Q : Exit → Act → World → Prop} (p : Int) (hgd : o.guard = none) (s x : Operand) (ho : o.op = .call { callee := .builtin .append, args := #[s, x], argTypes := #[27, 27] })
    (ht : I8Row w B v L) (hB : B ≤ w.heap.size) (hs : a.eval s = v) (k c : Nat) (hx : a.eval x = .slice (some ⟨k, 0, none⟩) 1 c) (hk : k = w.heap.size) (hl : L.length ≤ 1000) {cs : Array Value} (hcs : cs.toList = iCell p)
    (h : ∀ v' w', I8Next w w' B v v' (L ++ [p]) → wpList Tryz.prog ops Q rest (a.put o.dst v') w') : wpList Tryz.prog ops Q (o :: rest) a (w.alloc (.cells cs 3)) := by
  subst hk
  have hb : Below w.heap.size w (w.alloc (.cells cs 3)) := (Below.refl _ _).alloc (Nat.le_refl _) _
  obtain ⟨i0, hi0, hz0, hz1, hz2⟩ := info_parts Tryz.infoI8
  obtain ⟨v', w', hr, ho', hg, _, hat⟩ := run_append_own_at (P := Tryz.prog) (w.alloc (.cells cs 3)) B 27 o.type 3 i0 (.int .i64 0) 1 8 Tryz.underlying27 hi0 hz0 hz1 hz2 rfl (by decide) v L.length (L.flatMap iCell) (ht.below hb) ⟨w.heap.size, 0, none⟩ 1 c (iCell p) (by rw [I8cl_len]) (fun j u hj => by
    rw [Addr.add_lit, Nat.zero_add, (Blk.made w 3 cs).cell j, ← Array.getElem?_toList, hcs]
    exact hj) (fun u hu => I8cl_one [p] u (by simpa using hu)) (by unfold maxLen; omega) (by omega) (Nat.le_trans hB hb.size)
  refine Lib.wpList_append_run _ hgd s x 27 27 ho v _ hs hx v' w' hr (h v' w' ⟨?_, (World.grownBy_alloc w _ _).trans hg, ?_⟩)
  · unfold I8Row
    rw [List.length_append, List.flatMap_append, List.length_singleton, List.flatMap_singleton]
    exact ho'
  · rcases hat with e | e
    · exact .inl e
    · refine .inr ⟨_, e, ?_⟩
      rw [World.size_alloc]
      omega
end

/-- A row of one's own of subscriptions. -/
def V8Row (w : World) (B : Nat) (v : Value) (L : List SV) : Prop := w.ownsRow B 55 5 v L.length (L.flatMap SV.cells)
structure V8Next (w w' : World) (B : Nat) (v v' : Value) (L' : List SV) : Prop where
  row : V8Row w' B v' L'
  grown : w.grownBy w' v.ownBlock
  own : v'.ownBlock = v.ownBlock ∨ ∃ k, v'.ownBlock = some k ∧ w.heap.size ≤ k
theorem Tryz.infoV8 : (Tryz.prog.info? 55).map (fun i => (i.zero, i.size, i.bytes)) = some (some (.agg #[.string ⟨#[]⟩, .int .i64 0, .bool false, .bool false, .int .i64 0]), 5, 40) := by kernel_rfl
theorem V8cl_len (x : SV) : (SV.cells x).length = 5 := rfl
theorem V8cl_one (L : List SV) : ∀ u ∈ L.flatMap SV.cells, u.oneCell' = true := by
  intro u hu
  obtain ⟨x, _, hx⟩ := List.mem_flatMap.1 hu
  unfold SV.cells at hx
  simp only [List.mem_cons, List.not_mem_nil, or_false] at hx
  rcases hx with rfl | rfl | rfl | rfl | rfl <;> rfl
section
variable {w w' : World} {B B' : Nat} {v : Value} {L M : List SV} {X : List Nat}
theorem V8Row.nil (w : World) (B : Nat) : V8Row w B (.slice none 0 0) [] := World.ownsRow_nil _ _ _ _
theorem V8Row.some_form (h : V8Row w B v L) : ∃ a n c, v = .slice a n c ∧ n = L.length ∧ n ≤ c := by
  rcases h.2 with ⟨rfl, h0⟩ | ⟨gr, cap, cur, rfl, _, _, hc, _⟩
  · exact ⟨none, 0, 0, rfl, h0.symm, Nat.le_refl _⟩
  · exact ⟨_, _, _, rfl, rfl, hc⟩
theorem V8Row.fr (h : V8Row w B v L) (hf : Fr X w w') (hn : ∀ k, v.ownBlock = some k → k ∉ X) : V8Row w' B v L := by
  obtain ⟨h1, h2⟩ := h
  refine ⟨h1, ?_⟩
  rcases h2 with h2 | ⟨gr, cap, cur, rfl, hB, hh, h3⟩
  · exact .inl h2
  · exact .inr ⟨gr, cap, cur, rfl, hB, (hf.block gr (lt_of_block hh) (hn gr rfl)).trans hh, h3⟩
theorem V8Row.below (h : V8Row w B v L) (hb : Below w.heap.size w w') : V8Row w' B v L := h.fr (X := []) (Fr.of_below hb) (by simp)
theorem V8Row.lt (h : V8Row w B v L) (k : Nat) (hk : v.ownBlock = some k) : B ≤ k ∧ k < w.heap.size ∧ ∃ cs, w.heap[k]? = some (.cells cs 55 (0, 0)) := by
  rcases h.2 with ⟨rfl, _⟩ | ⟨g, cap, cur, rfl, hb, hg, _⟩
  · cases hk
  · obtain rfl : g = k := Option.some.inj hk
    exact ⟨hb, lt_of_block hg, cur, hg⟩
theorem V8Row.nof (hr : V8Row w B v L) : NoF w v.ownBlock.toList := NoF.of fun k hk => by
  obtain ⟨_, _, cs, hh⟩ := hr.lt k (own_list.1 hk)
  exact ⟨_, _, hh, by decide⟩
theorem V8Row.base (h : V8Row w B' v L) (hb : B ≤ B') : V8Row w B v L := by
  obtain ⟨h1, h2⟩ := h
  refine ⟨h1, ?_⟩
  rcases h2 with h2 | ⟨gr, cap, cur, rfl, hB, h3⟩
  · exact .inl h2
  · exact .inr ⟨gr, cap, cur, rfl, Nat.le_trans hb hB, h3⟩
theorem V8Row.cin {a : Option Addr} {n c : Nat} (h : V8Row w B (.slice a n c) L) : CIn w B' 55 a (L.flatMap SV.cells) := by
  intro hp
  rcases h.2 with ⟨hs, h0⟩ | ⟨gr, cap, cur, hs, hB, hh, hnc, hcm, hcs, htake⟩
  · have hl := flat_len SV.cells 5 V8cl_len L
    rw [h0] at hl
    omega
  · injection hs with h1 h2 h3
    refine ⟨gr, 0, h1, fun j u hj => ?_, .inr ⟨_, hh⟩⟩
    have h4 : cur[j]? = some u := by
      have h5 := htake
      have h6 : (L.flatMap SV.cells)[j]? = some u := hj
      have hlt : j < (L.flatMap SV.cells).length := (List.getElem?_eq_some_iff.1 hj).1
      rw [← h5] at h6
      have h7 := h6
      simp [List.getElem?_take] at h7
      exact h7.2
    rw [Nat.zero_add]
    simp only [World.cell?, hh]
    simpa using h4
/-- append of one that was just laid down. -/
theorem V8_append {ops : Array Oper} {rest : List Oper} {o : Oper} {a : Act} {Q : Exit → Act → World → Prop} (p : SV) (hgd : o.guard = none) (s x : Operand) (ho : o.op = .call { callee := .builtin .append, args := #[s, x], argTypes := #[25, 25] })
    (ht : V8Row w B v L) (hB : B ≤ w.heap.size) (hs : a.eval s = v) (k c : Nat) (hx : a.eval x = .slice (some ⟨k, 0, none⟩) 1 c) (hk : k = w.heap.size) (hl : L.length ≤ 1000) {cs : Array Value} (hcs : cs.toList = SV.cells p)
    (h : ∀ v' w', V8Next w w' B v v' (L ++ [p]) → wpList Tryz.prog ops Q rest (a.put o.dst v') w') : wpList Tryz.prog ops Q (o :: rest) a (w.alloc (.cells cs 55)) := by
  subst hk
  have hb : Below w.heap.size w (w.alloc (.cells cs 55)) := (Below.refl _ _).alloc (Nat.le_refl _) _
  obtain ⟨i0, hi0, hz0, hz1, hz2⟩ := info_parts Tryz.infoV8
  obtain ⟨v', w', hr, ho', hg, _, hat⟩ := run_append_own_at (P := Tryz.prog) (w.alloc (.cells cs 55)) B 25 o.type 55 i0 (.agg #[.string ⟨#[]⟩, .int .i64 0, .bool false, .bool false, .int .i64 0]) 5 40 Tryz.underlying25 hi0 hz0 hz1 hz2 rfl (by decide) v L.length (L.flatMap SV.cells) (ht.below hb) ⟨w.heap.size, 0, none⟩ 1 c (SV.cells p) (by rw [V8cl_len]) (fun j u hj => by
    rw [Addr.add_lit, Nat.zero_add, (Blk.made w 55 cs).cell j, ← Array.getElem?_toList, hcs]
    exact hj) (fun u hu => V8cl_one [p] u (by simpa using hu)) (by unfold maxLen; omega) (by omega) (Nat.le_trans hB hb.size)
  refine Lib.wpList_append_run _ hgd s x 25 25 ho v _ hs hx v' w' hr (h v' w' ⟨?_, (World.grownBy_alloc w _ _).trans hg, ?_⟩)
  · unfold V8Row
    rw [List.length_append, List.flatMap_append, List.length_singleton, List.flatMap_singleton]
    exact ho'
  · rcases hat with e | e
    · exact .inl e
    · refine .inr ⟨_, e, ?_⟩
      rw [World.size_alloc]
      omega
end
end Go.Proofs.YtfkimpcaokgldaaGreatDoor
namespace Go.Proofs.YtfkimpcaokgldaaGreatDoor
set_option maxRecDepth 100000
open Go.RowKit Go.Extern.Stop Go.Stop Go.Extern
def mqtt : ByteArray := ⟨#[77, 81, 84, 84]⟩
theorem mqtt_ok : (checkOf mqtt).1 = 0 := by decide +kernel
def has2 (n : Nat) : Bool := decide (n / 2 % 2 = 1)
def has4 (n : Nat) : Bool := decide (n / 4 % 2 = 1)
def has32 (n : Nat) : Bool := decide (n / 32 % 2 = 1)
def has64 (n : Nat) : Bool := decide (n / 64 % 2 = 1)
def has128 (n : Nat) : Bool := decide (n / 128 % 2 = 1)
def qosK (n : Nat) : Nat := n / 8 % 4
/-- May these be flags? -/
def mayK (n : Nat) : Bool := !decide (n % 2 = 1) && !decide (qosK n = 3) && (has4 n || (decide (qosK n = 0) && !has32 n))
/-- A Connect. -/
def pkK (n : Nat) (keep : Int) (L : PL) (cl wt wp : ByteArray) (M : PL) (us ps : ByteArray) : Pk := ⟨1, 0, 0, L, has2 n, keep, cl, has4 n, wt, wp, (qosK n : Nat), has32 n, M, has128 n, us, has64 n, ps, false, ⟨#[]⟩, ⟨#[]⟩, 0, false, false, [], [], []⟩
def usK (s : ByteArray) (n : Nat) (R : RV) : ByteArray × RV := if has128 n = true then rText s R else (⟨#[]⟩, R)
def psK (s : ByteArray) (n : Nat) (R : RV) : ByteArray × RV := if has64 n = true then rBin s R else (⟨#[]⟩, R)
def dcK6 (s : ByteArray) (p : Pk) (R : RV) : Er × Pk := if R.no = 0 then (if R.p < s.size then (⟨2, 129, R.p⟩, pk0) else (e00, p)) else (⟨R.no, 129, R.ea⟩, pk0)
def dcK5 (s : ByteArray) (n : Nat) (keep : Nat) (L : PL) (cl wt wp : ByteArray) (M : PL) (R : RV) : Er × Pk := dcK6 s (pkK n keep L cl wt wp M (usK s n R).1 (psK s n (usK s n R).2).1) (psK s n (usK s n R).2).2
def dcK4 (s : ByteArray) (n : Nat) (keep : Nat) (L : PL) (cl : ByteArray) (R : RV) : Er × Pk :=
  if has4 n = true then
    if (readF 16 s R).1.no = 0 then dcK5 s n keep L cl (rText s (readF 16 s R).2).1 (rBin s (rText s (readF 16 s R).2).2).1 (readF 16 s R).1.L (rBin s (rText s (readF 16 s R).2).2).2
    else (⟨(readF 16 s R).1.no, (readF 16 s R).1.r, (readF 16 s R).1.at_⟩, pk0)
  else dcK5 s n keep L cl ⟨#[]⟩ ⟨#[]⟩ [] R
def dcK3 (s : ByteArray) (n : Nat) (keep : Nat) (R : RV) : Er × Pk :=
  if (readF 1 s R).1.no = 0 then dcK4 s n keep (readF 1 s R).1.L (rText s (readF 1 s R).2).1 (rText s (readF 1 s R).2).2 else (⟨(readF 1 s R).1.no, (readF 1 s R).1.r, (readF 1 s R).1.at_⟩, pk0)
def dcK2 (s : ByteArray) (n : Nat) (R : RV) : Er × Pk := dcK3 s n (rNum s 2 R).1 (rNum s 2 R).2
/-- What head tells: the flags. -/
def hdK3 (s : ByteArray) (R : RV) : Er × Nat × RV := if mayK (rNum s 1 R).1 = true then (if (rNum s 1 R).2.no = 0 then (e00, (rNum s 1 R).1, (rNum s 1 R).2) else (⟨(rNum s 1 R).2.no, 129, (rNum s 1 R).2.ea⟩, (rNum s 1 R).1, (rNum s 1 R).2)) else (⟨2, 129, 7⟩, 0, (rNum s 1 R).2)
def hdK2 (s : ByteArray) (R : RV) : Er × Nat × RV := if (rNum s 1 R).2.no = 0 ∧ (rNum s 1 R).1 ≠ 5 then (⟨3, 132, 6⟩, 0, (rNum s 1 R).2) else hdK3 s (rNum s 1 R).2
def hdK (s : ByteArray) : Er × Nat × RV := if (rText s ⟨0, 0, 0⟩).2.no = 0 ∧ (rText s ⟨0, 0, 0⟩).1 ≠ mqtt then (⟨3, 132, 0⟩, 0, (rText s ⟨0, 0, 0⟩).2) else hdK2 s (rText s ⟨0, 0, 0⟩).2
/-- What Decode tells of any bytes. -/
def dcK1 (s : ByteArray) (q : Er × Nat × RV) : Er × Pk := if q.1.no = 0 then dcK2 s q.2.1 q.2.2 else (q.1, pk0)
def dcK (first : Int) (s : ByteArray) : Er × Pk := if first = 16 then dcK1 s (hdK s) else (⟨2, 129, 0⟩, pk0)
/-- The flags of a packet. -/
def fgK (clean has : Bool) (q : Nat) (ret pass user : Bool) : Nat := (if clean then 2 else 0) + (if has then 4 + 8 * q + (if ret then 32 else 0) else 0) + (if pass then 64 else 0) + (if user then 128 else 0)
def flK (p : Pk) : Nat := fgK p.clean p.wHas p.wQos.toNat p.wRetain p.hasPass p.hasUser
def wrK1 (p : Pk) : EV := stepW (stepW (stepW (stepW (stepW (stepW w0 (textE mqtt)) (numE 1 5)) (numE 1 (flK p : Nat))) (numE 2 p.keep)) ⟨0, 0, (encR 1 p.props).L⟩) (textE p.client)
def wrK2 (p : Pk) (W : EV) : EV := if p.wHas = true then stepW (stepW (stepW W ⟨0, 0, (encR 16 p.wProps).L⟩) (textE p.wTopic)) (binE p.wPay) else W
def wrK3 (p : Pk) (W : EV) : EV := if p.hasUser = true then stepW W (textE p.user) else W
def wrK4 (p : Pk) (W : EV) : EV := if p.hasPass = true then stepW W (binE p.pass) else W
def wrK (p : Pk) : EV := wrK4 p (wrK3 p (wrK2 p (wrK1 p)))
/-- What Encode tells of any packet. -/
def enK (p : Pk) : FrR :=
  if p.wHas = true ∧ (p.wQos < 0 ∨ 3 < p.wQos) then ⟨⟨2, 129, 0⟩, 0, ⟨#[]⟩⟩
  else if (encR 1 p.props).no = 0 then
    if p.wHas = true ∧ (encR 16 p.wProps).no ≠ 0 then ⟨⟨(encR 16 p.wProps).no, (encR 16 p.wProps).r, (encR 16 p.wProps).at_⟩, 0, ⟨#[]⟩⟩
    else frR (wrK p) 16 (dcK 16 ⟨(wrK p).L.toArray⟩).1
  else ⟨⟨(encR 1 p.props).no, (encR 1 p.props).r, (encR 1 p.props).at_⟩, 0, ⟨#[]⟩⟩
/-- A packet with nothing of what a Connect has not. -/
def bareK (p : Pk) : Pk := ⟨1, 0, 0, plL p.props, p.clean, p.keep, p.client, p.wHas, if p.wHas = true then p.wTopic else ⟨#[]⟩, if p.wHas = true then p.wPay else ⟨#[]⟩, if p.wHas = true then p.wQos else 0, p.wHas && p.wRetain, if p.wHas = true then plL p.wProps else [], p.hasUser, if p.hasUser = true then p.user else ⟨#[]⟩, p.hasPass, if p.hasPass = true then p.pass else ⟨#[]⟩, false, ⟨#[]⟩, ⟨#[]⟩, 0, false, false, [], [], []⟩
theorem enK_bad {p : Pk} (h : (enK p).e.no ≠ 0) : (enK p).first = 0 ∧ (enK p).s = ⟨#[]⟩ := by
  unfold enK at h ⊢
  by_cases h0 : p.wHas = true ∧ (p.wQos < 0 ∨ 3 < p.wQos)
  · rw [if_pos h0]
    exact ⟨rfl, rfl⟩
  · rw [if_neg h0] at h ⊢
    by_cases h1 : (encR 1 p.props).no = 0
    · rw [if_pos h1] at h ⊢
      by_cases h2 : p.wHas = true ∧ (encR 16 p.wProps).no ≠ 0
      · rw [if_pos h2]
        exact ⟨rfl, rfl⟩
      · rw [if_neg h2] at h ⊢
        exact frR_bad8 h
    · rw [if_neg h1]
      exact ⟨rfl, rfl⟩
theorem dcK_bad {first : Int} {s : ByteArray} (h : (dcK first s).1.no ≠ 0) : (dcK first s).2 = pk0 := by
  have h6 : ∀ p R, (dcK6 s p R).1.no ≠ 0 → (dcK6 s p R).2 = pk0 := by
    intro p R h
    unfold dcK6 at h ⊢
    split
    · rename_i c
      rw [if_pos c] at h
      split
      · rfl
      · rename_i c1
        rw [if_neg c1] at h
        exact absurd rfl h
    · rfl
  have h4 : ∀ n keep L cl R, (dcK4 s n keep L cl R).1.no ≠ 0 → (dcK4 s n keep L cl R).2 = pk0 := by
    intro n keep L cl R h
    unfold dcK4 at h ⊢
    split
    · rename_i c
      rw [if_pos c] at h
      split
      · rename_i c1
        rw [if_pos c1] at h
        exact h6 _ _ h
      · rfl
    · rename_i c
      rw [if_neg c] at h
      exact h6 _ _ h
  unfold dcK at h ⊢
  split
  · rename_i c
    rw [if_pos c] at h
    unfold dcK1 at h ⊢
    split
    · rename_i c1
      rw [if_pos c1] at h
      unfold dcK2 dcK3 at h ⊢
      split
      · rename_i c2
        rw [if_pos c2] at h
        exact h4 _ _ _ _ _ h
      · rfl
    · rfl
  · rfl
/-- What a Connect that is decoded is. -/
structure DcK (first : Int) (s : ByteArray) (n keep : Nat) (L : PL) (cl wt wp : ByteArray) (M : PL) (us ps : ByteArray) : Prop where
  fst : first = 16
  may : mayK n = true
  n256 : n < 256
  kp : keep < 65536
  clk : (checkOf cl).1 = 0 ∧ cl.size ≤ s.size
  wl : has4 n = true → (checkOf wt).1 = 0 ∧ wp.size < 65536
  wz : wt.size ≤ s.size ∧ wp.size ≤ s.size
  w0 : ¬ has4 n = true → wt = ⟨#[]⟩ ∧ wp = ⟨#[]⟩ ∧ M = []
  usk : has128 n = true → (checkOf us).1 = 0
  uz : us.size ≤ s.size
  u0 : ¬ has128 n = true → us = ⟨#[]⟩
  pz : ps.size ≤ s.size ∧ ps.size < 65536
  p0 : ¬ has64 n = true → ps = ⟨#[]⟩
  pk : dcK first s = (e00, pkK n keep L cl wt wp M us ps)
  ok : RdOk 1 s L
  ok2 : RdOk 16 s M
theorem readF_no8 {k : Int} {s : ByteArray} {R : RV} (h : (readF k s R).1.no = 0) : R.no = 0 := by
  by_cases c : R.no = 0
  · exact c
  · rw [readF_stuck c] at h
    exact absurd h c
theorem rBin_no {s : ByteArray} {R : RV} (h : (rBin s R).2.no = 0) : R.no = 0 := no_of h fun c => by rw [rBin_stuck c]
theorem rNum_no {s : ByteArray} {k : Nat} {R : RV} (h : (rNum s k R).2.no = 0) : R.no = 0 := no_of h fun c => by rw [rNum_stuck c]
theorem readF_le {k : Int} {s : ByteArray} {R : RV} (hp : R.p ≤ s.size) : (readF k s R).2.p ≤ s.size := by
  have h := (rTake_le (n := (rVar s R).1) (rVar_le hp)).1
  unfold readF
  split <;> exact h
theorem rNum_le8 {k : Nat} {s : ByteArray} {R : RV} (hp : R.p ≤ s.size) : (rNum s k R).2.p ≤ s.size := (rTake_le hp).1
theorem dcK6_ok {s : ByteArray} {p : Pk} {R : RV} (h : (dcK6 s p R).1.no = 0) : R.no = 0 ∧ dcK6 s p R = (e00, p) := by
  unfold dcK6 at h ⊢
  by_cases c : R.no = 0
  · rw [if_pos c] at h ⊢
    by_cases c1 : R.p < s.size
    · rw [if_pos c1] at h
      exact absurd (show (2 : Nat) = 0 from h) (by decide)
    · rw [if_neg c1]
      exact ⟨c, rfl⟩
  · rw [if_neg c] at h
    exact absurd h c
theorem dcK_ok {first : Int} {s : ByteArray} (h : (dcK first s).1.no = 0) : ∃ n keep L cl wt wp M us ps, DcK first s n keep L cl wt wp M us ps := by
  have hz : (⟨#[]⟩ : ByteArray).size ≤ s.size := Nat.zero_le _
  have hu : ∀ n R, R.p ≤ s.size → (usK s n R).2.no = 0 → R.no = 0 ∧ (has128 n = true → (checkOf (usK s n R).1).1 = 0) ∧ (usK s n R).1.size ≤ s.size ∧ (¬ has128 n = true → (usK s n R).1 = ⟨#[]⟩) ∧ (usK s n R).2.p ≤ s.size := by
    intro n R hp h
    unfold usK at h ⊢
    by_cases c : has128 n = true
    · rw [if_pos c] at h ⊢
      have h0 := rText_no h
      obtain ⟨k1, k2, k3⟩ := rText_sz h0 hp h
      exact ⟨h0, fun _ => k1, k2, fun hn => absurd c hn, k3⟩
    · rw [if_neg c] at h ⊢
      exact ⟨h, fun hh => absurd hh c, hz, fun _ => rfl, hp⟩
  have hps : ∀ n R, R.p ≤ s.size → (psK s n R).2.no = 0 → R.no = 0 ∧ ((psK s n R).1.size ≤ s.size ∧ (psK s n R).1.size < 65536) ∧ (¬ has64 n = true → (psK s n R).1 = ⟨#[]⟩) := by
    intro n R hp h
    unfold psK at h ⊢
    by_cases c : has64 n = true
    · rw [if_pos c] at h ⊢
      have h0 := rBin_no h
      obtain ⟨k1, k2, k3⟩ := rBin_sz h0 hp h
      exact ⟨h0, ⟨k1, k2⟩, fun hn => absurd c hn⟩
    · rw [if_neg c] at h ⊢
      exact ⟨h, ⟨hz, by show (0 : Nat) < 65536; decide⟩, fun _ => rfl⟩
  have hd : ∀ n R, n < 256 → hdK3 s R = (e00, n, (rNum s 1 R).2) → True := fun _ _ _ _ => trivial
  clear hd
  unfold dcK at h
  by_cases c0 : first = 16
  · rw [if_pos c0] at h
    obtain ⟨⟨he, n, R⟩, hq⟩ : ∃ q, q = hdK s := ⟨_, rfl⟩
    have hpk : dcK first s = dcK1 s (he, n, R) := by
      unfold dcK
      rw [if_pos c0, hq]
    rw [← hq] at h
    unfold dcK1 at h hpk
    simp only at h hpk
    by_cases c1 : he.no = 0
    · rw [if_pos c1] at h hpk
      have hh : mayK n = true ∧ n < 256 ∧ R.p ≤ s.size ∧ R.no = 0 := by
        unfold hdK at hq
        have l1 := rText_le (s := s) (R := ⟨0, 0, 0⟩) (Nat.zero_le _)
        by_cases d1 : (rText s ⟨0, 0, 0⟩).2.no = 0 ∧ (rText s ⟨0, 0, 0⟩).1 ≠ mqtt
        · rw [if_pos d1] at hq
          injection hq with q1 q2
          rw [q1] at c1
          exact absurd c1 (by decide)
        · rw [if_neg d1] at hq
          generalize (rText s ⟨0, 0, 0⟩).2 = R1 at *
          unfold hdK2 at hq
          have l2 := rNum_le8 (k := 1) l1
          by_cases d2 : (rNum s 1 R1).2.no = 0 ∧ (rNum s 1 R1).1 ≠ 5
          · rw [if_pos d2] at hq
            injection hq with q1 q2
            rw [q1] at c1
            exact absurd c1 (by decide)
          · rw [if_neg d2] at hq
            generalize (rNum s 1 R1).2 = R2 at *
            unfold hdK3 at hq
            have l3 := rNum_le8 (k := 1) l2
            by_cases d3 : mayK (rNum s 1 R2).1 = true
            · rw [if_pos d3] at hq
              by_cases d4 : (rNum s 1 R2).2.no = 0
              · rw [if_pos d4] at hq
                injection hq with q1 q2
                injection q2 with q2 q3
                rw [q2, q3]
                exact ⟨d3, by have := (rNum_is (rNum_no d4) d4).1; omega, l3, d4⟩
              · rw [if_neg d4] at hq
                injection hq with q1 q2
                rw [q1] at c1
                exact absurd c1 d4
            · rw [if_neg d3] at hq
              injection hq with q1 q2
              rw [q1] at c1
              exact absurd c1 (by decide)
      obtain ⟨hm, hn, hp0, _⟩ := hh
      clear hq c1
      unfold dcK2 at h hpk
      have l1 := rNum_le8 (k := 2) hp0
      have hkp : (readF 1 s (rNum s 2 R).2).1.no = 0 → (rNum s 2 R).1 < 65536 := fun hh => by
        have h1 := readF_no8 hh
        exact (rNum_is (rNum_no h1) h1).1
      generalize (rNum s 2 R).1 = keep at *
      generalize (rNum s 2 R).2 = R1 at *
      unfold dcK3 at h hpk
      by_cases c2 : (readF 1 s R1).1.no = 0
      · rw [if_pos c2] at h hpk
        have hkp := hkp c2
        have hok := rd_ok c2
        have l2 := readF_le (k := 1) l1
        generalize (readF 1 s R1).1.L = L at *
        generalize (readF 1 s R1).2 = R2 at *
        clear c2
        have htx : (rText s R2).2.no = 0 → (checkOf (rText s R2).1).1 = 0 ∧ (rText s R2).1.size ≤ s.size := fun hh => by
          obtain ⟨k1, k2, _⟩ := rText_sz (rText_no hh) l2 hh
          exact ⟨k1, k2⟩
        have l3 := rText_le l2
        generalize (rText s R2).1 = cl at *
        generalize (rText s R2).2 = R3 at *
        have key : ∀ wt wp M R4, R4.p ≤ s.size → (R4.no = 0 → R3.no = 0 ∧ (has4 n = true → (checkOf wt).1 = 0 ∧ wp.size < 65536) ∧ (wt.size ≤ s.size ∧ wp.size ≤ s.size)) → (¬ has4 n = true → wt = ⟨#[]⟩ ∧ wp = ⟨#[]⟩ ∧ M = []) → RdOk 16 s M →
            dcK first s = dcK5 s n keep L cl wt wp M R4 → (dcK5 s n keep L cl wt wp M R4).1.no = 0 → ∃ n keep L cl wt wp M us ps, DcK first s n keep L cl wt wp M us ps := by
          intro wt wp M R4 l4 hw h0w hok2 hpk5 h5
          unfold dcK5 at h5 hpk5
          obtain ⟨e1, e2⟩ := dcK6_ok h5
          have e3 : (usK s n R4).2.no = 0 := by
            unfold psK at e1
            by_cases c : has64 n = true
            · rw [if_pos c] at e1
              exact rBin_no e1
            · rw [if_neg c] at e1
              exact e1
          obtain ⟨u1, u2, u3, u4, u5⟩ := hu n R4 l4 e3
          obtain ⟨p1, p2, p3⟩ := hps n _ u5 e1
          obtain ⟨w1, w2, w3⟩ := hw u1
          exact ⟨n, keep, L, cl, wt, wp, M, _, _, c0, hm, hn, hkp, htx w1, w2, w3, h0w, u2, u3, u4, p2, p3, by rw [hpk5, e2], hok, hok2⟩
        unfold dcK4 at h hpk
        by_cases c3 : has4 n = true
        · rw [if_pos c3] at h hpk
          by_cases c4 : (readF 16 s R3).1.no = 0
          · rw [if_pos c4] at h hpk
            have l4 := readF_le (k := 16) l3
            have h30 := readF_no8 c4
            refine key _ _ _ _ (rBin_le (rText_le l4)) (fun h0 => ?_) (fun hn => absurd c3 hn) (rd_ok c4) hpk h
            have h1 := rBin_no h0
            have h2 := rText_no h1
            obtain ⟨k1, k2, k3⟩ := rText_sz h2 l4 h1
            obtain ⟨j1, j2, j3⟩ := rBin_sz h1 k3 h0
            exact ⟨h30, fun _ => ⟨k1, j2⟩, k2, j1⟩
          · rw [if_neg c4] at h
            exact absurd h c4
        · rw [if_neg c3] at h hpk
          exact key _ _ _ _ l3 (fun h0 => ⟨h0, fun hh => absurd hh c3, hz, hz⟩) (fun _ => ⟨rfl, rfl, rfl⟩) (rdOk_nil _ _) hpk h
      · rw [if_neg c2] at h
        exact absurd h c2
    · rw [if_neg c1] at h
      exact absurd h c1
  · rw [if_neg c0] at h
    exact absurd (show (2 : Nat) = 0 from h) (by decide)
/-- The bytes of a text with its length. -/
def byT (t : ByteArray) : List UInt8 := be 2 t.size ++ t.data.toList
/-- The bytes of a Connect. -/
def byK (n keep : Nat) (E : List UInt8) (cl : ByteArray) (F : List UInt8) (wt wp us ps : ByteArray) : List UInt8 :=
  byT mqtt ++ (be 1 5 ++ (be 1 n ++ (be 2 keep ++ (E ++ (byT cl ++ ((if has4 n = true then F ++ (byT wt ++ byT wp) else []) ++ ((if has128 n = true then byT us else []) ++ (if has64 n = true then byT ps else []))))))))
/-- What was written is decoded. -/
theorem dcK_wr {n keep : Nat} {L : PL} {cl wt wp : ByteArray} {M : PL} {us ps : ByteArray} (hn : n < 256) (hk : keep < 65536) (he : (encR 1 L).no = 0) (hsz : ∀ q ∈ L, q.s.size < 65536 ∧ q.v.size < 65536) (hl : (wrAll (actsL6 L)).L.length ≤ 268435455)
    (he2 : has4 n = true → (encR 16 M).no = 0) (hsz2 : ∀ q ∈ M, q.s.size < 65536 ∧ q.v.size < 65536) (hl2 : (wrAll (actsL6 M)).L.length ≤ 268435455)
    (hcl : (checkOf cl).1 = 0) (hwt : has4 n = true → (checkOf wt).1 = 0 ∧ wp.size < 65536) (hus : has128 n = true → (checkOf us).1 = 0) (hps : has64 n = true → ps.size < 65536)
    {s : ByteArray} (hs : s.data.toList = byK n keep (encR 1 L).L cl (encR 16 M).L wt wp us ps) :
    dcK 16 s = if mayK n = true then (e00, pkK n keep (plL L) cl (if has4 n = true then wt else ⟨#[]⟩) (if has4 n = true then wp else ⟨#[]⟩) (if has4 n = true then plL M else []) (if has128 n = true then us else ⟨#[]⟩) (if has64 n = true then ps else ⟨#[]⟩)) else (⟨2, 129, 7⟩, pk0) := by
  have c0 := Cur.start hs
  unfold byK at c0
  obtain ⟨R1, e1, _, c1⟩ := c0.text mqtt_ok
  obtain ⟨R2, e2, _, c2⟩ := c1.num (k := 1) (n := 5) (by decide)
  obtain ⟨R3, e3, _, c3⟩ := c2.num (k := 1) (n := n) (by omega)
  unfold dcK
  rw [if_pos rfl]
  have hh : hdK s = if mayK n = true then (e00, n, R3) else (⟨2, 129, 7⟩, 0, R3) := by
    unfold hdK
    rw [e1]
    simp only
    rw [if_neg (by rintro ⟨_, h⟩; exact h rfl)]
    unfold hdK2
    rw [e2]
    simp only
    rw [if_neg (by rintro ⟨_, h⟩; exact h rfl)]
    unfold hdK3
    rw [e3]
    simp only
    rw [if_pos c3.no]
  rw [hh]
  by_cases hm : mayK n = true
  · rw [if_pos hm, if_pos hm]
    unfold dcK1
    rw [if_pos (show e00.no = 0 from rfl)]
    simp only
    obtain ⟨R4, e4, _, c4⟩ := c3.num (k := 2) (n := keep) (by omega)
    obtain ⟨R5, e5, _, c5⟩ := c4.props he hsz hl
    obtain ⟨R6, e6, _, c6⟩ := c5.text hcl
    unfold dcK2
    rw [e4]
    simp only
    unfold dcK3
    rw [e5]
    simp only
    rw [if_pos trivial, e6]
    have h5 : ∀ (wt' wp' : ByteArray) (M' : PL) (R7 : RV), Cur s R7 ((if has128 n = true then byT us else []) ++ (if has64 n = true then byT ps else [])) →
        dcK5 s n keep (plL L) cl wt' wp' M' R7 = (e00, pkK n keep (plL L) cl wt' wp' M' (if has128 n = true then us else ⟨#[]⟩) (if has64 n = true then ps else ⟨#[]⟩)) := by
      intro wt' wp' M' R7 c7
      have hu : ∃ R8, usK s n R7 = (if has128 n = true then us else ⟨#[]⟩, R8) ∧ Cur s R8 (if has64 n = true then byT ps else []) := by
        unfold usK
        by_cases d : has128 n = true
        · rw [if_pos d] at c7
          rw [if_pos d, if_pos d]
          obtain ⟨R8, e8, _, c8⟩ := c7.text (hus d)
          exact ⟨R8, e8, c8⟩
        · rw [if_neg d] at c7
          rw [if_neg d, if_neg d]
          exact ⟨R7, rfl, c7⟩
      obtain ⟨R8, e8, c8⟩ := hu
      have hp : ∃ R9, psK s n R8 = (if has64 n = true then ps else ⟨#[]⟩, R9) ∧ Cur s R9 [] := by
        unfold psK
        by_cases d : has64 n = true
        · rw [if_pos d] at c8
          rw [if_pos d, if_pos d]
          obtain ⟨R9, e9, _, c9⟩ := Cur.bin (hps d) (l := []) (by rw [List.append_nil]; exact c8)
          exact ⟨R9, e9, c9⟩
        · rw [if_neg d] at c8
          rw [if_neg d, if_neg d]
          exact ⟨R8, rfl, c8⟩
      obtain ⟨R9, e9, c9⟩ := hp
      unfold dcK5
      rw [e8]
      simp only
      rw [e9]
      simp only
      unfold dcK6
      rw [if_pos c9.no, if_neg (by rw [c9.end_]; omega)]
    unfold dcK4
    by_cases d : has4 n = true
    · rw [if_pos d] at c6
      rw [if_pos d, if_pos d, if_pos d, if_pos d]
      rw [List.append_assoc] at c6
      obtain ⟨R7, e7, _, c7⟩ := c6.props (he2 d) hsz2 hl2
      rw [List.append_assoc] at c7
      obtain ⟨R8, e8, _, c8⟩ := c7.text (hwt d).1
      obtain ⟨R9, e9, _, c9⟩ := c8.bin (hwt d).2
      rw [e7]
      simp only
      rw [if_pos trivial, e8]
      simp only
      rw [e9]
      exact h5 _ _ _ _ c9
    · rw [if_neg d] at c6
      rw [if_neg d, if_neg d, if_neg d, if_neg d]
      exact h5 _ _ _ _ c6
  · rw [if_neg hm, if_neg hm]
    unfold dcK1
    rw [if_neg (show ¬ (2 : Nat) = 0 by decide)]
theorem fg_cases : ∀ q, q < 4 → ∀ c h r p u : Bool, fgK c h q r p u < 256 ∧ has2 (fgK c h q r p u) = c ∧ has4 (fgK c h q r p u) = h ∧ qosK (fgK c h q r p u) = (if h then q else 0) ∧ has32 (fgK c h q r p u) = (h && r) ∧ has64 (fgK c h q r p u) = p ∧ has128 (fgK c h q r p u) = u := by decide +kernel
theorem fg_back : ∀ n, n < 256 → mayK n = true → fgK (has2 n) (has4 n) (qosK n) (has32 n) (has64 n) (has128 n) = n := by decide +kernel
theorem fg_zero (c r p u : Bool) (q : Nat) : fgK c false q r p u = fgK c false 0 r p u := rfl
theorem fl_cases {p : Pk} (h : ¬ (p.wHas = true ∧ (p.wQos < 0 ∨ 3 < p.wQos))) : flK p < 256 ∧ has2 (flK p) = p.clean ∧ has4 (flK p) = p.wHas ∧ ((qosK (flK p) : Nat) : Int) = (if p.wHas = true then p.wQos else 0) ∧ has32 (flK p) = (p.wHas && p.wRetain) ∧ has64 (flK p) = p.hasPass ∧ has128 (flK p) = p.hasUser := by
  unfold flK
  by_cases hw : p.wHas = true
  · have hqq : ¬ (p.wQos < 0 ∨ 3 < p.wQos) := fun hh => h ⟨hw, hh⟩
    obtain ⟨h1, h2, h3, h4, h5⟩ := fg_cases p.wQos.toNat (by omega) p.clean p.wHas p.wRetain p.hasPass p.hasUser
    refine ⟨h1, h2, h3, ?_, h5⟩
    rw [h4, hw, if_pos rfl, if_pos rfl]
    omega
  · have hf : p.wHas = false := by simpa using hw
    rw [hf, fg_zero]
    obtain ⟨h1, h2, h3, h4, h5⟩ := fg_cases 0 (by decide) p.clean false p.wRetain p.hasPass p.hasUser
    refine ⟨h1, h2, h3, ?_, h5⟩
    rw [h4]
    rfl
theorem wrK_ok {p : Pk} (hw : ¬ (p.wHas = true ∧ (p.wQos < 0 ∨ 3 < p.wQos))) (h : (wrK p).no = 0) : ∃ m : Nat, p.keep = m ∧ m < 65536 ∧ (checkOf p.client).1 = 0 ∧ (p.wHas = true → (checkOf p.wTopic).1 = 0) ∧ (p.hasUser = true → (checkOf p.user).1 = 0) ∧
    (wrK p).L = byK (flK p) m (encR 1 p.props).L p.client (encR 16 p.wProps).L p.wTopic p.wPay p.user p.pass := by
  obtain ⟨f1, _, f4, _, _, f64, f128⟩ := fl_cases hw
  have e4 : ∃ X, (wrK4 p (wrK3 p (wrK2 p (wrK1 p)))).L = (wrK3 p (wrK2 p (wrK1 p))).L ++ X ∧ (wrK3 p (wrK2 p (wrK1 p))).no = 0 ∧ X = (if has64 (flK p) = true then byT p.pass else []) := by
    have h' := h
    unfold wrK wrK4 at h'
    unfold wrK4
    rw [f64]
    by_cases c : p.hasPass = true
    · rw [if_pos c] at h' ⊢
      obtain ⟨h0, _, hs⟩ := stepW_no h'
      exact ⟨_, by rw [hs], h0, by rw [if_pos c]; rfl⟩
    · rw [if_neg c] at h' ⊢
      exact ⟨[], by rw [List.append_nil], h', by rw [if_neg c]⟩
  obtain ⟨X4, x4, h3, y4⟩ := e4
  have e3 : ∃ X, (wrK3 p (wrK2 p (wrK1 p))).L = (wrK2 p (wrK1 p)).L ++ X ∧ (wrK2 p (wrK1 p)).no = 0 ∧ X = (if has128 (flK p) = true then byT p.user else []) ∧ (p.hasUser = true → (checkOf p.user).1 = 0) := by
    unfold wrK3 at h3 ⊢
    rw [f128]
    by_cases c : p.hasUser = true
    · rw [if_pos c] at h3 ⊢
      obtain ⟨h0, ht, hs⟩ := stepW_text_no h3
      exact ⟨_, by rw [hs], h0, by rw [if_pos c]; rfl, fun _ => ht⟩
    · rw [if_neg c] at h3 ⊢
      exact ⟨[], by rw [List.append_nil], h3, by rw [if_neg c], fun hh => absurd hh c⟩
  obtain ⟨X3, x3, h2, y3, z3⟩ := e3
  have e2 : ∃ X, (wrK2 p (wrK1 p)).L = (wrK1 p).L ++ X ∧ (wrK1 p).no = 0 ∧ X = (if has4 (flK p) = true then (encR 16 p.wProps).L ++ (byT p.wTopic ++ byT p.wPay) else []) ∧ (p.wHas = true → (checkOf p.wTopic).1 = 0) := by
    unfold wrK2 at h2 ⊢
    rw [f4]
    by_cases c : p.wHas = true
    · rw [if_pos c] at h2 ⊢
      obtain ⟨ha, _, hs⟩ := stepW_no h2
      obtain ⟨hb, ht, hs2⟩ := stepW_text_no ha
      obtain ⟨hc, hs3⟩ := stepW_any_no hb
      refine ⟨(encR 16 p.wProps).L ++ (byT p.wTopic ++ byT p.wPay), by rw [hs, hs2, hs3]; simp [byT, binE], hc, by rw [if_pos c], fun _ => ht⟩
    · rw [if_neg c] at h2 ⊢
      exact ⟨[], by rw [List.append_nil], h2, by rw [if_neg c], fun hh => absurd hh c⟩
  obtain ⟨X2, x2, h1, y2, z2⟩ := e2
  have key : ∃ m : Nat, p.keep = m ∧ m < 65536 ∧ (checkOf p.client).1 = 0 ∧ (wrK1 p).L = byT mqtt ++ (be 1 5 ++ (be 1 (flK p) ++ (be 2 m ++ ((encR 1 p.props).L ++ byT p.client)))) := by
    have hh : wrK1 p = stepW (stepW (stepW (stepW (stepW (stepW w0 (textE mqtt)) (numE 1 (5 : Nat))) (numE 1 (flK p : Nat))) (numE 2 p.keep)) ⟨0, 0, (encR 1 p.props).L⟩) (textE p.client) := rfl
    rw [hh, stepW_text (W := w0) rfl mqtt_ok, stepW_num (k := 1) (m := 5) rfl (by decide), stepW_num (k := 1) (m := flK p) rfl (by omega)] at h1 ⊢
    obtain ⟨ha, ht, hs⟩ := stepW_text_no h1
    obtain ⟨hb, hs2⟩ := stepW_any_no ha
    obtain ⟨_, m, hm, hm2, hs3⟩ := stepW_num_no hb
    refine ⟨m, hm, by omega, ht, ?_⟩
    rw [hs, hs2, hs3]
    simp [w0, byT]
  obtain ⟨m, hm, hm2, ht, hL1⟩ := key
  refine ⟨m, hm, hm2, ht, z2, z3, ?_⟩
  rw [show wrK p = wrK4 p (wrK3 p (wrK2 p (wrK1 p))) from rfl, x4, x3, x2, hL1, y4, y3, y2]
  unfold byK
  simp
/-- What is encoded is decoded as it was. -/
theorem enK_back {p : Pk} (hsz : ∀ q ∈ p.props, q.s.size < 65536 ∧ q.v.size < 65536) (hl : (wrAll (actsL6 p.props)).L.length ≤ 268435455) (hsz2 : ∀ q ∈ p.wProps, q.s.size < 65536 ∧ q.v.size < 65536) (hl2 : (wrAll (actsL6 p.wProps)).L.length ≤ 268435455)
    (hwp : p.wPay.size < 65536) (hps : p.pass.size < 65536) (h : (enK p).e.no = 0) : dcK (enK p).first (enK p).s = (e00, bareK p) := by
  unfold enK at h ⊢
  by_cases h0 : p.wHas = true ∧ (p.wQos < 0 ∨ 3 < p.wQos)
  · rw [if_pos h0] at h
    exact absurd (show (2 : Nat) = 0 from h) (by decide)
  · rw [if_neg h0] at h ⊢
    by_cases h1 : (encR 1 p.props).no = 0
    · rw [if_pos h1] at h ⊢
      by_cases h2 : p.wHas = true ∧ (encR 16 p.wProps).no ≠ 0
      · rw [if_pos h2] at h
        exact absurd h h2.2
      · rw [if_neg h2] at h ⊢
        obtain ⟨hV, hd, he⟩ := frR_ok8 h
        rw [he]
        simp only
        obtain ⟨f1, f2, f4, fq, f32, f64, f128⟩ := fl_cases h0
        obtain ⟨m, hm, hm2, t1, t2, t3, hL⟩ := wrK_ok h0 hV
        have hw := dcK_wr (n := flK p) (keep := m) (cl := p.client) (wt := p.wTopic) (wp := p.wPay) (us := p.user) (ps := p.pass) f1 hm2 h1 hsz hl (fun hh => by
          rw [f4] at hh
          by_cases c : (encR 16 p.wProps).no = 0
          · exact c
          · exact absurd ⟨hh, c⟩ h2) hsz2 hl2 t1 (fun hh => ⟨t2 (by rw [← f4]; exact hh), hwp⟩) (fun hh => t3 (by rw [← f128]; exact hh)) (fun _ => hps) (s := ⟨(wrK p).L.toArray⟩) (by rw [arr_list8, hL])
        rw [hw] at hd ⊢
        by_cases c : mayK (flK p) = true
        · rw [if_pos c]
          unfold bareK pkK
          rw [f2, f4, fq, f32, f64, f128, hm]
        · rw [if_neg c] at hd
          exact absurd (show (2 : Nat) = 0 from hd) (by decide)
    · rw [if_neg h1] at h
      exact absurd h h1
theorem enK_of {first : Int} {s : ByteArray} {n keep : Nat} {L : PL} {cl wt wp : ByteArray} {M : PL} {us ps : ByteArray} (hd : DcK first s n keep L cl wt wp M us ps) (hss : s.size ≤ 60000) :
    (enK (pkK n keep L cl wt wp M us ps)).e.no = 0 ∧ bareK (pkK n keep L cl wt wp M us ps) = pkK n keep L cl wt wp M us ps := by
  have hq4 : qosK n < 4 := Nat.mod_lt _ (by decide)
  have hfl : flK (pkK n keep L cl wt wp M us ps) = n := by
    unfold flK
    show fgK (has2 n) (has4 n) ((qosK n : Nat) : Int).toNat (has32 n) (has64 n) (has128 n) = n
    rw [Int.toNat_natCast, fg_back n hd.n256 hd.may]
  have hnw : has4 n = false → qosK n = 0 ∧ has32 n = false := by
    intro h4
    have hm := hd.may
    unfold mayK at hm
    rw [h4] at hm
    simp only [Bool.and_eq_true, Bool.or_eq_true, decide_eq_true_eq, Bool.not_eq_true', Bool.false_eq_true, false_or] at hm
    exact hm.2
  have hL : wrK (pkK n keep L cl wt wp M us ps) = ⟨0, 0, byK n keep (encR 1 L).L cl (encR 16 M).L wt wp us ps⟩ := by
    unfold wrK
    have h1 : wrK1 (pkK n keep L cl wt wp M us ps) = ⟨0, 0, byT mqtt ++ (be 1 5 ++ (be 1 n ++ (be 2 keep ++ ((encR 1 L).L ++ byT cl))))⟩ := by
      unfold wrK1
      rw [hfl]
      show stepW (stepW (stepW (stepW (stepW (stepW w0 (textE mqtt)) (numE 1 (5 : Nat))) (numE 1 (n : Nat))) (numE 2 (keep : Nat))) ⟨0, 0, (encR 1 L).L⟩) (textE cl) = _
      rw [stepW_text (W := w0) rfl mqtt_ok, stepW_num (k := 1) (m := 5) rfl (by decide), stepW_num (k := 1) (m := n) rfl (by have := hd.n256; omega), stepW_num (k := 2) (m := keep) rfl (by have := hd.kp; omega), stepW_raw rfl, stepW_text rfl hd.clk.1]
      simp [w0, byT]
    rw [h1]
    have h2 : ∀ X, wrK2 (pkK n keep L cl wt wp M us ps) ⟨0, 0, X⟩ = ⟨0, 0, X ++ (if has4 n = true then (encR 16 M).L ++ (byT wt ++ byT wp) else [])⟩ := by
      intro X
      unfold wrK2
      show (if has4 n = true then stepW (stepW (stepW ⟨0, 0, X⟩ ⟨0, 0, (encR 16 M).L⟩) (textE wt)) (binE wp) else ⟨0, 0, X⟩) = _
      by_cases c : has4 n = true
      · rw [if_pos c, if_pos c, stepW_raw rfl, stepW_text rfl (hd.wl c).1, stepW_bin rfl]
        simp [byT]
      · rw [if_neg c, if_neg c, List.append_nil]
    have h3 : ∀ X, wrK3 (pkK n keep L cl wt wp M us ps) ⟨0, 0, X⟩ = ⟨0, 0, X ++ (if has128 n = true then byT us else [])⟩ := by
      intro X
      unfold wrK3
      show (if has128 n = true then stepW ⟨0, 0, X⟩ (textE us) else ⟨0, 0, X⟩) = _
      by_cases c : has128 n = true
      · rw [if_pos c, if_pos c, stepW_text rfl (hd.usk c)]
        rfl
      · rw [if_neg c, if_neg c, List.append_nil]
    have h4 : ∀ X, wrK4 (pkK n keep L cl wt wp M us ps) ⟨0, 0, X⟩ = ⟨0, 0, X ++ (if has64 n = true then byT ps else [])⟩ := by
      intro X
      unfold wrK4
      show (if has64 n = true then stepW ⟨0, 0, X⟩ (binE ps) else ⟨0, 0, X⟩) = _
      by_cases c : has64 n = true
      · rw [if_pos c, if_pos c, stepW_bin rfl]
        rfl
      · rw [if_neg c, if_neg c, List.append_nil]
    rw [h2, h3, h4]
    unfold byK
    simp
  constructor
  · unfold enK
    rw [show (pkK n keep L cl wt wp M us ps).wHas = has4 n from rfl, show (pkK n keep L cl wt wp M us ps).wQos = ((qosK n : Nat) : Int) from rfl, show (pkK n keep L cl wt wp M us ps).props = L from rfl, show (pkK n keep L cl wt wp M us ps).wProps = M from rfl,
      if_neg (by rintro ⟨_, hh⟩; omega), if_pos hd.ok.enc, if_neg (by rintro ⟨_, hh⟩; exact hh hd.ok2.enc), hL]
    have hw := dcK_wr (n := n) (keep := keep) (cl := cl) (wt := wt) (wp := wp) (us := us) (ps := ps) hd.n256 hd.kp hd.ok.enc hd.ok.sz (Nat.le_trans hd.ok.len (by omega)) (fun _ => hd.ok2.enc) hd.ok2.sz (Nat.le_trans hd.ok2.len (by omega)) hd.clk.1 hd.wl hd.usk (fun _ => hd.pz.2)
      (s := ⟨(byK n keep (encR 1 L).L cl (encR 16 M).L wt wp us ps).toArray⟩) (arr_list8 _)
    rw [if_pos hd.may] at hw
    rw [show (dcK 16 ⟨(EV.L ⟨0, 0, byK n keep (encR 1 L).L cl (encR 16 M).L wt wp us ps⟩).toArray⟩) = dcK 16 ⟨(byK n keep (encR 1 L).L cl (encR 16 M).L wt wp us ps).toArray⟩ from rfl, hw]
    rfl
  · show (⟨1, 0, 0, plL L, has2 n, keep, cl, has4 n, if has4 n = true then wt else ⟨#[]⟩, if has4 n = true then wp else ⟨#[]⟩, if has4 n = true then ((qosK n : Nat) : Int) else 0, has4 n && has32 n, if has4 n = true then plL M else [], has128 n, if has128 n = true then us else ⟨#[]⟩, has64 n, if has64 n = true then ps else ⟨#[]⟩, false, ⟨#[]⟩, ⟨#[]⟩, 0, false, false, [], [], []⟩ : Pk) = _
    have e1 : (if has128 n = true then us else ⟨#[]⟩) = us := by
      by_cases c : has128 n = true
      · rw [if_pos c]
      · rw [if_neg c, hd.u0 c]
    have e2 : (if has64 n = true then ps else ⟨#[]⟩) = ps := by
      by_cases c : has64 n = true
      · rw [if_pos c]
      · rw [if_neg c, hd.p0 c]
    rw [e1, e2, hd.ok.pl, hd.ok2.pl]
    by_cases c : has4 n = true
    · rw [if_pos c, if_pos c, if_pos c, if_pos c, c, Bool.true_and]
      unfold pkK
      rw [c]
    · obtain ⟨w1, w2, w3⟩ := hd.w0 c
      have cf : has4 n = false := by simpa using c
      obtain ⟨q0, r0⟩ := hnw cf
      rw [if_neg c, if_neg c, if_neg c, if_neg c, cf, Bool.false_and]
      unfold pkK
      rw [w1, w2, w3, cf, q0, r0]
      rfl
/-- What is decoded has few parts, is encoded, and is decoded as it was. -/
theorem deK_back {first : Int} {s : ByteArray} (hss : s.size ≤ 2048) (h : (dcK first s).1.no = 0) :
    (SmallP (dcK first s).2.props ∧ SmallP (dcK first s).2.wProps ∧ (dcK first s).2.client.size ≤ 2048 ∧ (dcK first s).2.wTopic.size ≤ 2048 ∧ (dcK first s).2.wPay.size ≤ 2048 ∧ (dcK first s).2.user.size ≤ 2048 ∧ (dcK first s).2.pass.size ≤ 2048) ∧ (enK (dcK first s).2).e.no = 0 ∧ dcK (enK (dcK first s).2).first (enK (dcK first s).2).s = (e00, (dcK first s).2) := by
  obtain ⟨n, keep, L, cl, wt, wp, M, us, ps, hd⟩ := dcK_ok h
  rw [hd.pk]
  obtain ⟨hen, hba⟩ := enK_of hd (by omega)
  refine ⟨⟨hd.ok.small (by omega), hd.ok2.small (by omega), Nat.le_trans hd.clk.2 hss, Nat.le_trans hd.wz.1 hss, Nat.le_trans hd.wz.2 hss, Nat.le_trans hd.uz hss, Nat.le_trans hd.pz.1 hss⟩, hen, ?_⟩
  rw [enK_back (p := pkK n keep L cl wt wp M us ps) hd.ok.sz (Nat.le_trans hd.ok.len (by omega)) hd.ok2.sz (Nat.le_trans hd.ok2.len (by omega)) (by have := hd.wz.2; show wp.size < _; omega) hd.pz.2 hen, hba]
theorem wrK_len {p : Pk} (hS : SmallP p.props) (hS2 : SmallP p.wProps) (h1 : p.client.size ≤ 65535) (h2 : p.wTopic.size ≤ 65535) (h3 : p.wPay.size ≤ 65535) (h4 : p.user.size ≤ 65535) (h5 : p.pass.size ≤ 65535) :
    (wrK1 p).L.length ≤ 130000 ∧ (wrK2 p (wrK1 p)).L.length ≤ 330000 ∧ (wrK3 p (wrK2 p (wrK1 p))).L.length ≤ 396000 ∧ (wrK p).L.length ≤ 462000 := by
  have a1 : (wrK1 p).L.length ≤ 130000 := by
    unfold wrK1
    have b1 := stepW_len (stepW (stepW (stepW (stepW (stepW w0 (textE mqtt)) (numE 1 5)) (numE 1 (flK p : Nat))) (numE 2 p.keep)) ⟨0, 0, (encR 1 p.props).L⟩) (textE p.client)
    have b2 := stepW_len (stepW (stepW (stepW (stepW w0 (textE mqtt)) (numE 1 5)) (numE 1 (flK p : Nat))) (numE 2 p.keep)) ⟨0, 0, (encR 1 p.props).L⟩
    have b3 := stepW_len (stepW (stepW (stepW w0 (textE mqtt)) (numE 1 5)) (numE 1 (flK p : Nat))) (numE 2 p.keep)
    have b4 := stepW_len (stepW (stepW w0 (textE mqtt)) (numE 1 5)) (numE 1 (flK p : Nat))
    have b5 := stepW_len (stepW w0 (textE mqtt)) (numE 1 5)
    have b6 := stepW_len w0 (textE mqtt)
    have c1 := textE_len p.client
    have c2 := encR_len (k := 1) hS
    have c3 := numE_len 2 p.keep
    have c4 := numE_len 1 (flK p : Nat)
    have c5 := numE_len 1 5
    have c6 := textE_len mqtt
    have c7 : mqtt.size = 4 := rfl
    have c8 : w0.L.length = 0 := rfl
    simp only at b2
    omega
  have a2 : (wrK2 p (wrK1 p)).L.length ≤ 330000 := by
    unfold wrK2
    split
    · have b1 := stepW_len (stepW (stepW (wrK1 p) ⟨0, 0, (encR 16 p.wProps).L⟩) (textE p.wTopic)) (binE p.wPay)
      have b2 := stepW_len (stepW (wrK1 p) ⟨0, 0, (encR 16 p.wProps).L⟩) (textE p.wTopic)
      have b3 := stepW_len (wrK1 p) ⟨0, 0, (encR 16 p.wProps).L⟩
      have c1 := textE_len p.wTopic
      have c2 := encR_len (k := 16) hS2
      have c3 := binE_len p.wPay
      simp only at b3
      omega
    · omega
  have a3 : (wrK3 p (wrK2 p (wrK1 p))).L.length ≤ 396000 := by
    unfold wrK3
    split
    · have b1 := stepW_len (wrK2 p (wrK1 p)) (textE p.user)
      have c1 := textE_len p.user
      omega
    · omega
  refine ⟨a1, a2, a3, ?_⟩
  unfold wrK wrK4
  split
  · have b1 := stepW_len (wrK3 p (wrK2 p (wrK1 p))) (binE p.pass)
    have c1 := binE_len p.pass
    omega
  · omega
theorem enK_len {p : Pk} (hS : SmallP p.props) (hS2 : SmallP p.wProps) (h1 : p.client.size ≤ 65535) (h2 : p.wTopic.size ≤ 65535) (h3 : p.wPay.size ≤ 65535) (h4 : p.user.size ≤ 65535) (h5 : p.pass.size ≤ 65535) : (enK p).s.size ≤ 462000 := by
  unfold enK
  split
  · exact Nat.zero_le _
  · split
    · split
      · exact Nat.zero_le _
      · exact Nat.le_trans frR_len8 (wrK_len hS hS2 h1 h2 h3 h4 h5).2.2.2
    · exact Nat.zero_le _
theorem dcK_lists (first : Int) (s : ByteArray) : (dcK first s).2.subs = [] ∧ (dcK first s).2.filters = [] ∧ (dcK first s).2.codes = [] := by
  unfold dcK dcK1 dcK2 dcK3 dcK4 dcK5 dcK6
  (repeat' split) <;> exact ⟨rfl, rfl, rfl⟩
end Go.Proofs.YtfkimpcaokgldaaGreatDoor
namespace Go.Proofs.YtfkimpcaokgldaaGreatDoor
set_option maxRecDepth 100000
open Go.RowKit Go.Extern.Stop Go.Stop Go.Extern
section
variable {z w w' : World} {S : Nat → Addr} {B g : Nat} {s : ByteArray} {R : RV} {v : Value} {W : EV}
set_option maxHeartbeats 8000000 in
theorem frame_any08 (first : Int) (h : WObj w S B g v W) {q : Er × Pk} (hdc : ∀ W1 : World, Below w.heap.size w W1 → Calls Tryz.prog 18 #[.agg #[.int .i64 first, .string ⟨W.L.toArray⟩]] W1 (DcSays W1 S q)) :
    Calls Tryz.prog 29 #[.int .i64 first, .pointer (some ⟨g, 0, none⟩), .func (.func 18) #[] #[]] w (FrSays w S (frR W first q.1)) := by
  obtain ⟨f, hf⟩ : ∃ f, f = frR W first q.1 := ⟨_, rfl⟩
  rw [← hf]
  unfold frR at hf
  have hb1 : Below w.heap.size w (w.alloc (.cells #[.int .i64 0, .string ⟨#[]⟩] 33)) := (Below.refl _ _).alloc (Nat.le_refl _) _
  have HW := Lib.hid (wbytes_any (h.below hb1))
  have HK := Lib.hid (Blk.made w 33 #[.int .i64 0, .string ⟨#[]⟩])
  have HB1 := Lib.hid hb1
  have HD := Lib.hid hdc
  have HF := Lib.hid hf
  clear hb1 hdc h hf
  go_enter Tryz.func29, Tryz.ntmps29
  go_wp2_with fail
  refine HW.out.mono ?_
  rintro x w2 ⟨e2, rfl, he2, hb2⟩
  obtain ⟨W0, Wa, WL⟩ := W
  obtain ⟨qe, qp⟩ := q
  simp only at he2 HD HF ⊢
  have k2 := HK.out.below hb2 HK.out.lt
  have hb12 := HB1.out.trans (hb2.mono HB1.out.size)
  have HB2 := Lib.hid hb12
  have HK2 := Lib.hid k2
  have hff := HF.out
  by_cases h0 : W0 = 0
  · subst h0
    rw [if_pos rfl] at hff
    unfold ErrOf at he2
    rw [if_pos rfl] at he2
    subst he2
    obtain ⟨t, ht⟩ : ∃ t : ByteArray, t = ⟨WL.toArray⟩ := ⟨_, rfl⟩
    rw [← ht] at HD hff
    have HFF := Lib.hid hff
    have hb3 : Below w2.heap.size w2 (w2.alloc (.cells #[.int .i64 first, .string t] 33)) := (Below.refl _ _).alloc (Nat.le_refl _) _
    have hb13 := hb12.trans (hb3.mono hb12.size)
    have HDD := Lib.hid (HD.out _ hb13)
    have HB3 := Lib.hid hb13
    have HK3 := Lib.hid (k2.below hb3 k2.lt)
    have HK4 := Lib.hid (Blk.made w2 33 #[.int .i64 first, .string t])
    clear hb2 k2 hb12 hff hb3 hb13 HD HW HF HK HB1 HB2 HK2
    rw [show (⟨(EV.L ⟨0, Wa, WL⟩).toArray⟩ : ByteArray) = t from ht.symm]
    clear ht
    go_wp2_with fail
    refine HDD.out.mono ?_
    rintro x w4 ⟨A4, e4, rfl, _, he4, hb4⟩
    simp only at he4
    obtain ⟨c, hc⟩ : ∃ c, c = qp.cells A4 := ⟨_, rfl⟩
    rw [show Pk.agg (qe, qp).2 A4 = .agg c from by rw [hc]; rfl]
    have hcs : c.size = 26 := by rw [hc]; rfl
    have hst := st_pkt w4 c hcs (by rw [hc]; exact pk_one _ _)
    have hst2 := st_pktc w4 c hcs (by rw [hc]; exact pk_one _ _)
    clear hc
    have hb5 : Below w4.heap.size w4 (w4.alloc (.cells c 29)) := (Below.refl _ _).alloc (Nat.le_refl _) _
    have k3 := (HK3.out.below hb4 HK3.out.lt).below hb5 (HK3.out.below hb4 HK3.out.lt).lt
    have k4 := (HK4.out.below hb4 HK4.out.lt).below hb5 (HK4.out.below hb4 HK4.out.lt).lt
    have hb15 := (HB3.out.trans (hb4.mono HB3.out.size)).trans (hb5.mono (HB3.out.trans (hb4.mono HB3.out.size)).size)
    have c0 := k4.cell 0
    have c1 := k4.cell 1
    have h2 : ∀ {a b : Value}, (#[a, b] : Array Value)[0]? = some a ∧ (#[a, b] : Array Value)[1]? = some b := ⟨rfl, rfl⟩
    rw [h2.1] at c0
    rw [h2.2] at c1
    clear h2
    by_cases hq0 : qe.no = 0
    · have hff := HFF.out
      rw [if_pos hq0] at hff
      unfold ErrOf at he4
      rw [if_pos hq0] at he4
      subst he4
      obtain ⟨⟨z0, z1, y0, y1⟩, ⟨z2, y2⟩, ⟨f0, f1⟩, _⟩ := fr_facts (S := S) k3 (.int .i64 first) (.string t)
      have hbf := (hb15.setCell (p := ⟨w.heap.size, 0, none⟩) (Nat.le_refl _) (.int .i64 first)).setCell (p := ⟨w.heap.size, 1, none⟩) (Nat.le_refl _) (.string t)
      have HX := Lib.hid (show ∀ W, Below w.heap.size w W → FrSays w S f (.returned (.tuple #[.agg #[.int .i64 first, .string t], .nilIface])) W from fun W hb => by
        rw [hff]
        exact ⟨_, rfl, ErrOf.none, hb⟩)
      have HBF := Lib.hid hbf
      clear hff hbf hb5 k3 k4 hb15 hb4 HDD HFF HB3 HK3 HK4
      go_wp2
      exact bodyPost_ret (v := .tuple #[.agg #[.int .i64 first, .string t], .nilIface]) (by simp [results, Tryz.results29, go_sem, f0, f1]) rfl (HX.out _ HBF.out)
    · have hff := HFF.out
      rw [if_neg hq0] at hff
      obtain ⟨t4, u4, rfl⟩ := err_iface he4 hq0
      obtain ⟨⟨z0, z1, y0, y1⟩, ⟨z2, y2⟩, ⟨f0, f1⟩, ferr⟩ := fr_facts (S := S) k3 (.int .i64 0) (.string ⟨#[]⟩)
      have hbf := (hb15.setCell (p := ⟨w.heap.size, 0, none⟩) (Nat.le_refl _) (.int .i64 0)).setCell (p := ⟨w.heap.size, 1, none⟩) (Nat.le_refl _) (.string ⟨#[]⟩)
      have hee := ferr _ _ _ _ (he4.later hb5)
      have HX := Lib.hid (show FrSays w S f (.returned (.tuple #[.agg #[.int .i64 0, .string ⟨#[]⟩], .iface t4 u4])) _ from by
        rw [hff]
        exact ⟨_, rfl, hee, hbf⟩)
      clear hff hbf hb5 k3 k4 hb15 hb4 he4 hee ferr HDD HFF HB3 HK3 HK4
      go_wp2
      exact bodyPost_ret (v := .tuple #[.agg #[.int .i64 0, .string ⟨#[]⟩], .iface t4 u4]) (by simp [results, Tryz.results29, go_sem, f0, f1]) rfl HX.out
  · rw [if_neg h0] at hff
    obtain ⟨t2, u2, rfl⟩ := err_iface he2 h0
    obtain ⟨⟨z0, z1, y0, y1⟩, ⟨z2, y2⟩, ⟨f0, f1⟩, ferr⟩ := fr_facts (S := S) k2 (.int .i64 0) (.string ⟨#[]⟩)
    have hbf := (hb12.setCell (p := ⟨w.heap.size, 0, none⟩) (Nat.le_refl _) (.int .i64 0)).setCell (p := ⟨w.heap.size, 1, none⟩) (Nat.le_refl _) (.string ⟨#[]⟩)
    have hee := ferr _ _ _ _ he2
    have HX := Lib.hid (show FrSays w S f (.returned (.tuple #[.agg #[.int .i64 0, .string ⟨#[]⟩], .iface t2 u2])) _ from by
      rw [hff]
      exact ⟨_, rfl, hee, hbf⟩)
    clear hb2 hb12 hff he2 hbf hee ferr k2 HD HW HF HK HB1 HB2 HK2
    go_wp2
    exact bodyPost_ret (v := .tuple #[.agg #[.int .i64 0, .string ⟨#[]⟩], .iface t2 u2]) (by simp [results, Tryz.results29, go_sem, f0, f1]) rfl HX.out
end
end Go.Proofs.YtfkimpcaokgldaaGreatDoor
