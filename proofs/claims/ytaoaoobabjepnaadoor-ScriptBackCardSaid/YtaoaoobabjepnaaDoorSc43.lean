/- What is proved here: events as plain values, rows of events of a call's own and append to them, where events stand, an argument that is a slice of events. No conditions but those that each theorem names. What is proved here, on plain values: the bytes of a script, what is read of bytes as a script; what is written is read as it was, and what is read is written as the same bytes. Conditions: those that each theorem names. -/
import Derived.Test.YtaoaoobabjepnaaDoorByt
import Derived.Test.YtaoaoobabjepnaaDoorTexts
import Derived.Test.YtaoaoobabjepnaaDoorRru04
namespace Go.Proofs.YtaoaoobabjepnaaDoor
set_option maxRecDepth 100000
open Go.ChangeShapes Go.WideShapes Go.RowKit Go.Deep Go.Extern.Stop Go.Stop Go.Extern
/-- An event. -/
structure ET where
  k : Int
  c : Int
  n : Int
  b : ByteArray
def ET.cells (x : ET) : List Value := [.int .i64 x.k, .int .i64 x.c, .string x.b, .int .i64 x.n]
def et0 : ET := ⟨0, 0, 0, ⟨#[]⟩⟩
/-- These events stand at an address, if there are any. -/
def ERd (w : World) (A : Option Addr) (L : List ET) : Prop :=
  0 < L.length → ∃ g off, A = some ⟨g, off, none⟩ ∧ ∀ k, k < L.length → w.cell? ⟨g, off + k * 4, none⟩ = some (.int .i64 (L.getD k et0).k) ∧ w.cell? ⟨g, off + k * 4 + 1, none⟩ = some (.int .i64 (L.getD k et0).c) ∧ w.cell? ⟨g, off + k * 4 + 2, none⟩ = some (.string (L.getD k et0).b) ∧ w.cell? ⟨g, off + k * 4 + 3, none⟩ = some (.int .i64 (L.getD k et0).n)
theorem ERd.below {w w' : World} {A : Option Addr} {L : List ET} (h : ERd w A L) (hb : Below w.heap.size w w') : ERd w' A L := by
  intro hp
  obtain ⟨g, off, e, hc⟩ := h hp
  have hg := hb.block g (lt_of_cell' (hc 0 hp).1)
  refine ⟨g, off, e, fun k hk => ?_⟩
  obtain ⟨h0, h1, h2, h3⟩ := hc k hk
  exact ⟨(World.cell?_of_block (w := w) hg).trans h0, (World.cell?_of_block (w := w) hg).trans h1, (World.cell?_of_block (w := w) hg).trans h2, (World.cell?_of_block (w := w) hg).trans h3⟩
theorem ERd.fr {w w' : World} {A : Option Addr} {L : List ET} {X : List Nat} (h : ERd w A L) (hf : Fr X w w') (hX : ∀ g ∈ X, ∀ off, A ≠ some ⟨g, off, none⟩) : ERd w' A L := by
  intro hp
  obtain ⟨g, off, e, hc⟩ := h hp
  have hg := hf.block g (lt_of_cell' (hc 0 hp).1) (fun hm => hX g hm off e)
  refine ⟨g, off, e, fun k hk => ?_⟩
  obtain ⟨h0, h1, h2, h3⟩ := hc k hk
  exact ⟨(World.cell?_of_block (w := w) hg).trans h0, (World.cell?_of_block (w := w) hg).trans h1, (World.cell?_of_block (w := w) hg).trans h2, (World.cell?_of_block (w := w) hg).trans h3⟩
/-- A row of one's own of events. -/
def E4Row (w : World) (B : Nat) (v : Value) (L : List ET) : Prop := w.ownsRow B 44 4 v L.length (L.flatMap ET.cells)
structure E4Next (w w' : World) (B : Nat) (v v' : Value) (L' : List ET) : Prop where
  row : E4Row w' B v' L'
  grown : w.grownBy w' v.ownBlock
  own : v'.ownBlock = v.ownBlock ∨ ∃ k, v'.ownBlock = some k ∧ w.heap.size ≤ k
theorem Tryd.infoE4 : (Tryd.prog.info? 44).map (fun i => (i.zero, i.size, i.bytes)) = some (some (.agg #[.int .i64 0, .int .i64 0, .string ⟨#[]⟩, .int .i64 0]), 4, 40) := by kernel_rfl
theorem E4cl_len (x : ET) : (ET.cells x).length = 4 := rfl
theorem E4cl_one (L : List ET) : ∀ u ∈ L.flatMap ET.cells, u.oneCell' = true := by
  intro u hu
  obtain ⟨x, _, hx⟩ := List.mem_flatMap.1 hu
  unfold ET.cells at hx
  simp only [List.mem_cons, List.not_mem_nil, or_false] at hx
  rcases hx with rfl | rfl | rfl | rfl <;> rfl
theorem e4_get : ∀ (L : List ET) (k : Nat), k < L.length → (L.flatMap ET.cells)[k * 4]? = some (.int .i64 (L.getD k et0).k) ∧ (L.flatMap ET.cells)[k * 4 + 1]? = some (.int .i64 (L.getD k et0).c) ∧ (L.flatMap ET.cells)[k * 4 + 2]? = some (.string (L.getD k et0).b) ∧ (L.flatMap ET.cells)[k * 4 + 3]? = some (.int .i64 (L.getD k et0).n)
  | [], k, h => by simp at h
  | x :: L, 0, _ => by rw [List.flatMap_cons]; exact ⟨rfl, rfl, rfl, rfl⟩
  | x :: L, k + 1, h => by
    have ih := e4_get L k (by simpa using h)
    rw [List.flatMap_cons]
    have e : ∀ j, (k + 1) * 4 + j = (ET.cells x).length + (k * 4 + j) := fun j => by rw [E4cl_len]; omega
    have e0 := e 0
    rw [Nat.add_zero, Nat.add_zero] at e0
    rw [e 1, e 2, e 3, e0]
    simp only [List.getElem?_append_right (Nat.le_add_right _ _), Nat.add_sub_cancel_left]
    exact ih
section
variable {w w' : World} {B B' : Nat} {v : Value} {L M : List ET} {X : List Nat}
theorem E4Row.nil (w : World) (B : Nat) : E4Row w B (.slice none 0 0) [] := World.ownsRow_nil _ _ _ _
theorem E4Row.some_form (h : E4Row w B v L) : ∃ a n c, v = .slice a n c ∧ n = L.length ∧ n ≤ c := by
  rcases h.2 with ⟨rfl, h0⟩ | ⟨gr, cap, cur, rfl, _, _, hc, _⟩
  · exact ⟨none, 0, 0, rfl, h0.symm, Nat.le_refl _⟩
  · exact ⟨_, _, _, rfl, rfl, hc⟩
theorem E4Row.fr (h : E4Row w B v L) (hf : Fr X w w') (hn : ∀ k, v.ownBlock = some k → k ∉ X) : E4Row w' B v L := by
  obtain ⟨h1, h2⟩ := h
  refine ⟨h1, ?_⟩
  rcases h2 with h2 | ⟨gr, cap, cur, rfl, hB, hh, h3⟩
  · exact .inl h2
  · exact .inr ⟨gr, cap, cur, rfl, hB, (hf.block gr (lt_of_block hh) (hn gr rfl)).trans hh, h3⟩
theorem E4Row.below (h : E4Row w B v L) (hb : Below w.heap.size w w') : E4Row w' B v L := h.fr (X := []) (Fr.of_below hb) (by simp)
theorem E4Row.lt (h : E4Row w B v L) (k : Nat) (hk : v.ownBlock = some k) : B ≤ k ∧ k < w.heap.size ∧ ∃ cs, w.heap[k]? = some (.cells cs 44 (0, 0)) := by
  rcases h.2 with ⟨rfl, _⟩ | ⟨g, cap, cur, rfl, hb, hg, _⟩
  · cases hk
  · obtain rfl : g = k := Option.some.inj hk
    exact ⟨hb, lt_of_block hg, cur, hg⟩
theorem E4Row.nof (hr : E4Row w B v L) : NoF w v.ownBlock.toList := NoF.of fun k hk => by
  obtain ⟨_, _, cs, hh⟩ := hr.lt k (own_list.1 hk)
  exact ⟨_, _, hh, by decide⟩
theorem E4Row.rd {a : Option Addr} {n c : Nat} (h : E4Row w B (.slice a n c) L) : ERd w a L := by
  intro hp
  rcases h.2 with ⟨hs, h0⟩ | ⟨gr, cap, cur, hs, hB, hh, hnc, hcm, hcs, htake⟩
  · omega
  · injection hs with h1 h2 h3
    have key : ∀ j u, (L.flatMap ET.cells)[j]? = some u → w.cell? ⟨gr, 0 + j, none⟩ = some u := fun j u h6 => by
      have h4 : cur[j]? = some u := by
        rw [← htake] at h6
        have h7 := h6
        simp [List.getElem?_take] at h7
        exact h7.2
      rw [Nat.zero_add]
      simp only [World.cell?, hh]
      simpa using h4
    refine ⟨gr, 0, h1, fun k hk => ?_⟩
    obtain ⟨g0, g1, g2, g3⟩ := e4_get L k hk
    exact ⟨key _ _ g0, key _ _ g1, key _ _ g2, key _ _ g3⟩
/-- append of one that was just laid down. -/
theorem E4_append {ops : Array Oper} {rest : List Oper} {o : Oper} {a : Act} {Q : Exit → Act → World → Prop} (p : ET) (hgd : o.guard = none) (s x : Operand) (ho : o.op = .call { callee := .builtin .append, args := #[s, x], argTypes := #[25, 25] })
    (ht : E4Row w B v L) (hB : B ≤ w.heap.size) (hs : a.eval s = v) (k c : Nat) (hx : a.eval x = .slice (some ⟨k, 0, none⟩) 1 c) (hk : k = w.heap.size) (hl : L.length ≤ 100000) {cs : Array Value} (hcs : cs.toList = ET.cells p)
    (h : ∀ v' w', E4Next w w' B v v' (L ++ [p]) → wpList Tryd.prog ops Q rest (a.put o.dst v') w') : wpList Tryd.prog ops Q (o :: rest) a (w.alloc (.cells cs 44)) := by
  subst hk
  have hb : Below w.heap.size w (w.alloc (.cells cs 44)) := (Below.refl _ _).alloc (Nat.le_refl _) _
  obtain ⟨i0, hi0, hz0, hz1, hz2⟩ := info_parts Tryd.infoE4
  obtain ⟨v', w', hr, ho', hg, _, hat⟩ := run_append_own_at (P := Tryd.prog) (w.alloc (.cells cs 44)) B 25 o.type 44 i0 (.agg #[.int .i64 0, .int .i64 0, .string ⟨#[]⟩, .int .i64 0]) 4 40 Tryd.underlying25 hi0 hz0 hz1 hz2 rfl (by decide) v L.length (L.flatMap ET.cells) (ht.below hb) ⟨w.heap.size, 0, none⟩ 1 c (ET.cells p) (by rw [E4cl_len]) (fun j u hj => by
    rw [Addr.add_lit, Nat.zero_add, (Blk.made w 44 cs).cell j, ← Array.getElem?_toList, hcs]
    exact hj) (fun u hu => E4cl_one [p] u (by simpa using hu)) (by unfold maxLen; omega) (by omega) (Nat.le_trans hB hb.size)
  refine Lib.wpList_append_run _ hgd s x 25 25 ho v _ hs hx v' w' hr (h v' w' ⟨?_, (World.grownBy_alloc w _ _).trans hg, ?_⟩)
  · unfold E4Row
    rw [List.length_append, List.flatMap_append, List.length_singleton, List.flatMap_singleton]
    exact ho'
  · rcases hat with e | e
    · exact .inl e
    · refine .inr ⟨_, e, ?_⟩
      rw [World.size_alloc]
      omega
end
section
variable {H : Type} {enc : TypeId × Value → H} {w : World}
theorem evs_open43 {r : Reach} {b0 b1 : Nat} {sp : Nat → Bool} {held : Bool} {v : Value} {d : DataW H} {ps : List MemPlace} (hval : Value.okWide Tryd.prog w r b0 25 v) (hd : DataW.Trod enc Tryd.prog w b1 sp held 25 v d ps) :
    ∃ a len cap, ∃ L : List ET, v = .slice a len cap ∧ len ≤ maxLen ∧ L.length = len ∧ ERd w a L := by
  obtain ⟨a, len, cap, rfl, hl, hx⟩ := struct_slice (P := Tryd.prog) Tryd.underlying25 Tryd.underlying44 (by kernel_rfl) (by kernel_rfl) (by decide) hval hd
  rcases hx with h0 | ⟨b, off, rfl, hc⟩
  · exact ⟨a, len, cap, [], rfl, hl, h0.symm, fun h => absurd h (by decide)⟩
  · have hex : ∀ i, ∃ x : ET, i < len → w.cell? ⟨b, off + i * 4, none⟩ = some (.int .i64 x.k) ∧ w.cell? ⟨b, off + i * 4 + 1, none⟩ = some (.int .i64 x.c) ∧ w.cell? ⟨b, off + i * 4 + 2, none⟩ = some (.string x.b) ∧ w.cell? ⟨b, off + i * 4 + 3, none⟩ = some (.int .i64 x.n) := by
      intro i
      by_cases hi : i < len
      · obtain ⟨u0, n0, y0, q0, t0⟩ := hc i hi 0 _ rfl
        obtain ⟨u1, n1, y1, q1, t1⟩ := hc i hi 1 _ rfl
        obtain ⟨u2, n2, y2, q2, t2⟩ := hc i hi 2 _ rfl
        obtain ⟨u3, n3, y3, q3, t3⟩ := hc i hi 3 _ rfl
        obtain ⟨k0, e0, _⟩ := DataW.trod_int Tryd.underlying3 t0
        obtain ⟨k1, e1, _⟩ := DataW.trod_int Tryd.underlying3 t1
        obtain ⟨k2, e2, _⟩ := DataW.trod_string Tryd.underlying9 t2
        obtain ⟨k3, e3, _⟩ := DataW.trod_int Tryd.underlying3 t3
        simp at e0 e1 e2 e3
        subst e0 e1 e2 e3
        exact ⟨⟨k0, k1, k3, k2⟩, fun _ => ⟨q0, q1, q2, q3⟩⟩
      · exact ⟨et0, fun h => absurd h hi⟩
    obtain ⟨xs, hxs⟩ := Classical.axiomOfChoice hex
    have hlen : ((List.range len).map xs).length = len := by rw [List.length_map, List.length_range]
    refine ⟨_, len, cap, (List.range len).map xs, rfl, hl, hlen, fun _ => ⟨b, off, rfl, fun i hi => ?_⟩⟩
    rw [hlen] at hi
    have e : ((List.range len).map xs).getD i et0 = xs i := by
      rw [List.getD_eq_getElem?_getD, List.getElem?_map, List.getElem?_range hi]
      rfl
    rw [e]
    exact hxs i hi
end
end Go.Proofs.YtaoaoobabjepnaaDoor
namespace Go.Proofs.YtaoaoobabjepnaaDoor
set_option maxRecDepth 100000
open Go.RowKit Go.Extern.Stop Go.Stop Go.Extern
def rz0 : RV := ⟨0, 0, 0⟩
def crier : ByteArray := ⟨#[67, 82, 73, 69, 82]⟩
abbrev ER := Nat × Int × Nat
def er0 : ER := (0, 0, 0)
/-- A reader behind some numbers of four bytes, and what they are. -/
def rdR (s : ByteArray) (R : RV) : Nat → RV
  | 0 => R
  | i + 1 => (rNum s 4 (rdR s R i)).2
def rdC (s : ByteArray) (R : RV) (i : Nat) : Int := (((rNum s 4 (rdR s R i)).1 : Nat) : Int)
def leL : List Int := [1, 64, 1, 0, 0, 0, 64, 0, 1, 0, 0, 0, 0]
def moL : List Int := [8, 65536, 65535, 65535, 65536, 65536, 1048576, 16777216, 8, 65536, 65535, 4294967295, 4294967295]
def leC (i : Nat) : Int := leL.getD i 0
def moC (i : Nat) : Int := moL.getD i 0
/-- The first bound that may not be. -/
def chkF (C : Nat → Int) : Nat → Nat → ER
  | 0, _ => er0
  | f + 1, i => if C i < leC i ∨ moC i < C i then (7, 131, i) else chkF C f (i + 1)
def chkV (C : Nat → Int) : ER := chkF C 13 0
/-- Bounds as a value. -/
def cfgC (C : Nat → Int) : Array Value := #[.int .i64 (C 0), .int .i64 (C 1), .int .i64 (C 2), .int .i64 (C 3), .int .i64 (C 4), .int .i64 (C 5), .int .i64 (C 6), .int .i64 (C 7), .int .i64 (C 8), .int .i64 (C 9), .int .i64 (C 10), .int .i64 (C 11), .int .i64 (C 12)]
def cfgV (C : Nat → Int) : Value := .agg (cfgC C)
def zC : Nat → Int := fun _ => 0
def kOk (k : Int) : Prop := 1 ≤ k ∧ k ≤ 7
instance (k : Int) : Decidable (kOk k) := inferInstanceAs (Decidable (_ ∧ _))
/-- An event that is read. -/
def evK (s : ByteArray) (R : RV) : ET × RV :=
  (⟨(rNum s 1 R).1, (rNum s 1 (rNum s 1 R).2).1, (rNum s 4 (rNum s 1 (rNum s 1 R).2).2).1, (rBin s (rNum s 4 (rNum s 1 (rNum s 1 R).2).2).2).1⟩, (rBin s (rNum s 4 (rNum s 1 (rNum s 1 R).2).2).2).2)
def evF (s : ByteArray) : Nat → RV → ER × List ET × RV
  | 0, R => (er0, [], R)
  | n + 1, R => if (evK s R).2.no = 0 then if kOk (evK s R).1.k then ((evF s n (evK s R).2).1, (evK s R).1 :: (evF s n (evK s R).2).2.1, (evF s n (evK s R).2).2.2) else ((2, 129, R.p), [], (evK s R).2) else (((evK s R).2.no, 129, (evK s R).2.ea), [], (evK s R).2)
/-- The events that follow. -/
def esF (s : ByteArray) (R : RV) : ER × List ET :=
  if (rNum s 2 R).2.no = 0 then
    if 16384 < (rNum s 2 R).1 then ((4, 149, R.p), [])
    else if (evF s (rNum s 2 R).1 (rNum s 2 R).2).1.1 = 0 then
      if (ofR (dnR s (evF s (rNum s 2 R).1 (rNum s 2 R).2).2.2)).1 = 0 then (er0, (evF s (rNum s 2 R).1 (rNum s 2 R).2).2.1) else (ofR (dnR s (evF s (rNum s 2 R).1 (rNum s 2 R).2).2.2), [])
    else ((evF s (rNum s 2 R).1 (rNum s 2 R).2).1, [])
  else (((rNum s 2 R).2.no, 129, (rNum s 2 R).2.ea), [])
/-- The bounds ahead of them. -/
def bdF (s : ByteArray) : ER × (Nat → Int) × RV :=
  if (rTake s 5 rz0).2.no = 0 then
    if (rTake s 5 rz0).1 = crier then
      if (rdR s (rTake s 5 rz0).2 13).no = 0 then
        if (chkV (rdC s (rTake s 5 rz0).2)).1 = 0 then (er0, rdC s (rTake s 5 rz0).2, rdR s (rTake s 5 rz0).2 13)
        else (chkV (rdC s (rTake s 5 rz0).2), zC, rdR s (rTake s 5 rz0).2 13)
      else (((rdR s (rTake s 5 rz0).2 13).no, 129, (rdR s (rTake s 5 rz0).2 13).ea), zC, rdR s (rTake s 5 rz0).2 13)
    else ((2, 129, 0), zC, (rTake s 5 rz0).2)
  else (((rTake s 5 rz0).2.no, 129, (rTake s 5 rz0).2.ea), zC, (rTake s 5 rz0).2)
structure TK where
  e : ER
  C : Nat → Int
  L : List ET
def tkS (s : ByteArray) : TK :=
  if (bdF s).1.1 = 0 then
    if (esF s (bdF s).2.2).1.1 = 0 then ⟨er0, (bdF s).2.1, (esF s (bdF s).2.2).2⟩ else ⟨(esF s (bdF s).2.2).1, zC, []⟩
  else ⟨(bdF s).1, zC, []⟩
/-- What is written. -/
def wE (W : EV) (x : ET) : EV := stepW (stepW (stepW (stepW W (numE 1 x.k)) (numE 1 x.c)) (numE 4 x.n)) (binE x.b)
def wB (C : Nat → Int) : Nat → EV
  | 0 => stepW w0 ⟨0, 0, crier.data.toList⟩
  | i + 1 => stepW (wB C i) (numE 4 (C i))
def wH (C : Nat → Int) (n : Nat) : EV := stepW (wB C 13) (numE 2 n)
def wL (C : Nat → Int) (n : Nat) (L : List ET) : EV := L.foldl wE (wH C n)
def bkF : List ET → Nat → ER
  | [], _ => er0
  | x :: L, i => if kOk x.k then bkF L (i + 1) else (7, 128, i)
def ptS (C : Nat → Int) (L : List ET) : ER × List UInt8 :=
  if (chkV C).1 = 0 then
    if 16384 < L.length then ((4, 149, 0), [])
    else if (bkF L 0).1 = 0 then if (wL C L.length L).no = 0 then (er0, (wL C L.length L).L) else (((wL C L.length L).no, 129, (wL C L.length L).at_), [])
    else (bkF L 0, [])
  else (chkV C, [])
theorem bk_zero : ∀ (L : List ET) (i : Nat), (bkF L i).1 = 0 ↔ ∀ x ∈ L, kOk x.k
  | [], i => by simp [bkF, er0]
  | x :: L, i => by
    unfold bkF
    by_cases h : kOk x.k
    · rw [if_pos h, bk_zero L (i + 1)]
      simp [h]
    · rw [if_neg h]
      simp [h]
/-- What was written is what was read. -/
structure Pre (s : ByteArray) (W : EV) (R : RV) : Prop where
  w : W.no = 0
  r : R = ⟨W.L.length, 0, 0⟩
  l : ∃ post, s.data.toList = W.L ++ post
theorem stepW_inv {W e : EV} (h : (stepW W e).no = 0) : W.no = 0 ∧ e.no = 0 ∧ (stepW W e).L = W.L ++ e.L := by
  by_cases h0 : W.no = 0
  · by_cases he : e.no = 0
    · rw [stepW_ok h0 he]; exact ⟨h0, he, rfl⟩
    · rw [stepW_bad h0 he] at h; exact absurd h he
  · rw [stepW_stuck h0] at h; exact absurd h h0
theorem be_bv : ∀ (k : Nat) (l : List UInt8), l.length = k → be k (bv l) = l := by
  intro k
  induction k with
  | zero => intro l h; rw [List.length_eq_zero_iff.1 h]; rfl
  | succ k ih =>
    intro l h
    obtain ⟨m, b, rfl⟩ : ∃ m b, l = m ++ [b] := ⟨l.dropLast, l.getLast (by intro e; rw [e] at h; cases h), (List.dropLast_concat_getLast _).symm⟩
    rw [List.length_append, List.length_singleton] at h
    rw [bv_snoc, be]
    have hb := b.toNat_lt
    have e1 : (bv m * 256 + b.toNat) / 256 = bv m := by omega
    have e2 : (bv m * 256 + b.toNat) % 256 = b.toNat := by omega
    rw [e1, e2, ih m (by omega), UInt8.ofNat_toNat]
theorem pre_app {s : ByteArray} {W : EV} {R : RV} {l : List UInt8} (h : Pre s W R) (hl : ∃ post, s.data.toList = W.L ++ (l ++ post)) {e : EV} (he : e = ⟨0, 0, l⟩) : Pre s (stepW W e) ⟨R.p + l.length, 0, R.ea⟩ := by
  obtain ⟨hw, hr, _⟩ := h
  subst he
  obtain ⟨post, hp⟩ := hl
  rw [stepW_ok hw rfl]
  refine ⟨rfl, ?_, post, ?_⟩
  · rw [hr]; simp
  · rw [hp]; simp
theorem take_pre {s : ByteArray} {W : EV} {R : RV} (h : Pre s W R) {n : Nat} (h0 : (rTake s n R).2.no = 0) : (rTake s n R).1.size = n ∧ (rTake s n R).2 = ⟨R.p + n, 0, R.ea⟩ ∧ ∃ post, s.data.toList = W.L ++ ((rTake s n R).1.data.toList ++ post) := by
  obtain ⟨hw, hr, post, hp⟩ := h
  subst hr
  unfold rTake at h0 ⊢
  rw [if_pos rfl] at h0 ⊢
  by_cases h1 : s.size < W.L.length + n
  · rw [if_pos h1] at h0; cases h0
  · rw [if_neg h1]
    have hl := slen hp
    rw [List.length_append] at hl
    have e : (s.extract W.L.length (W.L.length + n)).data.toList = post.take n := by
      rw [ext_list, hp]; simp
    refine ⟨?_, rfl, post.drop n, ?_⟩
    · rw [← bLen, e, List.length_take]; omega
    · rw [e, hp, List.take_append_drop]
theorem num_bwd {s : ByteArray} {W : EV} {R : RV} (h : Pre s W R) {k : Nat} (h0 : (rNum s k R).2.no = 0) : Pre s (stepW W (numE k ((rNum s k R).1 : Nat))) (rNum s k R).2 ∧ (rNum s k R).1 < 256 ^ k := by
  obtain ⟨h1, h2, h3⟩ := take_pre h (n := k) h0
  have hn : (rNum s k R).1 = bv (rTake s k R).1.data.toList := rfl
  have hlt : (rNum s k R).1 < 256 ^ k := by
    have := bv_lt (rTake s k R).1.data.toList
    rw [bLen, h1] at this
    exact this
  have hbe : be k (rNum s k R).1 = (rTake s k R).1.data.toList := by rw [hn]; exact be_bv k _ (by rw [bLen, h1])
  rw [← hbe] at h3
  have hp := pre_app h h3 (e := numE k ((rNum s k R).1 : Nat)) (by unfold numE; rw [if_neg (by omega), Int.toNat_natCast])
  rw [be_len] at hp
  refine ⟨?_, hlt⟩
  rw [show (rNum s k R).2 = (rTake s k R).2 from rfl, h2]
  exact hp
theorem num_fwd {s : ByteArray} {W : EV} {R : RV} (h : Pre s W R) {k : Nat} {n : Int} (h0 : (stepW W (numE k n)).no = 0) (hs : ∃ post, s.data.toList = (stepW W (numE k n)).L ++ post) : ∃ m : Nat, n = m ∧ (rNum s k R).1 = m ∧ Pre s (stepW W (numE k n)) (rNum s k R).2 := by
  obtain ⟨hw, hr, _⟩ := h
  subst hr
  obtain ⟨_, he, hL⟩ := stepW_inv h0
  obtain ⟨m, rfl, hm, hE⟩ := numE_ok he
  obtain ⟨post, hp⟩ := hs
  have hp2 := hp
  rw [hL, hE, List.append_assoc] at hp2
  have e := rNum_ok (k := k) hm hp2 0
  refine ⟨m, rfl, by rw [e], h0, ?_, post, hp⟩
  rw [e, hL, hE, List.length_append, be_len]
theorem bin_bwd {s : ByteArray} {W : EV} {R : RV} (h : Pre s W R) (h0 : (rBin s R).2.no = 0) : Pre s (stepW W (binE (rBin s R).1)) (rBin s R).2 ∧ (rBin s R).1.size < 65536 := by
  have hn0 : (rTake s (rNum s 2 R).1 (rNum s 2 R).2).2.no = 0 := by
    unfold rBin at h0
    simp only at h0
    by_cases hh : (rTake s (rNum s 2 R).1 (rNum s 2 R).2).2.no = 0
    · exact hh
    · rw [if_neg hh] at h0; exact h0
  have e1 : (rBin s R).1 = (rTake s (rNum s 2 R).1 (rNum s 2 R).2).1 := rfl
  have e2 : (rBin s R).2 = (rTake s (rNum s 2 R).1 (rNum s 2 R).2).2 := by unfold rBin; simp only; rw [if_pos hn0]
  have hn2 : (rNum s 2 R).2.no = 0 := by
    by_cases hh : (rNum s 2 R).2.no = 0
    · exact hh
    · rw [rTake_stuck hh] at hn0; exact hn0
  obtain ⟨hp, hlt⟩ := num_bwd h hn2
  obtain ⟨k1, k2, k3⟩ := take_pre hp hn0
  rw [e1, e2, k2]
  generalize hb : (rTake s (rNum s 2 R).1 (rNum s 2 R).2).1 = b at *
  have hw := h.w
  have hE : numE 2 ((rNum s 2 R).1 : Nat) = ⟨0, 0, be 2 b.size⟩ := by unfold numE; rw [if_neg (by omega), Int.toNat_natCast, k1]
  rw [hE] at k3 hp
  rw [stepW_ok hw rfl] at k3 hp
  obtain ⟨post, k3⟩ := k3
  refine ⟨?_, by rw [k1]; exact hlt⟩
  have := pre_app (l := be 2 b.size ++ b.data.toList) h ⟨post, by rw [k3]; simp⟩ (e := binE b) rfl
  rw [List.length_append, be_len, bLen] at this
  have e5 : (⟨(rNum s 2 R).2.p + (rNum s 2 R).1, 0, (rNum s 2 R).2.ea⟩ : RV) = ⟨R.p + (2 + b.size), 0, R.ea⟩ := by
    have e3 := hp.r
    have e4 := h.r
    rw [e3, ← k1, e4]
    simp only [List.length_append, be_len, Nat.add_assoc]
  rw [e5]
  exact this
theorem bin_fwd {s : ByteArray} {W : EV} {R : RV} (h : Pre s W R) {b : ByteArray} (hb : b.size < 65536) (h0 : (stepW W (binE b)).no = 0) (hs : ∃ post, s.data.toList = (stepW W (binE b)).L ++ post) : (rBin s R).1 = b ∧ Pre s (stepW W (binE b)) (rBin s R).2 := by
  obtain ⟨hw, hr, _⟩ := h
  subst hr
  obtain ⟨_, _, hL⟩ := stepW_inv h0
  obtain ⟨post, hp⟩ := hs
  have hp2 := hp
  rw [hL, List.append_assoc] at hp2
  have e := rBin_ok hb hp2 0
  refine ⟨by rw [e], h0, ?_, post, hp⟩
  rw [e, hL, List.length_append, binE_len]
theorem pre_of {s : ByteArray} {W e : EV} (h0 : (stepW W e).no = 0) (hs : ∃ post, s.data.toList = (stepW W e).L ++ post) : ∃ post, s.data.toList = W.L ++ post := by
  obtain ⟨_, _, hL⟩ := stepW_inv h0
  obtain ⟨post, hp⟩ := hs
  exact ⟨e.L ++ post, by rw [hp, hL, List.append_assoc]⟩
theorem ev_bwd {s : ByteArray} {W : EV} {R : RV} (h : Pre s W R) (h0 : (evK s R).2.no = 0) : Pre s (wE W (evK s R).1) (evK s R).2 ∧ (evK s R).1.b.size < 65536 := by
  unfold evK at h0 ⊢
  simp only at h0 ⊢
  have n3 : (rNum s 4 (rNum s 1 (rNum s 1 R).2).2).2.no = 0 := by
    by_cases hh : (rNum s 4 (rNum s 1 (rNum s 1 R).2).2).2.no = 0
    · exact hh
    · rw [rBin_stuck hh] at h0; exact h0
  have n2 : (rNum s 1 (rNum s 1 R).2).2.no = 0 := by
    by_cases hh : (rNum s 1 (rNum s 1 R).2).2.no = 0
    · exact hh
    · rw [rNum_stuck hh] at n3; exact n3
  have n1 : (rNum s 1 R).2.no = 0 := by
    by_cases hh : (rNum s 1 R).2.no = 0
    · exact hh
    · rw [rNum_stuck hh] at n2; exact n2
  obtain ⟨p1, _⟩ := num_bwd h n1
  obtain ⟨p2, _⟩ := num_bwd p1 n2
  obtain ⟨p3, _⟩ := num_bwd p2 n3
  exact bin_bwd p3 h0
theorem ev_fwd {s : ByteArray} {W : EV} {R : RV} (h : Pre s W R) {x : ET} (hb : x.b.size < 65536) (h0 : (wE W x).no = 0) (hs : ∃ post, s.data.toList = (wE W x).L ++ post) : (evK s R).1 = x ∧ Pre s (wE W x) (evK s R).2 := by
  obtain ⟨xk, xc, xn, xb⟩ := x
  unfold wE at h0 hs ⊢
  simp only at h0 hs hb ⊢
  obtain ⟨z3, _, _⟩ := stepW_inv h0
  obtain ⟨z2, _, _⟩ := stepW_inv z3
  obtain ⟨z1, _, _⟩ := stepW_inv z2
  have s3 := pre_of h0 hs
  have s2 := pre_of z3 s3
  have s1 := pre_of z2 s2
  obtain ⟨m1, rfl, e1, p1⟩ := num_fwd h z1 s1
  obtain ⟨m2, rfl, e2, p2⟩ := num_fwd p1 z2 s2
  obtain ⟨m3, rfl, e3, p3⟩ := num_fwd p2 z3 s3
  obtain ⟨e4, p4⟩ := bin_fwd p3 hb h0 hs
  unfold evK
  exact ⟨by rw [e1, e2, e3, e4], p4⟩
theorem fold_inv : ∀ (L : List ET) (W : EV), (L.foldl wE W).no = 0 → W.no = 0 ∧ ∃ m, (L.foldl wE W).L = W.L ++ m
  | [], W, h => ⟨h, [], by simp⟩
  | x :: L, W, h => by
    obtain ⟨h1, m, hm⟩ := fold_inv L (wE W x) h
    unfold wE at h1
    obtain ⟨z3, _, l3⟩ := stepW_inv h1
    obtain ⟨z2, _, l2⟩ := stepW_inv z3
    obtain ⟨z1, _, l1⟩ := stepW_inv z2
    obtain ⟨z0, _, l0⟩ := stepW_inv z1
    refine ⟨z0, ?_⟩
    rw [List.foldl_cons, hm]
    unfold wE
    rw [l3, l2, l1, l0]
    exact ⟨_, by simp only [List.append_assoc]; rfl⟩
theorem evF_succ (s : ByteArray) (n : Nat) (R : RV) : evF s (n + 1) R = if (evK s R).2.no = 0 then if kOk (evK s R).1.k then ((evF s n (evK s R).2).1, (evK s R).1 :: (evF s n (evK s R).2).2.1, (evF s n (evK s R).2).2.2) else ((2, 129, R.p), [], (evK s R).2) else (((evK s R).2.no, 129, (evK s R).2.ea), [], (evK s R).2) := rfl
theorem evs_bwd {s : ByteArray} (n : Nat) : ∀ (W : EV) (R : RV), Pre s W R → (evF s n R).1.1 = 0 → (evF s n R).1 = er0 ∧ (evF s n R).2.1.length = n ∧ (∀ x ∈ (evF s n R).2.1, kOk x.k ∧ x.b.size < 65536) ∧ Pre s ((evF s n R).2.1.foldl wE W) (evF s n R).2.2 := by
  induction n with
  | zero => exact fun W R h _ => ⟨rfl, rfl, (fun x hx => by cases hx), h⟩
  | succ n ih =>
    intro W R h h0
    rw [evF_succ] at h0 ⊢
    obtain ⟨q, hq⟩ : ∃ q, q = evK s R := ⟨_, rfl⟩
    have he := ev_bwd h (W := W)
    rw [← hq] at h0 he ⊢
    obtain ⟨x, R1⟩ := q
    simp only at h0 he ⊢
    by_cases h1 : R1.no = 0
    · rw [if_pos h1] at h0 ⊢
      by_cases h2 : kOk x.k
      · rw [if_pos h2] at h0 ⊢
        obtain ⟨p, hb⟩ := he h1
        have ih := ih _ _ p
        generalize evF s n R1 = t at *
        obtain ⟨t1, t2, t3⟩ := t
        simp only at h0 ih ⊢
        obtain ⟨r0, r1, r2, r3⟩ := ih h0
        refine ⟨r0, by simp only [List.length_cons, r1], fun y hy => ?_, r3⟩
        rcases List.mem_cons.1 hy with rfl | hy
        · exact ⟨h2, hb⟩
        · exact r2 y hy
      · rw [if_neg h2] at h0; cases h0
    · rw [if_neg h1] at h0; exact absurd h0 h1
theorem evs_fwd {s : ByteArray} : ∀ (L : List ET) {W : EV} {R : RV}, Pre s W R → (∀ x ∈ L, kOk x.k ∧ x.b.size < 65536) → (L.foldl wE W).no = 0 → (∃ post, s.data.toList = (L.foldl wE W).L ++ post) → (evF s L.length R).1 = er0 ∧ (evF s L.length R).2.1 = L ∧ Pre s (L.foldl wE W) (evF s L.length R).2.2
  | [], W, R, h, _, _, _ => ⟨rfl, rfl, h⟩
  | x :: L, W, R, h, hx, h0, hs => by
    obtain ⟨h1, m, hm⟩ := fold_inv L (wE W x) h0
    obtain ⟨kx, bx⟩ := hx x (List.mem_cons_self ..)
    obtain ⟨post, hp⟩ := hs
    obtain ⟨e, p⟩ := ev_fwd h bx h1 ⟨m ++ post, by rw [hp, List.foldl_cons, hm, List.append_assoc]⟩
    obtain ⟨r0, r1, r2⟩ := evs_fwd L p (fun y hy => hx y (List.mem_cons_of_mem _ hy)) h0 ⟨post, hp⟩
    have hn0 : (evK s R).2.no = 0 := by rw [p.r]
    rw [List.length_cons, evF_succ, if_pos hn0, e, if_pos kx]
    exact ⟨r0, by rw [r1], r2⟩
theorem bds_bwd {s : ByteArray} {R : RV} (h : Pre s (wB (rdC s R) 0) R) : ∀ i, (rdR s R i).no = 0 → Pre s (wB (rdC s R) i) (rdR s R i)
  | 0, _ => h
  | i + 1, h0 => by
    have n1 : (rdR s R i).no = 0 := by
      by_cases hh : (rdR s R i).no = 0
      · exact hh
      · unfold rdR at h0
        rw [rNum_stuck hh] at h0; exact h0
    exact (num_bwd (bds_bwd h i n1) h0).1
theorem wB_inv {C : Nat → Int} : ∀ (d i : Nat), (wB C (i + d)).no = 0 → (wB C i).no = 0 ∧ ∃ m, (wB C (i + d)).L = (wB C i).L ++ m
  | 0, i, h => ⟨h, [], by simp⟩
  | d + 1, i, h => by
    obtain ⟨h1, _, hL⟩ := stepW_inv (W := wB C (i + d)) (e := numE 4 (C (i + d))) h
    obtain ⟨h2, m, hm⟩ := wB_inv d i h1
    refine ⟨h2, m ++ (numE 4 (C (i + d))).L, ?_⟩
    have e : (wB C (i + (d + 1))).L = (wB C (i + d)).L ++ (numE 4 (C (i + d))).L := hL
    rw [e, hm, List.append_assoc]
theorem bds_fwd {s : ByteArray} {C : Nat → Int} {R : RV} (h : Pre s (wB C 0) R) : ∀ i, (wB C i).no = 0 → (∃ post, s.data.toList = (wB C i).L ++ post) → Pre s (wB C i) (rdR s R i) ∧ ∀ j, j < i → rdC s R j = C j
  | 0, _, _ => ⟨h, fun j hj => by omega⟩
  | i + 1, h0, hs => by
    obtain ⟨h1, _, _⟩ := stepW_inv (W := wB C i) (e := numE 4 (C i)) h0
    obtain ⟨p, hj⟩ := bds_fwd h i h1 (pre_of h0 hs)
    obtain ⟨m, e1, e2, p2⟩ := num_fwd p h0 hs
    refine ⟨p2, fun j hj2 => ?_⟩
    by_cases e : j = i
    · subst e
      unfold rdC
      rw [e2, e1]
    · exact hj j (by omega)
theorem pre_start (s : ByteArray) : Pre s w0 rz0 := ⟨rfl, rfl, s.data.toList, rfl⟩
theorem crier_size : crier.size = 5 := rfl
theorem head_bwd {s : ByteArray} (C : Nat → Int) (h0 : (rTake s 5 rz0).2.no = 0) (hc : (rTake s 5 rz0).1 = crier) : Pre s (wB C 0) (rTake s 5 rz0).2 := by
  obtain ⟨h1, h2, h3⟩ := take_pre (pre_start s) h0
  rw [hc] at h3
  have := pre_app (pre_start s) h3 (e := ⟨0, 0, crier.data.toList⟩) rfl
  rw [h2]
  exact this
theorem head_fwd {s : ByteArray} (C : Nat → Int) (hs : ∃ post, s.data.toList = crier.data.toList ++ post) : (rTake s 5 rz0).1 = crier ∧ Pre s (wB C 0) (rTake s 5 rz0).2 := by
  obtain ⟨post, hp⟩ := hs
  have e := rTake_ok (s := s) (pre := []) (x := crier.data.toList) (post := post) (by rw [hp]; rfl) 0
  have e2 : rTake s 5 rz0 = (crier, ⟨5, 0, 0⟩) := e
  have hc : (rTake s 5 rz0).1 = crier := by rw [e2]
  exact ⟨hc, head_bwd C (by rw [e2]) hc⟩
theorem chk_congr {C D : Nat → Int} : ∀ (f i : Nat), (∀ j, j < i + f → C j = D j) → chkF C f i = chkF D f i
  | 0, _, _ => rfl
  | f + 1, i, h => by
    unfold chkF
    rw [h i (by omega), chk_congr f (i + 1) (fun j hj => h j (by omega))]
theorem cfg_congr {C D : Nat → Int} (h : ∀ j, j < 13 → C j = D j) : cfgC C = cfgC D := by
  unfold cfgC
  rw [h 0 (by decide), h 1 (by decide), h 2 (by decide), h 3 (by decide), h 4 (by decide), h 5 (by decide), h 6 (by decide), h 7 (by decide), h 8 (by decide), h 9 (by decide), h 10 (by decide), h 11 (by decide), h 12 (by decide)]
/-- What is put is taken as it was. -/
theorem put_take {C : Nat → Int} {L : List ET} (h : (ptS C L).1.1 = 0) (hb : ∀ x ∈ L, x.b.size < 65536) {s : ByteArray} (hs : s = ⟨(ptS C L).2.toArray⟩) : (tkS s).e = er0 ∧ cfgC (tkS s).C = cfgC C ∧ (tkS s).L = L := by
  unfold ptS at h hs
  by_cases h1 : (chkV C).1 = 0
  · rw [if_pos h1] at h hs
    by_cases h2 : 16384 < L.length
    · rw [if_pos h2] at h; cases h
    · rw [if_neg h2] at h hs
      by_cases h3 : (bkF L 0).1 = 0
      · rw [if_pos h3] at h hs
        by_cases h4 : (wL C L.length L).no = 0
        · rw [if_pos h4] at hs
          have hsl : s.data.toList = (wL C L.length L).L := by rw [hs]
          obtain ⟨g1, m, gm⟩ := fold_inv L (wH C L.length) h4
          obtain ⟨g2, _, _⟩ := stepW_inv g1
          have q1 : ∃ post, s.data.toList = (wH C L.length).L ++ post := ⟨m, by rw [hsl]; exact gm⟩
          have q2 : ∃ post, s.data.toList = (wB C 13).L ++ post := pre_of g1 q1
          obtain ⟨_, m0, hm0⟩ := wB_inv (C := C) 13 0 g2
          have q0 : ∃ post, s.data.toList = crier.data.toList ++ post := by
            obtain ⟨post, hp⟩ := q2
            refine ⟨m0 ++ post, ?_⟩
            rw [hp]
            have : (wB C 13).L = crier.data.toList ++ m0 := hm0
            rw [this, List.append_assoc]
          obtain ⟨k1, k2⟩ := head_fwd C q0
          obtain ⟨k3, k4⟩ := bds_fwd k2 13 g2 q2
          have k5 : chkV (rdC s (rTake s 5 rz0).2) = chkV C := chk_congr 13 0 (fun j hj => k4 j (by omega))
          have hbd : bdF s = (er0, rdC s (rTake s 5 rz0).2, rdR s (rTake s 5 rz0).2 13) := by
            unfold bdF
            rw [if_pos (by rw [k2.r]), if_pos k1, if_pos (by rw [k3.r]), k5, if_pos h1]
          obtain ⟨n, en, e1, p1⟩ := num_fwd k3 g1 q1
          have en' : L.length = n := by omega
          have hk := (bk_zero L 0).1 h3
          obtain ⟨r0, r1, r2⟩ := evs_fwd L p1 (fun x hx => ⟨hk x hx, hb x hx⟩) h4 ⟨[], by rw [hsl, List.append_nil]; rfl⟩
          have hdn : ofR (dnR s (evF s L.length (rNum s 2 (rdR s (rTake s 5 rz0).2 13)).2).2.2) = er0 := by
            have hl := slen hsl
            rw [r2.r]
            unfold dnR
            rw [if_pos rfl, if_neg (by simp only; rw [hl]; exact Nat.lt_irrefl _)]
            rfl
          have hes : esF s (rdR s (rTake s 5 rz0).2 13) = (er0, L) := by
            unfold esF
            rw [if_pos (by rw [p1.r]), e1, if_neg (by omega), ← en', r0, if_pos (show er0.1 = 0 from rfl), hdn, if_pos (show er0.1 = 0 from rfl), r1]
          unfold tkS
          rw [hbd]
          simp only
          rw [if_pos (show er0.1 = 0 from rfl), hes]
          simp only
          rw [if_pos (show er0.1 = 0 from rfl)]
          exact ⟨rfl, cfg_congr k4, rfl⟩
        · rw [if_neg h4] at h; exact absurd h h4
      · rw [if_neg h3] at h; exact absurd h h3
  · rw [if_neg h1] at h; exact absurd h h1
theorem es_bwd {s : ByteArray} {W : EV} {R : RV} (h : Pre s W R) (h0 : (esF s R).1.1 = 0) : (esF s R).2.length ≤ 16384 ∧ (∀ x ∈ (esF s R).2, kOk x.k ∧ x.b.size < 65536) ∧ ((esF s R).2.foldl wE (stepW W (numE 2 ((esF s R).2.length : Nat)))).no = 0 ∧ s.data.toList = ((esF s R).2.foldl wE (stepW W (numE 2 ((esF s R).2.length : Nat)))).L := by
  unfold esF at h0 ⊢
  have hn := fun h1 => num_bwd h (k := 2) h1
  generalize rNum s 2 R = m at *
  obtain ⟨n, R1⟩ := m
  simp only at h0 hn ⊢
  by_cases b1 : R1.no = 0
  · rw [if_pos b1] at h0 ⊢
    obtain ⟨p2, hlt⟩ := hn b1
    by_cases b2 : 16384 < n
    · rw [if_pos b2] at h0; cases h0
    · rw [if_neg b2] at h0 ⊢
      have hev := evs_bwd n _ _ p2
      generalize evF s n R1 = q at *
      obtain ⟨q0, L, Rq⟩ := q
      simp only at h0 hev ⊢
      by_cases b3 : q0.1 = 0
      · rw [if_pos b3] at h0 ⊢
        obtain ⟨c0, c1, c2, c3⟩ := hev b3
        by_cases b4 : (ofR (dnR s Rq)).1 = 0
        · rw [if_pos b4]
          simp only
          rw [← c1] at c3
          have hend : ¬ Rq.p < s.size := by
            intro hh
            unfold dnR at b4
            rw [c3.r, if_pos rfl] at b4
            rw [c3.r] at hh
            rw [if_pos hh] at b4
            cases b4
          obtain ⟨post, hp⟩ := c3.l
          have hl := slen hp
          rw [List.length_append] at hl
          rw [c3.r] at hend
          simp only at hend
          have hpn : post = [] := List.length_eq_zero_iff.1 (by omega)
          rw [hpn, List.append_nil] at hp
          exact ⟨by omega, c2, c3.w, hp⟩
        · rw [if_neg b4] at h0; exact absurd h0 b4
      · rw [if_neg b3] at h0; exact absurd h0 b3
  · rw [if_neg b1] at h0; exact absurd h0 b1
theorem bd_bwd {s : ByteArray} (h0 : (bdF s).1.1 = 0) : (bdF s).1 = er0 ∧ (chkV (bdF s).2.1).1 = 0 ∧ Pre s (wB (bdF s).2.1 13) (bdF s).2.2 := by
  unfold bdF at h0 ⊢
  have hh := fun C => head_bwd (s := s) C
  generalize rTake s 5 rz0 = q at *
  obtain ⟨t, R⟩ := q
  simp only at h0 hh ⊢
  by_cases a1 : R.no = 0
  · rw [if_pos a1] at h0 ⊢
    by_cases a2 : t = crier
    · rw [if_pos a2] at h0 ⊢
      have hb := bds_bwd (hh (rdC s R) a1 a2) 13
      generalize rdR s R 13 = R2 at *
      generalize rdC s R = C at *
      by_cases a3 : R2.no = 0
      · rw [if_pos a3] at h0 ⊢
        by_cases a4 : (chkV C).1 = 0
        · rw [if_pos a4]
          exact ⟨rfl, a4, hb a3⟩
        · rw [if_neg a4] at h0; exact absurd h0 a4
      · rw [if_neg a3] at h0; exact absurd h0 a3
    · rw [if_neg a2] at h0; cases h0
  · rw [if_neg a1] at h0; exact absurd h0 a1
/-- What is taken is put as the same bytes. -/
theorem take_put {s : ByteArray} (h : (tkS s).e.1 = 0) : (tkS s).e = er0 ∧ ptS (tkS s).C (tkS s).L = (er0, s.data.toList) ∧ (∀ x ∈ (tkS s).L, x.b.size < 65536) ∧ (tkS s).L.length ≤ 16384 ∧ ∀ i, (((tkS s).L.take i).foldl wE (wH (tkS s).C (tkS s).L.length)).L.length ≤ s.size := by
  unfold tkS at h ⊢
  have hb := bd_bwd (s := s)
  generalize bdF s = q at *
  obtain ⟨e1, C, R⟩ := q
  simp only at h hb ⊢
  by_cases h1 : e1.1 = 0
  · rw [if_pos h1] at h ⊢
    obtain ⟨_, b2, b3⟩ := hb h1
    have hes := es_bwd b3
    generalize esF s R = t at *
    obtain ⟨e2, L⟩ := t
    simp only at h hes ⊢
    by_cases h2 : e2.1 = 0
    · rw [if_pos h2]
      simp only
      obtain ⟨d1, d2, d3, d4⟩ := hes h2
      have hw : (wL C L.length L).no = 0 := d3
      refine ⟨trivial, ?_, fun x hx => (d2 x hx).2, d1, fun i => ?_⟩
      · unfold ptS
        rw [if_pos b2, if_neg (by omega), if_pos ((bk_zero L 0).2 fun x hx => (d2 x hx).1), if_pos hw, d4]
        rfl
      · have hl := slen d4
        have e : L.foldl wE (wH C L.length) = (L.drop i).foldl wE ((L.take i).foldl wE (wH C L.length)) := by rw [← List.foldl_append, List.take_append_drop]
        have d3' : (L.foldl wE (wH C L.length)).no = 0 := d3
        rw [e] at d3'
        obtain ⟨m, hm⟩ := (fold_inv _ _ d3').2
        have hl' : s.size = (L.foldl wE (wH C L.length)).L.length := hl
        rw [hl', e, hm, List.length_append]
        omega
    · rw [if_neg h2] at h; exact absurd h h2
  · rw [if_neg h1] at h; exact absurd h h1
end Go.Proofs.YtaoaoobabjepnaaDoor
