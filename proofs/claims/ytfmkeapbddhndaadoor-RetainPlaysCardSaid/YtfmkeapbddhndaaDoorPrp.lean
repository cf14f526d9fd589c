/- What is proved here: properties as plain values, where they stand, and rows of them. No conditions. -/
import Derived.Test.YtfmkeapbddhndaaDoorTexts
import Derived.Maps.AppendAt
import Derived.Lib.AppendZeros
namespace Go.Proofs.YtfmkeapbddhndaaDoor
open Go.RowKit Go.Extern.Stop Go.Stop Go.Extern
/-- A property. -/
structure PV where
  id : Int
  n : Int
  s : ByteArray
  v : ByteArray
def p0 : PV := ⟨0, 0, e0, e0⟩
def PV.cells (p : PV) : List Value := [.int .i64 p.id, .int .i64 p.n, .string p.s, .string p.v]
def PV.agg (p : PV) : Value := .agg #[.int .i64 p.id, .int .i64 p.n, .string p.s, .string p.v]
abbrev PL := List PV
def pcs (L : PL) : List Value := L.flatMap PV.cells
theorem pcs_cons (p : PV) (L : PL) : pcs (p :: L) = .int .i64 p.id :: .int .i64 p.n :: .string p.s :: .string p.v :: pcs L := rfl
theorem pcs_len (L : PL) : (pcs L).length = L.length * 4 := by
  induction L with
  | nil => rfl
  | cons p L ih =>
    rw [pcs_cons]
    simp only [List.length_cons]
    omega
theorem pcs_app (L M : PL) : pcs (L ++ M) = pcs L ++ pcs M := by simp [pcs]
theorem pcs_get (L : PL) : ∀ k, k < L.length → (pcs L)[k * 4]? = some (.int .i64 (L.getD k p0).id) ∧ (pcs L)[k * 4 + 1]? = some (.int .i64 (L.getD k p0).n) ∧ (pcs L)[k * 4 + 2]? = some (.string (L.getD k p0).s) ∧ (pcs L)[k * 4 + 3]? = some (.string (L.getD k p0).v) := by
  induction L with
  | nil => intro k hk; cases hk
  | cons p L ih =>
    intro k hk
    rw [pcs_cons]
    rcases k with _ | k
    · exact ⟨rfl, rfl, rfl, rfl⟩
    · rw [show (k + 1) * 4 = k * 4 + 1 + 1 + 1 + 1 by omega]
      simpa using ih k (by simpa using hk)
theorem pcs_ones (L : PL) : ∀ u ∈ pcs L, u.oneCell' = true := by
  intro u hu
  obtain ⟨p, _, hp⟩ := List.mem_flatMap.1 hu
  unfold PV.cells at hp
  simp only [List.mem_cons, List.not_mem_nil, or_false] at hp
  rcases hp with rfl | rfl | rfl | rfl <;> rfl
/-- The cells of a property. -/
structure PCells (w : World) (g o : Nat) (p : PV) : Prop where
  c0 : w.cell? ⟨g, o, none⟩ = some (.int .i64 p.id)
  c1 : w.cell? ⟨g, o + 1, none⟩ = some (.int .i64 p.n)
  c2 : w.cell? ⟨g, o + 2, none⟩ = some (.string p.s)
  c3 : w.cell? ⟨g, o + 3, none⟩ = some (.string p.v)
/-- These properties stand at an address, if there are any, in a block below B or in one of properties. -/
def PIn (w : World) (B : Nat) (A : Option Addr) (L : PL) : Prop := 0 < L.length → ∃ g off, A = some ⟨g, off, none⟩ ∧ (∀ k, k < L.length → PCells w g (off + k * 4) (L.getD k p0)) ∧ (g < B ∨ ∃ cs, w.heap[g]? = some (.cells cs 109 (0, 0)))
section
variable {X : List Nat} {w w' : World} {B B' : Nat} {A : Option Addr} {L : PL}
theorem PCells.at {g o : Nat} {p : PV} (h : PCells w g o p) (hb : w'.heap[g]? = w.heap[g]?) : PCells w' g o p :=
  ⟨(World.cell?_of_block (w := w) hb).trans h.c0, (World.cell?_of_block (w := w) hb).trans h.c1, (World.cell?_of_block (w := w) hb).trans h.c2, (World.cell?_of_block (w := w) hb).trans h.c3⟩
theorem PIn.nil (w : World) (B : Nat) (A : Option Addr) : PIn w B A [] := fun h => absurd h (by simp)
/-- While only blocks from B on change that are none of properties, they stand. -/
theorem PIn.fr (h : PIn w B A L) (hf : Fr X w w') (hX : ∀ g ∈ X, B ≤ g ∧ ∀ cs, w.heap[g]? ≠ some (.cells cs 109 (0, 0))) : PIn w' B A L := by
  intro hp
  obtain ⟨g, off, e, hc, hg⟩ := h hp
  have hn : g ∉ X := fun hm => by
    rcases hg with hg | ⟨cs, hg⟩
    · have := (hX g hm).1; omega
    · exact (hX g hm).2 cs hg
  have hb := hf.block g (lt_of_cell' (hc 0 hp).c0) hn
  exact ⟨g, off, e, fun k hk => (hc k hk).at hb, hg.imp id fun ⟨cs, hh⟩ => ⟨cs, hb.trans hh⟩⟩
theorem PIn.below (h : PIn w B A L) (hb : Below w.heap.size w w') : PIn w' B A L := h.fr (X := []) (Fr.of_below hb) (fun g hg => by cases hg)
theorem PIn.drewN (h : PIn w B A L) (d : Nat) : PIn (w.drewN d) B A L := fun hp => by
  obtain ⟨g, off, e, hc, hg⟩ := h hp
  exact ⟨g, off, e, fun k hk => (hc k hk).at rfl, hg⟩
theorem PIn.alloc (h : PIn w B A L) (o : Obj) : PIn (w.alloc o) B A L := h.below ((Below.refl _ w).alloc (Nat.le_refl _) o)
theorem PIn.mono (h : PIn w B A L) (hB : B ≤ B') : PIn w B' A L := fun hp => by
  obtain ⟨g, off, e, hc, hg⟩ := h hp
  exact ⟨g, off, e, hc, hg.imp (fun x => by omega) id⟩
theorem PIn.news {ad : Addr} (h : PIn w B (some ad) L) : ∀ (j : Nat) (u : Value), (pcs L)[j]? = some u → w.cell? (ad.add j) = some u := by
  intro j u hj
  have hl : j < L.length * 4 := by
    have := (List.getElem?_eq_some_iff.1 hj).1
    rwa [pcs_len] at this
  obtain ⟨g, off, e, hc, _⟩ := h (by omega)
  obtain rfl : ad = ⟨g, off, none⟩ := Option.some.inj e
  rw [Addr.add_lit]
  have hh := hc (j / 4) (by omega)
  obtain ⟨q1, q2, q3, q4⟩ := pcs_get L (j / 4) (by omega)
  rcases (show j = j / 4 * 4 ∨ j = j / 4 * 4 + 1 ∨ j = j / 4 * 4 + 2 ∨ j = j / 4 * 4 + 3 by omega) with hj' | hj' | hj' | hj'
  · rw [hj'] at hj ⊢; rw [← hj, q1]; exact hh.c0
  · rw [hj'] at hj ⊢; rw [← hj, q2]; exact hh.c1
  · rw [hj'] at hj ⊢; rw [← hj, q3]; exact hh.c2
  · rw [hj'] at hj ⊢; rw [← hj, q4]; exact hh.c3
/-- A row of one's own of properties. -/
def PRow (w : World) (B : Nat) (v : Value) (L : PL) : Prop := w.ownsRow B 109 4 v L.length (pcs L)
theorem PRow.pin {a : Option Addr} {n c : Nat} (h : PRow w B (.slice a n c) L) : PIn w B' a L := by
  intro hl
  rcases h.2 with ⟨_, h0⟩ | ⟨gr, cap, cur, e, hB, hh, h3⟩
  · omega
  · have e' := e
    injection e' with ha hn hc
    subst ha hn hc
    refine ⟨gr, 0, rfl, fun k hk => ?_, .inr ⟨cur, hh⟩⟩
    obtain ⟨q1, q2, q3, q4⟩ := pcs_get L k hk
    simp only [Nat.zero_add]
    exact ⟨(World.ownsRow.cellAt h (k * 4) (by omega)).trans q1, (World.ownsRow.cellAt h (k * 4 + 1) (by omega)).trans q2, (World.ownsRow.cellAt h (k * 4 + 2) (by omega)).trans q3, (World.ownsRow.cellAt h (k * 4 + 3) (by omega)).trans q4⟩
theorem PRow.form {v : Value} (h : PRow w B v L) : ∃ a c, v = .slice a L.length c := by
  rcases h.2 with ⟨rfl, h0⟩ | ⟨gr, cap, cur, rfl, _⟩
  · exact ⟨none, 0, by rw [h0]⟩
  · exact ⟨_, _, rfl⟩
theorem PRow.nil (w : World) (B : Nat) : PRow w B (.slice none 0 0) [] := World.ownsRow_nil _ _ _ _
theorem PRow.below {v : Value} (h : PRow w B v L) (hb : Below w.heap.size w w') : PRow w' B v L := own_below h hb
end
theorem Tryd.propInfo : (Tryd.prog.info? 109).map (fun i => (i.zero, i.size, i.bytes)) = some (some (.agg #[.int .i64 0, .int .i64 0, .string ⟨#[]⟩, .string ⟨#[]⟩]), 4, 48) := by kernel_rfl
end Go.Proofs.YtfmkeapbddhndaaDoor
