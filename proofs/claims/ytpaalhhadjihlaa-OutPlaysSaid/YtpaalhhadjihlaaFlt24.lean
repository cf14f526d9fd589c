/- What is proved here: messages under way as plain values, rows of them, and what stands of an Out of package outq. No conditions. -/
import Derived.Test.YtpaalhhadjihlaaMsgF
import Derived.Test.YtpaalhhadjihlaaPidsX23
import Derived.Test.YtpaalhhadjihlaaAMapIn
namespace Go.Proofs.Ytpaalhhadjihlaa
open Go.RowKit Go.Extern.Stop Go.Stop Go.Extern Go.Maps
set_option maxRecDepth 100000
/-- A message under way, and the how manyth it was that was sent. -/
structure FV where
  id : Int
  st : Int
  q : QV
  pl : Int
def f0 : FV := ⟨0, 0, q0, 0⟩
instance : Inhabited FV := ⟨f0⟩
def FV.cells (f : FV) : List Value := [.int .i64 f.id, .int .i64 f.st, .string f.q.m.topic, .string f.q.m.payload, .int .i64 f.q.m.qos, .bool f.q.m.retain, .slice f.q.pa f.q.m.props.length f.q.pc, .string f.q.m.frm, .int .i64 f.q.m.til, .int .i64 f.q.m.seq, .string f.q.m.grp, .int .i64 f.pl]
def FV.agg (f : FV) : Value := .agg #[.int .i64 f.id, .int .i64 f.st, .string f.q.m.topic, .string f.q.m.payload, .int .i64 f.q.m.qos, .bool f.q.m.retain, .slice f.q.pa f.q.m.props.length f.q.pc, .string f.q.m.frm, .int .i64 f.q.m.til, .int .i64 f.q.m.seq, .string f.q.m.grp, .int .i64 f.pl]
theorem FV.agg_eq (f : FV) : f.agg = .agg f.cells.toArray := rfl
abbrev FL := List FV
theorem fv_len (f : FV) : f.cells.length = 12 := rfl
theorem fv_one (f : FV) : ∀ v ∈ f.cells, v.oneCell' = true := by
  intro u hp
  unfold FV.cells at hp
  simp only [List.mem_cons, List.not_mem_nil, or_false] at hp
  rcases hp with rfl | rfl | rfl | rfl | rfl | rfl | rfl | rfl | rfl | rfl | rfl | rfl <;> rfl
def fcs (L : FL) : List Value := L.flatMap FV.cells
theorem fcs_app (L M : FL) : fcs (L ++ M) = fcs L ++ fcs M := by simp [fcs]
theorem fcs_one (f : FV) : fcs [f] = f.cells := by simp [fcs]
theorem fcs_len (L : FL) : (fcs L).length = L.length * 12 := by
  induction L with
  | nil => rfl
  | cons p L ih =>
    show (p.cells ++ fcs L).length = _
    rw [List.length_append, ih, List.length_cons]
    show 12 + _ = _
    omega
theorem fcs_ones (L : FL) : ∀ u ∈ fcs L, u.oneCell' = true := by
  intro u hu
  obtain ⟨p, _, hp⟩ := List.mem_flatMap.1 hu
  exact fv_one p u hp
theorem fcs_get (L : FL) : ∀ k i, k < L.length → i < 12 → (fcs L)[k * 12 + i]? = (L.getD k f0).cells[i]? := by
  induction L with
  | nil => intro k i hk; cases hk
  | cons p L ih =>
    intro k i hk hi
    show (p.cells ++ fcs L)[_]? = _
    rcases k with _ | k
    · rw [Nat.zero_mul, Nat.zero_add, List.getElem?_append_left (show i < p.cells.length from hi)]
      rfl
    · rw [List.getElem?_append_right (show p.cells.length ≤ _ by show 12 ≤ _; omega)]
      show (fcs L)[(k + 1) * 12 + i - 12]? = _
      rw [show (k + 1) * 12 + i - 12 = k * 12 + i by omega]
      exact ih k i (by simpa using hk) hi
theorem Try.flightInfo : (Try.prog.info? 73).map (fun i => (i.zero, i.size, i.bytes)) = some (some f0.agg, 12, 144) := by kernel_rfl
theorem Try.zflight (w : World) : (zeroValue 73).run Try.prog w = .ok f0.agg w := by kernel_rfl
theorem KI : Keyed Try.prog 3 := int_keyed Try.underlying3
/-- A row of one's own. -/
abbrev FRow (w : World) (B : Nat) (v : Value) (L : FL) : Prop := w.ownsRow B 73 12 v L.length (fcs L)
theorem FRow.form {w : World} {B : Nat} {v : Value} {L : FL} (h : FRow w B v L) : ∃ a c, v = .slice a L.length c := by
  rcases h.2 with ⟨rfl, h0⟩ | ⟨gr, cap, cur, rfl, _⟩
  · exact ⟨none, 0, by rw [h0]⟩
  · exact ⟨_, _, rfl⟩
theorem FRow.cell {w : World} {B : Nat} {a : Option Addr} {n c : Nat} {L : FL} (h : FRow w B (.slice a n c) L) (hl : 0 < L.length) : ∃ g, a = some ⟨g, 0, none⟩ ∧ g < w.heap.size ∧ ∀ k i, k < L.length → i < 12 → w.cell? ⟨g, k * 12 + i, none⟩ = (L.getD k f0).cells[i]? := by
  rcases h.2 with ⟨_, h0⟩ | ⟨gr, cap, cur, e, hB, hh, h3⟩
  · omega
  · have e' := e
    injection e' with ha hn hc
    subst ha hn hc
    refine ⟨gr, rfl, lt_of_block hh, fun k i hk hi => ?_⟩
    rw [← fcs_get L k i hk hi]
    exact World.ownsRow.cellAt h (k * 12 + i) (by omega)
/-- The properties of each stand somewhere. -/
def FProps (w : World) (L : FL) : Prop := ∀ f ∈ L, PIn w 0 f.q.pa f.q.m.props ∧ f.q.m.props.length ≤ 1000
def ids (L : FL) : List Int := L.map FV.id
def ent24 (f : FV) : Int × FV := (f.id, f)
/-- Block g is an Out: its numbers at block gp with the map bp, the map bm of these messages, so many sent. -/
structure OutI (w : World) (g gp bp bm : Nat) (L : FL) (last sent : Nat) : Prop where
  blk : Blk w g 32 #[.pointer (some ⟨gp, 0, none⟩), .int .i64 sent, .map (some bm)]
  pids : IsPids w gp bp 65535 last (fun x => decide (x ∈ ids L)) L.length
  map : AMap Try.prog 3 intKE FV.agg w bm (L.map ent24)
  ne : bm ≠ bp
  ord : L.Pairwise (fun a b => a.pl < b.pl)
  le : ∀ f ∈ L, f.pl ≤ sent
  len : L.length ≤ sent
  few : sent ≤ 1000
  props : FProps w L
theorem OutI.nef {w : World} {g gp bp bm : Nat} {L : FL} {last sent : Nat} (h : OutI w g gp bp bm L last sent) : g ≠ gp ∧ g ≠ bp ∧ g ≠ bm ∧ gp ≠ bp ∧ gp ≠ bm := by
  refine ⟨h.blk.other h.pids.is.1 (by decide), ?_, h.map.ne h.blk, ?_, h.map.ne h.pids.is.1⟩
  · exact h.pids.is.2.ne h.blk
  · exact h.pids.is.2.ne h.pids.is.1
theorem FProps.fr {w w' : World} {X : List Nat} {L : FL} (h : FProps w L) (hf : Fr X w w') (hX : ∀ g ∈ X, ∀ cs, w.heap[g]? ≠ some (.cells cs 93 (0, 0))) : FProps w' L :=
  fun f hm => ⟨(h f hm).1.fr hf (fun g hg => ⟨Nat.zero_le _, hX g hg⟩), (h f hm).2⟩
theorem FProps.below {w w' : World} {L : FL} (h : FProps w L) (hb : Below w.heap.size w w') : FProps w' L := fun f hm => ⟨(h f hm).1.below hb, (h f hm).2⟩
theorem OutI.then {w w' : World} {X : List Nat} {g gp bp bm : Nat} {L : FL} {last sent : Nat} (h : OutI w g gp bp bm L last sent) (hf : Fr X w w') (hX : ∀ b ∈ X, b ≠ g ∧ b ≠ gp ∧ b ≠ bp ∧ b ≠ bm ∧ ∀ cs, w.heap[b]? ≠ some (.cells cs 93 (0, 0))) : OutI w' g gp bp bm L last sent := by
  have n1 : g ∉ X := fun hm => (hX g hm).1 rfl
  have n2 : gp ∉ X := fun hm => (hX gp hm).2.1 rfl
  have n3 : bp ∉ X := fun hm => (hX bp hm).2.2.1 rfl
  have n4 : bm ∉ X := fun hm => (hX bm hm).2.2.2.1 rfl
  exact ⟨h.blk.fr hf n1, ⟨⟨h.pids.is.1.fr hf n2, h.pids.is.2.fr hf n3⟩, h.pids.ok⟩, h.map.fr hf n4, h.ne, h.ord, h.le, h.len, h.few, h.props.fr hf (fun b hb => (hX b hb).2.2.2.2)⟩
theorem OutI.below {w w' : World} {g gp bp bm : Nat} {L : FL} {last sent : Nat} (h : OutI w g gp bp bm L last sent) (hb : Below w.heap.size w w') : OutI w' g gp bp bm L last sent := h.then (X := []) (Fr.of_below hb) (fun b hm => by cases hm)
end Go.Proofs.Ytpaalhhadjihlaa
