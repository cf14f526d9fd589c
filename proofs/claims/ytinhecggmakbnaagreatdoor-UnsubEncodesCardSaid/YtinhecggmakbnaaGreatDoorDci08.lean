/- What is proved here: what the decoders hold while they read, and how they end. Conditions: the reader and the result's block stand. -/
import Derived.Test.YtinhecggmakbnaaGreatDoorPkx08
import Derived.Test.YtinhecggmakbnaaGreatDoorBod08
namespace Go.Proofs.YtinhecggmakbnaaGreatDoor
set_option maxRecDepth 100000
open Go.ChangeShapes Go.WideShapes Go.RowKit Go.Deep Go.Extern.Stop Go.Stop Go.Extern
section
variable {w w' : World} {B k : Nat} {A : PkA} {p : Pk} {old : Array Value}
theorem CIn.row {t : TypeId} {a : Option Addr} {cs : List Value} (h : CIn w B t a cs) (hb : Blk w k 29 old) (hB : B ≤ k) (ht : 29 ≠ t) (c : Array Value) : CIn (w.setRow k c) B t a cs :=
  h.fr (setRow_fr w k c) fun g hg => by
    rw [List.mem_singleton] at hg
    subst hg
    exact ⟨hB, fun cs hc => hb.other hc ht rfl⟩
theorem PkIn.row (h : PkIn w B A p) (hb : Blk w k 29 old) (hB : B ≤ k) (c : Array Value) : PkIn (w.setRow k c) B A p :=
  ⟨h.pr.row hb hB c, h.pc, h.wr.row hb hB c, h.wc, h.sb.row hb hB (by decide) c, h.fl.row hb hB (by decide) c, h.cd.row hb hB (by decide) c⟩
theorem CIn.cell {t : TypeId} {a : Option Addr} {cs : List Value} (h : CIn w B t a cs) (hb : Blk w k 29 old) (hB : B ≤ k) (ht : 29 ≠ t) (i : Nat) (u : Value) : CIn (w.setCell ⟨k, i, none⟩ u) B t a cs :=
  h.fr ((Fr.refl [k] w).setCell (p := (⟨k, i, none⟩ : Addr)) (.inl (List.mem_singleton_self k)) u) fun g hg => by
    rw [List.mem_singleton] at hg
    subst hg
    exact ⟨hB, fun cs hc => hb.other hc ht rfl⟩
theorem PkIn.cell (h : PkIn w B A p) (hb : Blk w k 29 old) (hB : B ≤ k) (i : Nat) (u : Value) : PkIn (w.setCell ⟨k, i, none⟩ u) B A p :=
  ⟨h.pr.cell hb hB i u, h.pc, h.wr.cell hb hB i u, h.wc, h.sb.cell hb hB (by decide) i u, h.fl.cell hb hB (by decide) i u, h.cd.cell hb hB (by decide) i u⟩
end
theorem DcSays.bad8 {w w' : World} {S : Nat → Addr} {q : Er × Pk} {z : Array Value} {e : Value} (hz : z = pk0.cells pa0) (hq : q.2 = pk0) (he : ErrOf w' S q.1.r q.1.no q.1.at_ e) (hb : Below w.heap.size w w') : DcSays w S q (.returned (.tuple #[.agg z, e])) w' :=
  ⟨pa0, e, by rw [hq, hz]; rfl, by rw [hq]; exact PkIn.zero _ _, he, hb⟩
/-- What a decoder holds: the result's block, still empty, and the reader. -/
structure DcI (w W : World) (S : Nat → Addr) (g : Nat) (s : ByteArray) (R : RV) (z : Array Value) : Prop where
  bel : Below w.heap.size w W
  res : Blk W (w.heap.size + 1) 29 z
  rd : RObj W S g s R
  low : w.heap.size ≤ g
section
variable {w W W' : World} {S : Nat → Addr} {g : Nat} {s : ByteArray} {R R' : RV} {z c : Array Value}
theorem rd_ne8 {k : Nat} (ho : RObj W S g s R) (hb : Blk W k 29 c) : k ≠ g := fun h => by
  obtain ⟨e, h1, _⟩ := ho.blk
  exact hb.other h1 (by decide) h
theorem Blk.rnext {k : Nat} (hb : Blk W k 29 c) (ho : RObj W S g s R) (hn : RNext W W' S g s R') : Blk W' k 29 c :=
  hb.fr hn.fr fun hm => by
    rw [List.mem_singleton] at hm
    exact rd_ne8 ho hb hm
theorem DcI.below (h : DcI w W S g s R z) (hb : Below W.heap.size W W') : DcI w W' S g s R z := ⟨h.bel.trans (hb.mono h.bel.size), h.res.below hb h.res.lt, h.rd.below hb, h.low⟩
theorem DcI.step (h : DcI w W S g s R z) (hn : RNext W W' S g s R') : DcI w W' S g s R' z := ⟨hn.later h.low h.bel.size h.bel, h.res.rnext h.rd hn, hn.obj, h.low⟩
/-- Decode's end with an error. -/
theorem DcI.bad (h : DcI w W S g s R z) (hz : z = pk0.cells pa0) {q : Er × Pk} (hq : q.2 = pk0) {e : Value} (he : ErrOf W S q.1.r q.1.no q.1.at_ e) :
    Blk (W.setRow (w.heap.size + 1) z) (w.heap.size + 1) 29 z ∧ DcSays w S q (.returned (.tuple #[.agg z, e])) (W.setRow (w.heap.size + 1) z) :=
  ⟨setRow_blk h.res z, pa0, e, by rw [hq, hz]; rfl, by rw [hq]; exact PkIn.zero _ _, err_row he h.res z, below_row h.bel (by omega) z⟩
/-- Its end with a packet. -/
theorem DcI.good (h : DcI w W S g s R z) {p : Pk} {A : PkA} (hp : PkIn W w.heap.size A p) {y : Array Value} (hy : y = p.cells A) :
    Blk (W.setRow (w.heap.size + 1) y) (w.heap.size + 1) 29 y ∧ DcSays w S (e00, p) (.returned (.tuple #[.agg y, .nilIface])) (W.setRow (w.heap.size + 1) y) :=
  ⟨setRow_blk h.res y, A, .nilIface, by rw [hy]; rfl, hp.row h.res (by omega) y, ErrOf.none, below_row h.bel (by omega) y⟩
end
end Go.Proofs.YtinhecggmakbnaaGreatDoor
