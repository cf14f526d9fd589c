/- What is proved here: what the decoders hold while they read, and how they end. Conditions: the reader and the result's block stand. What is proved here: what the decoders hold that fill a packet field by field; the rest of a reader, and Id. Conditions: the reader, the result's block and the packet's stand. -/
import Derived.Test.YtbfbmdjnobdjpaaGreatDoorPkx08
import Derived.Test.YtbfbmdjnobdjpaaGreatDoorPar08
namespace Go.Proofs.YtbfbmdjnobdjpaaGreatDoor
set_option maxRecDepth 100000
open Go.ChangeShapes Go.WideShapes Go.RowKit Go.Deep Go.Extern.Stop Go.Stop Go.Extern
section
variable {w w' : World} {B k : Nat} {A : PkA} {p : Pk} {old : Array Value}
theorem CIn.row {t : TypeId} {a : Option Addr} {cs : List Value} (h : CIn w B t a cs) (hb : Blk w k 29 old) (hB : B ≤ k) (ht : 29 ≠ t) (c : Array Value) : CIn (w.setRow k c) B t a cs :=
  h.fr (setRow_fr w k c) fun g hg => by
    rw [List.mem_singleton] at hg
    subst hg
    exact ⟨hB, fun cs hc => hb.other hc ht rfl⟩
theorem PkIn.row (h : PkIn w B A p) (hb : Blk w k 29 old) (hB : B ≤ k) (c : Array Value) : PkIn (w.setRow k c) B A p :=
  ⟨h.pr.row hb hB c, h.pc, h.wr.row hb hB c, h.wc, h.sb.row hb hB (by decide) c, h.fl.row hb hB (by decide) c, h.cd.row hb hB (by decide) c⟩
theorem CIn.cell {t : TypeId} {a : Option Addr} {cs : List Value} (h : CIn w B t a cs) (hb : Blk w k 29 old) (hB : B ≤ k) (ht : 29 ≠ t) (i : Nat) (u : Value) : CIn (w.setCell ⟨k, i, none⟩ u) B t a cs :=
  h.fr ((Fr.refl [k] w).setCell (p := (⟨k, i, none⟩ : Addr)) (.inl (List.mem_singleton_self k)) u) fun g hg => by
    rw [List.mem_singleton] at hg
    subst hg
    exact ⟨hB, fun cs hc => hb.other hc ht rfl⟩
theorem PkIn.cell (h : PkIn w B A p) (hb : Blk w k 29 old) (hB : B ≤ k) (i : Nat) (u : Value) : PkIn (w.setCell ⟨k, i, none⟩ u) B A p :=
  ⟨h.pr.cell hb hB i u, h.pc, h.wr.cell hb hB i u, h.wc, h.sb.cell hb hB (by decide) i u, h.fl.cell hb hB (by decide) i u, h.cd.cell hb hB (by decide) i u⟩
end
theorem DcSays.bad8 {w w' : World} {S : Nat → Addr} {q : Er × Pk} {z : Array Value} {e : Value} (hz : z = pk0.cells pa0) (hq : q.2 = pk0) (he : ErrOf w' S q.1.r q.1.no q.1.at_ e) (hb : Below w.heap.size w w') : DcSays w S q (.returned (.tuple #[.agg z, e])) w' :=
  ⟨pa0, e, by rw [hq, hz]; rfl, by rw [hq]; exact PkIn.zero _ _, he, hb⟩
/-- What a decoder holds: the result's block, still empty, and the reader. -/
structure DcI (w W : World) (S : Nat → Addr) (g : Nat) (s : ByteArray) (R : RV) (z : Array Value) : Prop where
  bel : Below w.heap.size w W
  res : Blk W (w.heap.size + 1) 29 z
  rd : RObj W S g s R
  low : w.heap.size ≤ g
section
variable {w W W' : World} {S : Nat → Addr} {g : Nat} {s : ByteArray} {R R' : RV} {z c : Array Value}
theorem rd_ne8 {k : Nat} (ho : RObj W S g s R) (hb : Blk W k 29 c) : k ≠ g := fun h => by
  obtain ⟨e, h1, _⟩ := ho.blk
  exact hb.other h1 (by decide) h
theorem Blk.rnext {k : Nat} (hb : Blk W k 29 c) (ho : RObj W S g s R) (hn : RNext W W' S g s R') : Blk W' k 29 c :=
  hb.fr hn.fr fun hm => by
    rw [List.mem_singleton] at hm
    exact rd_ne8 ho hb hm
theorem DcI.below (h : DcI w W S g s R z) (hb : Below W.heap.size W W') : DcI w W' S g s R z := ⟨h.bel.trans (hb.mono h.bel.size), h.res.below hb h.res.lt, h.rd.below hb, h.low⟩
theorem DcI.step (h : DcI w W S g s R z) (hn : RNext W W' S g s R') : DcI w W' S g s R' z := ⟨hn.later h.low h.bel.size h.bel, h.res.rnext h.rd hn, hn.obj, h.low⟩
/-- Decode's end with an error. -/
theorem DcI.bad (h : DcI w W S g s R z) (hz : z = pk0.cells pa0) {q : Er × Pk} (hq : q.2 = pk0) {e : Value} (he : ErrOf W S q.1.r q.1.no q.1.at_ e) :
    Blk (W.setRow (w.heap.size + 1) z) (w.heap.size + 1) 29 z ∧ DcSays w S q (.returned (.tuple #[.agg z, e])) (W.setRow (w.heap.size + 1) z) :=
  ⟨setRow_blk h.res z, pa0, e, by rw [hq, hz]; rfl, by rw [hq]; exact PkIn.zero _ _, err_row he h.res z, below_row h.bel (by omega) z⟩
/-- Its end with a packet. -/
theorem DcI.good (h : DcI w W S g s R z) {p : Pk} {A : PkA} (hp : PkIn W w.heap.size A p) {y : Array Value} (hy : y = p.cells A) :
    Blk (W.setRow (w.heap.size + 1) y) (w.heap.size + 1) 29 y ∧ DcSays w S (e00, p) (.returned (.tuple #[.agg y, .nilIface])) (W.setRow (w.heap.size + 1) y) :=
  ⟨setRow_blk h.res y, A, .nilIface, by rw [hy]; rfl, hp.row h.res (by omega) y, ErrOf.none, below_row h.bel (by omega) y⟩
end
end Go.Proofs.YtbfbmdjnobdjpaaGreatDoor
namespace Go.Proofs.YtbfbmdjnobdjpaaGreatDoor
set_option maxRecDepth 100000
open Go.ChangeShapes Go.WideShapes Go.RowKit Go.Deep Go.Extern.Stop Go.Stop Go.Extern
/-- A decoder that fills a packet in a block of its own. -/
structure DcJ (w W : World) (S : Nat → Addr) (g : Nat) (s : ByteArray) (R : RV) (z : Array Value) (k : Nat) (y : Array Value) : Prop where
  inn : DcI w W S g s R z
  box : Blk W k 29 y
  low : w.heap.size + 2 ≤ k
section
variable {w z' W W' : World} {S : Nat → Addr} {g k : Nat} {s : ByteArray} {R R' : RV} {z y c : Array Value} {B : Nat} {A : Option Addr} {L : PL}
theorem DcJ.below (h : DcJ w W S g s R z k y) (hb : Below W.heap.size W W') : DcJ w W' S g s R z k y := ⟨h.inn.below hb, h.box.below hb h.box.lt, h.low⟩
theorem DcJ.step (h : DcJ w W S g s R z k y) (hn : RNext W W' S g s R') : DcJ w W' S g s R' z k y := ⟨h.inn.step hn, h.box.rnext h.inn.rd hn, h.low⟩
theorem DcJ.cell (h : DcJ w W S g s R z k y) (i : Nat) (u : Value) : DcJ w (W.setCell ⟨k, i, none⟩ u) S g s R z k (y.setIfInBounds i u) := by
  have hl := h.low
  refine ⟨⟨h.inn.bel.setCell (p := ⟨k, i, none⟩) (by show w.heap.size ≤ k; omega) u, h.inn.res.far (p := ⟨k, i, none⟩) (by show w.heap.size + 1 ≠ k; omega) u, ?_, h.inn.low⟩, h.box.store i u, h.low⟩
  exact h.inn.rd.fr ((Fr.refl [k] W).setCell (p := (⟨k, i, none⟩ : Addr)) (.inl (List.mem_singleton_self k)) u) (fun hm => by
    rw [List.mem_singleton] at hm
    exact rd_ne8 h.inn.rd h.box hm.symm) (pkt_nof h.box)
theorem DcJ.get (h : DcJ w W S g s R z k y) {i : Nat} {v : Value} (hv : y[i]? = some v) : W.cell? ⟨k, i, none⟩ = some v := (h.box.cell i).trans hv
theorem DcJ.pin (h : DcJ w W S g s R z k y) (hB : B ≤ w.heap.size) (hp : PIn W B A L) (i : Nat) (u : Value) : PIn (W.setCell ⟨k, i, none⟩ u) B A L := hp.cell h.box (by have := h.low; omega) i u
theorem DcJ.err (h : DcJ w W S g s R z k y) {r : Int} {no at_ : Nat} {e : Value} (he : ErrOf W S r no at_ e) (i : Nat) (u : Value) : ErrOf (W.setCell ⟨k, i, none⟩ u) S r no at_ e := err_cell he h.box i u
/-- A reader goes on beside rows of properties. -/
theorem PIn.rnext (h : PIn W B A L) (hg : B ≤ g) (ho : RObj W S g s R) (hn : RNext W W' S g s R') : PIn W' B A L :=
  h.fr hn.fr fun x hx => by
    rw [List.mem_singleton] at hx
    subst hx
    exact ⟨hg, fun cs hc => by
      obtain ⟨e, h1, _⟩ := ho.blk
      exact h1.other hc (by decide) rfl⟩
theorem rrest_any (hE : Env W S) (h : RObj W S g s R) (hs : s.size ≤ 900000) :
    Calls Tryz.prog 204 #[.pointer (some ⟨g, 0, none⟩)] W (TSays W S g s (.string (rTake s (s.size - R.p) R).1) (rTake s (s.size - R.p) R).2) := by
  have HL := Lib.hid (rleft_any h (by omega))
  have HN := Lib.hid (fun (W1 : World) (hb : Below W.heap.size W W1) => rtake_any (hE.later hb) (h.below hb) (by omega) (s.size - R.p))
  clear h hE hs
  generalize rTake s (s.size - R.p) R = q at *
  generalize s.size - R.p = n at *
  go_enter Tryz.func204, Tryz.ntmps204
  go_wp2_with fail
  refine HL.out.mono ?_
  rintro x w1 ⟨rfl, hb1⟩
  have HN1 := Lib.hid (HN.out w1 hb1)
  have HB1 := Lib.hid hb1
  clear hb1 HN HL
  go_wp2_with fail
  refine HN1.out.mono ?_
  rintro x w2 ⟨rfl, hn2⟩
  have HX := Lib.hid (hn2.pre HB1.out)
  clear hn2 HN1
  go_wp2_with fail
  go_ret
  exact ⟨rfl, HX.out⟩
/-- What Id tells. -/
def idR (s : ByteArray) (R : RV) : Er × Nat × RV :=
  if (rNum s 2 R).2.no = 0 then if (rNum s 2 R).1 = 0 then (⟨3, 130, R.p⟩, 0, (rNum s 2 R).2) else (e00, (rNum s 2 R).1, (rNum s 2 R).2) else (⟨(rNum s 2 R).2.no, 129, (rNum s 2 R).2.ea⟩, 0, (rNum s 2 R).2)
def IdSays (W : World) (S : Nat → Addr) (g : Nat) (s : ByteArray) (q : Er × Nat × RV) (x : Ending) (W' : World) : Prop := ∃ e, x = .returned (.tuple #[.int .i64 q.2.1, e]) ∧ ErrOf W' S q.1.r q.1.no q.1.at_ e ∧ RNext W W' S g s q.2.2
set_option maxHeartbeats 4000000 in
theorem id_any (hE : Env z' S) (hz : Below z'.heap.size z' W) (hg : z'.heap.size ≤ g) (h : RObj W S g s R) (hs : s.size ≤ 900000) : Calls Tryz.prog 156 #[.pointer (some ⟨g, 0, none⟩)] W (IdSays W S g s (idR s R)) := by
  obtain ⟨q, hq⟩ : ∃ q, q = idR s R := ⟨_, rfl⟩
  rw [← hq]
  unfold idR at hq
  have HAT := Lib.hid (rat_any h)
  have hu := ru16_any (hE.later hz) h (by omega)
  obtain ⟨⟨n, R1⟩, hn⟩ : ∃ V, V = rNum s 2 R := ⟨_, rfl⟩
  rw [← hn] at hu hq
  simp only at hu hq
  have HU := Lib.hid hu
  have HQ := Lib.hid hq
  have HE := Lib.hid hE
  have HZ := Lib.hid hz
  obtain ⟨p, hp⟩ : ∃ p, p = R.p := ⟨_, rfl⟩
  rw [← hp] at HAT HQ
  clear hu hq hE hz h hs hn hp
  go_enter Tryz.func156, Tryz.ntmps156
  go_wp2_with fail
  refine HAT.out.mono ?_
  rintro x w1 ⟨rfl, rfl⟩
  go_wp2_with fail
  refine HU.out.mono ?_
  rintro x w2 ⟨rfl, hn2⟩
  have HN2 := Lib.hid hn2
  have HZ2 := Lib.hid (hn2.later hg HZ.out.size HZ.out)
  have HRE := Lib.hid (rerr_any hn2.obj)
  clear hn2 HU HAT
  go_wp2_with fail
  refine HRE.out.mono ?_
  rintro x w3 ⟨e, rfl, he, rfl⟩
  by_cases h0 : R1.no = 0
  · unfold ErrOf at he
    rw [if_pos h0] at he
    subst he
    have hq := HQ.out
    rw [if_pos h0] at hq
    by_cases hn0 : n = 0
    · subst hn0
      rw [if_pos rfl] at hq
      have HQ2 := Lib.hid hq
      have kP := (HE.out.later HZ2.out).kProtocol
      have HN := Lib.hid (new_err (w := w2) S 2 130 (p : Int))
      clear hq HRE HQ h0
      go_wp2_with fail
      refine HN.out.mono ?_
      rintro x w4 ⟨e, rfl, he, hb⟩
      have HX := Lib.hid (show IdSays W S g s q (.returned (.tuple #[.int .i64 0, e])) w4 from by
        rw [HQ2.out]
        exact ⟨e, rfl, ErrOf.some (no := 3) (by decide) (by decide) he, HN2.out.below hb⟩)
      clear he hb HN kP
      go_wp2_with fail
      exact bodyPost_ret (v := .tuple #[.int .i64 0, e]) (by simp [results, Tryz.results156, go_sem]) rfl HX.out
    · rw [if_neg hn0] at hq
      have hni : ¬ (n : Int) = 0 := by omega
      have HX := Lib.hid (show IdSays W S g s q (.returned (.tuple #[.int .i64 n, .nilIface])) w2 from by
        rw [hq]
        exact ⟨_, rfl, ErrOf.none, HN2.out⟩)
      clear hq HRE HQ h0 hn0
      go_wp2_with fail
      exact bodyPost_ret (v := .tuple #[.int .i64 n, .nilIface]) (by simp [results, Tryz.results156, go_sem]) rfl HX.out
  · obtain ⟨te, ue, rfl⟩ := err_iface he h0
    have hq := HQ.out
    rw [if_neg h0] at hq
    have HX := Lib.hid (show IdSays W S g s q (.returned (.tuple #[.int .i64 0, .iface te ue])) w2 from by
      rw [hq]
      exact ⟨_, rfl, he, HN2.out⟩)
    clear hq HRE HQ h0 he
    go_wp2_with fail
    exact bodyPost_ret (v := .tuple #[.int .i64 0, .iface te ue]) (by simp [results, Tryz.results156, go_sem]) rfl HX.out
end
end Go.Proofs.YtbfbmdjnobdjpaaGreatDoor
