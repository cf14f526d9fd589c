/- What is proved here: what the decoders hold that fill a packet field by field; the rest of a reader, and Id. Conditions: the reader, the result's block and the packet's stand. -/
import Derived.Test.YtinhecggmakbnaaGreatDoorDci08
import Derived.Test.YtinhecggmakbnaaGreatDoorPar08
namespace Go.Proofs.YtinhecggmakbnaaGreatDoor
set_option maxRecDepth 100000
open Go.ChangeShapes Go.WideShapes Go.RowKit Go.Deep Go.Extern.Stop Go.Stop Go.Extern
/-- A decoder that fills a packet in a block of its own. -/
structure DcJ (w W : World) (S : Nat → Addr) (g : Nat) (s : ByteArray) (R : RV) (z : Array Value) (k : Nat) (y : Array Value) : Prop where
  inn : DcI w W S g s R z
  box : Blk W k 29 y
  low : w.heap.size + 2 ≤ k
section
variable {w z' W W' : World} {S : Nat → Addr} {g k : Nat} {s : ByteArray} {R R' : RV} {z y c : Array Value} {B : Nat} {A : Option Addr} {L : PL}
theorem DcJ.below (h : DcJ w W S g s R z k y) (hb : Below W.heap.size W W') : DcJ w W' S g s R z k y := ⟨h.inn.below hb, h.box.below hb h.box.lt, h.low⟩
theorem DcJ.step (h : DcJ w W S g s R z k y) (hn : RNext W W' S g s R') : DcJ w W' S g s R' z k y := ⟨h.inn.step hn, h.box.rnext h.inn.rd hn, h.low⟩
theorem DcJ.cell (h : DcJ w W S g s R z k y) (i : Nat) (u : Value) : DcJ w (W.setCell ⟨k, i, none⟩ u) S g s R z k (y.setIfInBounds i u) := by
  have hl := h.low
  refine ⟨⟨h.inn.bel.setCell (p := ⟨k, i, none⟩) (by show w.heap.size ≤ k; omega) u, h.inn.res.far (p := ⟨k, i, none⟩) (by show w.heap.size + 1 ≠ k; omega) u, ?_, h.inn.low⟩, h.box.store i u, h.low⟩
  exact h.inn.rd.fr ((Fr.refl [k] W).setCell (p := (⟨k, i, none⟩ : Addr)) (.inl (List.mem_singleton_self k)) u) (fun hm => by
    rw [List.mem_singleton] at hm
    exact rd_ne8 h.inn.rd h.box hm.symm) (pkt_nof h.box)
theorem DcJ.get (h : DcJ w W S g s R z k y) {i : Nat} {v : Value} (hv : y[i]? = some v) : W.cell? ⟨k, i, none⟩ = some v := (h.box.cell i).trans hv
theorem DcJ.pin (h : DcJ w W S g s R z k y) (hB : B ≤ w.heap.size) (hp : PIn W B A L) (i : Nat) (u : Value) : PIn (W.setCell ⟨k, i, none⟩ u) B A L := hp.cell h.box (by have := h.low; omega) i u
theorem DcJ.err (h : DcJ w W S g s R z k y) {r : Int} {no at_ : Nat} {e : Value} (he : ErrOf W S r no at_ e) (i : Nat) (u : Value) : ErrOf (W.setCell ⟨k, i, none⟩ u) S r no at_ e := err_cell he h.box i u
/-- A reader goes on beside rows of properties. -/
theorem PIn.rnext (h : PIn W B A L) (hg : B ≤ g) (ho : RObj W S g s R) (hn : RNext W W' S g s R') : PIn W' B A L :=
  h.fr hn.fr fun x hx => by
    rw [List.mem_singleton] at hx
    subst hx
    exact ⟨hg, fun cs hc => by
      obtain ⟨e, h1, _⟩ := ho.blk
      exact h1.other hc (by decide) rfl⟩
theorem rrest_any (hE : Env W S) (h : RObj W S g s R) (hs : s.size ≤ 900000) :
    Calls Tryz.prog 196 #[.pointer (some ⟨g, 0, none⟩)] W (TSays W S g s (.string (rTake s (s.size - R.p) R).1) (rTake s (s.size - R.p) R).2) := by
  have HL := Lib.hid (rleft_any h (by omega))
  have HN := Lib.hid (fun (W1 : World) (hb : Below W.heap.size W W1) => rtake_any (hE.later hb) (h.below hb) (by omega) (s.size - R.p))
  clear h hE hs
  generalize rTake s (s.size - R.p) R = q at *
  generalize s.size - R.p = n at *
  go_enter Tryz.func196, Tryz.ntmps196
  go_wp2_with fail
  refine HL.out.mono ?_
  rintro x w1 ⟨rfl, hb1⟩
  have HN1 := Lib.hid (HN.out w1 hb1)
  have HB1 := Lib.hid hb1
  clear hb1 HN HL
  go_wp2_with fail
  refine HN1.out.mono ?_
  rintro x w2 ⟨rfl, hn2⟩
  have HX := Lib.hid (hn2.pre HB1.out)
  clear hn2 HN1
  go_wp2_with fail
  go_ret
  exact ⟨rfl, HX.out⟩
/-- What Id tells. -/
def idR (s : ByteArray) (R : RV) : Er × Nat × RV :=
  if (rNum s 2 R).2.no = 0 then if (rNum s 2 R).1 = 0 then (⟨3, 130, R.p⟩, 0, (rNum s 2 R).2) else (e00, (rNum s 2 R).1, (rNum s 2 R).2) else (⟨(rNum s 2 R).2.no, 129, (rNum s 2 R).2.ea⟩, 0, (rNum s 2 R).2)
def IdSays (W : World) (S : Nat → Addr) (g : Nat) (s : ByteArray) (q : Er × Nat × RV) (x : Ending) (W' : World) : Prop := ∃ e, x = .returned (.tuple #[.int .i64 q.2.1, e]) ∧ ErrOf W' S q.1.r q.1.no q.1.at_ e ∧ RNext W W' S g s q.2.2
set_option maxHeartbeats 4000000 in
theorem id_any (hE : Env z' S) (hz : Below z'.heap.size z' W) (hg : z'.heap.size ≤ g) (h : RObj W S g s R) (hs : s.size ≤ 900000) : Calls Tryz.prog 139 #[.pointer (some ⟨g, 0, none⟩)] W (IdSays W S g s (idR s R)) := by
  obtain ⟨q, hq⟩ : ∃ q, q = idR s R := ⟨_, rfl⟩
  rw [← hq]
  unfold idR at hq
  have HAT := Lib.hid (rat_any h)
  have hu := ru16_any (hE.later hz) h (by omega)
  obtain ⟨⟨n, R1⟩, hn⟩ : ∃ V, V = rNum s 2 R := ⟨_, rfl⟩
  rw [← hn] at hu hq
  simp only at hu hq
  have HU := Lib.hid hu
  have HQ := Lib.hid hq
  have HE := Lib.hid hE
  have HZ := Lib.hid hz
  obtain ⟨p, hp⟩ : ∃ p, p = R.p := ⟨_, rfl⟩
  rw [← hp] at HAT HQ
  clear hu hq hE hz h hs hn hp
  go_enter Tryz.func139, Tryz.ntmps139
  go_wp2_with fail
  refine HAT.out.mono ?_
  rintro x w1 ⟨rfl, rfl⟩
  go_wp2_with fail
  refine HU.out.mono ?_
  rintro x w2 ⟨rfl, hn2⟩
  have HN2 := Lib.hid hn2
  have HZ2 := Lib.hid (hn2.later hg HZ.out.size HZ.out)
  have HRE := Lib.hid (rerr_any hn2.obj)
  clear hn2 HU HAT
  go_wp2_with fail
  refine HRE.out.mono ?_
  rintro x w3 ⟨e, rfl, he, rfl⟩
  by_cases h0 : R1.no = 0
  · unfold ErrOf at he
    rw [if_pos h0] at he
    subst he
    have hq := HQ.out
    rw [if_pos h0] at hq
    by_cases hn0 : n = 0
    · subst hn0
      rw [if_pos rfl] at hq
      have HQ2 := Lib.hid hq
      have kP := (HE.out.later HZ2.out).kProtocol
      have HN := Lib.hid (new_err (w := w2) S 2 130 (p : Int))
      clear hq HRE HQ h0
      go_wp2_with fail
      refine HN.out.mono ?_
      rintro x w4 ⟨e, rfl, he, hb⟩
      have HX := Lib.hid (show IdSays W S g s q (.returned (.tuple #[.int .i64 0, e])) w4 from by
        rw [HQ2.out]
        exact ⟨e, rfl, ErrOf.some (no := 3) (by decide) (by decide) he, HN2.out.below hb⟩)
      clear he hb HN kP
      go_wp2_with fail
      exact bodyPost_ret (v := .tuple #[.int .i64 0, e]) (by simp [results, Tryz.results139, go_sem]) rfl HX.out
    · rw [if_neg hn0] at hq
      have hni : ¬ (n : Int) = 0 := by omega
      have HX := Lib.hid (show IdSays W S g s q (.returned (.tuple #[.int .i64 n, .nilIface])) w2 from by
        rw [hq]
        exact ⟨_, rfl, ErrOf.none, HN2.out⟩)
      clear hq HRE HQ h0 hn0
      go_wp2_with fail
      exact bodyPost_ret (v := .tuple #[.int .i64 n, .nilIface]) (by simp [results, Tryz.results139, go_sem]) rfl HX.out
  · obtain ⟨te, ue, rfl⟩ := err_iface he h0
    have hq := HQ.out
    rw [if_neg h0] at hq
    have HX := Lib.hid (show IdSays W S g s q (.returned (.tuple #[.int .i64 0, .iface te ue])) w2 from by
      rw [hq]
      exact ⟨_, rfl, he, HN2.out⟩)
    clear hq HRE HQ h0 he
    go_wp2_with fail
    exact bodyPost_ret (v := .tuple #[.int .i64 0, .iface te ue]) (by simp [results, Tryz.results139, go_sem]) rfl HX.out
end
end Go.Proofs.YtinhecggmakbnaaGreatDoor
