/- What is proved here: the program's messages under way and the document's, side by side: what stands, and what a step of one leaves of the other. Conditions: both are there. -/
import Derived.Test.YtpaalhhadjihlaaOnc24
import Derived.Test.YtpaalhhadjihlaaRse24
import Derived.Test.YtpaalhhadjihlaaRst24
import Derived.Test.YtpaalhhadjihlaaRay24
import Derived.Test.YtpaalhhadjihlaaRgw24
namespace Go.Proofs.Ytpaalhhadjihlaa
open Go.RowKit Go.Extern.Stop Go.Stop Go.Extern Go.Maps Go.Deep
set_option maxRecDepth 100000
/-- The types of the document's own blocks. -/
def docT (t : TypeId) : Bool := t == 60 || t == 90 || t == 71 || t == 3
/-- Blocks that are neither the program's object nor the document's. -/
def KOk (W : World) (g gp bp bm : Nat) (K : OL) : Prop := ∀ y ∈ K, Blk W y.1 y.2.1 y.2.2 ∧ y.1 ∉ [g, gp, bp, bm] ∧ docT y.2.1 = false
section
variable {w W W' : World} {g gp bp bm : Nat} {L L' : FL} {last last' sent sent' : Nat} {x xp ld ld' : Nat} {v v' : Value} {D D' : FL} {LP LP' : List Int} {K : OL}
theorem KOk.below (h : KOk W g gp bp bm K) (hb : Below W.heap.size W W') : KOk W' g gp bp bm K := fun y hy => ⟨(h y hy).1.below hb (h y hy).1.lt, (h y hy).2⟩
theorem KOk.on (h : KOk W g gp bp bm K) (h2 : Out3 W g gp bp bm L' last' sent' W') : KOk W' g gp bp bm K := fun y hy => ⟨h2.blk (h y hy).2.1 (h y hy).1, (h y hy).2⟩
theorem KOk.rn {B : Nat} (h : KOk W g gp bp bm K) (hr : RN B W W') : KOk W' g gp bp bm K := fun y hy => by
  obtain ⟨h1, h2, h3⟩ := h y hy
  refine ⟨hr.keeps h1 ?_ ?_ ?_ ?_, h2, h3⟩
  all_goals
    intro e
    rw [e] at h3
    revert h3
    decide
theorem OutI.kinds (h : OutI W g gp bp bm L last sent) : ∀ b ∈ [g, gp, bp, bm], ∀ t cur, W.heap[b]? = some (.cells cur t (0, 0)) → t = 32 ∨ t = 88 := by
  intro b hb t cur hc
  have key : ∀ {t' : TypeId} {cs : Array Value}, Blk W b t' cs → t = t' := fun {t' cs} h1 => by
    have h2 : W.heap[b]? = some (.cells cs t' (0, 0)) := h1
    rw [hc] at h2
    injection h2 with h2
    injection h2
  simp only [List.mem_cons, List.not_mem_nil, or_false] at hb
  rcases hb with rfl | rfl | rfl | rfl
  · exact .inl (key h.blk)
  · exact .inr (key h.pids.is.1)
  · obtain ⟨D, hD, _⟩ := h.pids.is.2
    obtain ⟨es, clock, hb, _⟩ := hD
    rw [hb] at hc
    cases hc
  · obtain ⟨D, hD, _⟩ := h.map
    obtain ⟨es, clock, hb, _⟩ := hD
    rw [hb] at hc
    cases hc
theorem AwI.ges (h : AwI w W g gp bp bm L last sent) : ∀ b ∈ [g, gp, bp, bm], w.heap.size ≤ b := by
  intro b hb
  obtain ⟨g1, g2, g3, g4⟩ := h.ge
  simp only [List.mem_cons, List.not_mem_nil, or_false] at hb
  rcases hb with rfl | rfl | rfl | rfl <;> assumption
/-- What stands while the two go on: each by itself. -/
structure PlM (w W : World) (g gp bp bm : Nat) (L : FL) (last sent x xp : Nat) (v : Value) (D : FL) (ld : Nat) (LP : List Int) (K : OL) : Prop where
  aw : AwI w W g gp bp bm L last sent
  rf : RfI W w.heap.size x xp v D ld LP
  ks : KOk W g gp bp bm K
theorem PlM.below (h : PlM w W g gp bp bm L last sent x xp v D ld LP K) (hb : Below W.heap.size W W') : PlM w W' g gp bp bm L last sent x xp v D ld LP K := ⟨h.aw.below hb, h.rf.below hb, h.ks.below hb⟩
theorem PlM.add (h : PlM w W g gp bp bm L last sent x xp v D ld LP K) {y : Nat × TypeId × Array Value} (h1 : Blk W y.1 y.2.1 y.2.2) (h2 : y.1 ∉ [g, gp, bp, bm]) (h3 : docT y.2.1 = false) : PlM w W g gp bp bm L last sent x xp v D ld LP (y :: K) :=
  ⟨h.aw, h.rf, fun z hz => by
    rcases List.mem_cons.1 hz with rfl | hz
    · exact ⟨h1, h2, h3⟩
    · exact h.ks z hz⟩
theorem PlM.less {K' : OL} (h : PlM w W g gp bp bm L last sent x xp v D ld LP K) (hk : ∀ y ∈ K', y ∈ K) : PlM w W g gp bp bm L last sent x xp v D ld LP K' := ⟨h.aw, h.rf, fun y hy => h.ks y (hk y hy)⟩
/-- The program's step. -/
theorem PlM.on (h : PlM w W g gp bp bm L last sent x xp v D ld LP K) (h2 : Out3 W g gp bp bm L' last' sent' W') : PlM w W' g gp bp bm L' last' sent' x xp v D ld LP K :=
  ⟨h.aw.on h2, h.rf.fr h2.2 fun b hb => ⟨h.aw.ges b hb, fun t cur hc => by
    rcases h.aw.out.kinds b hb t cur hc with rfl | rfl <;> decide⟩, h.ks.on h2⟩
/-- The document's step. -/
theorem PlM.rn (h : PlM w W g gp bp bm L last sent x xp v D ld LP K) (hr : RN w.heap.size W W') (hf : RfI W' w.heap.size x xp v' D' ld' LP') : PlM w W' g gp bp bm L last sent x xp v' D' ld' LP' K :=
  ⟨⟨h.aw.out.rn hr, hr.below h.aw.bel h.aw.bel.size, h.aw.ge⟩, hf, h.ks.rn hr⟩
theorem PlM.pin {A : Option Addr} {P : PL} (h : PlM w W g gp bp bm L last sent x xp v D ld LP K) (h2 : Out3 W g gp bp bm L' last' sent' W') (hp : PIn W w.heap.size A P) : PIn W' w.heap.size A P :=
  hp.fr h2.2 fun b hb => ⟨h.aw.ges b hb, h.aw.out.noprop b hb⟩
/-- Both hold the same. -/
structure PlS (w W : World) (g gp bp bm : Nat) (L : FL) (last sent x xp : Nat) (v : Value) (D : FL) (LP : List Int) (K : OL) : Prop where
  m : PlM w W g gp bp bm L last sent x xp v D last LP K
  eq : D.map says24 = L.map says24
  st : ∀ f ∈ L, 1 ≤ f.st ∧ f.st ≤ 3
def PlX (w W : World) (g gp bp bm x xp sent : Nat) (K : OL) : Prop := ∃ L last v D LP, PlS w W g gp bp bm L last sent x xp v D LP K
theorem PlX.below (h : PlX w W g gp bp bm x xp sent K) (hb : Below W.heap.size W W') : PlX w W' g gp bp bm x xp sent K := by
  obtain ⟨L, last, v, D, LP, h1, h2, h3⟩ := h
  exact ⟨L, last, v, D, LP, h1.below hb, h2, h3⟩
theorem PlX.add (h : PlX w W g gp bp bm x xp sent K) {y : Nat × TypeId × Array Value} (h1 : Blk W y.1 y.2.1 y.2.2) (h2 : y.1 ∉ [g, gp, bp, bm]) (h3 : docT y.2.1 = false) : PlX w W g gp bp bm x xp sent (y :: K) := by
  obtain ⟨L, last, v, D, LP, m1, m2, m3⟩ := h
  exact ⟨L, last, v, D, LP, m1.add h1 h2 h3, m2, m3⟩
theorem PlX.less {K' : OL} (h : PlX w W g gp bp bm x xp sent K) (hk : ∀ y ∈ K', y ∈ K) : PlX w W g gp bp bm x xp sent K' := by
  obtain ⟨L, last, v, D, LP, h1, h2, h3⟩ := h
  exact ⟨L, last, v, D, LP, h1.less hk, h2, h3⟩
theorem PlX.get (h : PlX w W g gp bp bm x xp sent K) (i : Nat) {y : Nat × TypeId × Array Value} (hi : K[i]? = some y) : Blk W y.1 y.2.1 y.2.2 := by
  obtain ⟨L, last, v, D, LP, h1, h2, h3⟩ := h
  exact (h1.ks y (List.mem_of_getElem? hi)).1
theorem PlX.bel (h : PlX w W g gp bp bm x xp sent K) : Below w.heap.size w W := by
  obtain ⟨L, last, v, D, LP, h1, h2, h3⟩ := h
  exact h1.aw.bel
theorem PlX.none {b : Nat} (h : PlX w W g gp bp bm x xp sent K) (hb : W.heap.size ≤ b) : b ∉ [g, gp, bp, bm] := by
  obtain ⟨L, last, v, D, LP, h1, h2, h3⟩ := h
  exact h1.aw.out.none hb
theorem says_ids : ∀ {D L : FL}, D.map says24 = L.map says24 → ids D = ids L := fun {D L} h => by
  have h1 := congrArg (List.map Prod.fst) h
  rw [List.map_map, List.map_map] at h1
  exact h1
theorem says_len {D L : FL} (h : D.map says24 = L.map says24) : D.length = L.length := by
  have h1 := congrArg List.length h
  rwa [List.length_map, List.length_map] at h1
theorem says_mem {D L : FL} (h : D.map says24 = L.map says24) {f : FV} (hf : f ∈ D) : ∃ f' ∈ L, says24 f' = says24 f := by
  have h1 : says24 f ∈ L.map says24 := by
    rw [← h]
    exact List.mem_map.2 ⟨f, hf, rfl⟩
  exact List.mem_map.1 h1
theorem nodup_one {L : FL} (hd : (ids L).Nodup) {f f' : FV} (h1 : f ∈ L) (h2 : f' ∈ L) (he : f.id = f'.id) : f = f' := by
  induction L with
  | nil => cases h1
  | cons y L ih =>
    obtain ⟨n1, n2⟩ := List.nodup_cons.1 hd
    rcases List.mem_cons.1 h1 with e1 | m1
    · rcases List.mem_cons.1 h2 with e2 | m2
      · rw [e1, e2]
      · exact absurd (show y.id ∈ L.map FV.id from List.mem_map.2 ⟨f', m2, by rw [← he, e1]⟩) n1
    · rcases List.mem_cons.1 h2 with e2 | m2
      · exact absurd (show y.id ∈ L.map FV.id from List.mem_map.2 ⟨f, m1, by rw [he, e2]⟩) n1
      · exact ih n2 m1 m2
theorem wof_says (i : Int) (D : FL) : (wof i D).map says24 = (D.map says24).filter (fun p => decide (p.1 ≠ i)) := by
  rw [List.filter_map]
  rfl
theorem setS_says (i : Int) (D : FL) : (setS i D).map says24 = (D.map says24).map (fun p => if p.1 = i then (p.1, 3, p.2.2) else p) := by
  unfold setS
  rw [List.map_map, List.map_map]
  refine List.map_congr_left fun f _ => ?_
  show says24 (if f.id = i then _ else _) = if f.id = i then _ else _
  split <;> rfl
theorem ackD_says {D L : FL} (h : D.map says24 = L.map says24) (n i : Int) : (ackD n i D).map says24 = (ackD n i L).map says24 := by
  unfold ackD
  split
  · exact h
  · split
    · rw [setS_says, setS_says, h]
    · rw [wof_says, wof_says, h]
theorem ackD_st {L : FL} (h : ∀ f ∈ L, 1 ≤ f.st ∧ f.st ≤ 3) (n i : Int) : ∀ f ∈ ackD n i L, 1 ≤ f.st ∧ f.st ≤ 3 := by
  unfold ackD
  split
  · exact h
  · split
    · intro f hf
      obtain ⟨y, hy, rfl⟩ := List.mem_map.1 hf
      split
      · show (1 : Int) ≤ 3 ∧ (3 : Int) ≤ 3
        omega
      · exact h y hy
    · exact fun f hf => h f (mem_wof.1 hf).1
/-- Which one an acknowledgement speaks of. -/
def Pick (L : FL) (i : Int) (f : FV) (b : Bool) : Prop := (b = true ∧ f ∈ L ∧ f.id = i) ∨ (b = false ∧ f = f0 ∧ i ∉ ids L)
theorem pick_same {D L : FL} (h : D.map says24 = L.map says24) (hd : (ids L).Nodup) {i : Int} {f f' : FV} {b b' : Bool} (h1 : Pick D i f b) (h2 : Pick L i f' b') : b = b' ∧ f.st = f'.st ∧ f.q.m = f'.q.m := by
  rcases h1 with ⟨rfl, m1, e1⟩ | ⟨rfl, rfl, n1⟩
  · obtain ⟨y, hy, hs⟩ := says_mem h m1
    have q1 : y.id = f.id := congrArg Prod.fst hs
    have q2 : y.st = f.st := congrArg (fun p => p.2.1) hs
    have q3 : y.q.m = f.q.m := congrArg (fun p => p.2.2) hs
    rcases h2 with ⟨rfl, m2, e2⟩ | ⟨rfl, rfl, n2⟩
    · obtain rfl := nodup_one hd hy m2 (by rw [q1, e1, e2])
      exact ⟨rfl, q2.symm, q3.symm⟩
    · exact absurd (List.mem_map.2 ⟨y, hy, by rw [q1, e1]⟩) n2
  · rcases h2 with ⟨rfl, m2, e2⟩ | ⟨rfl, rfl, n2⟩
    · rw [says_ids h] at n1
      exact absurd (List.mem_map.2 ⟨f', m2, e2⟩) n1
    · exact ⟨rfl, rfl, rfl⟩
end
end Go.Proofs.Ytpaalhhadjihlaa
