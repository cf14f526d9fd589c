/- What is proved here: the document sends nothing of another QoS; it sets the state of one, or takes one away. Conditions: those that each theorem names. -/
import Derived.Test.YtpaalhhadjihlaaRse24
import Derived.Test.YtpaalhhadjihlaaRag24
namespace Go.Proofs.Ytpaalhhadjihlaa
open Go.RowKit Go.Extern.Stop Go.Stop Go.Extern Go.Maps Go.Deep
set_option maxRecDepth 100000
theorem rsend_no {x : Nat} (q : QV) (qos : Int) (hq : qos ≠ 1 ∧ qos ≠ 2) (w : World) : Calls Try.prog 9 #[.pointer (some ⟨x, 0, none⟩), q.agg, .int .i64 qos] w fun e w' => e = .returned (.tuple #[.int .i64 0, .bool false]) ∧ Below w.heap.size w w' := by
  have HB := Lib.hid ((Below.refl w.heap.size w).alloc (Nat.le_refl _) (.cells q.cells.toArray 36))
  unfold QV.agg
  unfold QV.cells at *
  have e1 : (qos != 1) = true := by simpa using hq.1
  have e2 : (qos != 2) = true := by simpa using hq.2
  clear hq
  go_enter Try.func9, Try.ntmps9
  go_wp2
  go_ret2
  exact ⟨rfl, HB.out⟩
/-- What stands while a row is made anew. -/
structure RsJ (w W : World) (B x xp : Nat) (v : Value) (D : FL) (last : Nat) (LP : List Int) : Prop where
  blk : Blk W x 60 #[.pointer (some ⟨xp, 0, none⟩), v]
  row : GRow W B v D
  ref : IsRefP W B xp 65535 last LP
  low : B ≤ x
  size : B ≤ w.heap.size
  big : w.heap.size ≤ W.heap.size
  ms : ∀ f ∈ D, PIn W B f.q.pa f.q.m.props ∧ f.q.m.props.length ≤ 1000
  rn : RN B w W
  fl : ∀ k cs, k < w.heap.size → Blk w k 71 cs → Blk W k 71 cs
section
variable {w W W' : World} {B x xp last : Nat} {v : Value} {D : FL} {LP : List Int}
theorem RfI.toJ (h : RfI w B x xp v D last LP) : RsJ w w B x xp v D last LP := ⟨h.blk, h.row, h.ref, h.low, h.size, Nat.le_refl _, h.ms, RN.of_fr (Fr.refl _ _), fun _ _ _ hb => hb⟩
/-- What grows or changes alone in blocks of flights that are not the row, and elder blocks stay. -/
theorem RsJ.fr {X : List Nat} (h : RsJ w W B x xp v D last LP) (hf : Fr X W W') (hX : ∀ b ∈ X, w.heap.size ≤ b ∧ ∃ cs, W.heap[b]? = some (.cells cs 71 (0, 0))) (hv : ∀ k, v.ownBlock = some k → k < w.heap.size) : RsJ w W' B x xp v D last LP := by
  have tyne : ∀ {b : Nat} {t : TypeId} {cs : Array Value}, b ∈ X → W.heap[b]? = some (.cells cs t (0, 0)) → t = 71 := by
    intro b t cs hb hc
    obtain ⟨_, cs', hh⟩ := hX b hb
    rw [hc] at hh
    injection hh with hh
    injection hh with _ ht _
  refine ⟨h.blk.fr hf fun hm => absurd (tyne hm h.blk) (by decide), row_fr h.row hf fun k hk hm => ?_, h.ref.fr hf fun b hb t cur hc => ?_, h.low, h.size, Nat.le_trans h.big hf.size, fun f hm => ⟨(h.ms f hm).1.fr hf fun b hb => ⟨Nat.le_trans h.size (hX b hb).1, fun cs hc => absurd (tyne hb hc) (by decide)⟩, (h.ms f hm).2⟩, h.rn.trans ⟨X, hf, fun b hb => ⟨Nat.le_trans h.size (hX b hb).1, ?_⟩⟩, fun k cs hk hb => (h.fl k cs hk hb).fr hf fun hm => by have := (hX k hm).1; omega⟩
  · have := (hX k hm).1
    have := hv k hk
    omega
  · have := tyne hb hc
    subst this
    exact ⟨by decide, by decide⟩
  · obtain ⟨_, cs, hh⟩ := hX b hb
    exact ⟨_, _, _, hh, .inr (.inr (.inl rfl))⟩
theorem RsJ.below (h : RsJ w W B x xp v D last LP) (hb : Below W.heap.size W W') : RsJ w W' B x xp v D last LP :=
  ⟨h.blk.below hb h.blk.lt, own_below h.row hb, h.ref.then (Fr.of_below hb), h.low, h.size, Nat.le_trans h.big hb.size, fun f hf => ⟨(h.ms f hf).1.below hb, (h.ms f hf).2⟩, h.rn.trans (RN.of_below hb), fun k cs hk hc => (h.fl k cs hk hc).below hb (h.fl k cs hk hc).lt⟩
theorem near_grow2 {B' : Nat} {o : Value} {M : FL} (h : Near B xp W W') {cs : Array Value} (hb : Blk W xp 90 cs) (hr : GRow W B' o M) : GRow W' B' o M := by
  obtain ⟨X, hf, hX⟩ := h
  refine row_fr hr hf fun k hk hm => ?_
  obtain ⟨_, _, cs', hh⟩ := GRow.lt hr k hk
  rcases (hX k hm).2 with rfl | ⟨cur, f, h1⟩
  · exact (hb.other hh (by decide)) rfl
  · rw [hh] at h1
    injection h1 with h1
    injection h1 with _ ht _
    exact absurd ht (by decide)
theorem RsJ.near {LP' : List Int} {last' : Nat} (h : RsJ w W B x xp v D last LP) (hn : Near B xp W W') (hp : IsRefP W' B xp 65535 last' LP') : RsJ w W' B x xp v D last' LP' := by
  obtain ⟨⟨v1, b1, _⟩, _⟩ := h.ref
  have hx : x ≠ xp := h.blk.other b1 (by decide)
  have hsz : W.heap.size ≤ W'.heap.size := by obtain ⟨X, hf, _⟩ := hn; exact hf.size
  exact ⟨hn.blk h.blk hx (by decide), near_grow2 hn b1 h.row, hp, h.low, h.size, Nat.le_trans h.big hsz, fun f hf => ⟨(near_rn hn b1).pin (h.ms f hf).1 (Nat.le_refl _), (h.ms f hf).2⟩, h.rn.trans (near_rn hn b1), fun k cs hk hc => hn.blk (h.fl k cs hk hc) ((h.fl k cs hk hc).other b1 (by decide)) (by decide)⟩
/-- The new row is stored. -/
theorem rj_end {o : Value} {T : FL} (h : RsJ w W B x xp v D last LP) (hr : GRow W w.heap.size o T) (hif : ∀ i, i ∈ LP ↔ i ∈ ids T) (hlp : LP.length ≤ T.length) (hfew : T.length ≤ 1000) (hla : last ≤ 65535) (hms : ∀ f ∈ T, ∃ f' ∈ D, f'.q = f.q) :
    RfI (W.setCell ⟨x, 1, none⟩ o) B x xp o T last LP ∧ RN B w (W.setCell ⟨x, 1, none⟩ o) ∧ ∀ k cs, Blk w k 71 cs → Blk (W.setCell ⟨x, 1, none⟩ o) k 71 cs := by
  have hset : Fr [x] W (W.setCell ⟨x, 1, none⟩ o) := Fr.setCell (X := [x]) (Fr.refl _ _) (.inl (by simp)) _
  have hrB : GRow W B o T := by
    refine ⟨hr.1, ?_⟩
    rcases hr.2 with h1 | ⟨gr, cap, cur, e, hB, h3⟩
    · exact .inl h1
    · exact .inr ⟨gr, cap, cur, e, Nat.le_trans h.size hB, h3⟩
  refine ⟨⟨h.blk.store 1 o, row_fr hrB hset fun k hk hm => ?_, h.ref.fr hset fun b hb t cur hc => ?_, h.low, Nat.le_trans (Nat.le_trans h.size h.big) hset.size, hif, hlp, hfew, hla, fun f hf => ?_⟩, h.rn.trans ⟨_, hset, fun b hb => ?_⟩, fun k cs hk => (h.fl k cs hk.lt hk).fr hset fun hm => ?_⟩
  · rw [List.mem_singleton] at hm
    subst hm
    obtain ⟨_, _, cs', hh⟩ := GRow.lt hrB k hk
    exact (h.blk.other hh (by decide)) rfl
  · rw [List.mem_singleton] at hb
    subst hb
    have hh : W.heap[b]? = some (.cells _ 60 (0, 0)) := h.blk
    rw [hc] at hh
    injection hh with hh
    injection hh with _ ht _
    subst ht
    exact ⟨by decide, by decide⟩
  · obtain ⟨f', hf', e⟩ := hms f hf
    rw [← e]
    refine ⟨(h.ms f' hf').1.fr hset fun b hb => ?_, (h.ms f' hf').2⟩
    rw [List.mem_singleton] at hb
    subst hb
    exact ⟨h.low, fun cs hc => (h.blk.other hc (by decide)) rfl⟩
  · rw [List.mem_singleton] at hb
    subst hb
    exact ⟨h.low, _, _, _, h.blk, .inl rfl⟩
  · rw [List.mem_singleton] at hm
    subst hm
    exact ((h.fl _ cs hk.lt hk).other h.blk (by decide)) rfl
end
end Go.Proofs.Ytpaalhhadjihlaa
