/- What is proved here: the document's messages under way, made and one more of them. Conditions: those that each theorem names. -/
import Derived.Test.YtpaalhhadjihlaaRfo24
namespace Go.Proofs.Ytpaalhhadjihlaa
open Go.RowKit Go.Extern.Stop Go.Stop Go.Extern Go.Maps Go.Deep
set_option maxRecDepth 100000
set_option linter.unusedSimpArgs false
/-- Block x is the document's Out: its numbers at xp, its messages in a row. -/
structure RfI (w : World) (B x xp : Nat) (v : Value) (D : FL) (last : Nat) (LP : List Int) : Prop where
  blk : Blk w x 60 #[.pointer (some ⟨xp, 0, none⟩), v]
  row : GRow w B v D
  ref : IsRefP w B xp 65535 last LP
  low : B ≤ x
  size : B ≤ w.heap.size
  iff : ∀ i, i ∈ LP ↔ i ∈ ids D
  lp : LP.length ≤ D.length
  few : D.length ≤ 1000
  last_le : last ≤ 65535
  ms : ∀ f ∈ D, PIn w B f.q.pa f.q.m.props ∧ f.q.m.props.length ≤ 1000
section
variable {w w' : World} {B x xp last : Nat} {v : Value} {D : FL} {LP : List Int}
theorem IsRefP.fr {X : List Nat} {most : Nat} {L : List Int} (h : IsRefP w B xp most last L) (hf : Fr X w w') (hX : ∀ b ∈ X, ∀ t cur, w.heap[b]? = some (.cells cur t (0, 0)) → t ≠ 90 ∧ t ≠ 3) : IsRefP w' B xp most last L := by
  obtain ⟨⟨v, b1, r1⟩, hB⟩ := h
  refine ⟨⟨v, b1.fr hf fun hm => (hX _ hm _ _ b1).1 rfl, row_fr r1 hf fun k hk hm => ?_⟩, hB⟩
  rcases r1.2 with ⟨rfl, _⟩ | ⟨gr, cap, cur, rfl, _, hh, _⟩
  · cases hk
  · injection hk with hk
    subst hk
    exact (hX _ hm _ _ hh).2 rfl
theorem RfI.form (h : RfI w B x xp v D last LP) : ∃ a c, v = .slice a D.length c := h.row.form
/-- What does not touch the document's blocks leaves its Out. -/
theorem RfI.fr {X : List Nat} (h : RfI w B x xp v D last LP) (hf : Fr X w w') (hX : ∀ b ∈ X, B ≤ b ∧ ∀ t cur, w.heap[b]? = some (.cells cur t (0, 0)) → t ≠ 60 ∧ t ≠ 90 ∧ t ≠ 71 ∧ t ≠ 3 ∧ t ≠ 93) : RfI w' B x xp v D last LP := by
  refine ⟨h.blk.fr hf fun hm => ((hX _ hm).2 _ _ h.blk).1 rfl, ?_, h.ref.fr hf fun b hb t cur hc => ⟨((hX b hb).2 t cur hc).2.1, ((hX b hb).2 t cur hc).2.2.2.1⟩, h.low, Nat.le_trans h.size hf.size, h.iff, h.lp, h.few, h.last_le, fun f hm => ⟨(h.ms f hm).1.fr hf fun b hb => ⟨(hX b hb).1, fun cs hc => ((hX b hb).2 _ _ hc).2.2.2.2 rfl⟩, (h.ms f hm).2⟩⟩
  refine row_fr h.row hf fun k hk hm => ?_
  obtain ⟨_, _, cs', hh⟩ := GRow.lt h.row k hk
  exact ((hX k hm).2 _ _ hh).2.2.1 rfl
theorem RfI.below (h : RfI w B x xp v D last LP) (hb : Below w.heap.size w w') : RfI w' B x xp v D last LP := h.fr (X := []) (Fr.of_below hb) (fun b hb => by cases hb)
theorem near_grow (h : Near B xp w w') {cs : Array Value} (hb : Blk w xp 90 cs) (hr : GRow w B v D) : GRow w' B v D := by
  obtain ⟨X, hf, hX⟩ := h
  refine row_fr hr hf fun k hk hm => ?_
  obtain ⟨_, _, cs', hh⟩ := GRow.lt hr k hk
  rcases (hX k hm).2 with rfl | ⟨cur, f, h1⟩
  · exact (hb.other hh (by decide)) rfl
  · rw [hh] at h1
    injection h1 with h1
    injection h1 with _ ht _
    exact absurd ht (by decide)
theorem near_rn (h : Near B xp w w') {cs : Array Value} (hb : Blk w xp 90 cs) : RN B w w' := by
  obtain ⟨X, hf, hX⟩ := h
  refine ⟨X, hf, fun b hm => ⟨(hX b hm).1, ?_⟩⟩
  rcases (hX b hm).2 with rfl | ⟨cur, f, h1⟩
  · exact ⟨_, _, _, hb, .inr (.inl rfl)⟩
  · exact ⟨_, _, _, h1, .inr (.inr (.inr rfl))⟩
theorem RfI.new {w0 : Nat} (w : World) (h : IsRefP w w0 xp 65535 0 []) (hs : w0 ≤ w.heap.size) : RfI (w.alloc (.cells #[.pointer (some ⟨xp, 0, none⟩), .slice none 0 0] 60)) w0 w.heap.size xp (.slice none 0 0) [] 0 [] :=
  ⟨Blk.made _ _ _, World.ownsRow_nil _ _ _ _, h.then ((Fr.refl [] w).alloc _), hs, Nat.le_trans hs ((Fr.refl [] w).alloc _).size, fun _ => Iff.rfl, Nat.le_refl _, Nat.zero_le _, Nat.zero_le _, fun f hf => by cases hf⟩
end
set_option maxHeartbeats 1000000 in
theorem rnew_any (w : World) : Calls Try.prog 7 #[] w fun e w' => ∃ x xp v, e = .returned (.pointer (some ⟨x, 0, none⟩)) ∧ RfI w' w.heap.size x xp v [] 0 [] ∧ Below w.heap.size w w' := by
  have HN := Lib.hid (refp_new w 65535 65535 (.inr (.inl ⟨rfl, Nat.le_refl _⟩)))
  have hb := Blk.made w 90 #[.int .i64 65535, .int .i64 0, .slice none 0 0]
  have hr : IsRefP (w.alloc (.cells #[.int .i64 65535, .int .i64 0, .slice none 0 0] 90)) w.heap.size w.heap.size 65535 0 [] := ⟨⟨_, hb, World.ownsRow_nil _ _ _ _⟩, Nat.le_refl _⟩
  have hb1 := (Below.refl w.heap.size w).alloc (Nat.le_refl _) (.cells #[.int .i64 65535, .int .i64 0, .slice none 0 0] 90)
  have HR := Lib.hid (And.intro (RfI.new _ hr hb1.size) (hb1.alloc hb1.size (.cells #[.pointer (some ⟨w.heap.size, 0, none⟩), .slice none 0 0] 60)))
  rw [World.size_alloc] at HR
  clear hb hr hb1
  go_enter Try.func7, Try.ntmps7
  go_wp2_with fail
  refine HN.out.mono ?_
  rintro e w1 ⟨rfl, rfl⟩
  go_wp2_with fail
  go_ret
  exact ⟨_, _, _, rfl, HR.out.1, HR.out.2⟩
end Go.Proofs.Ytpaalhhadjihlaa
