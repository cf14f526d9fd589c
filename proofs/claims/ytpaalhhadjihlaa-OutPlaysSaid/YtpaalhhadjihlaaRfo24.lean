/- What is proved here: the document's messages under way, and one more of them. Conditions: those that each theorem names. -/
import Derived.Test.YtpaalhhadjihlaaRfp23
import Derived.Test.YtpaalhhadjihlaaAll24
import Derived.Test.YtpaalhhadjihlaaGrp24
import Derived.Test.YtpaalhhadjihlaaRegT
namespace Go.Proofs.Ytpaalhhadjihlaa
open Go.RowKit Go.Extern.Stop Go.Stop Go.Extern Go.Maps Go.Deep
set_option maxRecDepth 100000
set_option linter.unusedSimpArgs false
/-- What a method of the document's may change: its own blocks, by their types. -/
def RN (B : Nat) (w w' : World) : Prop := ∃ X, Fr X w w' ∧ ∀ b ∈ X, B ≤ b ∧ ∃ cur t f, w.heap[b]? = some (.cells cur t f) ∧ (t = 60 ∨ t = 90 ∨ t = 71 ∨ t = 3)
theorem RN.of_fr {B : Nat} {w w' : World} (h : Fr [] w w') : RN B w w' := ⟨[], h, fun b hb => by cases hb⟩
theorem RN.of_below {B : Nat} {w w' : World} (h : Below w.heap.size w w') : RN B w w' := RN.of_fr (Fr.of_below h)
theorem RN.trans {B : Nat} {w1 w2 w3 : World} (h : RN B w1 w2) (g : RN B w2 w3) : RN B w1 w3 := by
  obtain ⟨X, hf, hX⟩ := h
  obtain ⟨Y, gf, gY⟩ := g
  refine ⟨X ++ Y.filter (fun b => decide (b < w1.heap.size) && decide (b ∉ X)), ?_, fun b hb => ?_⟩
  · refine (hf.mono (fun b hb _ => List.mem_append_left _ hb)).trans gf fun b hb hlt => ?_
    by_cases hm : b ∈ X
    · exact List.mem_append_left _ hm
    · exact List.mem_append_right _ (List.mem_filter.2 ⟨hb, by simp [hlt, hm]⟩)
  · rcases List.mem_append.1 hb with hb | hb
    · exact hX b hb
    · obtain ⟨hb, hp⟩ := List.mem_filter.1 hb
      simp only [Bool.and_eq_true, decide_eq_true_eq] at hp
      obtain ⟨h1, cur, t, f, h2, h3⟩ := gY b hb
      exact ⟨h1, cur, t, f, (hf.block b hp.1 hp.2).symm.trans h2, h3⟩
theorem RN.below {B : Nat} {w0 w w' : World} (h : RN B w w') (hb : Below B w0 w) (hB : B ≤ w.heap.size) : Below B w0 w' := by
  obtain ⟨X, hf, hX⟩ := h
  exact hf.later hb (fun b hm => (hX b hm).1) hB
theorem RN.pin {B B' : Nat} {w w' : World} {A : Option Addr} {P : PL} (h : RN B w w') (hp : PIn w B' A P) (hB : B' ≤ B) : PIn w' B' A P := by
  obtain ⟨X, hf, hX⟩ := h
  refine hp.fr hf fun b hb => ⟨Nat.le_trans hB (hX b hb).1, fun cs hc => ?_⟩
  obtain ⟨_, cur, t, f, h2, h3⟩ := hX b hb
  rw [hc] at h2
  injection h2 with h2
  injection h2 with _ ht _
  rcases h3 with rfl | rfl | rfl | rfl <;> exact absurd ht (by decide)
/-- The program's object is none of the document's blocks. -/
theorem OutI.rn {B : Nat} {w w' : World} {g gp bp bm : Nat} {L : FL} {last sent : Nat} (h : OutI w g gp bp bm L last sent) (hr : RN B w w') : OutI w' g gp bp bm L last sent := by
  obtain ⟨X, hf, hX⟩ := hr
  refine h.then hf fun b hb => ?_
  obtain ⟨_, cur, t, f, h2, h3⟩ := hX b hb
  have key : ∀ {t' : TypeId} {cs : Array Value} {b' : Nat}, Blk w b' t' cs → t' ≠ 60 → t' ≠ 90 → t' ≠ 71 → t' ≠ 3 → b ≠ b' := by
    rintro t' cs b' hb' n1 n2 n3 n4 rfl
    have h4 : w.heap[b]? = some (.cells cs t' (0, 0)) := hb'
    rw [h4] at h2
    injection h2 with h2
    injection h2 with _ ht _
    subst ht
    rcases h3 with e | e | e | e
    · exact n1 e
    · exact n2 e
    · exact n3 e
    · exact n4 e
  refine ⟨key h.blk (by decide) (by decide) (by decide) (by decide), key h.pids.is.1 (by decide) (by decide) (by decide) (by decide), ?_, ?_, fun cs hc => ?_⟩
  · rintro rfl
    obtain ⟨D, hD, _⟩ := h.pids.is.2
    obtain ⟨es, clock, hb, _⟩ := hD
    rw [hb] at h2
    cases h2
  · rintro rfl
    obtain ⟨D, hD, _⟩ := h.map
    obtain ⟨es, clock, hb, _⟩ := hD
    rw [hb] at h2
    cases h2
  · rw [hc] at h2
    injection h2 with h2
    injection h2 with _ ht _
    rcases h3 with rfl | rfl | rfl | rfl <;> exact absurd ht (by decide)
end Go.Proofs.Ytpaalhhadjihlaa
