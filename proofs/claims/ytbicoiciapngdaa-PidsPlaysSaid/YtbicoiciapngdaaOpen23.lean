/- What is proved here: an argument that is a slice of acts holds acts. No conditions. -/
import Derived.Test.YtbicoiciapngdaaLawA23
namespace Go.Proofs.Ytbicoiciapngdaa
open Go.ChangeShapes Go.WideShapes Go.RowKit Go.Deep

section
variable {H : Type} {enc : TypeId × Value → H} {w : World}
theorem acts_open3 {r : Reach} {b0 b1 : Nat} {sp : Nat → Bool} {held : Bool} {v : Value} {d : DataW H} {ps : List MemPlace} (hval : Value.okWide Try.prog w r b0 50 v) (hd : DataW.Trod enc Try.prog w b1 sp held 50 v d ps) :
    ∃ a len cap xs, v = .slice a len cap ∧ len ≤ maxLen ∧ ActsOf3 w a len xs := by
  obtain ⟨a, len, cap, rfl, hl, hx⟩ := struct_slice (P := Try.prog) Try.underlying50 Try.underlying62 (by kernel_rfl) (by kernel_rfl) (by decide) hval hd
  rcases hx with h0 | ⟨b, off, rfl, hc⟩
  · exact ⟨a, len, cap, fun _ => ⟨0, 0⟩, rfl, hl, .inl h0⟩
  · have hex : ∀ i, ∃ x : Act23, i < len → w.cell? ⟨b, off + i * 2, none⟩ = some (.int .i64 x.kind) ∧ w.cell? ⟨b, off + i * 2 + 1, none⟩ = some (.int .i64 x.id) ∧
        (Lit.int .i64 x.id).wf = true := by
      intro i
      by_cases hi : i < len
      · obtain ⟨u0, n0, y0, q0, t0⟩ := hc i hi 0 _ rfl
        obtain ⟨u1, n1, y1, q1, t1⟩ := hc i hi 1 _ rfl
        obtain ⟨k0, e0, _, z0⟩ := DataW.trod_int Try.underlying3 t0
        obtain ⟨k1, e1, _, z1⟩ := DataW.trod_int Try.underlying3 t1
        simp at e0 e1
        subst e0 e1
        exact ⟨⟨k0, k1⟩, fun _ => ⟨q0, q1, z1⟩⟩
      · exact ⟨⟨0, 0⟩, fun h => absurd h hi⟩
    obtain ⟨xs, hxs⟩ := Classical.axiomOfChoice hex
    exact ⟨_, len, cap, xs, rfl, hl, .inr ⟨b, off, rfl, fun i hi => hxs i hi⟩⟩
end
end Go.Proofs.Ytbicoiciapngdaa
