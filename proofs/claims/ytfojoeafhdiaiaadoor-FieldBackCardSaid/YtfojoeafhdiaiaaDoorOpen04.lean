/- What is proved here: an argument that is a slice of fields holds fields. No conditions. -/
import Derived.Test.YtfojoeafhdiaiaaDoorLawA04
namespace Go.Proofs.YtfojoeafhdiaiaaDoor
open Go.ChangeShapes Go.WideShapes Go.RowKit Go.Deep
set_option maxRecDepth 100000
section
variable {H : Type} {enc : TypeId × Value → H} {w : World}
theorem acts_open04 {r : Reach} {b0 b1 : Nat} {sp : Nat → Bool} {held : Bool} {v : Value} {d : DataW H} {ps : List MemPlace} (hval : Value.okWide Tryd.prog w r b0 22 v) (hd : DataW.Trod enc Tryd.prog w b1 sp held 22 v d ps) :
    ∃ a len cap xs, v = .slice a len cap ∧ len ≤ maxLen ∧ ActsOf04 w a len xs := by
  obtain ⟨a, len, cap, rfl, hl, hx⟩ := struct_slice (P := Tryd.prog) Tryd.underlying22 Tryd.underlying37 (by kernel_rfl) (by kernel_rfl) (by decide) hval hd
  rcases hx with h0 | ⟨b, off, rfl, hc⟩
  · exact ⟨a, len, cap, fun _ => ⟨0, 0, ⟨#[]⟩⟩, rfl, hl, .inl h0⟩
  · have hex : ∀ i, ∃ x : FV, i < len → w.cell? ⟨b, off + i * 3, none⟩ = some (.int .i64 x.k) ∧ w.cell? ⟨b, off + i * 3 + 1, none⟩ = some (.int .i64 x.n) ∧ w.cell? ⟨b, off + i * 3 + 2, none⟩ = some (.string x.s) := by
      intro i
      by_cases hi : i < len
      · obtain ⟨u0, n0, y0, q0, t0⟩ := hc i hi 0 _ rfl
        obtain ⟨u1, n1, y1, q1, t1⟩ := hc i hi 1 _ rfl
        obtain ⟨u2, n2, y2, q2, t2⟩ := hc i hi 2 _ rfl
        obtain ⟨k0, e0, _⟩ := DataW.trod_int Tryd.underlying3 t0
        obtain ⟨k1, e1, _⟩ := DataW.trod_int Tryd.underlying3 t1
        obtain ⟨k2, e2, _⟩ := DataW.trod_string Tryd.underlying9 t2
        simp at e0 e1 e2
        subst e0 e1 e2
        exact ⟨⟨k0, k1, k2⟩, fun _ => ⟨q0, q1, q2⟩⟩
      · exact ⟨⟨0, 0, ⟨#[]⟩⟩, fun h => absurd h hi⟩
    obtain ⟨xs, hxs⟩ := Classical.axiomOfChoice hex
    exact ⟨_, len, cap, xs, rfl, hl, .inr ⟨b, off, rfl, fun i hi => hxs i hi⟩⟩
end
end Go.Proofs.YtfojoeafhdiaiaaDoor
