/- What is proved here: an argument that is a share holds a truth value and two texts. No conditions. -/
import Derived.Test.YtdaicjplmnpooaaDoorLawV17
import Derived.Lib.SmallJoins
namespace Go.Proofs.YtdaicjplmnpooaaDoor
open Go.ChangeShapes Go.WideShapes Go.RowKit Go.Deep Go.Joins
section
variable {H : Type} {enc : TypeId × Value → H} {w : World}
set_option maxRecDepth 100000 in
theorem share_open {r : Reach} {b0 b1 : Nat} {sp : Nat → Bool} {held : Bool} {v : Value} {d : DataW H} {ps : List MemPlace} (hval : Value.okWide Tryd.prog w r b0 59 v) (hd : DataW.Trod enc Tryd.prog w b1 sp held 59 v d ps) :
    ∃ (b : Bool) (g f : ByteArray), v = .agg #[.bool b, .string g, .string f] ∧ g.size ≤ maxLen ∧ f.size ≤ maxLen := by
  obtain ⟨v0, v1, v2, y0, y1, y2, n, rfl, _, _, h0, h1, h2⟩ := open_agg3 (P := Tryd.prog) Tryd.underlying59 (by kernel_rfl) (by kernel_rfl) hval hd
  obtain ⟨b, e0, _⟩ := DataW.trod_bool Tryd.underlying4 h0
  obtain ⟨g, e1, _, z1⟩ := DataW.trod_string Tryd.underlying9 h1
  obtain ⟨f, e2, _, z2⟩ := DataW.trod_string Tryd.underlying9 h2
  simp at e0 e1 e2
  subst e0 e1 e2
  exact ⟨b, g, f, rfl, z1, z2⟩
end
end Go.Proofs.YtdaicjplmnpooaaDoor
