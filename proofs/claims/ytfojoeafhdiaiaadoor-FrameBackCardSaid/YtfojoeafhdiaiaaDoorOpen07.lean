/- What is proved here: an argument that is a slice of packets holds packets. No conditions. -/
import Derived.Test.YtfojoeafhdiaiaaDoorLawC07
namespace Go.Proofs.YtfojoeafhdiaiaaDoor
open Go.ChangeShapes Go.WideShapes Go.RowKit Go.Deep
set_option maxRecDepth 100000
section
variable {H : Type} {enc : TypeId × Value → H} {w : World}
theorem frames_open07 {r : Reach} {b0 b1 : Nat} {sp : Nat → Bool} {held : Bool} {v : Value} {d : DataW H} {ps : List MemPlace} (hval : Value.okWide Tryd.prog w r b0 74 v) (hd : DataW.Trod enc Tryd.prog w b1 sp held 74 v d ps) :
    ∃ a len cap xs, v = .slice a len cap ∧ len ≤ maxLen ∧ FRd w a len xs := by
  obtain ⟨a, len, cap, rfl, hl, hx⟩ := struct_slice (P := Tryd.prog) Tryd.underlying74 Tryd.underlying61 (by kernel_rfl) (by kernel_rfl) (by decide) hval hd
  rcases hx with h0 | ⟨b, off, rfl, hc⟩
  · exact ⟨a, len, cap, fun _ => (0, ⟨#[]⟩), rfl, hl, fun h => absurd h (by omega)⟩
  · have hex : ∀ i, ∃ x : Int × ByteArray, i < len → w.cell? ⟨b, off + i * 2, none⟩ = some (.int .i64 x.1) ∧ w.cell? ⟨b, off + i * 2 + 1, none⟩ = some (.string x.2) := by
      intro i
      by_cases hi : i < len
      · obtain ⟨u0, n0, y0, q0, t0⟩ := hc i hi 0 _ rfl
        obtain ⟨u1, n1, y1, q1, t1⟩ := hc i hi 1 _ rfl
        obtain ⟨k0, e0, _⟩ := DataW.trod_int Tryd.underlying3 t0
        obtain ⟨k1, e1, _⟩ := DataW.trod_string Tryd.underlying9 t1
        simp at e0 e1
        subst e0 e1
        exact ⟨(k0, k1), fun _ => ⟨q0, q1⟩⟩
      · exact ⟨(0, ⟨#[]⟩), fun h => absurd h hi⟩
    obtain ⟨xs, hxs⟩ := Classical.axiomOfChoice hex
    exact ⟨_, len, cap, xs, rfl, hl, fun _ => ⟨b, off, rfl, fun i hi => hxs i hi⟩⟩
end
end Go.Proofs.YtfojoeafhdiaiaaDoor
