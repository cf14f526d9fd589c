/- What is proved here: an argument that is a slice of integers, with each in its range; AliasIn's walk out of what its row lists. No further conditions. -/
import Derived.Test.YtldpdhliigkboaaDoorLawI26
namespace Go.Proofs.YtldpdhliigkboaaDoor
open Go.ChangeShapes Go.WideShapes Go.ChangeAt Go.RowKit Go.Deep
theorem ints_open26 {H : Type} {enc : TypeId × Value → H} {P : Program} {w : World} {r : Reach} {b0 b1 : Nat} {sp : Nat → Bool} {held : Bool} {t e : TypeId} {k : IntKind} {v : Value} {d : DataW H} {ps : List MemPlace}
    (ht : P.underlying t = some (.slice e)) (he : P.underlying e = some (.int k)) (hc : P.cellsOf e = 1) (hval : Value.okWide P w r b0 t v) (hd : DataW.Trod enc P w b1 sp held t v d ps) :
    ∃ a len cap, v = .slice a len cap ∧ len ≤ maxLen ∧ (len = 0 ∨ ∃ (b off : Nat) (zs : List Int), a = some ⟨b, off, none⟩ ∧ ∀ j, j < len → w.cell? ⟨b, off + j, none⟩ = some (.int k (zs.getD j 0)) ∧ (Lit.int k (zs.getD j 0)).wf = true) := by
  obtain ⟨a0, len, cap, rfl⟩ := okWide_slice ht hval
  obtain ⟨fuel, hf⟩ := hd
  rcases open_ints ht he hc hf with ⟨hcs, hx⟩ | ⟨a, len', cap', zs, hcs, _, hl, hm, hz, hx, hcell, hwz⟩
  · simp [Value.cells] at hcs
    obtain ⟨rfl, rfl, rfl⟩ := hcs
    exact ⟨none, 0, 0, rfl, Nat.zero_le _, .inl rfl⟩
  · simp [Value.cells] at hcs
    obtain ⟨rfl, rfl, rfl⟩ := hcs
    have hlen : len ≤ zs.length := by rw [hz]; split <;> omega
    refine ⟨some a, len, cap, rfl, Nat.le_trans hl hm, ?_⟩
    rcases Nat.eq_zero_or_pos len with h0 | h0
    · exact .inl h0
    · obtain ⟨b, off, spot⟩ := a
      have hspot : spot = none := by simpa [Addr.add] using World.cell?_spot (hcell 0 (by omega))
      subst hspot
      refine .inr ⟨b, off, zs, rfl, fun j hj => ⟨?_, ?_⟩⟩
      · rw [← add_plain]; exact hcell j (by omega)
      · refine hwz _ ?_
        rw [List.getD_eq_getElem?_getD, List.getElem?_eq_getElem (by omega)]
        exact List.getElem_mem _
theorem aliasIn_walk (S : Nat → Addr) (most : Int) (A : Option Addr) (n c : Nat) (L : List ByteArray) (A2 : Option Addr) (n2 c2 : Nat) (w : World) (hE : Env w S) (_ : (Lit.int .i64 most).wf = true) (hnz : n ≤ maxLen) (ha : StrsOf w A n L) (hnz2 : n2 ≤ maxLen)
    (hx : n2 = 0 ∨ ∃ (b off : Nat) (zs : List Int), A2 = some ⟨b, off, none⟩ ∧ ∀ j, j < n2 → w.cell? ⟨b, off + j, none⟩ = some (.int .i64 (zs.getD j 0)) ∧ (Lit.int .i64 (zs.getD j 0)).wf = true) :
    Calls Tryd.prog 3 #[.int .i64 most, .slice A n c, .slice A2 n2 c2] w fun x w' => x = .returned (.bool true) ∧ Below w.heap.size w w' := by
  rcases hx with hx | ⟨b, off, zs, e, hc⟩
  · exact aliasIn_core most A n c L A2 n2 c2 (fun _ => 0) S w hnz hnz2 ha (.inl hx) hE
  · exact aliasIn_core most A n c L A2 n2 c2 (fun i => zs.getD i 0) S w hnz hnz2 ha (.inr ⟨b, off, e, hc⟩) hE
end Go.Proofs.YtldpdhliigkboaaDoor
