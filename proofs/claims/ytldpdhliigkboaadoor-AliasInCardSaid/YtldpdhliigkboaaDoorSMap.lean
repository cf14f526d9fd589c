/- What is proved here, of whatever program: a map of texts to ints that the call owns, by what stands at each key (StrMap). No conditions but those that each theorem names. -/
import Derived.Test.YtldpdhliigkboaaDoorObj
import Derived.Maps.OwnSet
import Derived.StringKeys
import Derived.WalkKit
namespace Go.Proofs.YtldpdhliigkboaaDoor
open Go.RowKit Go.Maps Go.WideShapes Go.WideMaps

/-- Block b is a map: at each key stands what m says; at most n keys. -/
def StrMap (P : Program) (k e : TypeId) (w : World) (b : Nat) (m : ByteArray → Option Int) (n : Nat) : Prop :=
  ∃ D : DataW Unit, w.ownsMap P k (plainElem P e) b n D ∧
    ∀ x : ByteArray, Maps.has D (.string x.data.toList) = (m x).isSome ∧ D.atKey (.string x.data.toList) (.lit (.int .i64 0)) = .lit (.int .i64 ((m x).getD 0))
section
variable {P : Program} {k e t : TypeId} {w w' : World} {b n : Nat} {m : ByteArray → Option Int}
theorem StrMap.lt (h : StrMap P k e w b m n) : b < w.heap.size := by
  obtain ⟨D, h1, h2⟩ := h
  exact h1.lt
theorem StrMap.below {B : Nat} (h : StrMap P k e w b m n) (hb : Below B w w') (hB : w.heap.size ≤ B) : StrMap P k e w' b m n := by
  obtain ⟨D, ⟨es, clock, h0, r⟩, h2⟩ := h
  exact ⟨D, ⟨es, clock, (hb.block b (by have := lt_of_block h0; omega)).trans h0, r⟩, h2⟩
theorem StrMap.made (w : World) : StrMap P k e (w.alloc (.map #[] 0)) w.heap.size (fun _ => none) 0 :=
  ⟨_, World.ownsMap_made w P k (plainElem P e), fun _ => ⟨rfl, rfl⟩⟩
theorem StrMap.look (h : StrMap P k e w b m n) (hk : P.underlying k = some .string) (ht : P.underlying t = some (.map k e)) (he : P.underlying e = some (.int .i64)) (hz : ∀ w, (zeroValue e).run P w = .ok (.int .i64 0) w)
    {x : ByteArray} (hx : x.size ≤ maxLen) :
    (Instr.lookup t (.map (some b)) (.string x) true).run P w = .ok (.tuple #[.int .i64 ((m x).getD 0), .bool (m x).isSome]) w ∧ (Instr.lookup t (.map (some b)) (.string x) false).run P w = .ok (.int .i64 ((m x).getD 0)) w := by
  have K := string_keyed (P := P) hk
  obtain ⟨D, h1, h3⟩ := h
  obtain ⟨h4, h5⟩ := h3 x
  have hkey := keyOf_string_mk hk hx
  obtain ⟨v, ps, hrun, hv⟩ := h1.look_ok K ht (hz w) (plainElem_int he (by decide)) hkey
  obtain ⟨c, hrun2, hat, _⟩ := h1.lookup_int K ht he (hz w) hkey
  rw [h5] at hv hat
  obtain ⟨c2, rfl, hc2, _⟩ := plainElem_int_inv he hv
  have e1 : c2 = (m x).getD 0 := by
    have := congrArg Prod.fst hc2
    simp at this
    exact this.symm
  have e2 : c = (m x).getD 0 := by simpa using hat.symm
  rw [h4, e1] at hrun
  rw [e2] at hrun2
  exact ⟨hrun, hrun2⟩
theorem txt_ne {x y : ByteArray} (h : y ≠ x) : (Lit.string y.data.toList) ≠ Lit.string x.data.toList := fun e => h (by
  injection e with e
  exact ByteArray.ext (Array.toList_inj.mp e))
theorem StrMap.put (h : StrMap P k e w b m n) (hk : P.underlying k = some .string) (ht : P.underlying t = some (.map k e)) (he : P.underlying e = some (.int .i64)) (hn : n < maxLen)
    {x : ByteArray} {v : Int} (hx : x.size ≤ maxLen) (hv : (Lit.int .i64 v).wf = true) :
    ∃ w', (Instr.mapUpdate t (.map (some b)) (.string x) (.int .i64 v)).run P w = .ok () w' ∧ StrMap P k e w' b (fun y => if y = x then some v else m y) (n + 1) ∧ w.grownBy w' (some b) := by
  have K := string_keyed (P := P) hk
  obtain ⟨D, h1, h3⟩ := h
  have hkey := keyOf_string_mk hk hx
  obtain ⟨w', hrun, ho, hm⟩ := h1.store K ht hn hkey (plainElem_int he hv)
  refine ⟨w', hrun, ⟨_, ho, ?_⟩, hm.grown⟩
  intro y
  by_cases e : y = x
  · subst e
    rw [has_put_same h1.isMap (K.key hkey), atKey_put_same h1.isMap (K.key hkey)]
    simp
  · rw [has_put_other (txt_ne e), atKey_put_other (txt_ne e), (h3 y).1, (h3 y).2]
    simp [e]
end
end Go.Proofs.YtldpdhliigkboaaDoor
