/- What is proved here, of whatever program: a map of texts to ints that the call owns, by what stands at each key and how many there are (StrMapN). No conditions but those that each theorem names. -/
import Derived.Test.YtldpdhliigkboaaDoorSMap
namespace Go.Proofs.YtldpdhliigkboaaDoor
open Go.RowKit Go.Maps Go.WideShapes Go.WideMaps
/-- Block b is a map: at each key stands what m says; n keys. -/
def StrMapN (P : Program) (k e : TypeId) (w : World) (b : Nat) (m : ByteArray → Option Int) (n : Nat) : Prop :=
  ∃ D : DataW Unit, w.ownsMap P k (plainElem P e) b n D ∧ Maps.size D = n ∧
    ∀ x : ByteArray, Maps.has D (.string x.data.toList) = (m x).isSome ∧ D.atKey (.string x.data.toList) (.lit (.int .i64 0)) = .lit (.int .i64 ((m x).getD 0))
section
variable {P : Program} {k e t : TypeId} {w w' : World} {b n : Nat} {m : ByteArray → Option Int} {R : Value → Option (DataW Unit × List MemPlace)} {D : DataW Unit}
theorem StrMapN.plain (h : StrMapN P k e w b m n) : StrMap P k e w b m n := by
  obtain ⟨D, h1, _, h3⟩ := h
  exact ⟨D, h1, h3⟩
theorem StrMapN.lt (h : StrMapN P k e w b m n) : b < w.heap.size := h.plain.lt
theorem StrMapN.fr {X : List Nat} (h : StrMapN P k e w b m n) (hf : Fr X w w') (hn : b ∉ X) : StrMapN P k e w' b m n := by
  obtain ⟨D, ⟨es, clock, h0, r⟩, h2⟩ := h
  exact ⟨D, ⟨es, clock, (hf.block b (lt_of_block h0) hn).trans h0, r⟩, h2⟩
theorem StrMapN.ne {g : Nat} {u : TypeId} {cs : Array Value} (h : StrMapN P k e w b m n) (hg : Blk w g u cs) : g ≠ b := by
  obtain ⟨D, ⟨es, clock, hb, r⟩, h2⟩ := h
  rintro rfl
  unfold Blk at hg
  rw [hg] at hb
  cases hb
theorem StrMapN.made (w : World) : StrMapN P k e (w.alloc (.map #[] 0)) w.heap.size (fun _ => none) 0 :=
  ⟨_, World.ownsMap_made w P k (plainElem P e), rfl, fun _ => ⟨rfl, rfl⟩⟩
theorem StrMapN.len (h : StrMapN P k e w b m n) (ht : P.underlying t = some (.map k e)) (ty : TypeId) : (Builtin.len_ #[t] ty #[.map (some b)]).run P w = .ok (.int .i64 n) w := by
  obtain ⟨D, h1, h2, h3⟩ := h
  rw [h1.len ht ty, h2]
theorem owns_tightS (h : w.ownsMap P k R b n D) : w.ownsMap P k R b (Maps.size D) D := by
  obtain ⟨es, clock, hb, F, _, rfl⟩ := h
  refine ⟨es, clock, hb, F, ?_, rfl⟩
  have e1 : Maps.size (DataW.map ((es.toList.map (WideElems.rg P k R)).foldr DataW.insert [])) = es.size := by simp [Maps.size, length_sorted]
  rw [e1]
  exact Nat.le_refl _
theorem StrMapN.put (h : StrMapN P k e w b m n) (hk : P.underlying k = some .string) (ht : P.underlying t = some (.map k e)) (he : P.underlying e = some (.int .i64)) (hn : n < maxLen)
    {x : ByteArray} {v : Int} (hx : x.size ≤ maxLen) (hv : (Lit.int .i64 v).wf = true) (hno : m x = none) :
    ∃ w', (Instr.mapUpdate t (.map (some b)) (.string x) (.int .i64 v)).run P w = .ok () w' ∧ StrMapN P k e w' b (fun y => if y = x then some v else m y) (n + 1) ∧ w.grownBy w' (some b) := by
  have K := string_keyed (P := P) hk
  obtain ⟨D, h1, h2, h3⟩ := h
  have hkey := keyOf_string_mk hk hx
  obtain ⟨w', hrun, ho, hm⟩ := h1.store K ht hn hkey (plainElem_int he hv)
  have hsz := size_put (k := Lit.string x.data.toList) (h1.tidy K) (.lit (.int .i64 v))
  rw [(h3 x).1, h2, hno] at hsz
  have hsz2 : Maps.size (D.put (.string x.data.toList) (.lit (.int .i64 v))) = n + 1 := by simpa using hsz
  refine ⟨w', hrun, ⟨_, hsz2 ▸ owns_tightS ho, hsz2, ?_⟩, hm.grown⟩
  intro y
  by_cases e : y = x
  · subst e
    rw [has_put_same h1.isMap (K.key hkey), atKey_put_same h1.isMap (K.key hkey)]
    simp
  · rw [has_put_other (txt_ne e), atKey_put_other (txt_ne e), (h3 y).1, (h3 y).2]
    simp [e]
end
end Go.Proofs.YtldpdhliigkboaaDoor
