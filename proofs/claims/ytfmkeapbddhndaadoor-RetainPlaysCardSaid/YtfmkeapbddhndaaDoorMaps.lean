/- What is proved here, of whatever program: a map of ints to ints that the call owns, by what stands at each key and how many there are (IntMap); a set of ints (IntSet). No conditions but those that each theorem names. -/
import Derived.Test.YtfmkeapbddhndaaDoorAMap
import Derived.Maps.OwnSet
import Derived.WalkKit
namespace Go.Proofs.YtfmkeapbddhndaaDoor
open Go.RowKit Go.Maps Go.WideShapes

/-- Block b is a map: at each key stands m of it, 0: nothing; n keys. -/
def IntMap (P : Program) (k e : TypeId) (w : World) (b : Nat) (m : Int → Int) (n : Nat) : Prop :=
  ∃ D : DataW Unit, w.ownsMap P k (plainElem P e) b n D ∧ Maps.size D = n ∧
    ∀ x, (Lit.int .i64 x).wf = true → Maps.has D (.int .i64 x) = decide (m x ≠ 0) ∧ D.atKey (.int .i64 x) (.lit (.int .i64 0)) = .lit (.int .i64 (m x))
/-- Block b is a set of ints. -/
def IntSet (P : Program) (k : TypeId) (w : World) (b : Nat) (m : Int → Bool) (n : Nat) : Prop :=
  ∃ D : DataW Unit, w.ownsMap P k unitElem b n D ∧ Maps.size D = n ∧ ∀ x, (Lit.int .i64 x).wf = true → Maps.has D (.int .i64 x) = m x
section
variable {P : Program} {k e t : TypeId} {w w' : World} {b n : Nat} {R : Value → Option (DataW Unit × List MemPlace)} {D : DataW Unit}
variable {m : Int → Int} {s : Int → Bool}
theorem IntMap.fr {X : List Nat} (h : IntMap P k e w b m n) (hf : Fr X w w') (hn : b ∉ X) : IntMap P k e w' b m n := by
  obtain ⟨D, h1, h2⟩ := h
  exact ⟨D, owns_fr h1 hf hn, h2⟩
theorem IntMap.ne {g : Nat} {u : TypeId} {cs : Array Value} (h : IntMap P k e w b m n) (hg : Blk w g u cs) : g ≠ b := by
  obtain ⟨D, h1, h2⟩ := h
  exact owns_ne h1 hg
theorem IntMap.lt (h : IntMap P k e w b m n) : b < w.heap.size := by
  obtain ⟨D, h1, h2⟩ := h
  exact h1.lt
theorem IntMap.made (w : World) : IntMap P k e (w.alloc (.map #[] 0)) w.heap.size (fun _ => 0) 0 :=
  ⟨_, World.ownsMap_made w P k (plainElem P e), rfl, fun _ _ => ⟨rfl, rfl⟩⟩
theorem IntMap.look (h : IntMap P k e w b m n) (K : Keyed P k) (hk : P.underlying k = some (.int .i64)) (ht : P.underlying t = some (.map k e)) (he : P.underlying e = some (.int .i64)) (hz : ∀ w, (zeroValue e).run P w = .ok (.int .i64 0) w)
    {x : Int} (hx : (Lit.int .i64 x).wf = true) :
    (Instr.lookup t (.map (some b)) (.int .i64 x) true).run P w = .ok (.tuple #[.int .i64 (m x), .bool (decide (m x ≠ 0))]) w ∧ (Instr.lookup t (.map (some b)) (.int .i64 x) false).run P w = .ok (.int .i64 (m x)) w := by
  obtain ⟨D, h1, h2, h3⟩ := h
  obtain ⟨h4, h5⟩ := h3 x hx
  have hkey := keyOf_int_mk hk hx
  obtain ⟨v, ps, hrun, hv⟩ := h1.look_ok K ht (hz w) (plainElem_int he (by decide)) hkey
  obtain ⟨c, hrun2, hat, _⟩ := h1.lookup_int K ht he (hz w) hkey
  rw [h5] at hv hat
  obtain ⟨c2, rfl, hc2, _⟩ := plainElem_int_inv he hv
  have e1 : c2 = m x := by
    have := congrArg Prod.fst hc2
    simp at this
    exact this.symm
  have e2 : c = m x := by simpa using hat.symm
  rw [h4, e1] at hrun
  rw [e2] at hrun2
  exact ⟨hrun, hrun2⟩
theorem IntMap.len (h : IntMap P k e w b m n) (ht : P.underlying t = some (.map k e)) (ty : TypeId) : (Builtin.len_ #[t] ty #[.map (some b)]).run P w = .ok (.int .i64 n) w := by
  obtain ⟨D, h1, h2, h3⟩ := h
  rw [h1.len ht ty, h2]
theorem lit_ne {x y : Int} (h : y ≠ x) : (Lit.int .i64 y) ≠ Lit.int .i64 x := fun e => h (by injection e)
theorem IntMap.put (h : IntMap P k e w b m n) (K : Keyed P k) (hk : P.underlying k = some (.int .i64)) (ht : P.underlying t = some (.map k e)) (he : P.underlying e = some (.int .i64)) (hn : n < maxLen)
    {x v : Int} (hx : (Lit.int .i64 x).wf = true) (hv : (Lit.int .i64 v).wf = true) (hv0 : v ≠ 0) :
    ∃ w', (Instr.mapUpdate t (.map (some b)) (.int .i64 x) (.int .i64 v)).run P w = .ok () w' ∧ IntMap P k e w' b (fun y => if y = x then v else m y) (if m x ≠ 0 then n else n + 1) ∧ w.grownBy w' (some b) := by
  obtain ⟨D, h1, h2, h3⟩ := h
  have hkey := keyOf_int_mk hk hx
  obtain ⟨w', hrun, ho, hm⟩ := h1.store K ht hn hkey (plainElem_int he hv)
  have hsz := size_put (k := Lit.int .i64 x) (h1.tidy K) (.lit (.int .i64 v))
  rw [(h3 x hx).1, h2] at hsz
  have hsz2 : Maps.size (D.put (.int .i64 x) (.lit (.int .i64 v))) = if m x ≠ 0 then n else n + 1 := by
    rw [hsz]
    by_cases e : m x = 0 <;> simp [e]
  refine ⟨w', hrun, ⟨_, hsz2 ▸ owns_tight ho, hsz2, ?_⟩, hm.grown⟩
  · intro y hy
    by_cases e : y = x
    · subst e
      rw [has_put_same h1.isMap (K.key hkey), atKey_put_same h1.isMap (K.key hkey)]
      simp [hv0]
    · rw [has_put_other (lit_ne e), atKey_put_other (lit_ne e), (h3 y hy).1, (h3 y hy).2]
      simp [e]
theorem IntMap.del (h : IntMap P k e w b m n) (K : Keyed P k) (hk : P.underlying k = some (.int .i64)) (ht : P.underlying t = some (.map k e)) (ty : TypeId) {x : Int} (hx : (Lit.int .i64 x).wf = true) :
    ∃ w', (Builtin.delete_ #[t, k] ty #[.map (some b), .int .i64 x]).run P w = .ok (.tuple #[]) w' ∧ IntMap P k e w' b (fun y => if y = x then 0 else m y) (if m x ≠ 0 then n - 1 else n) ∧ w.grownBy w' (some b) := by
  obtain ⟨D, h1, h2, h3⟩ := h
  have hkey := keyOf_int_mk hk hx
  obtain ⟨w', hrun, ho, hm⟩ := h1.drop K ht hkey ty
  have hsz := size_del (k := Lit.int .i64 x) (h1.tidy K)
  rw [(h3 x hx).1, h2] at hsz
  have hsz2 : Maps.size (D.del (.int .i64 x)) = if m x ≠ 0 then n - 1 else n := by
    by_cases e : m x = 0
    · simp [e] at hsz ⊢
      omega
    · simp [e] at hsz ⊢
      omega
  refine ⟨w', hrun, ⟨_, hsz2 ▸ owns_tight ho, hsz2, ?_⟩, hm.grown⟩
  · intro y hy
    by_cases e : y = x
    · subst e
      rw [has_del_same, atKey_del_same]
      simp
    · rw [has_del_other (lit_ne e), atKey_del_other (lit_ne e), (h3 y hy).1, (h3 y hy).2]
      simp [e]
theorem IntSet.fr {X : List Nat} (h : IntSet P k w b s n) (hf : Fr X w w') (hn : b ∉ X) : IntSet P k w' b s n := by
  obtain ⟨D, h1, h2⟩ := h
  exact ⟨D, owns_fr h1 hf hn, h2⟩
theorem IntSet.ne {g : Nat} {u : TypeId} {cs : Array Value} (h : IntSet P k w b s n) (hg : Blk w g u cs) : g ≠ b := by
  obtain ⟨D, h1, h2⟩ := h
  exact owns_ne h1 hg
theorem IntSet.lt (h : IntSet P k w b s n) : b < w.heap.size := by
  obtain ⟨D, h1, h2⟩ := h
  exact h1.lt
theorem IntSet.made (w : World) : IntSet P k (w.alloc (.map #[] 0)) w.heap.size (fun _ => false) 0 :=
  ⟨_, World.ownsMap_made w P k unitElem, rfl, fun _ _ => rfl⟩
theorem IntSet.look (h : IntSet P k w b s n) (K : Keyed P k) (hk : P.underlying k = some (.int .i64)) (ht : P.underlying t = some (.map k e)) (hz : ∀ w, (zeroValue e).run P w = .ok (.agg #[]) w)
    {x : Int} (hx : (Lit.int .i64 x).wf = true) : (Instr.lookup t (.map (some b)) (.int .i64 x) true).run P w = .ok (.tuple #[.agg #[], .bool (s x)]) w := by
  obtain ⟨D, h1, h2, h3⟩ := h
  have hkey := keyOf_int_mk hk hx
  obtain ⟨v, ps, hrun, hv⟩ := h1.look_ok K ht (hz w) unitElem_mk hkey
  obtain ⟨rfl, _⟩ := unitElem_inv hv
  rw [h3 x hx] at hrun
  exact hrun
theorem IntSet.len (h : IntSet P k w b s n) (ht : P.underlying t = some (.map k e)) (ty : TypeId) : (Builtin.len_ #[t] ty #[.map (some b)]).run P w = .ok (.int .i64 n) w := by
  obtain ⟨D, h1, h2, h3⟩ := h
  rw [h1.len ht ty, h2]
theorem IntSet.put (h : IntSet P k w b s n) (K : Keyed P k) (hk : P.underlying k = some (.int .i64)) (ht : P.underlying t = some (.map k e)) (hn : n < maxLen) {x : Int} (hx : (Lit.int .i64 x).wf = true) :
    ∃ w', (Instr.mapUpdate t (.map (some b)) (.int .i64 x) (.agg #[])).run P w = .ok () w' ∧ IntSet P k w' b (fun y => if y = x then true else s y) (if s x then n else n + 1) ∧ w.grownBy w' (some b) := by
  obtain ⟨D, h1, h2, h3⟩ := h
  have hkey := keyOf_int_mk hk hx
  obtain ⟨w', hrun, ho, hm⟩ := h1.store K ht hn hkey unitElem_mk
  have hsz := size_put (k := Lit.int .i64 x) (h1.tidy K) (.agg [])
  rw [h3 x hx, h2] at hsz
  refine ⟨w', hrun, ⟨_, hsz ▸ owns_tight ho, hsz, ?_⟩, hm.grown⟩
  intro y hy
  by_cases e : y = x
  · subst e
    rw [has_put_same h1.isMap (K.key hkey)]
    simp
  · rw [has_put_other (lit_ne e), h3 y hy]
    simp [e]
theorem IntSet.del (h : IntSet P k w b s n) (K : Keyed P k) (hk : P.underlying k = some (.int .i64)) (ht : P.underlying t = some (.map k e)) (ty : TypeId) {x : Int} (hx : (Lit.int .i64 x).wf = true) :
    ∃ w', (Builtin.delete_ #[t, k] ty #[.map (some b), .int .i64 x]).run P w = .ok (.tuple #[]) w' ∧ IntSet P k w' b (fun y => if y = x then false else s y) (if s x then n - 1 else n) ∧ w.grownBy w' (some b) := by
  obtain ⟨D, h1, h2, h3⟩ := h
  have hkey := keyOf_int_mk hk hx
  obtain ⟨w', hrun, ho, hm⟩ := h1.drop K ht hkey ty
  have hsz := size_del (k := Lit.int .i64 x) (h1.tidy K)
  rw [h3 x hx, h2] at hsz
  have hsz2 : Maps.size (D.del (.int .i64 x)) = if s x then n - 1 else n := by
    cases h : s x
    · simp [h] at hsz ⊢
      omega
    · simp [h] at hsz ⊢
      omega
  refine ⟨w', hrun, ⟨_, hsz2 ▸ owns_tight ho, hsz2, ?_⟩, hm.grown⟩
  intro y hy
  by_cases e : y = x
  · subst e
    rw [has_del_same]
    simp
  · rw [has_del_other (lit_ne e), h3 y hy]
    simp [e]
end
end Go.Proofs.YtfmkeapbddhndaaDoor
