/- What is proved here, of whatever program: a map that the call owns, by the list of its keys and elements in whatever order (AMap), and a range over it that is under way (ARange). No conditions but those that each theorem names. -/
import Derived.Test.YtnolnhpmpjgnaaaGreatDoorPrp
import Derived.Maps.OwnSet
import Derived.Maps.RangeWalk
import Derived.StringKeys
import Derived.WalkKit
namespace Go.Proofs.YtnolnhpmpjgnaaaGreatDoor
open Go.RowKit Go.Maps Go.WideShapes

section
variable {H : Type} {P : Program} {k e t : TypeId} {w w' : World} {b n : Nat} {R : Value → Option (DataW H × List MemPlace)} {D : DataW H}
theorem owns_tight (h : w.ownsMap P k R b n D) : w.ownsMap P k R b (Maps.size D) D := by
  obtain ⟨es, clock, hb, F, _, rfl⟩ := h
  refine ⟨es, clock, hb, F, ?_, rfl⟩
  have e1 : Maps.size (DataW.map ((es.toList.map (WideElems.rg P k R)).foldr DataW.insert [])) = es.size := by simp [Maps.size, length_sorted]
  rw [e1]
  exact Nat.le_refl _
theorem owns_fr {X : List Nat} (h : w.ownsMap P k R b n D) (hf : Fr X w w') (hn : b ∉ X) : w'.ownsMap P k R b n D := by
  obtain ⟨es, clock, hb, r⟩ := h
  exact ⟨es, clock, (hf.block b (lt_of_block hb) hn).trans hb, r⟩
theorem owns_below {B : Nat} (h : w.ownsMap P k R b n D) (hf : Below B w w') (hn : b < B) : w'.ownsMap P k R b n D := by
  obtain ⟨es, clock, hb, r⟩ := h
  exact ⟨es, clock, (hf.block b hn).trans hb, r⟩
theorem owns_ne {g : Nat} {u : TypeId} {cs : Array Value} (h : w.ownsMap P k R b n D) (hg : Blk w g u cs) : g ≠ b := by
  obtain ⟨es, clock, hb, r⟩ := h
  rintro rfl
  unfold Blk at hg
  rw [hg] at hb
  cases hb
end
/-- A kind of keys: the value of a key, and what it reads as. -/
structure KE (κ : Type) where
  kv : κ → Value
  kl : κ → Lit
def strKE : KE ByteArray := ⟨.string, fun x => .string x.data.toList⟩
def intKE : KE Int := ⟨.int .i64, .int .i64⟩
theorem strKE_inj (x y : ByteArray) (h : strKE.kl x = strKE.kl y) : x = y := by
  injection h with h
  exact ByteArray.ext (Array.toList_inj.mp h)
theorem intKE_inj (x y : Int) (h : intKE.kl x = intKE.kl y) : x = y := by
  injection h
theorem strKE_ok {P : Program} {k : TypeId} (hk : P.underlying k = some .string) {x : ByteArray} (hx : x.size ≤ maxLen) : keyOf P k (strKE.kv x) = some (strKE.kl x) := WideMaps.keyOf_string_mk hk hx
theorem intKE_ok {P : Program} {k : TypeId} (hk : P.underlying k = some (.int .i64)) {x : Int} (hx : (Lit.int .i64 x).wf = true) : keyOf P k (intKE.kv x) = some (intKE.kl x) := keyOf_int_mk hk hx
/-- Elements read as themselves. -/
def heldE (v : Value) : Option (DataW Value × List MemPlace) := some (.held v, [])
section
variable {κ α : Type}
def aent (E : KE κ) (en : α → Value) (p : κ × α) : Lit × DataW Value := (E.kl p.1, .held (en p.2))
/-- Block b is a map that holds just these keys and elements. -/
def AMap (P : Program) (k : TypeId) (E : KE κ) (en : α → Value) (w : World) (b : Nat) (L : List (κ × α)) : Prop :=
  ∃ es, w.ownsMap P k heldE b L.length (.map es) ∧ es.Perm (L.map (aent E en)) ∧ ∀ p ∈ L, keyOf P k (E.kv p.1) = some (E.kl p.1)
/-- A range over it: the entries M are still to come. -/
def ARange (P : Program) (k : TypeId) (E : KE κ) (en : α → Value) (w : World) (b r : Nat) (L M : List (κ × α)) : Prop :=
  ∃ es left cnt, w.ranges P k heldE b r L.length (.map es) left cnt ∧ es.Perm (L.map (aent E en)) ∧ (∀ p ∈ L, keyOf P k (E.kv p.1) = some (E.kl p.1)) ∧ (∀ p ∈ M, p ∈ L) ∧ ∀ a, left a = true ↔ ∃ p ∈ M, E.kl p.1 = a
section
variable {P : Program} {k e t : TypeId} {w w' : World} {b n r : Nat} {E : KE κ} {en : α → Value} {L M : List (κ × α)} {x : κ} {v : α} {z : Value}
theorem find_of_mem {a : Lit} {d : DataW Value} (ha : WideAt.IsKeyLit a) : ∀ (es : List (Lit × DataW Value)), es.Pairwise (fun p q => p.1 ≠ q.1) → (a, d) ∈ es → es.find? (fun p => p.1.sameKey a) = some (a, d)
  | [], _, h => by cases h
  | p :: es, hp, h => by
    obtain ⟨h1, h2⟩ := List.pairwise_cons.1 hp
    rcases List.mem_cons.1 h with rfl | h
    · simp [List.find?, WideAt.sameKey_self ha]
    · have : p.1.sameKey a = false := sameKey_ne (h1 _ h)
      rw [List.find?_cons, this]
      exact find_of_mem ha es h2 h
theorem find_none {a : Lit} (es : List (Lit × DataW Value)) (h : ∀ p ∈ es, p.1 ≠ a) : es.find? (fun p => p.1.sameKey a) = none :=
  List.find?_eq_none.2 fun p hp => by rw [sameKey_ne (h p hp)]; simp
theorem AMap.lt (h : AMap P k E en w b L) : b < w.heap.size := by
  obtain ⟨es, h1, _⟩ := h
  exact h1.lt
theorem AMap.fr {X : List Nat} (h : AMap P k E en w b L) (hf : Fr X w w') (hn : b ∉ X) : AMap P k E en w' b L := by
  obtain ⟨es, h1, h2⟩ := h
  exact ⟨es, owns_fr h1 hf hn, h2⟩
theorem AMap.below {B : Nat} (h : AMap P k E en w b L) (hf : Below B w w') (hn : b < B) : AMap P k E en w' b L := by
  obtain ⟨es, h1, h2⟩ := h
  exact ⟨es, owns_below h1 hf hn, h2⟩
theorem AMap.ne {g : Nat} {u : TypeId} {cs : Array Value} (h : AMap P k E en w b L) (hg : Blk w g u cs) : g ≠ b := by
  obtain ⟨es, h1, _⟩ := h
  exact owns_ne h1 hg
theorem AMap.perm (h : AMap P k E en w b L) (hp : L.Perm M) : AMap P k E en w b M := by
  obtain ⟨es, h1, h2, h3⟩ := h
  exact ⟨es, hp.length_eq ▸ h1, h2.trans (hp.map _), fun p hm => h3 p (hp.mem_iff.2 hm)⟩
theorem AMap.made (w : World) (P : Program) (k : TypeId) (E : KE κ) (en : α → Value) : AMap P k E en (w.alloc (.map #[] 0)) w.heap.size [] :=
  ⟨[], World.ownsMap_made w P k heldE, List.Perm.refl _, fun _ h => by cases h⟩
theorem apart_of {es : List (Lit × DataW Value)} (h1 : w.ownsMap P k heldE b n (.map es)) (K : Keyed P k) : es.Pairwise (fun p q => p.1 ≠ q.1) ∧ ∀ p ∈ es, WideAt.IsKeyLit p.1 := by
  obtain ⟨es', e1, e2, e3⟩ := h1.entries K
  injection e1 with e1
  subst e1
  exact ⟨e2, e3⟩
theorem pairwise_of {es : List (Lit × DataW Value)} (hp : es.Perm (L.map (aent E en))) (hd : es.Pairwise (fun p q => p.1 ≠ q.1)) : L.Pairwise (fun p q => E.kl p.1 ≠ E.kl q.1) := by
  have := (hp.pairwise_iff (fun {a b} (h : a.1 ≠ b.1) => h.symm)).1 hd
  exact (List.pairwise_map (R := fun (p q : Lit × DataW Value) => p.1 ≠ q.1)).1 this
/-- No key stands twice. -/
theorem AMap.apart (h : AMap P k E en w b L) (K : Keyed P k) : L.Pairwise (fun p q => E.kl p.1 ≠ E.kl q.1) := by
  obtain ⟨es, h1, h2, _⟩ := h
  exact pairwise_of h2 (apart_of h1 K).1
theorem at_hit {es : List (Lit × DataW Value)} (h1 : w.ownsMap P k heldE b n (.map es)) (h2 : es.Perm (L.map (aent E en))) (K : Keyed P k) (hm : (x, v) ∈ L) (zd : DataW Value) :
    (DataW.map es).atKey (E.kl x) zd = .held (en v) ∧ Maps.has (.map es) (E.kl x) = true := by
  obtain ⟨hd, hk⟩ := apart_of h1 K
  have hme : (E.kl x, DataW.held (en v)) ∈ es := h2.mem_iff.2 (List.mem_map.2 ⟨(x, v), hm, rfl⟩)
  have hf := find_of_mem (hk _ hme) es hd hme
  refine ⟨?_, ?_⟩
  · unfold DataW.atKey
    simp only [hf]
  · rw [has_eq]
    exact List.any_eq_true.2 ⟨_, hme, WideAt.sameKey_self (hk _ hme)⟩
theorem at_miss {es : List (Lit × DataW Value)} (h2 : es.Perm (L.map (aent E en))) (hm : ∀ p ∈ L, E.kl p.1 ≠ E.kl x) (zd : DataW Value) :
    (DataW.map es).atKey (E.kl x) zd = zd ∧ Maps.has (.map es) (E.kl x) = false := by
  have hno : ∀ p ∈ es, p.1 ≠ E.kl x := by
    intro p hp
    obtain ⟨q, hq, rfl⟩ := List.mem_map.1 (h2.mem_iff.1 hp)
    exact hm q hq
  refine ⟨?_, ?_⟩
  · unfold DataW.atKey
    simp only [find_none es hno]
  · rw [has_eq]
    refine Bool.eq_false_iff.2 fun h => ?_
    obtain ⟨p, hp, hs⟩ := List.any_eq_true.1 h
    exact hno p hp (WideAt.sameKey_eq hs)
/-- What stands at a key. -/
theorem AMap.hit (h : AMap P k E en w b L) (K : Keyed P k) (ht : P.underlying t = some (.map k e)) (hz : ∀ w, (zeroValue e).run P w = .ok z w) (hm : (x, v) ∈ L) :
    (Instr.lookup t (.map (some b)) (E.kv x) true).run P w = .ok (.tuple #[en v, .bool true]) w ∧ (Instr.lookup t (.map (some b)) (E.kv x) false).run P w = .ok (en v) w := by
  obtain ⟨es, h1, h2, h3⟩ := h
  have hkey := h3 _ hm
  obtain ⟨ha, hh⟩ := at_hit h1 h2 K hm (.held z)
  obtain ⟨u, ps, hrun, hv⟩ := h1.look_ok K ht (hz w) (show heldE z = some (.held z, []) from rfl) hkey
  obtain ⟨u2, ps2, hrun2, hv2⟩ := h1.lookup K ht (hz w) (show heldE z = some (.held z, []) from rfl) hkey
  rw [ha] at hv hv2
  rw [hh] at hrun
  unfold heldE at hv hv2
  injection hv with hv
  injection hv2 with hv2
  injection hv with hv _
  injection hv2 with hv2 _
  injection hv with hv
  injection hv2 with hv2
  subst hv hv2
  exact ⟨hrun, hrun2⟩
/-- Nothing stands there. -/
theorem AMap.miss (h : AMap P k E en w b L) (K : Keyed P k) (ht : P.underlying t = some (.map k e)) (hz : ∀ w, (zeroValue e).run P w = .ok z w) (hkey : keyOf P k (E.kv x) = some (E.kl x)) (hm : ∀ p ∈ L, E.kl p.1 ≠ E.kl x) :
    (Instr.lookup t (.map (some b)) (E.kv x) true).run P w = .ok (.tuple #[z, .bool false]) w ∧ (Instr.lookup t (.map (some b)) (E.kv x) false).run P w = .ok z w := by
  obtain ⟨es, h1, h2, h3⟩ := h
  obtain ⟨ha, hh⟩ := at_miss h2 hm (.held z)
  obtain ⟨u, ps, hrun, hv⟩ := h1.look_ok K ht (hz w) (show heldE z = some (.held z, []) from rfl) hkey
  obtain ⟨u2, ps2, hrun2, hv2⟩ := h1.lookup K ht (hz w) (show heldE z = some (.held z, []) from rfl) hkey
  rw [ha] at hv hv2
  rw [hh] at hrun
  unfold heldE at hv hv2
  injection hv with hv
  injection hv2 with hv2
  injection hv with hv _
  injection hv2 with hv2 _
  injection hv with hv
  injection hv2 with hv2
  subst hv hv2
  exact ⟨hrun, hrun2⟩
theorem AMap.len (h : AMap P k E en w b L) (ht : P.underlying t = some (.map k e)) (ty : TypeId) : (Builtin.len_ #[t] ty #[.map (some b)]).run P w = .ok (.int .i64 L.length) w := by
  obtain ⟨es, h1, h2, h3⟩ := h
  rw [h1.len ht ty, size_eq, h2.length_eq, List.length_map]
variable [DecidableEq κ]
/-- All but a key's. -/
def wo (x : κ) (L : List (κ × α)) : List (κ × α) := L.filter (fun p => decide (p.1 ≠ x))
theorem wo_map (hinj : ∀ x y, E.kl x = E.kl y → x = y) (hk : WideAt.IsKeyLit (E.kl x)) : (L.map (aent E en)).filter (ChangeMaps.notKey (E.kl x)) = (wo x L).map (aent E en) := by
  unfold wo
  induction L with
  | nil => rfl
  | cons p L ih =>
    rw [List.map_cons, List.filter_cons, List.filter_cons, ih]
    by_cases h : p.1 = x
    · have h1 : ChangeMaps.notKey (E.kl x) (aent E en p) = false := by
        refine Bool.eq_false_iff.2 fun h2 => (notKey_iff hk).1 h2 ?_
        show E.kl p.1 = _
        rw [h]
      simp [h1, h]
    · have h1 : ChangeMaps.notKey (E.kl x) (aent E en p) = true := (notKey_iff hk).2 fun h2 => h (hinj _ _ h2)
      simp [h1, h]
theorem AMap.put (h : AMap P k E en w b L) (K : Keyed P k) (ht : P.underlying t = some (.map k e)) (hinj : ∀ x y, E.kl x = E.kl y → x = y) (hn : L.length < maxLen) (hkey : keyOf P k (E.kv x) = some (E.kl x)) (v : α) :
    ∃ w', (Instr.mapUpdate t (.map (some b)) (E.kv x) (en v)).run P w = .ok () w' ∧ AMap P k E en w' b ((x, v) :: wo x L) ∧ w.grownBy w' (some b) := by
  obtain ⟨es, h1, h2, h3⟩ := h
  obtain ⟨w', hrun, ho, hm⟩ := h1.store K ht hn hkey (show heldE (en v) = some (.held (en v), []) from rfl)
  have hp : (ChangeMaps.putKey (E.kl x) (.held (en v)) es).Perm (((x, v) :: wo x L).map (aent E en)) := by
    unfold ChangeMaps.putKey
    refine (insert_perm _ _).trans ?_
    rw [List.map_cons, ← wo_map hinj (K.key hkey)]
    exact (h2.filter _).cons _
  refine ⟨w', hrun, ⟨_, ?_, hp, ?_⟩, hm.grown⟩
  · have ht := owns_tight ho
    rw [DataW.put_eq, size_eq, hp.length_eq, List.length_map] at ht
    exact ht
  · intro p hp
    rcases List.mem_cons.1 hp with rfl | hp
    · exact hkey
    · exact h3 p (List.mem_filter.1 hp).1
theorem AMap.del (h : AMap P k E en w b L) (K : Keyed P k) (ht : P.underlying t = some (.map k e)) (hinj : ∀ x y, E.kl x = E.kl y → x = y) (ty : TypeId) (hkey : keyOf P k (E.kv x) = some (E.kl x)) :
    ∃ w', (Builtin.delete_ #[t, k] ty #[.map (some b), E.kv x]).run P w = .ok (.tuple #[]) w' ∧ AMap P k E en w' b (wo x L) ∧ w.grownBy w' (some b) := by
  obtain ⟨es, h1, h2, h3⟩ := h
  obtain ⟨w', hrun, ho, hm⟩ := h1.drop K ht hkey ty
  have hp : (ChangeMaps.delKey (E.kl x) es).Perm ((wo x L).map (aent E en)) := by
    unfold ChangeMaps.delKey
    rw [← wo_map hinj (K.key hkey)]
    exact h2.filter _
  refine ⟨w', hrun, ⟨_, ?_, hp, ?_⟩, hm.grown⟩
  · have ht := owns_tight ho
    rw [DataW.del_eq, size_eq, hp.length_eq, List.length_map] at ht
    exact ht
  · exact fun p hp => h3 p (List.mem_filter.1 hp).1
omit [DecidableEq κ] in
theorem ARange.owns (h : ARange P k E en w b r L M) : AMap P k E en w b L := by
  obtain ⟨es, left, cnt, h1, h2, h3, _⟩ := h
  exact ⟨es, h1.owns, h2, h3⟩
omit [DecidableEq κ] in
theorem ARange.lt (h : ARange P k E en w b r L M) : r < w.heap.size := by
  obtain ⟨es, left, cnt, h1, _⟩ := h
  exact h1.lt
omit [DecidableEq κ] in
theorem ARange.ne (h : ARange P k E en w b r L M) : r ≠ b := by
  obtain ⟨es, left, cnt, h1, _⟩ := h
  exact h1.ne
omit [DecidableEq κ] in
theorem ARange.iter_ne {g : Nat} {u : TypeId} {cs : Array Value} (h : ARange P k E en w b r L M) (hg : Blk w g u cs) : g ≠ r := by
  obtain ⟨es, left, cnt, ⟨_, _, _, _, _, _, _, _, _, hr, _⟩, _⟩ := h
  rintro rfl
  unfold Blk at hg
  rw [hg] at hr
  cases hr
omit [DecidableEq κ] in
theorem ARange.fr {X : List Nat} (h : ARange P k E en w b r L M) (hf : Fr X w w') (hb : b ∉ X) (hr : r ∉ X) : ARange P k E en w' b r L M := by
  obtain ⟨es, left, cnt, ⟨a1, a2, a3, a4, a5, a6, a7, a8, a9, a10, a11⟩, h2⟩ := h
  exact ⟨es, left, cnt, ⟨a1, a2, a3, a4, a5, (hf.block b (lt_of_block a6) hb).trans a6, a7, a8, a9, (hf.block r (lt_of_block a10) hr).trans a10, a11⟩, h2⟩
omit [DecidableEq κ] in
theorem AMap.range (h : AMap P k E en w b L) (K : Keyed P k) (ht : P.underlying t = some (.map k e)) :
    ∃ w', (Instr.range t (.map (some b))).run P w = .ok (.pointer (some ⟨w.heap.size, 0, none⟩)) w' ∧ ARange P k E en w' b w.heap.size L L ∧ w.grownBy w' none ∧ w'.heap.size = w.heap.size + 1 := by
  obtain ⟨es, h1, h2, h3⟩ := h
  obtain ⟨w', r0, r1, r2, r3⟩ := h1.range K ht
  refine ⟨w', r0, ⟨es, _, _, r1, h2, h3, fun _ hp => hp, fun a => ?_⟩, r2, r3⟩
  obtain ⟨hd, hk⟩ := apart_of h1 K
  rw [has_eq]
  constructor
  · intro h
    obtain ⟨p, hp, hs⟩ := List.any_eq_true.1 h
    obtain ⟨q, hq, rfl⟩ := List.mem_map.1 (h2.mem_iff.1 hp)
    exact ⟨q, hq, WideAt.sameKey_eq hs⟩
  · rintro ⟨p, hp, rfl⟩
    have hme : aent E en p ∈ es := h2.mem_iff.2 (List.mem_map.2 ⟨p, hp, rfl⟩)
    exact List.any_eq_true.2 ⟨_, hme, WideAt.sameKey_self (hk _ hme)⟩
theorem ARange.next (h : ARange P k E en w b r L M) (K : Keyed P k) (hinj : ∀ x y, E.kl x = E.kl y → x = y) (ty : TypeId) :
    (M = [] ∧ (Instr.next (.pointer (some ⟨r, 0, none⟩)) false ty).run P w = .ok (.tuple #[.bool false]) w) ∨
    ∃ x v w', (x, v) ∈ M ∧ (Instr.next (.pointer (some ⟨r, 0, none⟩)) false ty).run P w = .ok (.tuple #[.bool true, E.kv x, en v]) w' ∧ ARange P k E en w' b r L (wo x M) ∧ w'.rangeLeft b r < w.rangeLeft b r ∧
      w.grownBy w' (some r) ∧ w'.heap.size = w.heap.size ∧ (Instr.entry (.pointer (some ⟨r, 0, none⟩))).run P w' = .ok (.tuple #[E.kv x, en v]) w' := by
  obtain ⟨es, left, cnt, h1, h2, h3, h4, h5⟩ := h
  rcases h1.next K ty with ⟨h0, hl, hrun⟩ | ⟨key, v, kl, y, w', cnt', hkey, hlk, hv, hat, hrun, hrg, hlt, hgr, hsz, hen⟩
  · refine .inl ⟨?_, hrun⟩
    rcases M with _ | ⟨p, M⟩
    · rfl
    · have := (h5 (E.kl p.1)).2 ⟨p, List.mem_cons_self .., rfl⟩
      rw [hl] at this
      cases this
  · obtain ⟨⟨x, v0⟩, hp, rfl⟩ := (h5 kl).1 hlk
    have hpL := h4 _ hp
    obtain rfl := K.inj hkey (h3 _ hpL)
    have ha := (at_hit h1.owns h2 K hpL (.held v)).1
    unfold heldE at hv
    injection hv with hv
    subst hv
    rw [hat] at ha
    injection ha with ha
    subst ha
    refine .inr ⟨x, v0, w', hp, hrun, ⟨es, _, cnt', hrg, h2, h3, fun p hq => h4 p (List.mem_filter.1 hq).1, fun a => ?_⟩, by rw [hrg.left_eq, h1.left_eq]; exact hlt, hgr, hsz, hen⟩
    constructor
    · intro hh
      simp only [Bool.and_eq_true, Bool.not_eq_true'] at hh
      obtain ⟨q, hq, rfl⟩ := (h5 a).1 hh.1
      refine ⟨q, List.mem_filter.2 ⟨hq, decide_eq_true fun h6 => ?_⟩, rfl⟩
      rw [h6, WideAt.sameKey_self (K.key hkey)] at hh
      cases hh.2
    · rintro ⟨q, hq, rfl⟩
      obtain ⟨hq, hne⟩ := List.mem_filter.1 hq
      have hne2 : (E.kl q.1).sameKey (E.kl x) = false := sameKey_ne fun h6 => (of_decide_eq_true hne) (hinj _ _ h6)
      show (left _ && !_) = true
      rw [(h5 _).2 ⟨q, hq, rfl⟩, hne2]
      rfl
/-- What has just come is struck from the map. -/
theorem ARange.drop (h : ARange P k E en w b r L M) (K : Keyed P k) (ht : P.underlying t = some (.map k e)) (hinj : ∀ x y, E.kl x = E.kl y → x = y) (ty : TypeId) (hkey : keyOf P k (E.kv x) = some (E.kl x)) (hM : ∀ p ∈ M, p.1 ≠ x) :
    ∃ w', (Builtin.delete_ #[t, k] ty #[.map (some b), E.kv x]).run P w = .ok (.tuple #[]) w' ∧ ARange P k E en w' b r (wo x L) M ∧ w'.rangeLeft b r ≤ w.rangeLeft b r ∧ w.grownBy w' (some b) := by
  obtain ⟨es, left, cnt, h1, h2, h3, h4, h5⟩ := h
  obtain ⟨w', cnt', hrun, hrg, hle, hm⟩ := h1.drop K ht hkey ty
  have hp : (ChangeMaps.delKey (E.kl x) es).Perm ((wo x L).map (aent E en)) := by
    unfold ChangeMaps.delKey
    rw [← wo_map hinj (K.key hkey)]
    exact h2.filter _
  refine ⟨w', hrun, ⟨_, fun z => left z && !z.sameKey (E.kl x), cnt', ?_, hp, fun p hp => h3 p (List.mem_filter.1 hp).1, fun p hq => List.mem_filter.2 ⟨h4 p hq, decide_eq_true (hM p hq)⟩, fun a => ?_⟩, by rw [hrg.left_eq, h1.left_eq]; exact hle, hm.grown⟩
  · obtain ⟨a1, a2, a3, a4, a5, a6, a7, a8, a9, a10, a11⟩ := hrg
    refine ⟨a1, a2, a3, a4, a5, a6, a7, ?_, by rw [← a9, DataW.del_eq], a10, a11⟩
    have e1 : a1.size = ((a1.toList.map (WideElems.rg P k heldE)).foldr DataW.insert []).length := by rw [length_sorted]; simp
    rw [e1]
    rw [DataW.del_eq] at a9
    injection a9 with a9
    rw [← a9, hp.length_eq, List.length_map]
    exact Nat.le_refl _
  · constructor
    · intro hh
      simp only [Bool.and_eq_true, Bool.not_eq_true'] at hh
      exact (h5 a).1 hh.1
    · rintro ⟨q, hq, rfl⟩
      have hne2 : (E.kl q.1).sameKey (E.kl x) = false := sameKey_ne fun h6 => hM q hq (hinj _ _ h6)
      show (left _ && !_) = true
      rw [(h5 _).2 ⟨q, hq, rfl⟩, hne2]
      rfl
theorem perm_pick : ∀ {M : List (κ × α)}, (x, v) ∈ M → M.Pairwise (fun p q => p.1 ≠ q.1) → M.Perm ((x, v) :: wo x M)
  | [], h, _ => by cases h
  | p :: M, h, hd => by
    obtain ⟨h1, h2⟩ := List.pairwise_cons.1 hd
    rcases List.mem_cons.1 h with rfl | h
    · have e1 : wo x ((x, v) :: M) = M := by
        unfold wo
        rw [List.filter_cons, if_neg (by simp)]
        exact List.filter_eq_self.2 fun q hq => decide_eq_true (Ne.symm (h1 q hq))
      rw [e1]
    · have hne : p.1 ≠ x := h1 _ h
      have e1 : wo x (p :: M) = p :: wo x M := by
        unfold wo
        rw [List.filter_cons, if_pos (by simpa using hne)]
      rw [e1]
      exact ((perm_pick h h2).cons p).trans (List.Perm.swap _ _ _)
end
end
section
variable {κ α : Type} [DecidableEq κ] {P : Program} {E : KE κ} {en : α → Value} {L M : List (κ × α)} {w : World} {ops : Array Oper} {rest : List Oper} {o : Oper} {a : Act} {Q : Exit → Act → World → Prop}
omit [DecidableEq κ] in
theorem wpa_range (hg : o.guard = none) (m : Operand) (t : TypeId) (hop : o.op = Op.range t m) (k e : TypeId) (K : Keyed P k) (ht : P.underlying t = some (.map k e)) (b : Nat)
    (hm : a.eval m = .map (some b)) (hown : AMap P k E en w b L)
    (hK : ∀ w', ARange P k E en w' b w.heap.size L L → w.grownBy w' none → w'.heap.size = w.heap.size + 1 → wpList P ops Q rest (a.put o.dst (.pointer (some ⟨w.heap.size, 0, none⟩))) w') :
    wpList P ops Q (o :: rest) a w := by
  refine wpList_plain hg fun K' hK' => ?_
  obtain ⟨w', hrun, r1, r2, r3⟩ := hown.range K ht
  unfold Oper.wp
  simp [execOp, hop, hm, hrun, Result.andThen]
  exact hK' _ _ (hK w' r1 r2 r3)
theorem wpa_next (hg : o.guard = none) (it : Operand) (hop : o.op = Op.next it false) (k : TypeId) (K : Keyed P k) (hinj : ∀ x y, E.kl x = E.kl y → x = y) (b r : Nat)
    (hit : a.eval it = .pointer (some ⟨r, 0, none⟩)) (h : ARange P k E en w b r L M)
    (hDone : M = [] → wpList P ops Q rest (a.put o.dst (.tuple #[.bool false])) w)
    (hMore : ∀ (x : κ) (v : α) (w' : World), (x, v) ∈ M → ARange P k E en w' b r L (wo x M) → w'.rangeLeft b r < w.rangeLeft b r → w.grownBy w' (some r) → w'.heap.size = w.heap.size →
      (Instr.entry (.pointer (some ⟨r, 0, none⟩))).run P w' = .ok (.tuple #[E.kv x, en v]) w' → wpList P ops Q rest (a.put o.dst (.tuple #[.bool true, E.kv x, en v])) w') :
    wpList P ops Q (o :: rest) a w := by
  refine wpList_plain hg fun K' hK' => ?_
  unfold Oper.wp
  rcases h.next K hinj o.type with ⟨h0, hrun⟩ | ⟨x, v, w', hxm, hrun, hrg, hlt, hgr, hsz, hen⟩
  · simp [execOp, hop, hit, hrun, Result.andThen]
    exact hK' _ _ (hDone h0)
  · simp [execOp, hop, hit, hrun, Result.andThen]
    exact hK' _ _ (hMore x v w' hxm hrg hlt hgr hsz hen)
end
end Go.Proofs.YtnolnhpmpjgnaaaGreatDoor
