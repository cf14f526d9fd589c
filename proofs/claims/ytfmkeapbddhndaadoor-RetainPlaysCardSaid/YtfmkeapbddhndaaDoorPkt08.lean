/- What is proved here: packets as plain values, and where their parts stand; an argument that is a packet is one. No conditions. -/
import Derived.Test.YtfmkeapbddhndaaDoorPrp
import Derived.Deep.WholeRow
import Derived.Deep.MidRow
namespace Go.Proofs.YtfmkeapbddhndaaDoor
set_option maxRecDepth 100000
open Go.ChangeShapes Go.WideShapes Go.RowKit Go.Deep Go.Extern.Stop Go.Stop Go.Extern
/-- A subscription. -/
structure SV where
  filter : ByteArray
  qos : Int
  noLocal : Bool
  asIs : Bool
  retain : Int
def SV.cells (x : SV) : List Value := [.string x.filter, .int .i64 x.qos, .bool x.noLocal, .bool x.asIs, .int .i64 x.retain]
def sv0 : SV := ⟨⟨#[]⟩, 0, false, false, 0⟩
def tCell (s : ByteArray) : List Value := [.string s]
def iCell (n : Int) : List Value := [.int .i64 n]
/-- A packet. -/
structure Pk where
  kind : Int
  id : Int
  reason : Int
  props : PL
  clean : Bool
  keep : Int
  client : ByteArray
  wHas : Bool
  wTopic : ByteArray
  wPay : ByteArray
  wQos : Int
  wRetain : Bool
  wProps : PL
  hasUser : Bool
  user : ByteArray
  hasPass : Bool
  pass : ByteArray
  present : Bool
  topic : ByteArray
  payload : ByteArray
  qos : Int
  retain : Bool
  dup : Bool
  subs : List SV
  filters : List ByteArray
  codes : List Int
/-- Where its lists stand, and their capacities. -/
structure PkA where
  pa : Option Addr
  pc : Nat
  wa : Option Addr
  wc : Nat
  sa : Option Addr
  sc : Nat
  fa : Option Addr
  fc : Nat
  ca : Option Addr
  cc : Nat
def pk0 : Pk := ⟨0, 0, 0, [], false, 0, ⟨#[]⟩, false, ⟨#[]⟩, ⟨#[]⟩, 0, false, [], false, ⟨#[]⟩, false, ⟨#[]⟩, false, ⟨#[]⟩, ⟨#[]⟩, 0, false, false, [], [], []⟩
def pa0 : PkA := ⟨none, 0, none, 0, none, 0, none, 0, none, 0⟩
/-- A packet that has no more than a kind, a number, a reason and properties. -/
def pkR (kind id reason : Int) (L : PL) : Pk := ⟨kind, id, reason, L, false, 0, ⟨#[]⟩, false, ⟨#[]⟩, ⟨#[]⟩, 0, false, [], false, ⟨#[]⟩, false, ⟨#[]⟩, false, ⟨#[]⟩, ⟨#[]⟩, 0, false, false, [], [], []⟩
def paR (a : Option Addr) (c : Nat) : PkA := ⟨a, c, none, 0, none, 0, none, 0, none, 0⟩
def Pk.cells (p : Pk) (A : PkA) : Array Value := #[.int .i64 p.kind, .int .i64 p.id, .int .i64 p.reason, .slice A.pa p.props.length A.pc, .bool p.clean, .int .i64 p.keep, .string p.client,
  .bool p.wHas, .string p.wTopic, .string p.wPay, .int .i64 p.wQos, .bool p.wRetain, .slice A.wa p.wProps.length A.wc, .bool p.hasUser, .string p.user, .bool p.hasPass, .string p.pass, .bool p.present,
  .string p.topic, .string p.payload, .int .i64 p.qos, .bool p.retain, .bool p.dup, .slice A.sa p.subs.length A.sc, .slice A.fa p.filters.length A.fc, .slice A.ca p.codes.length A.cc]
def Pk.agg (p : Pk) (A : PkA) : Value := .agg (p.cells A)
theorem pk_size (p : Pk) (A : PkA) : (p.cells A).size = 26 := rfl
theorem pk_one (p : Pk) (A : PkA) : (p.cells A).all (·.oneCell') = true := by
  unfold Pk.cells
  simp [Value.oneCell']
theorem pk_zero : pk0.agg pa0 = .agg #[.int .i64 0, .int .i64 0, .int .i64 0, .slice none 0 0, .bool false, .int .i64 0, .string ⟨#[]⟩, .bool false, .string ⟨#[]⟩, .string ⟨#[]⟩, .int .i64 0, .bool false, .slice none 0 0, .bool false, .string ⟨#[]⟩, .bool false, .string ⟨#[]⟩, .bool false, .string ⟨#[]⟩, .string ⟨#[]⟩, .int .i64 0, .bool false, .bool false, .slice none 0 0, .slice none 0 0, .slice none 0 0] := rfl
/-- These cells stand at an address, if there are any, in a block below B or in one of a type. -/
def CIn (w : World) (B : Nat) (t : TypeId) (A : Option Addr) (cs : List Value) : Prop :=
  0 < cs.length → ∃ g off, A = some ⟨g, off, none⟩ ∧ (∀ (j : Nat) (u : Value), cs[j]? = some u → w.cell? ⟨g, off + j, none⟩ = some u) ∧ (g < B ∨ ∃ xs, w.heap[g]? = some (.cells xs t (0, 0)))
section
variable {X : List Nat} {w w' : World} {B B' : Nat} {t : TypeId} {A : Option Addr} {cs : List Value}
theorem CIn.nil (w : World) (B : Nat) (t : TypeId) (A : Option Addr) : CIn w B t A [] := fun h => absurd h (by simp)
theorem CIn.fr (h : CIn w B t A cs) (hf : Fr X w w') (hX : ∀ g ∈ X, B ≤ g ∧ ∀ xs, w.heap[g]? ≠ some (.cells xs t (0, 0))) : CIn w' B t A cs := by
  intro hp
  obtain ⟨g, off, e, hc, hg⟩ := h hp
  have hn : g ∉ X := fun hm => by
    rcases hg with hg | ⟨xs, hg⟩
    · have := (hX g hm).1; omega
    · exact (hX g hm).2 xs hg
  have hb := hf.block g (lt_of_cell' (hc 0 _ (List.getElem?_eq_getElem hp))) hn
  exact ⟨g, off, e, fun j u hj => (World.cell?_of_block (w := w) hb).trans (hc j u hj), hg.imp id fun ⟨xs, hh⟩ => ⟨xs, hb.trans hh⟩⟩
theorem CIn.below (h : CIn w B t A cs) (hb : Below w.heap.size w w') : CIn w' B t A cs := h.fr (X := []) (Fr.of_below hb) (fun g hg => by cases hg)
theorem CIn.mono (h : CIn w B t A cs) (hB : B ≤ B') : CIn w B' t A cs := fun hp => by
  obtain ⟨g, off, e, hc, hg⟩ := h hp
  exact ⟨g, off, e, hc, hg.imp (fun x => by omega) id⟩
end
section
variable {w w' : World} {B B' : Nat} {A : PkA} {p : Pk}
end
/-- The cells of a row, one by one. -/
theorem flat_get {X : Type} (x0 : X) (cl : X → List Value) (k : Nat) (hk : 0 < k) (hcl : ∀ x, (cl x).length = k) : ∀ (L : List X) (j : Nat) (u : Value), (L.flatMap cl)[j]? = some u → j / k < L.length ∧ (cl (L.getD (j / k) x0))[j % k]? = some u := by
  intro L
  induction L with
  | nil => intro j u h; simp at h
  | cons x L ih =>
    intro j u h
    rw [List.flatMap_cons] at h
    by_cases hj : j < k
    · rw [List.getElem?_append_left (by rw [hcl]; exact hj)] at h
      rw [Nat.div_eq_of_lt hj, Nat.mod_eq_of_lt hj]
      exact ⟨by simp, h⟩
    · rw [List.getElem?_append_right (by rw [hcl]; omega), hcl] at h
      obtain ⟨h1, h2⟩ := ih _ _ h
      have e1 : j / k = (j - k) / k + 1 := by
        rw [Nat.div_eq_sub_div hk (by omega)]
      have e2 : j % k = (j - k) % k := Nat.mod_eq_sub_mod (by omega)
      rw [e1, e2]
      exact ⟨by simp; omega, h2⟩
theorem flat_len {X : Type} (cl : X → List Value) (k : Nat) (hcl : ∀ x, (cl x).length = k) (L : List X) : (L.flatMap cl).length = L.length * k := by
  induction L with
  | nil => simp
  | cons x L ih => rw [List.flatMap_cons, List.length_append, ih, hcl, List.length_cons, Nat.succ_mul]; omega
section
variable {H : Type} {enc : TypeId × Value → H} {P : Program} {w : World}
/-- A slice of what has so many cells. -/
theorem trod_row {X : Type} (x0 : X) (cl : X → List Value) (t e : TypeId) (k : Nat) (hk : 0 < k) (hcl : ∀ x, (cl x).length = k) (ht : P.underlying t = some (.slice e)) (hc : P.cellsOf e = k) {b1 n : Nat} {sp : Nat → Bool} {held : Bool}
    (hel : ∀ (cs : List Value) (n : Nat) (y : DataW H × List MemPlace), cs.length = k → DataW.trod enc P w b1 sp held n e cs = some y → ∃ x, cs = cl x) {u : Value} {y : DataW H × List MemPlace} (h : DataW.trod enc P w b1 sp held n t [u] = some y) :
    ∃ a cap, ∃ L : List X, u = .slice a L.length cap ∧ CIn w w.heap.size e a (L.flatMap cl) ∧ L.length ≤ cap ∧ L.length ≤ 9223372036854775807 := by
  rcases open_slice ht h with ⟨hcs, _⟩ | ⟨a, len, cap, m, n', D, Pl, hcs, hb, hl, hm, hmm, hx, hi⟩
  · obtain rfl := (List.cons.inj hcs).1
    exact ⟨none, 0, [], rfl, CIn.nil _ _ _ _, Nat.le_refl _, by simp⟩
  · obtain rfl := (List.cons.inj hcs).1
    have hlm : len ≤ m := by rw [hmm]; split <;> omega
    have key : ∀ i, ∃ x : X, i < len → ∀ j, j < k → w.cell? (a.add (i * k + j)) = (cl x)[j]? := by
      intro i
      by_cases hil : i < len
      · obtain ⟨cs', hc', ht'⟩ := hi i (by omega)
        rw [hc] at hc'
        obtain ⟨_, hcl', hat⟩ := World.cells?_some hc'
        obtain ⟨x, rfl⟩ := hel cs' _ _ hcl' ht'
        exact ⟨x, fun _ j hj => by rw [← Go.Deep.add_add]; exact hat j hj⟩
      · exact ⟨x0, fun h => absurd h hil⟩
    obtain ⟨xs, hxs⟩ := Classical.axiomOfChoice key
    have hlen : ((List.range len).map xs).length = len := by rw [List.length_map, List.length_range]
    have hget : ∀ i, i < len → ((List.range len).map xs).getD i x0 = xs i := fun i hi => by
      rw [List.getD_eq_getElem?_getD, List.getElem?_map, List.getElem?_range hi]
      rfl
    refine ⟨some a, cap, (List.range len).map xs, by rw [hlen], fun hp => ?_, by rw [hlen]; exact hl, by rw [hlen]; unfold maxLen at hm; omega⟩
    rw [flat_len cl k hcl, hlen] at hp
    have hp0 : 0 < len := Nat.pos_of_mul_pos_right hp
    obtain ⟨u0, hu0⟩ : ∃ u0, (cl (xs 0))[0]? = some u0 := ⟨_, List.getElem?_eq_getElem (by rw [hcl]; exact hk)⟩
    have hc0 := (hxs 0 hp0 0 hk).trans hu0
    obtain ⟨b, off, spot⟩ := a
    have hspot : spot = none := by simpa [Addr.add] using World.cell?_spot hc0
    subst hspot
    have hq : ∀ i, i < len → ∀ j, j < k → w.cell? ⟨b, off + (i * k + j), none⟩ = (cl (xs i))[j]? := fun i hi j hj => by
      have := hxs i hi j hj
      rw [add_plain] at this
      exact this
    refine ⟨b, off, rfl, fun j u hj => ?_, .inl (lt_of_cell' ((hq 0 hp0 0 hk).trans hu0))⟩
    obtain ⟨h1, h2⟩ := flat_get x0 cl k hk hcl _ _ _ hj
    rw [hlen] at h1
    rw [hget _ h1] at h2
    have h3 := hq _ h1 (j % k) (Nat.mod_lt _ hk)
    rw [Nat.mul_comm, Nat.div_add_mod] at h3
    exact h3.trans h2
end
theorem PIn.of_cells {w : World} {B : Nat} {A : Option Addr} {L : PL} (h : CIn w B 109 A (L.flatMap PV.cells)) : PIn w B A L := by
  intro hp
  obtain ⟨g, off, e, hc, hg⟩ := h (by rw [flat_len PV.cells 4 (fun _ => rfl)]; omega)
  refine ⟨g, off, e, fun k hk => ?_, hg⟩
  obtain ⟨q1, q2, q3, q4⟩ := pcs_get L k hk
  have h1 := hc _ _ q1
  have h2 := hc _ _ q2
  have h3 := hc _ _ q3
  have h4 := hc _ _ q4
  rw [← Nat.add_assoc] at h2 h3 h4
  exact ⟨h1, h2, h3, h4⟩
theorem list5 (cs : List Value) (h : cs.length = 5) : ∃ u0 u1 u2 u3 u4, cs = [u0, u1, u2, u3, u4] := by
  rcases cs with _ | ⟨u0, _ | ⟨u1, _ | ⟨u2, _ | ⟨u3, _ | ⟨u4, _ | ⟨u5, cs⟩⟩⟩⟩⟩⟩ <;> simp at h
  exact ⟨u0, u1, u2, u3, u4, rfl⟩
theorem list4 (cs : List Value) (h : cs.length = 4) : ∃ u0 u1 u2 u3, cs = [u0, u1, u2, u3] := by
  rcases cs with _ | ⟨u0, _ | ⟨u1, _ | ⟨u2, _ | ⟨u3, _ | ⟨u4, cs⟩⟩⟩⟩⟩ <;> simp at h
  exact ⟨u0, u1, u2, u3, rfl⟩
theorem list6 (cs : List Value) (h : cs.length = 6) : ∃ u0 u1 u2 u3 u4 u5, cs = [u0, u1, u2, u3, u4, u5] := by
  rcases cs with _ | ⟨u0, _ | ⟨u1, _ | ⟨u2, _ | ⟨u3, _ | ⟨u4, _ | ⟨u5, _ | ⟨u6, cs⟩⟩⟩⟩⟩⟩⟩ <;> simp at h
  exact ⟨u0, u1, u2, u3, u4, u5, rfl⟩
theorem cut_cells (cs : List Value) (k : Nat) (h : k < cs.length) : ∃ u cs', cs = u :: cs' ∧ cs'.length + 1 = cs.length := by
  rcases cs with _ | ⟨u, cs'⟩
  · simp at h
  · exact ⟨u, cs', rfl, rfl⟩
section
variable {H : Type} {enc : TypeId × Value → H} {w : World}
theorem cp_prop : Tryd.prog.cellsOf 109 = 4 := by kernel_rfl
theorem cp_str : Tryd.prog.cellsOf 9 = 1 := by kernel_rfl
theorem cp_int : Tryd.prog.cellsOf 3 = 1 := by kernel_rfl
variable {b1 n : Nat} {sp : Nat → Bool} {held : Bool}
theorem trod_prop {cs : List Value} {y : DataW H × List MemPlace} (hl : cs.length = 4) (h : DataW.trod enc Tryd.prog w b1 sp held n 109 cs = some y) : ∃ x : PV, cs = x.cells := by
  obtain ⟨u0, u1, u2, u3, rfl⟩ := list4 cs hl
  obtain ⟨ys, n2, _, _, _, hyl, hfl⟩ := DataW.trod_struct Tryd.underlying109 h
  have hy : ∀ j, j < 4 → ∃ z, ys[j]? = some z := fun j hj => ⟨_, List.getElem?_eq_getElem (by rw [hyl]; exact hj)⟩
  obtain ⟨t0, x0⟩ := hy 0 (by omega)
  obtain ⟨t1, x1⟩ := hy 1 (by omega)
  obtain ⟨t2, x2⟩ := hy 2 (by omega)
  obtain ⟨t3, x3⟩ := hy 3 (by omega)
  obtain ⟨v0, e0, _⟩ := DataW.trod_int Tryd.underlying3 (cs := [u0]) ((hfl 0 _ rfl).trans x0)
  obtain ⟨v1, e1, _⟩ := DataW.trod_int Tryd.underlying3 (cs := [u1]) ((hfl 1 _ rfl).trans x1)
  obtain ⟨v2, e2, _⟩ := DataW.trod_string Tryd.underlying9 (cs := [u2]) ((hfl 2 _ rfl).trans x2)
  obtain ⟨v3, e3, _⟩ := DataW.trod_string Tryd.underlying9 (cs := [u3]) ((hfl 3 _ rfl).trans x3)
  obtain rfl := (List.cons.inj e0).1
  obtain rfl := (List.cons.inj e1).1
  obtain rfl := (List.cons.inj e2).1
  obtain rfl := (List.cons.inj e3).1
  exact ⟨⟨v0, v1, v2, v3⟩, rfl⟩
theorem trod_text {cs : List Value} {y : DataW H × List MemPlace} (_hl : cs.length = 1) (h : DataW.trod enc Tryd.prog w b1 sp held n 9 cs = some y) : ∃ x : ByteArray, cs = tCell x := by
  obtain ⟨v, e, _⟩ := DataW.trod_string Tryd.underlying9 h
  exact ⟨v, e⟩
theorem trod_num {cs : List Value} {y : DataW H × List MemPlace} (_hl : cs.length = 1) (h : DataW.trod enc Tryd.prog w b1 sp held n 3 cs = some y) : ∃ x : Int, cs = iCell x := by
  obtain ⟨v, e, _⟩ := DataW.trod_int Tryd.underlying3 h
  exact ⟨v, e⟩
theorem trod_props08 {u : Value} {y : DataW H × List MemPlace} (h : DataW.trod enc Tryd.prog w b1 sp held n 55 [u] = some y) : ∃ a cap, ∃ L : PL, u = .slice a L.length cap ∧ PIn w w.heap.size a L ∧ L.length ≤ cap ∧ L.length ≤ 9223372036854775807 := by
  obtain ⟨a, cap, L, h1, h2, h3, h4⟩ := trod_row p0 PV.cells 55 109 4 (by decide) (fun _ => rfl) Tryd.underlying55 cp_prop (fun cs n y hl h => trod_prop hl h) h
  exact ⟨a, cap, L, h1, PIn.of_cells h2, h3, h4⟩
end
set_option maxHeartbeats 4000000 in
theorem list26 (cs : List Value) (h : cs.length = 26) : ∃ u0 u1 u2 u3 u4 u5 u6 u7 u8 u9 u10 u11 u12 u13 u14 u15 u16 u17 u18 u19 u20 u21 u22 u23 u24 u25, cs = [u0, u1, u2, u3, u4, u5, u6, u7, u8, u9, u10, u11, u12, u13, u14, u15, u16, u17, u18, u19, u20, u21, u22, u23, u24, u25] := by
  rcases cs with _ | ⟨u0, _ | ⟨u1, _ | ⟨u2, _ | ⟨u3, _ | ⟨u4, _ | ⟨u5, _ | ⟨u6, _ | ⟨u7, _ | ⟨u8, _ | ⟨u9, _ | ⟨u10, _ | ⟨u11, _ | ⟨u12, _ | ⟨u13, _ | ⟨u14, _ | ⟨u15, _ | ⟨u16, _ | ⟨u17, _ | ⟨u18, _ | ⟨u19, _ | ⟨u20, _ | ⟨u21, _ | ⟨u22, _ | ⟨u23, _ | ⟨u24, _ | ⟨u25, _ | ⟨u26, cs⟩⟩⟩⟩⟩⟩⟩⟩⟩⟩⟩⟩⟩⟩⟩⟩⟩⟩⟩⟩⟩⟩⟩⟩⟩⟩⟩ <;> simp at h
  exact ⟨u0, u1, u2, u3, u4, u5, u6, u7, u8, u9, u10, u11, u12, u13, u14, u15, u16, u17, u18, u19, u20, u21, u22, u23, u24, u25, rfl⟩
section
variable {H : Type} {enc : TypeId × Value → H} {w : World} {b1 n : Nat} {sp : Nat → Bool} {held : Bool}
end
end Go.Proofs.YtfmkeapbddhndaaDoor
