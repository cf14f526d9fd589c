/- What is proved here: packets as plain values, and where their parts stand; an argument that is a packet is one. No conditions. What is proved here: what making, storing and loading a whole packet does, as laws for a walk. No conditions but those that each law names. What is proved here: more laws on whole packets for a walk. No conditions but those that each law names. -/
import Derived.Test.YtpaalhhadjihlaaPrp
import Derived.Deep.WholeRow
import Derived.Deep.MidRow
namespace Go.Proofs.Ytpaalhhadjihlaa
set_option maxRecDepth 100000
open Go.ChangeShapes Go.WideShapes Go.RowKit Go.Deep Go.Extern.Stop Go.Stop Go.Extern
/-- A subscription. -/
structure SV where
  filter : ByteArray
  qos : Int
  noLocal : Bool
  asIs : Bool
  retain : Int
def SV.cells (x : SV) : List Value := [.string x.filter, .int .i64 x.qos, .bool x.noLocal, .bool x.asIs, .int .i64 x.retain]
def sv0 : SV := ⟨⟨#[]⟩, 0, false, false, 0⟩
def tCell (s : ByteArray) : List Value := [.string s]
def iCell (n : Int) : List Value := [.int .i64 n]
/-- A packet. -/
structure Pk where
  kind : Int
  id : Int
  reason : Int
  props : PL
  clean : Bool
  keep : Int
  client : ByteArray
  wHas : Bool
  wTopic : ByteArray
  wPay : ByteArray
  wQos : Int
  wRetain : Bool
  wProps : PL
  hasUser : Bool
  user : ByteArray
  hasPass : Bool
  pass : ByteArray
  present : Bool
  topic : ByteArray
  payload : ByteArray
  qos : Int
  retain : Bool
  dup : Bool
  subs : List SV
  filters : List ByteArray
  codes : List Int
/-- Where its lists stand, and their capacities. -/
structure PkA where
  pa : Option Addr
  pc : Nat
  wa : Option Addr
  wc : Nat
  sa : Option Addr
  sc : Nat
  fa : Option Addr
  fc : Nat
  ca : Option Addr
  cc : Nat
def pk0 : Pk := ⟨0, 0, 0, [], false, 0, ⟨#[]⟩, false, ⟨#[]⟩, ⟨#[]⟩, 0, false, [], false, ⟨#[]⟩, false, ⟨#[]⟩, false, ⟨#[]⟩, ⟨#[]⟩, 0, false, false, [], [], []⟩
def pa0 : PkA := ⟨none, 0, none, 0, none, 0, none, 0, none, 0⟩
/-- A packet that has no more than a kind, a number, a reason and properties. -/
def pkR (kind id reason : Int) (L : PL) : Pk := ⟨kind, id, reason, L, false, 0, ⟨#[]⟩, false, ⟨#[]⟩, ⟨#[]⟩, 0, false, [], false, ⟨#[]⟩, false, ⟨#[]⟩, false, ⟨#[]⟩, ⟨#[]⟩, 0, false, false, [], [], []⟩
def paR (a : Option Addr) (c : Nat) : PkA := ⟨a, c, none, 0, none, 0, none, 0, none, 0⟩
def Pk.cells (p : Pk) (A : PkA) : Array Value := #[.int .i64 p.kind, .int .i64 p.id, .int .i64 p.reason, .slice A.pa p.props.length A.pc, .bool p.clean, .int .i64 p.keep, .string p.client,
  .bool p.wHas, .string p.wTopic, .string p.wPay, .int .i64 p.wQos, .bool p.wRetain, .slice A.wa p.wProps.length A.wc, .bool p.hasUser, .string p.user, .bool p.hasPass, .string p.pass, .bool p.present,
  .string p.topic, .string p.payload, .int .i64 p.qos, .bool p.retain, .bool p.dup, .slice A.sa p.subs.length A.sc, .slice A.fa p.filters.length A.fc, .slice A.ca p.codes.length A.cc]
def Pk.agg (p : Pk) (A : PkA) : Value := .agg (p.cells A)
theorem pk_size (p : Pk) (A : PkA) : (p.cells A).size = 26 := rfl
theorem pk_one (p : Pk) (A : PkA) : (p.cells A).all (·.oneCell') = true := by
  unfold Pk.cells
  simp [Value.oneCell']
theorem pk_zero : pk0.agg pa0 = .agg #[.int .i64 0, .int .i64 0, .int .i64 0, .slice none 0 0, .bool false, .int .i64 0, .string ⟨#[]⟩, .bool false, .string ⟨#[]⟩, .string ⟨#[]⟩, .int .i64 0, .bool false, .slice none 0 0, .bool false, .string ⟨#[]⟩, .bool false, .string ⟨#[]⟩, .bool false, .string ⟨#[]⟩, .string ⟨#[]⟩, .int .i64 0, .bool false, .bool false, .slice none 0 0, .slice none 0 0, .slice none 0 0] := rfl
/-- These cells stand at an address, if there are any, in a block below B or in one of a type. -/
def CIn (w : World) (B : Nat) (t : TypeId) (A : Option Addr) (cs : List Value) : Prop :=
  0 < cs.length → ∃ g off, A = some ⟨g, off, none⟩ ∧ (∀ (j : Nat) (u : Value), cs[j]? = some u → w.cell? ⟨g, off + j, none⟩ = some u) ∧ (g < B ∨ ∃ xs, w.heap[g]? = some (.cells xs t (0, 0)))
section
variable {X : List Nat} {w w' : World} {B B' : Nat} {t : TypeId} {A : Option Addr} {cs : List Value}
theorem CIn.nil (w : World) (B : Nat) (t : TypeId) (A : Option Addr) : CIn w B t A [] := fun h => absurd h (by simp)
theorem CIn.fr (h : CIn w B t A cs) (hf : Fr X w w') (hX : ∀ g ∈ X, B ≤ g ∧ ∀ xs, w.heap[g]? ≠ some (.cells xs t (0, 0))) : CIn w' B t A cs := by
  intro hp
  obtain ⟨g, off, e, hc, hg⟩ := h hp
  have hn : g ∉ X := fun hm => by
    rcases hg with hg | ⟨xs, hg⟩
    · have := (hX g hm).1; omega
    · exact (hX g hm).2 xs hg
  have hb := hf.block g (lt_of_cell' (hc 0 _ (List.getElem?_eq_getElem hp))) hn
  exact ⟨g, off, e, fun j u hj => (World.cell?_of_block (w := w) hb).trans (hc j u hj), hg.imp id fun ⟨xs, hh⟩ => ⟨xs, hb.trans hh⟩⟩
theorem CIn.below (h : CIn w B t A cs) (hb : Below w.heap.size w w') : CIn w' B t A cs := h.fr (X := []) (Fr.of_below hb) (fun g hg => by cases hg)
theorem CIn.mono (h : CIn w B t A cs) (hB : B ≤ B') : CIn w B' t A cs := fun hp => by
  obtain ⟨g, off, e, hc, hg⟩ := h hp
  exact ⟨g, off, e, hc, hg.imp (fun x => by omega) id⟩
end
/-- The parts of a packet stand where it says. -/
structure PkIn (w : World) (B : Nat) (A : PkA) (p : Pk) : Prop where
  pr : PIn w B A.pa p.props
  pc : p.props.length ≤ A.pc
  wr : PIn w B A.wa p.wProps
  wc : p.wProps.length ≤ A.wc
  sb : CIn w B 110 A.sa (p.subs.flatMap SV.cells)
  fl : CIn w B 9 A.fa (p.filters.flatMap tCell)
  cd : CIn w B 3 A.ca (p.codes.flatMap iCell)
section
variable {w w' : World} {B B' : Nat} {A : PkA} {p : Pk}
theorem PkIn.below (h : PkIn w B A p) (hb : Below w.heap.size w w') : PkIn w' B A p := ⟨h.pr.below hb, h.pc, h.wr.below hb, h.wc, h.sb.below hb, h.fl.below hb, h.cd.below hb⟩
theorem PkIn.mono (h : PkIn w B A p) (hB : B ≤ B') : PkIn w B' A p := ⟨h.pr.mono hB, h.pc, h.wr.mono hB, h.wc, h.sb.mono hB, h.fl.mono hB, h.cd.mono hB⟩
theorem PkIn.ofR {kind id reason : Int} {L : PL} {a : Option Addr} {c : Nat} (h : PIn w B a L) (hc : L.length ≤ c) : PkIn w B (paR a c) (pkR kind id reason L) :=
  ⟨h, hc, PIn.nil _ _ _, Nat.le_refl _, CIn.nil _ _ _ _, CIn.nil _ _ _ _, CIn.nil _ _ _ _⟩
theorem PkIn.zero (w : World) (B : Nat) : PkIn w B pa0 pk0 := ⟨PIn.nil _ _ _, Nat.le_refl _, PIn.nil _ _ _, Nat.le_refl _, CIn.nil _ _ _ _, CIn.nil _ _ _ _, CIn.nil _ _ _ _⟩
end
/-- A packet that came in. -/
structure PkArg (w : World) (A : PkA) (p : Pk) : Prop where
  inn : PkIn w w.heap.size A p
  pl : p.props.length ≤ 9223372036854775807
  wl : p.wProps.length ≤ 9223372036854775807
  sl : p.subs.length ≤ 9223372036854775807
  fl : p.filters.length ≤ 9223372036854775807
  cl : p.codes.length ≤ 9223372036854775807
/-- The cells of a row, one by one. -/
theorem flat_get {X : Type} (x0 : X) (cl : X → List Value) (k : Nat) (hk : 0 < k) (hcl : ∀ x, (cl x).length = k) : ∀ (L : List X) (j : Nat) (u : Value), (L.flatMap cl)[j]? = some u → j / k < L.length ∧ (cl (L.getD (j / k) x0))[j % k]? = some u := by
  intro L
  induction L with
  | nil => intro j u h; simp at h
  | cons x L ih =>
    intro j u h
    rw [List.flatMap_cons] at h
    by_cases hj : j < k
    · rw [List.getElem?_append_left (by rw [hcl]; exact hj)] at h
      rw [Nat.div_eq_of_lt hj, Nat.mod_eq_of_lt hj]
      exact ⟨by simp, h⟩
    · rw [List.getElem?_append_right (by rw [hcl]; omega), hcl] at h
      obtain ⟨h1, h2⟩ := ih _ _ h
      have e1 : j / k = (j - k) / k + 1 := by
        rw [Nat.div_eq_sub_div hk (by omega)]
      have e2 : j % k = (j - k) % k := Nat.mod_eq_sub_mod (by omega)
      rw [e1, e2]
      exact ⟨by simp; omega, h2⟩
theorem flat_len {X : Type} (cl : X → List Value) (k : Nat) (hcl : ∀ x, (cl x).length = k) (L : List X) : (L.flatMap cl).length = L.length * k := by
  induction L with
  | nil => simp
  | cons x L ih => rw [List.flatMap_cons, List.length_append, ih, hcl, List.length_cons, Nat.succ_mul]; omega
section
variable {H : Type} {enc : TypeId × Value → H} {P : Program} {w : World}
/-- A slice of what has so many cells. -/
theorem trod_row {X : Type} (x0 : X) (cl : X → List Value) (t e : TypeId) (k : Nat) (hk : 0 < k) (hcl : ∀ x, (cl x).length = k) (ht : P.underlying t = some (.slice e)) (hc : P.cellsOf e = k) {b1 n : Nat} {sp : Nat → Bool} {held : Bool}
    (hel : ∀ (cs : List Value) (n : Nat) (y : DataW H × List MemPlace), cs.length = k → DataW.trod enc P w b1 sp held n e cs = some y → ∃ x, cs = cl x) {u : Value} {y : DataW H × List MemPlace} (h : DataW.trod enc P w b1 sp held n t [u] = some y) :
    ∃ a cap, ∃ L : List X, u = .slice a L.length cap ∧ CIn w w.heap.size e a (L.flatMap cl) ∧ L.length ≤ cap ∧ L.length ≤ 9223372036854775807 := by
  rcases open_slice ht h with ⟨hcs, _⟩ | ⟨a, len, cap, m, n', D, Pl, hcs, hb, hl, hm, hmm, hx, hi⟩
  · obtain rfl := (List.cons.inj hcs).1
    exact ⟨none, 0, [], rfl, CIn.nil _ _ _ _, Nat.le_refl _, by simp⟩
  · obtain rfl := (List.cons.inj hcs).1
    have hlm : len ≤ m := by rw [hmm]; split <;> omega
    have key : ∀ i, ∃ x : X, i < len → ∀ j, j < k → w.cell? (a.add (i * k + j)) = (cl x)[j]? := by
      intro i
      by_cases hil : i < len
      · obtain ⟨cs', hc', ht'⟩ := hi i (by omega)
        rw [hc] at hc'
        obtain ⟨_, hcl', hat⟩ := World.cells?_some hc'
        obtain ⟨x, rfl⟩ := hel cs' _ _ hcl' ht'
        exact ⟨x, fun _ j hj => by rw [← Go.Deep.add_add]; exact hat j hj⟩
      · exact ⟨x0, fun h => absurd h hil⟩
    obtain ⟨xs, hxs⟩ := Classical.axiomOfChoice key
    have hlen : ((List.range len).map xs).length = len := by rw [List.length_map, List.length_range]
    have hget : ∀ i, i < len → ((List.range len).map xs).getD i x0 = xs i := fun i hi => by
      rw [List.getD_eq_getElem?_getD, List.getElem?_map, List.getElem?_range hi]
      rfl
    refine ⟨some a, cap, (List.range len).map xs, by rw [hlen], fun hp => ?_, by rw [hlen]; exact hl, by rw [hlen]; unfold maxLen at hm; omega⟩
    rw [flat_len cl k hcl, hlen] at hp
    have hp0 : 0 < len := Nat.pos_of_mul_pos_right hp
    obtain ⟨u0, hu0⟩ : ∃ u0, (cl (xs 0))[0]? = some u0 := ⟨_, List.getElem?_eq_getElem (by rw [hcl]; exact hk)⟩
    have hc0 := (hxs 0 hp0 0 hk).trans hu0
    obtain ⟨b, off, spot⟩ := a
    have hspot : spot = none := by simpa [Addr.add] using World.cell?_spot hc0
    subst hspot
    have hq : ∀ i, i < len → ∀ j, j < k → w.cell? ⟨b, off + (i * k + j), none⟩ = (cl (xs i))[j]? := fun i hi j hj => by
      have := hxs i hi j hj
      rw [add_plain] at this
      exact this
    refine ⟨b, off, rfl, fun j u hj => ?_, .inl (lt_of_cell' ((hq 0 hp0 0 hk).trans hu0))⟩
    obtain ⟨h1, h2⟩ := flat_get x0 cl k hk hcl _ _ _ hj
    rw [hlen] at h1
    rw [hget _ h1] at h2
    have h3 := hq _ h1 (j % k) (Nat.mod_lt _ hk)
    rw [Nat.mul_comm, Nat.div_add_mod] at h3
    exact h3.trans h2
end
theorem PIn.of_cells {w : World} {B : Nat} {A : Option Addr} {L : PL} (h : CIn w B 93 A (L.flatMap PV.cells)) : PIn w B A L := by
  intro hp
  obtain ⟨g, off, e, hc, hg⟩ := h (by rw [flat_len PV.cells 4 (fun _ => rfl)]; omega)
  refine ⟨g, off, e, fun k hk => ?_, hg⟩
  obtain ⟨q1, q2, q3, q4⟩ := pcs_get L k hk
  have h1 := hc _ _ q1
  have h2 := hc _ _ q2
  have h3 := hc _ _ q3
  have h4 := hc _ _ q4
  rw [← Nat.add_assoc] at h2 h3 h4
  exact ⟨h1, h2, h3, h4⟩
theorem list5 (cs : List Value) (h : cs.length = 5) : ∃ u0 u1 u2 u3 u4, cs = [u0, u1, u2, u3, u4] := by
  rcases cs with _ | ⟨u0, _ | ⟨u1, _ | ⟨u2, _ | ⟨u3, _ | ⟨u4, _ | ⟨u5, cs⟩⟩⟩⟩⟩⟩ <;> simp at h
  exact ⟨u0, u1, u2, u3, u4, rfl⟩
theorem list4 (cs : List Value) (h : cs.length = 4) : ∃ u0 u1 u2 u3, cs = [u0, u1, u2, u3] := by
  rcases cs with _ | ⟨u0, _ | ⟨u1, _ | ⟨u2, _ | ⟨u3, _ | ⟨u4, cs⟩⟩⟩⟩⟩ <;> simp at h
  exact ⟨u0, u1, u2, u3, rfl⟩
theorem list6 (cs : List Value) (h : cs.length = 6) : ∃ u0 u1 u2 u3 u4 u5, cs = [u0, u1, u2, u3, u4, u5] := by
  rcases cs with _ | ⟨u0, _ | ⟨u1, _ | ⟨u2, _ | ⟨u3, _ | ⟨u4, _ | ⟨u5, _ | ⟨u6, cs⟩⟩⟩⟩⟩⟩⟩ <;> simp at h
  exact ⟨u0, u1, u2, u3, u4, u5, rfl⟩
theorem cut_cells (cs : List Value) (k : Nat) (h : k < cs.length) : ∃ u cs', cs = u :: cs' ∧ cs'.length + 1 = cs.length := by
  rcases cs with _ | ⟨u, cs'⟩
  · simp at h
  · exact ⟨u, cs', rfl, rfl⟩
section
variable {H : Type} {enc : TypeId × Value → H} {w : World}
theorem cp_prop : Try.prog.cellsOf 93 = 4 := by kernel_rfl
theorem cp_sub : Try.prog.cellsOf 110 = 5 := by kernel_rfl
theorem cp_str : Try.prog.cellsOf 9 = 1 := by kernel_rfl
theorem cp_int : Try.prog.cellsOf 3 = 1 := by kernel_rfl
theorem ip_pkt : (Try.prog.info? 49).map (·.size) = some 26 := by kernel_rfl
/-- A packet into the block that was made last. -/
theorem st_pkt (w : World) (c : Array Value) (hs : c.size = 26) (h1 : c.all (·.oneCell') = true) :
    (Instr.storeAt 49 (.pointer (some ⟨w.heap.size, 0, none⟩)) (.agg c)).run Try.prog (w.alloc (.cells #[.int .i64 0, .int .i64 0, .int .i64 0, .slice none 0 0, .bool false, .int .i64 0, .string ⟨#[]⟩, .bool false, .string ⟨#[]⟩, .string ⟨#[]⟩, .int .i64 0, .bool false, .slice none 0 0, .bool false, .string ⟨#[]⟩, .bool false, .string ⟨#[]⟩, .bool false, .string ⟨#[]⟩, .string ⟨#[]⟩, .int .i64 0, .bool false, .bool false, .slice none 0 0, .slice none 0 0, .slice none 0 0] 49)) = .ok () (w.alloc (.cells c 49)) :=
  run_storeAt_new w 49 _ c (by rw [hs]; exact ip_pkt) (by rw [hs]; rfl) h1
theorem st_pktc (w : World) (c : Array Value) (hs : c.size = 26) (h1 : c.all (·.oneCell') = true) :
    (storeCells ⟨w.heap.size, 0, none⟩ c.toList 0).run Try.prog (w.alloc (.cells #[.int .i64 0, .int .i64 0, .int .i64 0, .slice none 0 0, .bool false, .int .i64 0, .string ⟨#[]⟩, .bool false, .string ⟨#[]⟩, .string ⟨#[]⟩, .int .i64 0, .bool false, .slice none 0 0, .bool false, .string ⟨#[]⟩, .bool false, .string ⟨#[]⟩, .bool false, .string ⟨#[]⟩, .string ⟨#[]⟩, .int .i64 0, .bool false, .bool false, .slice none 0 0, .slice none 0 0, .slice none 0 0] 49)) = .ok () (w.alloc (.cells c 49)) :=
  run_storeCells_new w 49 _ c (by rw [hs]; exact ip_pkt) (by rw [hs]; rfl) h1
/-- A packet out of its block. -/
theorem ld_pkt (w : World) (k : Nat) (c : Array Value) (hs : c.size = 26) (hb : ∃ f, w.heap[k]? = some (.cells c 49 f)) :
    (Instr.loadAt 49 (.pointer (some ⟨k, 0, none⟩))).run Try.prog w = .ok (.agg c) w := by
  obtain ⟨f, hb⟩ := hb
  have h := run_loadAt_mid (P := Try.prog) w k 0 49 c.toList _ (fun j v hv => by
    rw [Nat.zero_add]
    simp only [World.cell?, hb]
    simpa using hv) Try.underlying49 rfl (by rw [Array.length_toList, hs]; exact ip_pkt)
  simpa using h
theorem ld_pktc (w : World) (k : Nat) (c : Array Value) (hs : c.size = 26) (hb : ∃ f, w.heap[k]? = some (.cells c 49 f)) :
    (loadCellsFrom ⟨k, 0, none⟩ 0 26 #[]).run Try.prog w = .ok c w := by
  obtain ⟨f, hb⟩ := hb
  have h := run_loadCells_list (P := Try.prog) w ⟨k, 0, none⟩ c.toList (fun j v hv => by
    rw [Addr.add_mid, Nat.zero_add]
    simp only [World.cell?, hb]
    simpa using hv)
  rw [Array.length_toList, hs] at h
  simpa [loadCells] using h
theorem cp_pkt : Try.prog.cellsOf 49 = 26 := by kernel_rfl
variable {b1 n : Nat} {sp : Nat → Bool} {held : Bool}
theorem trod_prop {cs : List Value} {y : DataW H × List MemPlace} (hl : cs.length = 4) (h : DataW.trod enc Try.prog w b1 sp held n 93 cs = some y) : ∃ x : PV, cs = x.cells := by
  obtain ⟨u0, u1, u2, u3, rfl⟩ := list4 cs hl
  obtain ⟨ys, n2, _, _, _, hyl, hfl⟩ := DataW.trod_struct Try.underlying93 h
  have hy : ∀ j, j < 4 → ∃ z, ys[j]? = some z := fun j hj => ⟨_, List.getElem?_eq_getElem (by rw [hyl]; exact hj)⟩
  obtain ⟨t0, x0⟩ := hy 0 (by omega)
  obtain ⟨t1, x1⟩ := hy 1 (by omega)
  obtain ⟨t2, x2⟩ := hy 2 (by omega)
  obtain ⟨t3, x3⟩ := hy 3 (by omega)
  obtain ⟨v0, e0, _⟩ := DataW.trod_int Try.underlying3 (cs := [u0]) ((hfl 0 _ rfl).trans x0)
  obtain ⟨v1, e1, _⟩ := DataW.trod_int Try.underlying3 (cs := [u1]) ((hfl 1 _ rfl).trans x1)
  obtain ⟨v2, e2, _⟩ := DataW.trod_string Try.underlying9 (cs := [u2]) ((hfl 2 _ rfl).trans x2)
  obtain ⟨v3, e3, _⟩ := DataW.trod_string Try.underlying9 (cs := [u3]) ((hfl 3 _ rfl).trans x3)
  obtain rfl := (List.cons.inj e0).1
  obtain rfl := (List.cons.inj e1).1
  obtain rfl := (List.cons.inj e2).1
  obtain rfl := (List.cons.inj e3).1
  exact ⟨⟨v0, v1, v2, v3⟩, rfl⟩
theorem trod_sub {cs : List Value} {y : DataW H × List MemPlace} (hl : cs.length = 5) (h : DataW.trod enc Try.prog w b1 sp held n 110 cs = some y) : ∃ x : SV, cs = x.cells := by
  obtain ⟨u0, u1, u2, u3, u4, rfl⟩ := list5 cs hl
  obtain ⟨ys, n2, _, _, _, hyl, hfl⟩ := DataW.trod_struct Try.underlying110 h
  have hy : ∀ j, j < 5 → ∃ z, ys[j]? = some z := fun j hj => ⟨_, List.getElem?_eq_getElem (by rw [hyl]; exact hj)⟩
  obtain ⟨t0, x0⟩ := hy 0 (by omega)
  obtain ⟨t1, x1⟩ := hy 1 (by omega)
  obtain ⟨t2, x2⟩ := hy 2 (by omega)
  obtain ⟨t3, x3⟩ := hy 3 (by omega)
  obtain ⟨t4, x4⟩ := hy 4 (by omega)
  obtain ⟨v0, e0, _⟩ := DataW.trod_string Try.underlying9 (cs := [u0]) ((hfl 0 _ rfl).trans x0)
  obtain ⟨v1, e1, _⟩ := DataW.trod_int Try.underlying3 (cs := [u1]) ((hfl 1 _ rfl).trans x1)
  obtain ⟨v2, e2, _⟩ := DataW.trod_bool Try.underlying4 (cs := [u2]) ((hfl 2 _ rfl).trans x2)
  obtain ⟨v3, e3, _⟩ := DataW.trod_bool Try.underlying4 (cs := [u3]) ((hfl 3 _ rfl).trans x3)
  obtain ⟨v4, e4, _⟩ := DataW.trod_int Try.underlying3 (cs := [u4]) ((hfl 4 _ rfl).trans x4)
  obtain rfl := (List.cons.inj e0).1
  obtain rfl := (List.cons.inj e1).1
  obtain rfl := (List.cons.inj e2).1
  obtain rfl := (List.cons.inj e3).1
  obtain rfl := (List.cons.inj e4).1
  exact ⟨⟨v0, v1, v2, v3, v4⟩, rfl⟩
theorem trod_text {cs : List Value} {y : DataW H × List MemPlace} (_hl : cs.length = 1) (h : DataW.trod enc Try.prog w b1 sp held n 9 cs = some y) : ∃ x : ByteArray, cs = tCell x := by
  obtain ⟨v, e, _⟩ := DataW.trod_string Try.underlying9 h
  exact ⟨v, e⟩
theorem trod_num {cs : List Value} {y : DataW H × List MemPlace} (_hl : cs.length = 1) (h : DataW.trod enc Try.prog w b1 sp held n 3 cs = some y) : ∃ x : Int, cs = iCell x := by
  obtain ⟨v, e, _⟩ := DataW.trod_int Try.underlying3 h
  exact ⟨v, e⟩
theorem trod_props08 {u : Value} {y : DataW H × List MemPlace} (h : DataW.trod enc Try.prog w b1 sp held n 34 [u] = some y) : ∃ a cap, ∃ L : PL, u = .slice a L.length cap ∧ PIn w w.heap.size a L ∧ L.length ≤ cap ∧ L.length ≤ 9223372036854775807 := by
  obtain ⟨a, cap, L, h1, h2, h3, h4⟩ := trod_row p0 PV.cells 34 93 4 (by decide) (fun _ => rfl) Try.underlying34 cp_prop (fun cs n y hl h => trod_prop hl h) h
  exact ⟨a, cap, L, h1, PIn.of_cells h2, h3, h4⟩
end
set_option maxHeartbeats 4000000 in
theorem list26 (cs : List Value) (h : cs.length = 26) : ∃ u0 u1 u2 u3 u4 u5 u6 u7 u8 u9 u10 u11 u12 u13 u14 u15 u16 u17 u18 u19 u20 u21 u22 u23 u24 u25, cs = [u0, u1, u2, u3, u4, u5, u6, u7, u8, u9, u10, u11, u12, u13, u14, u15, u16, u17, u18, u19, u20, u21, u22, u23, u24, u25] := by
  rcases cs with _ | ⟨u0, _ | ⟨u1, _ | ⟨u2, _ | ⟨u3, _ | ⟨u4, _ | ⟨u5, _ | ⟨u6, _ | ⟨u7, _ | ⟨u8, _ | ⟨u9, _ | ⟨u10, _ | ⟨u11, _ | ⟨u12, _ | ⟨u13, _ | ⟨u14, _ | ⟨u15, _ | ⟨u16, _ | ⟨u17, _ | ⟨u18, _ | ⟨u19, _ | ⟨u20, _ | ⟨u21, _ | ⟨u22, _ | ⟨u23, _ | ⟨u24, _ | ⟨u25, _ | ⟨u26, cs⟩⟩⟩⟩⟩⟩⟩⟩⟩⟩⟩⟩⟩⟩⟩⟩⟩⟩⟩⟩⟩⟩⟩⟩⟩⟩⟩ <;> simp at h
  exact ⟨u0, u1, u2, u3, u4, u5, u6, u7, u8, u9, u10, u11, u12, u13, u14, u15, u16, u17, u18, u19, u20, u21, u22, u23, u24, u25, rfl⟩
section
variable {H : Type} {enc : TypeId × Value → H} {w : World} {b1 n : Nat} {sp : Nat → Bool} {held : Bool}
theorem trod_will {cs : List Value} {y : DataW H × List MemPlace} (hl : cs.length = 6) (h : DataW.trod enc Try.prog w b1 sp held n 44 cs = some y) : ∃ (x0 : Bool) (x1 x2 : ByteArray) (x3 : Int) (x4 : Bool) (a : Option Addr) (cap : Nat) (L : PL), cs = [.bool x0, .string x1, .string x2, .int .i64 x3, .bool x4, .slice a L.length cap] ∧ PIn w w.heap.size a L ∧ L.length ≤ cap ∧ L.length ≤ 9223372036854775807 := by
  obtain ⟨u0, u1, u2, u3, u4, u5, rfl⟩ := list6 cs hl
  obtain ⟨ys, n2, _, _, _, hyl, hfl⟩ := DataW.trod_struct Try.underlying44 h
  have hy : ∀ j, j < 6 → ∃ z, ys[j]? = some z := fun j hj => ⟨_, List.getElem?_eq_getElem (by rw [hyl]; exact hj)⟩
  obtain ⟨t0, x0⟩ := hy 0 (by omega)
  obtain ⟨t1, x1⟩ := hy 1 (by omega)
  obtain ⟨t2, x2⟩ := hy 2 (by omega)
  obtain ⟨t3, x3⟩ := hy 3 (by omega)
  obtain ⟨t4, x4⟩ := hy 4 (by omega)
  obtain ⟨t5, x5⟩ := hy 5 (by omega)
  obtain ⟨v0, e0, _⟩ := DataW.trod_bool Try.underlying4 (cs := [u0]) ((hfl 0 _ rfl).trans x0)
  obtain ⟨v1, e1, _⟩ := DataW.trod_string Try.underlying9 (cs := [u1]) ((hfl 1 _ rfl).trans x1)
  obtain ⟨v2, e2, _⟩ := DataW.trod_string Try.underlying9 (cs := [u2]) ((hfl 2 _ rfl).trans x2)
  obtain ⟨v3, e3, _⟩ := DataW.trod_int Try.underlying3 (cs := [u3]) ((hfl 3 _ rfl).trans x3)
  obtain ⟨v4, e4, _⟩ := DataW.trod_bool Try.underlying4 (cs := [u4]) ((hfl 4 _ rfl).trans x4)
  obtain ⟨a, cap, L, e5, h1, h2, h3⟩ := trod_props08 (u := u5) ((hfl 5 _ rfl).trans x5)
  obtain rfl := (List.cons.inj e0).1
  obtain rfl := (List.cons.inj e1).1
  obtain rfl := (List.cons.inj e2).1
  obtain rfl := (List.cons.inj e3).1
  obtain rfl := (List.cons.inj e4).1
  subst e5
  exact ⟨v0, v1, v2, v3, v4, a, cap, L, rfl, h1, h2, h3⟩
set_option maxHeartbeats 4000000 in
theorem trod_pkt {cs : List Value} {y : DataW H × List MemPlace} (hl : cs.length = 26) (h : DataW.trod enc Try.prog w b1 sp held n 49 cs = some y) : ∃ (p : Pk) (A : PkA), cs = (p.cells A).toList ∧ PkArg w A p := by
  obtain ⟨u0, u1, u2, u3, u4, u5, u6, u7, u8, u9, u10, u11, u12, u13, u14, u15, u16, u17, u18, u19, u20, u21, u22, u23, u24, u25, rfl⟩ := list26 cs hl
  obtain ⟨ys, n2, _, _, _, hyl, hfl⟩ := DataW.trod_struct Try.underlying49 h
  have hy : ∀ j, j < 21 → ∃ z, ys[j]? = some z := fun j hj => ⟨_, List.getElem?_eq_getElem (by rw [hyl]; exact hj)⟩
  obtain ⟨t0, x0⟩ := hy 0 (by omega)
  obtain ⟨v0, e0, _⟩ := DataW.trod_int Try.underlying3 (cs := [u0]) ((hfl 0 _ rfl).trans x0)
  obtain ⟨t1, x1⟩ := hy 1 (by omega)
  obtain ⟨v1, e1, _⟩ := DataW.trod_int Try.underlying3 (cs := [u1]) ((hfl 1 _ rfl).trans x1)
  obtain ⟨t2, x2⟩ := hy 2 (by omega)
  obtain ⟨v2, e2, _⟩ := DataW.trod_int Try.underlying3 (cs := [u2]) ((hfl 2 _ rfl).trans x2)
  obtain ⟨t3, x3⟩ := hy 3 (by omega)
  obtain ⟨pa, pc, pl, e3, p1, p2, p3⟩ := trod_props08 (u := u3) ((hfl 3 _ rfl).trans x3)
  obtain ⟨t4, x4⟩ := hy 4 (by omega)
  obtain ⟨v4, e4, _⟩ := DataW.trod_bool Try.underlying4 (cs := [u4]) ((hfl 4 _ rfl).trans x4)
  obtain ⟨t5, x5⟩ := hy 5 (by omega)
  obtain ⟨v5, e5, _⟩ := DataW.trod_int Try.underlying3 (cs := [u5]) ((hfl 5 _ rfl).trans x5)
  obtain ⟨t6, x6⟩ := hy 6 (by omega)
  obtain ⟨v6, e6, _⟩ := DataW.trod_string Try.underlying9 (cs := [u6]) ((hfl 6 _ rfl).trans x6)
  obtain ⟨t7, x7⟩ := hy 7 (by omega)
  obtain ⟨v7, v8, v9, v10, v11, wa, wc, wl, ew, w1, w2, w3⟩ := trod_will (cs := [u7, u8, u9, u10, u11, u12]) rfl ((hfl 7 _ rfl).trans x7)
  obtain ⟨t8, x8⟩ := hy 8 (by omega)
  obtain ⟨v13, e13, _⟩ := DataW.trod_bool Try.underlying4 (cs := [u13]) ((hfl 8 _ rfl).trans x8)
  obtain ⟨t9, x9⟩ := hy 9 (by omega)
  obtain ⟨v14, e14, _⟩ := DataW.trod_string Try.underlying9 (cs := [u14]) ((hfl 9 _ rfl).trans x9)
  obtain ⟨t10, x10⟩ := hy 10 (by omega)
  obtain ⟨v15, e15, _⟩ := DataW.trod_bool Try.underlying4 (cs := [u15]) ((hfl 10 _ rfl).trans x10)
  obtain ⟨t11, x11⟩ := hy 11 (by omega)
  obtain ⟨v16, e16, _⟩ := DataW.trod_string Try.underlying9 (cs := [u16]) ((hfl 11 _ rfl).trans x11)
  obtain ⟨t12, x12⟩ := hy 12 (by omega)
  obtain ⟨v17, e17, _⟩ := DataW.trod_bool Try.underlying4 (cs := [u17]) ((hfl 12 _ rfl).trans x12)
  obtain ⟨t13, x13⟩ := hy 13 (by omega)
  obtain ⟨v18, e18, _⟩ := DataW.trod_string Try.underlying9 (cs := [u18]) ((hfl 13 _ rfl).trans x13)
  obtain ⟨t14, x14⟩ := hy 14 (by omega)
  obtain ⟨v19, e19, _⟩ := DataW.trod_string Try.underlying9 (cs := [u19]) ((hfl 14 _ rfl).trans x14)
  obtain ⟨t15, x15⟩ := hy 15 (by omega)
  obtain ⟨v20, e20, _⟩ := DataW.trod_int Try.underlying3 (cs := [u20]) ((hfl 15 _ rfl).trans x15)
  obtain ⟨t16, x16⟩ := hy 16 (by omega)
  obtain ⟨v21, e21, _⟩ := DataW.trod_bool Try.underlying4 (cs := [u21]) ((hfl 16 _ rfl).trans x16)
  obtain ⟨t17, x17⟩ := hy 17 (by omega)
  obtain ⟨v22, e22, _⟩ := DataW.trod_bool Try.underlying4 (cs := [u22]) ((hfl 17 _ rfl).trans x17)
  obtain ⟨t18, x18⟩ := hy 18 (by omega)
  obtain ⟨sa, sc, sl, e23, s1, s2, s3⟩ := trod_row sv0 SV.cells 45 110 5 (by decide) (fun _ => rfl) Try.underlying45 cp_sub (fun cs n y hl h => trod_sub hl h) (u := u23) ((hfl 18 _ rfl).trans x18)
  obtain ⟨t19, x19⟩ := hy 19 (by omega)
  obtain ⟨fa, fc, fl, e24, f1, f2, f3⟩ := trod_row ⟨#[]⟩ tCell 46 9 1 (by decide) (fun _ => rfl) Try.underlying46 cp_str (fun cs n y hl h => trod_text hl h) (u := u24) ((hfl 19 _ rfl).trans x19)
  obtain ⟨t20, x20⟩ := hy 20 (by omega)
  obtain ⟨ca, cc, cl, e25, c1, c2, c3⟩ := trod_row 0 iCell 47 3 1 (by decide) (fun _ => rfl) Try.underlying47 cp_int (fun cs n y hl h => trod_num hl h) (u := u25) ((hfl 20 _ rfl).trans x20)
  obtain rfl := (List.cons.inj e0).1
  obtain rfl := (List.cons.inj e1).1
  obtain rfl := (List.cons.inj e2).1
  subst e3
  obtain rfl := (List.cons.inj e4).1
  obtain rfl := (List.cons.inj e5).1
  obtain rfl := (List.cons.inj e6).1
  simp only [List.cons.injEq, and_true] at ew
  obtain ⟨rfl, rfl, rfl, rfl, rfl, rfl⟩ := ew
  obtain rfl := (List.cons.inj e13).1
  obtain rfl := (List.cons.inj e14).1
  obtain rfl := (List.cons.inj e15).1
  obtain rfl := (List.cons.inj e16).1
  obtain rfl := (List.cons.inj e17).1
  obtain rfl := (List.cons.inj e18).1
  obtain rfl := (List.cons.inj e19).1
  obtain rfl := (List.cons.inj e20).1
  obtain rfl := (List.cons.inj e21).1
  obtain rfl := (List.cons.inj e22).1
  subst e23
  subst e24
  subst e25
  exact ⟨⟨v0, v1, v2, pl, v4, v5, v6, v7, v8, v9, v10, v11, wl, v13, v14, v15, v16, v17, v18, v19, v20, v21, v22, sl, fl, cl⟩, ⟨pa, pc, wa, wc, sa, sc, fa, fc, ca, cc⟩, rfl, ⟨⟨p1, p2, w1, w2, s1, f1, c1⟩, p3, w3, s3, f3, c3⟩⟩
/-- A packet as an argument. -/
theorem pkt_open08 {r : Reach} {b0 b1 : Nat} {sp : Nat → Bool} {held : Bool} {v : Value} {d : DataW H} {ps : List MemPlace} (hval : Value.okWide Try.prog w r b0 49 v) (hd : DataW.Trod enc Try.prog w b1 sp held 49 v d ps) : ∃ (p : Pk) (A : PkA), v = p.agg A ∧ PkArg w A p := by
  obtain ⟨cs, rfl, hsz⟩ := okWide_struct Try.underlying49 hval
  obtain ⟨fuel, hf⟩ := hd
  obtain ⟨p, A, hq, h⟩ := trod_pkt (cs := cs.toList) (by rw [Array.length_toList, hsz]; exact cp_pkt) hf
  refine ⟨p, A, ?_, h⟩
  unfold Pk.agg
  rw [show cs = p.cells A from Array.toList_inj.mp hq]
end
end Go.Proofs.Ytpaalhhadjihlaa
namespace Go.Proofs.Ytpaalhhadjihlaa
set_option maxRecDepth 100000
open Go.ChangeShapes Go.WideShapes Go.RowKit Go.Deep Go.Extern.Stop Go.Stop Go.Extern
theorem zv_pkt (w : World) : (zeroValue 49).run Try.prog w = .ok (.agg (pk0.cells pa0)) w :=
  (zero_of_info (P := Try.prog) (t := 49) (v := .agg (pk0.cells pa0)) (n := 26) (by kernel_rfl)).1 w
theorem nr_pkt (c : Array Value) (t : TypeId) (w : World) : (newRow t c).run Try.prog w = .ok ⟨w.heap.size, 0, none⟩ (w.alloc (.cells c t)) := by simp [newRow]
section
variable {ops : Array Oper} {rest : List Oper} {op : Oper} {a : Act} {w : World} {Q : Exit → Act → World → Prop} {z c old : Array Value} {k : Nat}
/-- A packet is made. -/
theorem wpk_alloc (hz : z = pk0.cells pa0) (hgd : op.guard = none) (ho : op.op = .alloc 49)
    (h : wpList Try.prog ops Q rest (a.put op.dst (.pointer (some ⟨w.heap.size, 0, none⟩))) (w.alloc (.cells z 49))) : wpList Try.prog ops Q (op :: rest) a w :=
  wpList_plain hgd fun _ hK => by
    subst hz
    unfold Oper.wp execOp
    simp only [ho, Instr.alloc, Sem.run_bind, zv_pkt, Result.andThen_ok, newVar, nr_pkt, Value.cells, Sem.run_pure]
    exact hK _ _ h
theorem wpk_build (hz : z = pk0.cells pa0) (hgd : op.guard = none) (ho : op.op = .build 49 #[])
    (h : wpList Try.prog ops Q rest (a.put op.dst (.agg z)) w) : wpList Try.prog ops Q (op :: rest) a w :=
  wpList_build hgd _ _ ho (by kernel_rfl) (by
    have e : Try.prog.built 49 [] = some (pk0.cells pa0) := by kernel_rfl
    subst hz
    simpa [e] using h)
/-- A packet is stored. -/
theorem wpk_store (hb : Blk w k 49 old) (ho' : old.size = 26) (hs : c.size = 26) (h1 : c.all (·.oneCell') = true) (x y : Operand) (hgd : op.guard = none) (ho : op.op = .store 49 x y)
    (hx : a.eval x = .pointer (some ⟨k, 0, none⟩)) (hy : a.eval y = .agg c)
    (h : wpList Try.prog ops Q rest (a.put op.dst undef) (w.setRow k c)) : wpList Try.prog ops Q (op :: rest) a w :=
  wpList_plain hgd fun _ hK => wp_store_row 49 x y ho k c hx hy 49 old hb (by rw [hs]; exact ip_pkt) (by rw [ho', hs]) h1 (hK _ _ h)
/-- Into the block that was made last. -/
theorem wpk_store_new (ho' : old.size = 26) (hs : c.size = 26) (h1 : c.all (·.oneCell') = true) (x y : Operand) (hgd : op.guard = none) (ho : op.op = .store 49 x y)
    (hx : a.eval x = .pointer (some ⟨w.heap.size, 0, none⟩)) (hy : a.eval y = .agg c)
    (h : wpList Try.prog ops Q rest (a.put op.dst undef) (w.alloc (.cells c 49))) : wpList Try.prog ops Q (op :: rest) a (w.alloc (.cells old 49)) :=
  wpk_store (Blk.made w _ old) ho' hs h1 x y hgd ho hx hy (by rw [World.setRow_alloc_new]; exact h)
/-- A packet is loaded. -/
theorem wpk_load (hb : Blk w k 49 c) (hs : c.size = 26) (x : Operand) (hgd : op.guard = none) (ho : op.op = .load 49 x)
    (hx : a.eval x = .pointer (some ⟨k, 0, none⟩)) (h : wpList Try.prog ops Q rest (a.put op.dst (.agg c)) w) : wpList Try.prog ops Q (op :: rest) a w := by
  have hl := wpList_load_mid (P := Try.prog) (ops := ops) (rest := rest) (op := op) (a := a) (w := w) (Q := Q) hgd 49 x ho k 0 hx c.toList _ (fun j v hv => by
    rw [Nat.zero_add, hb.cell j]
    simpa using hv) Try.underlying49 rfl (by rw [Array.length_toList, hs]; exact ip_pkt)
  refine hl ?_
  simpa using h
/-- A packet that came in is put into a block. -/
theorem wpk_box (_hs : c.size = 26) (x : Operand) (hgd : op.guard = none) (ho : op.op = .box 49 x) (hx : a.eval x = .agg c)
    (h : wpList Try.prog ops Q rest (a.put op.dst (.pointer (some ⟨w.heap.size, 0, none⟩))) (w.alloc (.cells c 49))) : wpList Try.prog ops Q (op :: rest) a w :=
  wpList_plain hgd fun _ hK => by
    unfold Oper.wp execOp
    simp only [ho, hx, Instr.box, Sem.run_bind, newVar, nr_pkt, Value.cells, Result.andThen_ok, Sem.run_pure]
    exact hK _ _ h
end
section
variable {w : World} {k : Nat} {c old : Array Value}
theorem setRow_blk (hb : Blk w k 49 old) (c : Array Value) : Blk (w.setRow k c) k 49 c := by
  unfold Blk at hb ⊢
  simp [World.setRow, Array.getElem?_modify, hb]
theorem setRow_fr (w : World) (k : Nat) (c : Array Value) : Fr [k] w (w.setRow k c) := by
  refine ⟨rfl, rfl, rfl, by simp [World.setRow], fun b hb hn => ?_⟩
  have hne : ¬ k = b := fun e => hn (by rw [e]; exact List.mem_singleton_self _)
  simp [World.setRow, Array.getElem?_modify, hne]
theorem ldv_pkt (hb : Blk w k 49 c) (hs : c.size = 26) : (loadVar 49 ⟨k, 0, none⟩).run Try.prog w = .ok (.agg c) w := by
  have h := run_loadVar_mid (P := Try.prog) w k 0 49 c.toList _ (fun j v hv => by
    rw [Nat.zero_add, hb.cell j]
    simpa using hv) Try.underlying49 rfl (by rw [Array.length_toList, hs]; exact ip_pkt)
  simpa using h
/-- A packet and what stands in a slot, as results. -/
theorem res_pkt {fn : Func} {tmps : Array Value} {i j : Nat} (hr : fn.results = #[.cell i 49, .tmp j]) (hi : tmps.getD i undef = .pointer (some ⟨k, 0, none⟩)) {v : Value} (hj : tmps.getD j undef = v) (hb : Blk w k 49 c) (hs : c.size = 26) :
    (results fn tmps).run Try.prog w = .ok (.tuple #[.agg c, v]) w := by
  subst hj
  have h := ldv_pkt hb hs
  have hi' : tmps[i]?.getD undef = .pointer (some ⟨k, 0, none⟩) := by simpa using hi
  simp [results, hr, hi', asAddr, h]
/-- A packet alone. -/
theorem res_pkt1 {fn : Func} {tmps : Array Value} {i : Nat} (hr : fn.results = #[.cell i 49]) (hi : tmps.getD i undef = .pointer (some ⟨k, 0, none⟩)) (hb : Blk w k 49 c) (hs : c.size = 26) :
    (results fn tmps).run Try.prog w = .ok (.agg c) w := by
  have h := ldv_pkt hb hs
  have hi' : tmps[i]?.getD undef = .pointer (some ⟨k, 0, none⟩) := by simpa using hi
  simp [results, hr, hi', asAddr, h]
theorem one_set {c : Array Value} (h : c.all (·.oneCell') = true) (i : Nat) (u : Value) (hu : u.oneCell' = true) : (c.setIfInBounds i u).all (·.oneCell') = true := by
  rw [Array.all_eq_true_iff_forall_mem] at *
  intro v hv
  rcases Array.mem_or_eq_of_mem_setIfInBounds hv with h1 | h1
  · exact h v h1
  · rw [h1]; exact hu
theorem ldc_pkt (hb : Blk w k 49 c) (hs : c.size = 26) : (loadCellsFrom ⟨k, 0, none⟩ 0 26 #[]).run Try.prog w = .ok c w := ld_pktc w k c hs ⟨_, hb⟩
variable {B : Nat} {A : Option Addr} {L : PL}
theorem PIn.row (h : PIn w B A L) (hb : Blk w k 49 old) (hB : B ≤ k) (c : Array Value) : PIn (w.setRow k c) B A L :=
  h.fr (setRow_fr w k c) fun g hg => by
    rw [List.mem_singleton] at hg
    subst hg
    exact ⟨hB, fun cs hc => hb.other hc (by decide) rfl⟩
theorem PIn.cell (h : PIn w B A L) (hb : Blk w k 49 old) (hB : B ≤ k) (i : Nat) (u : Value) : PIn (w.setCell ⟨k, i, none⟩ u) B A L :=
  h.fr ((Fr.refl [k] w).setCell (p := (⟨k, i, none⟩ : Addr)) (.inl (List.mem_singleton_self k)) u) fun g hg => by
    rw [List.mem_singleton] at hg
    subst hg
    exact ⟨hB, fun cs hc => hb.other hc (by decide) rfl⟩
theorem below_row {w0 : World} (h : Below w0.heap.size w0 w) (hB : w0.heap.size ≤ k) (c : Array Value) : Below w0.heap.size w0 (w.setRow k c) :=
  (setRow_fr w k c).later h (fun b hm => by rw [List.mem_singleton] at hm; omega) h.size
end
end Go.Proofs.Ytpaalhhadjihlaa
namespace Go.Proofs.Ytpaalhhadjihlaa
set_option maxRecDepth 100000
open Go.ChangeShapes Go.WideShapes Go.RowKit Go.Deep Go.Extern.Stop Go.Stop Go.Extern
section
variable {ops : Array Oper} {rest : List Oper} {op : Oper} {a : Act} {w : World} {Q : Exit → Act → World → Prop} {z c old : Array Value} {k : Nat}
theorem wpk_built {parts : Array (Nat × Operand)} {l : List (Nat × Value)} (hb : Try.prog.built 49 l = some z) (hgd : op.guard = none) (ho : op.op = .build 49 parts) (hl : (parts.map fun (i, x) => (i, a.eval x)).toList = l)
    (h : wpList Try.prog ops Q rest (a.put op.dst (.agg z)) w) : wpList Try.prog ops Q (op :: rest) a w :=
  wpList_build hgd _ _ ho (by rw [hl, hb]; rfl) (by rw [hl, hb]; exact h)
/-- A packet is loaded, behind a guard that holds. -/
theorem wpk_load_g (hb : Blk w k 49 c) (hs : c.size = 26) (x : Operand) (ho : op.op = .load 49 x) (hw : Region.wanted op (yielded ops a.tmps) = true)
    (hx : a.eval x = .pointer (some ⟨k, 0, none⟩)) (h : wpList Try.prog ops Q rest (a.put op.dst (.agg c)) w) : wpList Try.prog ops Q (op :: rest) a w :=
  wpList_step fun K hK => by
    rw [if_pos hw]
    have hl := wp_load_mid (P := Try.prog) (op := op) (a := a) (w := w) (K := K) (Q := Q) 49 x ho k 0 hx c.toList _ (fun j v hv => by
      rw [Nat.zero_add, hb.cell j]
      simpa using hv) Try.underlying49 rfl (by rw [Array.length_toList, hs]; exact ip_pkt)
    refine hl ?_
    refine hK _ _ ?_
    simpa using h
theorem yk_load {S : World → Prop} (hw : Region.wanted op (yielded ops a.tmps) = true) (x : Operand) (ho : op.op = .load 49 x) (hx : a.eval x = .pointer (some ⟨k, 0, none⟩)) (hS : ∀ w, S w → Blk w k 49 c) (hs : c.size = 26) : YieldsIf Try.prog ops S op (.agg c) a := by
  have h := yieldsIf_load_mid (P := Try.prog) (S := S) (a := a) hw 49 x ho k 0 hx c.toList _ (fun w hw' j v hv => by
    rw [Nat.zero_add, (hS w hw').cell j]
    simpa using hv) Try.underlying49 rfl (by rw [Array.length_toList, hs]; exact ip_pkt)
  simpa using h
end
theorem built1 (kd : Int) : Try.prog.built 49 [(0, .int .i64 kd)] = some ((pk0.cells pa0).setIfInBounds 0 (.int .i64 kd)) := by rfl
theorem built3 (kd rs : Int) (a : Option Addr) (n c : Nat) : Try.prog.built 49 [(0, .int .i64 kd), (2, .int .i64 rs), (3, .slice a n c)] = some ((((pk0.cells pa0).setIfInBounds 0 (.int .i64 kd)).setIfInBounds 2 (.int .i64 rs)).setIfInBounds 3 (.slice a n c)) := by rfl
end Go.Proofs.Ytpaalhhadjihlaa
