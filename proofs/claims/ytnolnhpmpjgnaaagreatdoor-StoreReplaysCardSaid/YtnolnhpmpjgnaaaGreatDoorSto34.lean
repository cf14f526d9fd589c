/- What is proved here, of whatever program: the laws of Own, with facts beside it that last while only blocks of a call's own change. No conditions but those that each theorem names. What is proved here: the zeros and the sizes of what a record tells. No conditions. What is proved here, of whatever program: a struct within a struct is stored and loaded. No conditions. What is proved here: what a record tells, as plain values; which kinds there are, and what may be told. No conditions. -/
import Derived.Test.YtnolnhpmpjgnaaaGreatDoorRob04
import Derived.Test.YtnolnhpmpjgnaaaGreatDoorVcs34
import Derived.Test.YtnolnhpmpjgnaaaGreatDoorPrp
import Derived.Test.YtnolnhpmpjgnaaaGreatDoorMsgF
import Derived.Deep.MidRow
import Derived.Test.YtnolnhpmpjgnaaaGreatDoorLib
import Derived.Deep.QuietTactic
import Derived.BigQuiet
namespace Go.Proofs.YtnolnhpmpjgnaaaGreatDoor
set_option maxRecDepth 100000
open Go.ChangeShapes Go.WideShapes Go.RowKit Go.Deep Go.Extern.Stop Go.Stop Go.Extern
/-- A fact that lasts while memory grows, and while blocks change that are neither a reader nor a fault. -/
structure Stab (G : World → Prop) : Prop where
  below : ∀ W W', Below W.heap.size W W' → G W → G W'
  store : ∀ W W' k t c, Blk W k t c → t ≠ 87 → t ≠ 96 → t ≠ 98 → Fr [k] W W' → G W → G W'
theorem nof_blk {w : World} {k : Nat} {t : TypeId} {c : Array Value} (h : Blk w k t c) (ht : t ≠ 96) : NoF w [k] := NoF.of fun j hj => by
  rw [List.mem_singleton] at hj
  subst hj
  exact ⟨_, _, h, ht⟩
theorem stab_eo (S : Nat → Addr) (r : Int) (no a : Nat) (e : Value) : Stab (fun W => ErrOf W S r no a e) := ⟨fun _ _ hb h => h.later hb, fun _ _ _ _ _ hB _ h2 _ hf h => err_fr h hf (nof_blk hB h2)⟩
theorem stab_ro (S : Nat → Addr) (g : Nat) (s : ByteArray) (R : RV) : Stab (fun W => RObj W S g s R) := ⟨fun _ _ hb h => h.below hb, fun _ _ k _ _ hB h1 h2 _ hf h => h.fr hf (by
  rw [List.mem_singleton]
  intro e
  subst e
  obtain ⟨_, hb, _⟩ := h.blk
  exact hB.other hb h1 rfl) (nof_blk hB h2)⟩
theorem stab_pin (a : Option Addr) (L : PL) : Stab (fun W => PIn W 0 a L) := ⟨fun _ _ hb h => h.below hb, fun _ _ k _ _ hB _ _ h3 hf h => h.fr hf fun g hg => ⟨Nat.zero_le _, fun cs hh => by
  rw [List.mem_singleton] at hg
  subst hg
  exact hB.other hh h3 rfl⟩⟩
theorem Stab.and {G H : World → Prop} (a : Stab G) (b : Stab H) : Stab (fun W => G W ∧ H W) := ⟨fun W W' hb h => ⟨a.below W W' hb h.1, b.below W W' hb h.2⟩, fun W W' k t c hB h1 h2 h3 hf h => ⟨a.store W W' k t c hB h1 h2 h3 hf h.1, b.store W W' k t c hB h1 h2 h3 hf h.2⟩⟩
section
variable {P : Program} {X : List Nat} {w0 w w' : World} {L : OL} {ops : Array Oper} {rest : List Oper} {op : Oper} {a : Act} {Q : Exit → Act → World → Prop} {z c old : Array Value} {k : Nat} {t : TypeId} {G : World → Prop}
theorem wps_alloc (hG : Stab G) (g0 : G w) (hT : Ty P t z) (hO : Own X w0 w L) (hgd : op.guard = none) (ho : op.op = .alloc t)
    (h : ∀ k W, Own X w0 W ((k, t, z) :: L) → G W → wpList P ops Q rest (a.put op.dst (.pointer (some ⟨k, 0, none⟩))) W) : wpList P ops Q (op :: rest) a w :=
  wpList_plain hgd fun _ hK => by
    unfold Oper.wp execOp
    simp only [ho, Instr.alloc, Sem.run_bind, hT.zv, Result.andThen_ok, newVar, run_newRow, Value.cells, Sem.run_pure]
    exact hK _ _ (h _ _ (hO.alloc t z) (hG.below _ _ ((Below.refl _ _).alloc (Nat.le_refl _) _) g0))
theorem wps_box (hG : Stab G) (g0 : G w) (hO : Own X w0 w L) (x : Operand) (hgd : op.guard = none) (ho : op.op = .box t x) (hx : a.eval x = .agg c)
    (h : ∀ k W, Own X w0 W ((k, t, c) :: L) → G W → wpList P ops Q rest (a.put op.dst (.pointer (some ⟨k, 0, none⟩))) W) : wpList P ops Q (op :: rest) a w :=
  wpList_plain hgd fun _ hK => by
    unfold Oper.wp execOp
    simp only [ho, hx, Instr.box, Sem.run_bind, newVar, run_newRow, Value.cells, Result.andThen_ok, Sem.run_pure]
    exact hK _ _ (h _ _ (hO.alloc t c) (hG.below _ _ ((Below.refl _ _).alloc (Nat.le_refl _) _) g0))
theorem wps_store (hG : Stab G) (g0 : G w) (hO : Own X w0 w L) (i : Nat) (hT : Ty P t z) (hi : L[i]? = some (k, t, old)) (h1t : t ≠ 87) (h2t : t ≠ 96) (h3t : t ≠ 98) (x y : Operand) (hgd : op.guard = none) (ho : op.op = .store t x y)
    (hx : a.eval x = .pointer (some ⟨k, 0, none⟩)) (hy : a.eval y = .agg c) (hold : old.size = z.size) (hc : c.size = z.size) (h1 : c.toList.all (·.oneCell') = true)
    (h : ∀ W, Own X w0 W (L.set i (k, t, c)) → G W → wpList P ops Q rest (a.put op.dst undef) W) : wpList P ops Q (op :: rest) a w :=
  wpList_plain hgd fun _ hK => wp_store_row t x y ho k c hx hy t old (hO.get i hi) (by rw [hc]; exact hT.ip) (by rw [hold, hc]) (by simpa using h1) (hK _ _ (h _ (hO.row i hi c) (hG.store _ _ k t old (hO.get i hi) h1t h2t h3t (fr_setRow w k c) g0)))
theorem wpg_store (hO : Own X w0 w L) (i : Nat) (hT : Ty P t z) (hi : L[i]? = some (k, t, old)) (hG : ∀ W, Fr [k] w W → G W) (x y : Operand) (hgd : op.guard = none) (ho : op.op = .store t x y)
    (hx : a.eval x = .pointer (some ⟨k, 0, none⟩)) (hy : a.eval y = .agg c) (hold : old.size = z.size) (hc : c.size = z.size) (h1 : c.toList.all (·.oneCell') = true)
    (h : ∀ W, Own X w0 W (L.set i (k, t, c)) → G W → wpList P ops Q rest (a.put op.dst undef) W) : wpList P ops Q (op :: rest) a w :=
  wpList_plain hgd fun _ hK => wp_store_row t x y ho k c hx hy t old (hO.get i hi) (by rw [hc]; exact hT.ip) (by rw [hold, hc]) (by simpa using h1) (hK _ _ (h _ (hO.row i hi c) (hG _ (fr_setRow w k c))))
theorem wps_cell (hG : Stab G) (g0 : G w) (hO : Own X w0 w L) (i : Nat) (j : Nat) {ty : TypeId} (hI : (P.info? ty).map (·.size) = some 1) (hi : L[i]? = some (k, t, old)) (h1t : t ≠ 87) (h2t : t ≠ 96) (h3t : t ≠ 98) {v : Value} (x y : Operand) (hgd : op.guard = none) (ho : op.op = .store ty x y)
    (hx : a.eval x = .pointer (some ⟨k, j, none⟩)) (hy : a.eval y = v) (hj : j < old.size) (h1 : v.oneCell' = true)
    (h : ∀ W, Own X w0 W (L.set i (k, t, old.setIfInBounds j v)) → G W → wpList P ops Q rest (a.put op.dst undef) W) : wpList P ops Q (op :: rest) a w :=
  wpList_plain hgd fun _ hK => by
    unfold Oper.wp execOp
    simp only [ho, hx, hy, Instr.storeAt, Instr.sureAddr, Sem.run_bind, Sem.run_pure, Result.andThen_ok, run_store_one (hO.get i hi) j hj hI h1]
    exact hK _ _ (h _ (hO.cell i hi j v) (hG.store _ _ k t old (hO.get i hi) h1t h2t h3t (fr_setCell w k j v) g0))
/-- A struct and what stands in a slot, as results. -/
theorem res_own10 {fn : Func} {tmps : Array Value} {i j h : Nat} {tB : TypeId} {zB cB : Array Value} (n : Nat) (hO : Own X w0 w L) (hTB : Ty P tB zB) (hr : fn.results = #[.cell i tB, .tmp j]) (hi : tmps.getD i undef = .pointer (some ⟨h, 0, none⟩)) {u : Value} (hj : tmps.getD j undef = u)
    (hn : L[n]? = some (h, tB, cB)) (nB : cB.size = zB.size) : (results fn tmps).run P w = .ok (.tuple #[.agg cB, u]) w := by
  subst hj
  have h2 := run_load_own hTB (hO.get n hn) nB
  have hi' : tmps[i]?.getD undef = .pointer (some ⟨h, 0, none⟩) := by simpa using hi
  simp [results, hr, hi', asAddr, h2]
/-- A struct and what stands in two slots, as results. -/
theorem res_own100 {fn : Func} {tmps : Array Value} {i j l h : Nat} {tB : TypeId} {zB cB : Array Value} (n : Nat) (hO : Own X w0 w L) (hTB : Ty P tB zB) (hr : fn.results = #[.cell i tB, .tmp j, .tmp l]) (hi : tmps.getD i undef = .pointer (some ⟨h, 0, none⟩)) {u v : Value} (hj : tmps.getD j undef = u) (hl : tmps.getD l undef = v)
    (hn : L[n]? = some (h, tB, cB)) (nB : cB.size = zB.size) : (results fn tmps).run P w = .ok (.tuple #[.agg cB, u, v]) w := by
  subst hj hl
  have h2 := run_load_own hTB (hO.get n hn) nB
  have hi' : tmps[i]?.getD undef = .pointer (some ⟨h, 0, none⟩) := by simpa using hi
  simp [results, hr, hi', asAddr, h2]
/-- A struct, what stands in a slot, and another struct, as results. -/
theorem res_own101 {fn : Func} {tmps : Array Value} {i j l h h' : Nat} {tB tC : TypeId} {zB cB zC cC : Array Value} (n m : Nat) (hO : Own X w0 w L) (hTB : Ty P tB zB) (hTC : Ty P tC zC) (hr : fn.results = #[.cell i tB, .tmp j, .cell l tC]) (hi : tmps.getD i undef = .pointer (some ⟨h, 0, none⟩)) {u : Value} (hj : tmps.getD j undef = u) (hl : tmps.getD l undef = .pointer (some ⟨h', 0, none⟩))
    (hn : L[n]? = some (h, tB, cB)) (hm : L[m]? = some (h', tC, cC)) (nB : cB.size = zB.size) (nC : cC.size = zC.size) : (results fn tmps).run P w = .ok (.tuple #[.agg cB, u, .agg cC]) w := by
  subst hj
  have h2 := run_load_own hTB (hO.get n hn) nB
  have h3 := run_load_own hTC (hO.get m hm) nC
  have hi' : tmps[i]?.getD undef = .pointer (some ⟨h, 0, none⟩) := by simpa using hi
  have hl' : tmps[l]?.getD undef = .pointer (some ⟨h', 0, none⟩) := by simpa using hl
  simp [results, hr, hi', hl', asAddr, h2, h3]
theorem Own.frg {S : Nat → Addr} {g : Nat} {s : ByteArray} {R : RV} (h : Own X w0 w L) (ho : RObj w S g s R) (hn : Fr [g] w w') (hg : g ∈ X ∨ w0.heap.size ≤ g) (ht : (L.all fun x => !decide (x.2.1 = 87)) = true) : Own X w0 w' L := by
  rw [List.all_eq_true] at ht
  refine ⟨h.fr.trans hn fun b hb hlt => ?_, fun x hx => (h.blk x hx).fr hn ?_, h.new, h.nd⟩
  · rw [List.mem_singleton] at hb
    subst hb
    rcases hg with hg | hg
    · exact hg
    · omega
  · rw [List.mem_singleton]
    intro e
    obtain ⟨_, hb, _⟩ := ho.blk
    exact (h.blk x hx).other hb (by simpa using ht x hx) e
theorem Own.rnext {S : Nat → Addr} {g : Nat} {s : ByteArray} {R R' : RV} (h : Own X w0 w L) (ho : RObj w S g s R) (hn : RNext w w' S g s R') (hg : g ∈ X ∨ w0.heap.size ≤ g) (ht : (L.all fun x => !decide (x.2.1 = 87)) = true) : Own X w0 w' L := h.frg ho hn.fr hg ht
end
end Go.Proofs.YtnolnhpmpjgnaaaGreatDoor
namespace Go.Proofs.YtnolnhpmpjgnaaaGreatDoor
set_option maxRecDepth 100000
open Go.RowKit Go.Extern.Stop Go.Stop Go.Extern
def mz : Array Value := #[.string ⟨#[]⟩, .string ⟨#[]⟩, .int .i64 0, .bool false, .slice none 0 0, .string ⟨#[]⟩, .int .i64 0, .int .i64 0, .string ⟨#[]⟩]
def oz : Array Value := #[.int .i64 0, .string ⟨#[]⟩, .int .i64 0, .string ⟨#[]⟩, .string ⟨#[]⟩, .int .i64 0, .bool false, .slice none 0 0, .string ⟨#[]⟩, .int .i64 0, .int .i64 0, .string ⟨#[]⟩]
theorem tyM : Ty Tryz.prog 25 #[.string ⟨#[]⟩, .string ⟨#[]⟩, .int .i64 0, .bool false, .slice none 0 0, .string ⟨#[]⟩, .int .i64 0, .int .i64 0, .string ⟨#[]⟩] := ty_mk (n := 9) (by kernel_rfl) rfl Tryz.underlying25 rfl (by kernel_rfl) rfl
theorem tyO : Ty Tryz.prog 27 #[.int .i64 0, .string ⟨#[]⟩, .int .i64 0, .string ⟨#[]⟩, .string ⟨#[]⟩, .int .i64 0, .bool false, .slice none 0 0, .string ⟨#[]⟩, .int .i64 0, .int .i64 0, .string ⟨#[]⟩] := ty_mk (n := 12) (by kernel_rfl) rfl Tryz.underlying27 rfl (by kernel_rfl) rfl
theorem tyI : Ty1 Tryz.prog 3 := ⟨by kernel_rfl, _, Tryz.underlying3, rfl⟩
theorem tyB : Ty1 Tryz.prog 4 := ⟨by kernel_rfl, _, Tryz.underlying4, rfl⟩
theorem tyS : Ty1 Tryz.prog 9 := ⟨by kernel_rfl, _, Tryz.underlying9, rfl⟩
theorem tyL : Ty1 Tryz.prog 23 := ⟨by kernel_rfl, _, Tryz.underlying23, rfl⟩
theorem mixed : Tryz.prog.follows .mixedOrders = true := by kernel_rfl
end Go.Proofs.YtnolnhpmpjgnaaaGreatDoor
namespace Go.Proofs.YtnolnhpmpjgnaaaGreatDoor
set_option maxRecDepth 100000
open Go.ChangeShapes Go.WideShapes Go.RowKit Go.Deep Go.Extern.Stop Go.Stop Go.Extern
section
variable {P : Program} {X : List Nat} {w0 w : World} {L : OL} {k : Nat} {t : TypeId} {old c z : Array Value} {ops : Array Oper} {rest : List Oper} {op : Oper} {a : Act} {Q : Exit → Act → World → Prop} {G : World → Prop}
def putN (c : Array Value) : Nat → List Value → Array Value
  | _, [] => c
  | o, v :: l => putN (c.setIfInBounds o v) (o + 1) l
theorem Own.cell3 {i : Nat} (h : Own X w0 w (L.set i (k, t, c))) (i0 : L[i]?.isSome = true) (j : Nat) (v : Value) : Own X w0 (w.setCell ⟨k, j, none⟩ v) (L.set i (k, t, c.setIfInBounds j v)) := by
  have hi : i < L.length := by
    rcases Nat.lt_or_ge i L.length with h | h
    · exact h
    · rw [List.getElem?_eq_none h] at i0; cases i0
  have h2 := h.cell i (by rw [List.getElem?_set_self hi]) j v
  rw [List.set_set] at h2
  exact h2
theorem Own.cellsN {i : Nat} (i0 : L[i]?.isSome = true) (l : List Value) : ∀ (o : Nat) (c : Array Value) (w : World), Own X w0 w (L.set i (k, t, c)) → Own X w0 (w.setCells k o l) (L.set i (k, t, putN c o l)) := by
  induction l with
  | nil => intro o c w h; exact h
  | cons v l ih => intro o c w h; exact ih (o + 1) _ _ (h.cell3 i0 o v)
theorem fr_setCells (l : List Value) : ∀ (o : Nat) (w : World), Fr [k] w (w.setCells k o l) := by
  induction l with
  | nil => intro o w; exact Fr.refl _ _
  | cons v l ih => intro o w; exact (fr_setCell w k o v).trans (ih (o + 1) _) fun _ hk _ => hk
/-- A struct is stored within another. -/
theorem wps_mid (hG : Stab G) (g0 : G w) (hO : Own X w0 w L) (i : Nat) (o : Nat) {tL : TypeId} (hI : (P.info? tL).map (·.size) = some c.size) (hi : L[i]? = some (k, t, old)) (h1t : t ≠ 87) (h2t : t ≠ 96) (h3t : t ≠ 98) (x y : Operand) (hgd : op.guard = none) (ho : op.op = .store tL x y)
    (hx : a.eval x = .pointer (some ⟨k, o, none⟩)) (hy : a.eval y = .agg c) (hl : o + c.size ≤ old.size) (h1 : c.all (·.oneCell') = true)
    (h : ∀ W, Own X w0 W (L.set i (k, t, putN old o c.toList)) → G W → wpList P ops Q rest (a.put op.dst undef) W) : wpList P ops Q (op :: rest) a w :=
  wpList_store_mid hgd tL x y ho k o c hx hy (fun j hj => by
    refine ⟨?_, (hO.get i hi).frozen _⟩
    rw [(hO.get i hi).cell (o + j), Array.getElem?_eq_getElem (by omega)]
    rfl) hI h1 (h _ (Own.cellsN (by rw [hi]; rfl) c.toList o old w (by
      have e : L.set i (k, t, old) = L := by
        rcases Nat.lt_or_ge i L.length with h | h
        · rw [List.getElem?_eq_getElem h] at hi
          have := Option.some.inj hi
          rw [← this]; simp
        · rw [List.getElem?_eq_none h] at hi; cases hi
      rw [e]; exact hO)) (hG.store _ _ k t old (hO.get i hi) h1t h2t h3t (fr_setCells c.toList o w) g0))
/-- A struct within another is loaded. -/
theorem run_load_mid (hT : Ty P t z) {tk : TypeId} (hb : Blk w k tk old) (o : Nat) (hc : c.size = z.size) (hs : ∀ j, j < c.size → old[o + j]? = c[j]?) : (loadVar t ⟨k, o, none⟩).run P w = .ok (.agg c) w := by
  obtain ⟨d, hu, hd⟩ := hT.un
  have h := run_loadVar_mid (P := P) w k o t c.toList d (fun j v hv => by
    have hj : j < c.size := by
      rcases Nat.lt_or_ge j c.size with h | h
      · exact h
      · rw [List.getElem?_eq_none (by simpa using h)] at hv; cases hv
    rw [hb.cell (o + j), hs j hj]
    simpa using hv) hu hd (by rw [Array.length_toList, hc]; exact hT.ip)
  simpa using h
theorem wpo_ldm (hT : Ty P t z) {tk : TypeId} (hb : Blk w k tk old) (o : Nat) (hc : c.size = z.size) (hs : ∀ j, j < c.size → old[o + j]? = c[j]?) (x : Operand) (hgd : op.guard = none) (ho : op.op = .load t x)
    (hx : a.eval x = .pointer (some ⟨k, o, none⟩)) (h : wpList P ops Q rest (a.put op.dst (.agg c)) w) : wpList P ops Q (op :: rest) a w :=
  wpList_plain hgd fun _ hK => by
    unfold Oper.wp execOp
    simp only [ho, hx, Instr.loadAt, Instr.sureAddr, Sem.run_bind, Sem.run_pure, Result.andThen_ok, run_load_mid hT hb o hc hs]
    exact hK _ _ h
end
end Go.Proofs.YtnolnhpmpjgnaaaGreatDoor
namespace Go.Proofs.YtnolnhpmpjgnaaaGreatDoor
set_option maxRecDepth 100000
open Go.RowKit Go.Extern.Stop Go.Stop Go.Extern
/-- What a record tells. -/
structure OV where
  kind : Int
  grp : ByteArray
  seq : Int
  m : MV
def oo0 : OV := ⟨0, e0, 0, m0⟩
def OV.agg (o : OV) (A : Option Addr) (c : Nat) : Value := .agg #[.int .i64 o.kind, .string o.grp, .int .i64 o.seq, .string o.m.topic, .string o.m.payload, .int .i64 o.m.qos, .bool o.m.retain, .slice A o.m.props.length c, .string o.m.frm, .int .i64 o.m.til, .int .i64 o.m.seq, .string o.m.grp]
def mayA (o : OV) : Bool := decide (1 ≤ o.seq ∧ o.seq ≤ 4294967295) && !(o.grp.toList == [])
def mayM (o : OV) : Bool := decide (0 ≤ o.m.qos ∧ o.m.qos ≤ 2 ∧ 0 ≤ o.m.til ∧ o.m.til ≤ 9007199254740992) && (o.m.grp.toList == o.grp.toList) && decide (o.m.seq = o.seq)
def mayO (o : OV) : Bool := mayA o && (decide (o.kind ≠ 1) || mayM o)
def wrK (k : Int) : Value := if k = 1 then .func (.func 51) #[] #[] else if k = 2 ∨ k = 3 then .func (.func 52) #[] #[] else .nilFunc
theorem writer_any (k : Int) (w : World) : Calls Tryz.prog 27 #[.int .i64 k] w fun x w' => x = .returned (wrK k) ∧ w = w' := by
  unfold wrK
  by_cases h1 : k = 1
  · subst h1
    go_enter Tryz.func27, Tryz.ntmps27
    go_wp2
    go_ret
    exact ⟨rfl, rfl⟩
  · have e1 : (k == 1) = false := by simpa using h1
    rw [if_neg h1]
    by_cases h2 : k = 2
    · subst h2
      go_enter Tryz.func27, Tryz.ntmps27
      go_wp2
      go_ret
      exact ⟨rfl, rfl⟩
    · have e2 : (k == 2) = false := by simpa using h2
      by_cases h3 : k = 3
      · subst h3
        go_enter Tryz.func27, Tryz.ntmps27
        go_wp2
        go_ret
        exact ⟨rfl, rfl⟩
      · have e3 : (k == 3) = false := by simpa using h3
        rw [if_neg (by omega)]
        clear h1 h2 h3
        go_enter Tryz.func27, Tryz.ntmps27
        go_wp2
        go_ret
        exact ⟨rfl, rfl⟩
end Go.Proofs.YtnolnhpmpjgnaaaGreatDoor
