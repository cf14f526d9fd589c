/- What is proved here: retained messages by their topics: what stands, and what New, Len and Get answer. Conditions: those that each theorem names. -/
import Derived.Test.YtfmkeapbddhndaaDoorMat16
import Derived.Test.YtfmkeapbddhndaaDoorRMat16
import Derived.Test.YtfmkeapbddhndaaDoorMsgF
import Derived.Test.YtfmkeapbddhndaaDoorAMap
import Derived.Test.YtfmkeapbddhndaaDoorOwn
import Derived.Deep.QuietTactic
import Derived.BigQuiet
import Derived.Deep.DeepMust
import Derived.Deep.DeepCutAuto
namespace Go.Proofs.YtfmkeapbddhndaaDoor
open Go.RowKit Go.Extern.Stop Go.Stop Go.Extern Go.Maps
set_option maxRecDepth 100000
theorem res_own10 {P : Program} {X : List Nat} {w0 w : World} {L : OL} {fn : Func} {tmps : Array Value} {i j h : Nat} {tB : TypeId} {zB cB : Array Value} (n : Nat) (hO : Own X w0 w L) (hTB : Ty P tB zB) (hr : fn.results = #[.cell i tB, .tmp j]) (hi : tmps.getD i undef = .pointer (some ⟨h, 0, none⟩)) {u : Value} (hj : tmps.getD j undef = u)
    (hn : L[n]? = some (h, tB, cB)) (nB : cB.size = zB.size) : (results fn tmps).run P w = .ok (.tuple #[.agg cB, u]) w := by
  subst hj
  have h2 := run_load_own hTB (hO.get n hn) nB
  have hi' : tmps[i]?.getD undef = .pointer (some ⟨h, 0, none⟩) := by simpa using hi
  simp [results, hr, hi', asAddr, h2]
section
variable {P : Program} {X : List Nat} {w0 w w' : World} {L : OL} {ops : Array Oper} {rest : List Oper} {op : Oper} {a : Act} {Q : Exit → Act → World → Prop} {z c old : Array Value} {k : Nat} {t : TypeId} {G : World → Prop}
theorem wpg_store (hO : Own X w0 w L) (i : Nat) (hT : Ty P t z) (hi : L[i]? = some (k, t, old)) (hG : ∀ W, Fr [k] w W → G W) (x y : Operand) (hgd : op.guard = none) (ho : op.op = .store t x y)
    (hx : a.eval x = .pointer (some ⟨k, 0, none⟩)) (hy : a.eval y = .agg c) (hold : old.size = z.size) (hc : c.size = z.size) (h1 : c.toList.all (·.oneCell') = true)
    (h : ∀ W, Own X w0 W (L.set i (k, t, c)) → G W → wpList P ops Q rest (a.put op.dst undef) W) : wpList P ops Q (op :: rest) a w :=
  wpList_plain hgd fun _ hK => wp_store_row t x y ho k c hx hy t old (hO.get i hi) (by rw [hc]; exact hT.ip) (by rw [hold, hc]) (by simpa using h1) (hK _ _ (h _ (hO.row i hi c) (hG _ (fr_setRow w k c))))
end
theorem tyMs : Ty Tryd.prog 57 zq := ty_mk (n := 9) (by kernel_rfl) rfl Tryd.underlying57 rfl (by kernel_rfl) rfl
theorem Tryd.zmsg19 (w : World) : (zeroValue 57).run Tryd.prog w = .ok q0.agg w := by kernel_rfl
theorem KS : Keyed Tryd.prog 9 := string_keyed Tryd.underlying9
def entQ (q : QV) : ByteArray × QV := (q.m.topic, q)
def tops (L : QL) : List ByteArray := L.map (fun q => q.m.topic)
/-- A store at block g: its map at bm. -/
structure StI (w : World) (g bm : Nat) (most : Int) (L : QL) : Prop where
  blk : Blk w g 72 #[.int .i64 most, .map (some bm)]
  map : AMap Tryd.prog 9 strKE QV.agg w bm (L.map entQ)
  few : L.length ≤ 900
  ms : ∀ q ∈ L, PIn w 0 q.pa q.m.props ∧ q.m.props.length ≤ 1000
section
variable {w w' : World} {g bm : Nat} {most : Int} {L : QL}
theorem StI.then {X : List Nat} (h : StI w g bm most L) (hf : Fr X w w') (hX : ∀ b ∈ X, b ≠ g ∧ b ≠ bm ∧ ∀ cs, w.heap[b]? ≠ some (.cells cs 109 (0, 0))) : StI w' g bm most L :=
  ⟨h.blk.fr hf fun hm => (hX _ hm).1 rfl, h.map.fr hf fun hm => (hX _ hm).2.1 rfl, h.few, fun q hq => ⟨(h.ms q hq).1.fr hf fun b hb => ⟨Nat.zero_le _, (hX b hb).2.2⟩, (h.ms q hq).2⟩⟩
theorem StI.below (h : StI w g bm most L) (hb : Below w.heap.size w w') : StI w' g bm most L := h.then (X := []) (Fr.of_below hb) fun b hm => by cases hm
theorem StI.ne (h : StI w g bm most L) : g ≠ bm := h.map.ne h.blk
theorem StI.apart (h : StI w g bm most L) : (tops L).Nodup := by
  have h1 := pairwise_of_map h.map
  unfold tops
  rw [List.Nodup, List.pairwise_map]
  exact h1
where
  pairwise_of_map (hm : AMap Tryd.prog 9 strKE QV.agg w bm (L.map entQ)) : L.Pairwise (fun a b => a.m.topic ≠ b.m.topic) := by
    have h1 := hm.apart KS
    rw [List.pairwise_map] at h1
    exact h1.imp fun hne e => hne (congrArg strKE.kl e)
/-- What the map holds at a topic. -/
def At (L : QL) (s : ByteArray) (q : QV) (b : Bool) : Prop := (b = true ∧ q ∈ L ∧ q.m.topic = s) ∨ (b = false ∧ q = q0 ∧ s ∉ tops L)
theorem at_any (L : QL) (s : ByteArray) : ∃ q b, At L s q b := by
  by_cases h : s ∈ tops L
  · obtain ⟨q, hq, rfl⟩ := List.mem_map.1 h
    exact ⟨q, true, .inl ⟨rfl, hq, rfl⟩⟩
  · exact ⟨q0, false, .inr ⟨rfl, rfl, h⟩⟩
theorem look19 (h : StI w g bm most L) {s : ByteArray} (hs : s.size ≤ maxLen) {q : QV} {b : Bool} (hv : At L s q b) :
    (Instr.lookup 70 (.map (some bm)) (.string s) true).run Tryd.prog w = .ok (.tuple #[q.agg, .bool b]) w := by
  rcases hv with ⟨rfl, hv, rfl⟩ | ⟨rfl, rfl, hv⟩
  · exact (h.map.hit (x := q.m.topic) KS Tryd.underlying70 Tryd.zmsg19 (List.mem_map.2 ⟨q, hv, rfl⟩)).1
  · refine (h.map.miss (x := s) KS Tryd.underlying70 Tryd.zmsg19 (strKE_ok Tryd.underlying9 hs) fun p hp e => ?_).1
    obtain ⟨f, hf, rfl⟩ := List.mem_map.1 hp
    exact hv (List.mem_map.2 ⟨f, hf, strKE_inj _ _ e⟩)
theorem At.pin (h : StI w g bm most L) {s : ByteArray} {q : QV} {b : Bool} (hv : At L s q b) : PIn w 0 q.pa q.m.props ∧ q.m.props.length ≤ 1000 := by
  rcases hv with ⟨_, hq, _⟩ | ⟨_, rfl, _⟩
  · exact h.ms q hq
  · exact ⟨PIn.nil _ _ _, Nat.zero_le _⟩
theorem snew_any (most : Int) (w : World) : Calls Tryd.prog 25 #[.int .i64 most] w fun x w' => ∃ g bm, x = .returned (.pointer (some ⟨g, 0, none⟩)) ∧ StI w' g bm most [] ∧ w.heap.size ≤ g ∧ w.heap.size ≤ bm ∧ Below w.heap.size w w' := by
  have hmm := @run_makeMap Tryd.prog
  go_enter Tryd.func25, Tryd.ntmps25
  go_wp2
  go_ret
  have hb1 := Blk.made (w.alloc (.map #[] 0)) 72 #[.int .i64 most, .map (some w.heap.size)]
  rw [World.size_alloc] at hb1
  have hm2 : AMap Tryd.prog 9 strKE QV.agg ((w.alloc (.map #[] 0)).alloc (.cells #[.int .i64 most, .map (some w.heap.size)] 72)) w.heap.size (([] : QL).map entQ) := (AMap.made w Tryd.prog 9 strKE QV.agg).fr (X := []) ((Fr.refl [] _).alloc _) (by simp)
  exact ⟨w.heap.size + 1, w.heap.size, rfl, ⟨hb1, hm2, Nat.zero_le _, fun q hq => by cases hq⟩, by omega, Nat.le_refl _, ((Below.refl _ w).alloc (Nat.le_refl _) _).alloc (by simp) _⟩
theorem slen_any (h : StI w g bm most L) : Calls Tryd.prog 36 #[.pointer (some ⟨g, 0, none⟩)] w fun x w' => x = .returned (.int .i64 L.length) ∧ w = w' := by
  have c1 := h.blk.cell 1
  have hl := h.map.len Tryd.underlying70 3
  rw [List.length_map] at hl
  clear h
  go_enter Tryd.func36, Tryd.ntmps36
  go_wp2
  go_ret
  exact ⟨rfl, rfl⟩
def GetSays (w : World) (m : MV) (b : Bool) (x : Ending) (w' : World) : Prop := ∃ pa pc, x = .returned (.tuple #[QV.agg ⟨m, pa, pc⟩, .bool b]) ∧ PIn w' 0 pa m.props ∧ Below w.heap.size w w'
set_option maxHeartbeats 4000000 in
theorem sget_any (h : StI w g bm most L) {s : ByteArray} (hs : s.size ≤ maxLen) {q : QV} {b : Bool} (hv : At L s q b) :
    Calls Tryd.prog 30 #[.pointer (some ⟨g, 0, none⟩), .string s] w (GetSays w q.m b) := by
  have HO := Lib.hid (Own.start [] w)
  have HH := Lib.hid h
  have HV := Lib.hid hv
  have HZ := Lib.hid hs
  have hone : ∀ q : QV, q.cells.toArray.size = zq.size ∧ q.cells.toArray.toList.all (·.oneCell') = true := fun q => ⟨rfl, by simp [QV.cells, Value.oneCell']⟩
  have HS := Lib.hid (hone q)
  have HC : Hid (∀ W, Below w.heap.size w W → Calls Tryd.prog 56 #[.agg q.cells.toArray] W fun e W' => ∃ (vc : Array Value), e = .returned (.agg vc) ∧ (vc.size = zq.size ∧ vc.toList.all (·.oneCell') = true) ∧ (∃ pa pc, Value.agg vc = QV.agg ⟨q.m, pa, pc⟩ ∧ PIn W' 0 pa q.m.props) ∧ Below W.heap.size W W') := Lib.hid fun W hb =>
    (copy_any q ((hv.pin h).1.below hb) (hv.pin h).2).mono fun e W' ⟨pa, pc, h1, h2, h3⟩ => ⟨(QV.cells ⟨q.m, pa, pc⟩).toArray, h1, hone _, ⟨pa, pc, rfl, h2⟩, h3⟩
  clear h hv hs hone
  go_enter Tryd.func30, Tryd.ntmps30
  go_upto_region 1 with (refine wpo_alloc tyMs HO.out rfl rfl ?_; clear HO; rintro k4 W1 hO; have HO := Lib.hid hO; clear hO; simp only [Act.put, List.setIfInBounds_toArray, List.set_cons_zero, List.set_cons_succ])
  have c1 := (HO.out.eld HH.out.blk (by simp)).cell 1
  have hr := look19 (HH.out.below HO.out.bel) HZ.out HV.out
  rw [show q.agg = .agg q.cells.toArray from rfl] at hr
  generalize q.cells.toArray = qc at *
  go_upto_region 4 with (first
    | (refine wpo_alloc tyMs HO.out rfl rfl ?_; clear HO; rintro k6 W2 hO; have HO := Lib.hid hO; clear hO; simp only [Act.put, List.setIfInBounds_toArray, List.set_cons_zero, List.set_cons_succ])
    | (refine wpo_store (k := k6) HO.out 0 tyMs rfl _ _ rfl rfl rfl rfl rfl HS.out.1 HS.out.2 ?_; clear HO; rintro W3 hO; have HO := Lib.hid hO; clear hO; simp only [Act.put]))
  have HC2 := Lib.hid (HC.out W3 HO.out.bel)
  clear c1 hr
  go_wp2_with (refine wpo_load (k := k6) HO.out 0 tyMs rfl HS.out.1 _ rfl rfl rfl ?_; simp only [Act.put, List.setIfInBounds_toArray, List.set_cons_zero, List.set_cons_succ])
  refine HC2.out.mono ?_
  rintro e W4 ⟨vc, rfl, hvs, hvp, hb⟩
  have HB := Lib.hid (HO.out.below hb)
  have HVS := Lib.hid hvs
  have HVP := Lib.hid hvp
  clear HO hb HC2 hvs hvp
  have HO := HB
  clear HB
  go_wp2_with (refine wpg_store (k := k4) (G := fun W => ∃ pa pc, Value.agg vc = QV.agg ⟨q.m, pa, pc⟩ ∧ PIn W 0 pa q.m.props) HO.out 1 tyMs rfl (fun V hV => by obtain ⟨pa, pc, e1, hp⟩ := HVP.out; exact ⟨pa, pc, e1, hp.fr hV (fun b hb => ⟨Nat.zero_le _, fun cs hc => by rw [List.mem_singleton] at hb; subst hb; exact (HO.out.get 1 rfl).other hc (by decide) rfl⟩)⟩) _ _ rfl rfl rfl rfl rfl HVS.out.1 HVS.out.2 ?_; clear HO; rintro W5 hO hG; have HO := Lib.hid hO; have HG := Lib.hid hG; clear hO hG; simp only [Act.put])
  obtain ⟨pa, pc, e1, hp5⟩ := HG.out
  exact bodyPost_ret (v := .tuple #[.agg vc, .bool b]) (res_own10 1 HO.out tyMs rfl rfl rfl rfl HVS.out.1) rfl ⟨pa, pc, by rw [e1], hp5, HO.out.bel⟩
end
end Go.Proofs.YtfmkeapbddhndaaDoor
