/- What is proved here: rows of messages under way (without their places) of one's own, and one more behind them. Conditions: few messages. -/
import Derived.Test.YtpaalhhadjihlaaPkr24
namespace Go.Proofs.Ytpaalhhadjihlaa
open Go.RowKit Go.Extern.Stop Go.Stop Go.Extern Go.Maps
set_option maxRecDepth 100000
/-- A message under way without its place. -/
def FV.gcells (f : FV) : Array Value := #[.int .i64 f.id, .int .i64 f.st, .string f.q.m.topic, .string f.q.m.payload, .int .i64 f.q.m.qos, .bool f.q.m.retain, .slice f.q.pa f.q.m.props.length f.q.pc, .string f.q.m.frm, .int .i64 f.q.m.til, .int .i64 f.q.m.seq, .string f.q.m.grp]
theorem gv_one (f : FV) : f.gcells.all (·.oneCell') = true := by
  unfold FV.gcells
  simp [Value.oneCell']
def gcs (L : FL) : List Value := L.flatMap fun x => x.gcells.toList
theorem gcs_app (L M : FL) : gcs (L ++ M) = gcs L ++ gcs M := by simp [gcs]
theorem gcs_one (x : FV) : gcs [x] = x.gcells.toList := by simp [gcs]
theorem gcs_get (L : FL) : ∀ k i, k < L.length → i < 11 → (gcs L)[k * 11 + i]? = (L.getD k f0).gcells[i]? := by
  induction L with
  | nil => intro k i hk; cases hk
  | cons p L ih =>
    intro k i hk hi
    have hl : p.gcells.toList.length = 11 := rfl
    show (p.gcells.toList ++ gcs L)[_]? = _
    rcases k with _ | k
    · rw [Nat.zero_mul, Nat.zero_add, List.getElem?_append_left (by rw [hl]; exact hi), Array.getElem?_toList]
      rfl
    · rw [List.getElem?_append_right (by rw [hl]; omega), hl]
      rw [show (k + 1) * 11 + i - 11 = k * 11 + i by omega]
      exact ih k i (by simpa using hk) hi
/-- A row of them. -/
abbrev GRow (w : World) (B : Nat) (v : Value) (L : FL) : Prop := w.ownsRow B 71 11 v L.length (gcs L)
theorem GRow.form {w : World} {B : Nat} {v : Value} {L : FL} (h : GRow w B v L) : ∃ a c, v = .slice a L.length c := by
  rcases h.2 with ⟨rfl, h0⟩ | ⟨gr, cap, cur, rfl, _⟩
  · exact ⟨none, 0, by rw [h0]⟩
  · exact ⟨_, _, rfl⟩
theorem GRow.cell {w : World} {B : Nat} {a : Option Addr} {n c : Nat} {L : FL} (h : GRow w B (.slice a n c) L) (hl : 0 < L.length) : ∃ g, a = some ⟨g, 0, none⟩ ∧ g < w.heap.size ∧ ∀ k i, k < L.length → i < 11 → w.cell? ⟨g, k * 11 + i, none⟩ = (L.getD k f0).gcells[i]? := by
  rcases h.2 with ⟨_, h0⟩ | ⟨gr, cap, cur, e, hB, hh, h3⟩
  · omega
  · have e' := e
    injection e' with ha hn hc
    subst ha hn hc
    refine ⟨gr, rfl, lt_of_block hh, fun k i hk hi => ?_⟩
    rw [← gcs_get L k i hk hi]
    exact World.ownsRow.cellAt h (k * 11 + i) (by omega)
theorem GRow.lt {w : World} {B : Nat} {v : Value} {L : FL} (h : GRow w B v L) : ∀ k, v.ownBlock = some k → B ≤ k ∧ k < w.heap.size ∧ ∃ cs, w.heap[k]? = some (.cells cs 71 (0, 0)) := by
  intro k hk
  rcases h.2 with ⟨rfl, h0⟩ | ⟨gr, cap, cur, rfl, hB, hh, _⟩
  · cases hk
  · injection hk with hk
    subst hk
    exact ⟨hB, lt_of_block hh, _, hh⟩
theorem Try.flight2Info : (Try.prog.info? 71).map (fun i => (i.zero, i.size, i.bytes)) = some (some (.agg (f0.gcells)), 11, 136) := by kernel_rfl
section
variable {w w' : World} {B : Nat} {v : Value} {L : FL}
/-- One more. -/
theorem GRow.push {t ty : TypeId} (ht : Try.prog.underlying t = some (.slice 71)) (h : GRow w B v L) (hB : B ≤ w.heap.size) (hl : L.length ≤ 1000) (x : FV) {ad : Addr} (hq : ∀ i, i < 11 → w.cell? (ad.add i) = x.gcells[i]?) (c : Nat) :
    ∃ v' w', (Builtin.append_ #[t, t] ty #[v, .slice (some ad) 1 c]).run Try.prog w = .ok v' w' ∧ GRow w' B v' (L ++ [x]) ∧ w.grownBy w' v.ownBlock := by
  obtain ⟨i0, hi0, hz0, hz1, hz2⟩ := info_parts Try.flight2Info
  have hlen : (L ++ [x]).length = L.length + 1 := by simp
  have hn : ∀ j u, (x.gcells.toList)[j]? = some u → w.cell? (ad.add j) = some u := fun j u hj => by
    rw [hq j (by have := (List.getElem?_eq_some_iff.1 hj).1; exact this), ← Array.getElem?_toList]; exact hj
  have h1 : ∀ u ∈ x.gcells.toList, u.oneCell' = true := fun u hu => by
    have := gv_one x
    rw [← Array.all_toList, List.all_eq_true] at this
    exact this u hu
  have hL9 : (L.length + 1) * 136 ≤ 140737488355328 := by omega
  obtain ⟨v', w', hr, ho, hg, _, _⟩ := run_append_own_at (P := Try.prog) w B t ty _ i0 _ 11 136 ht hi0 hz0 hz1 hz2 rfl (by decide) v L.length (gcs L) h ad 1 c x.gcells.toList rfl hn h1 (Nat.le_trans (show L.length + 1 ≤ 1001 by omega) (by unfold maxLen; decide)) (by omega) hB
  refine ⟨v', w', hr, ?_, hg⟩
  show World.ownsRow w' B 71 11 v' (L ++ [x]).length (gcs (L ++ [x]))
  rw [gcs_app, gcs_one, hlen]
  exact ho
theorem append_g {ops : Array Oper} {rest : List Oper} {o : Oper} {a : Act} {Q : Exit → Act → World → Prop} {w0 w : World} (hgd : o.guard = none) (s y : Operand) (ho : o.op = .call { callee := .builtin .append, args := #[s, y], argTypes := #[56, 56] })
    {v : Value} {L : FL} (x : FV) (hb : Below w0.heap.size w0 w) (h : GRow w w0.heap.size v L) (hs : a.eval s = v) (hl : L.length ≤ 1000) (ad : Addr) (c : Nat) (hx : a.eval y = .slice (some ad) 1 c) (hq : ∀ i, i < 11 → w.cell? (ad.add i) = x.gcells[i]?)
    (hk : ∀ a' c' w', GRow w' w0.heap.size (.slice a' (L.length + 1) c') (L ++ [x]) → Below w0.heap.size w0 w' → Fr v.ownBlock.toList w w' → wpList Try.prog ops Q rest (a.put o.dst (.slice a' (L.length + 1) c')) w') : wpList Try.prog ops Q (o :: rest) a w := by
  obtain ⟨v', w', hr, hrow, hg⟩ := h.push (ty := o.type) Try.underlying56 hb.size hl x hq c
  obtain ⟨a', c', rfl⟩ := hrow.form
  have hlen : (L ++ [x]).length = L.length + 1 := by simp
  rw [hlen] at hr hrow
  have hf : Fr v.ownBlock.toList w w' := (Fr.refl _ w).grown hg (fun k hk => .inl (own_listK.2 hk))
  refine Lib.wpList_append_run w hgd s y 56 56 ho v _ hs hx _ w' hr (hk a' c' w' ?_ (hf.later hb (fun k hm => (h.lt k (own_listK.1 hm)).1) hb.size) hf)
  exact hrow
/-- What a row leaves of properties. -/
theorem grow_pin {A : Option Addr} {P : PL} (h : GRow w B v L) (hf : Fr v.ownBlock.toList w w') (hp : PIn w 0 A P) : PIn w' 0 A P :=
  hp.fr hf fun k hk => by
    obtain ⟨_, _, cs', hh'⟩ := h.lt k (own_listK.1 hk)
    refine ⟨Nat.zero_le _, fun cs hh => ?_⟩
    rw [hh'] at hh
    injection hh with hh
    injection hh with _ ht
    exact absurd ht (by decide)
/-- A slice literal of one. -/
theorem wpg_slice1 {ops : Array Oper} {rest : List Oper} {o : Oper} {a : Act} {Q : Exit → Act → World → Prop} {pc : Array Value} (hs : pc.size = 11) (hgd : o.guard = none) (x : Operand) (ho : o.op = .buildSlice 56 1 #[(0, x)]) (hx : a.eval x = .agg pc)
    (h : wpList Try.prog ops Q rest (a.put o.dst (.slice (some ⟨w.heap.size, 0, none⟩) 1 1)) (w.alloc (.cells pc 71))) : wpList Try.prog ops Q (o :: rest) a w := by
  obtain ⟨i0, hi0, hz0, hz1, hz2⟩ := info_parts Try.flight2Info
  refine wpList_buildSlice hgd _ _ 1 _ ho pc i0 _ Try.underlying56 hi0 hz0 (by rw [hz1]; decide) (by rw [hz1]; decide) ?_ h
  have e : ((#[(0, x)] : Array (Nat × Operand)).map fun (i, x) => (i, a.eval x)).toList = (([Value.agg pc] : List Value).zipIdx 0).map fun x => (x.2, x.1) := by
    simp [hx]
  rw [e, hz1, Great.fill_whole (s := 11) (by decide) [.agg pc] _ (fun v hv => by rw [List.mem_singleton] at hv; subst hv; exact hs) (by simp)]
  simp [Value.cells]
theorem news_g (W : World) (pc : Array Value) : ∀ i, i < 11 → (W.alloc (.cells pc 71)).cell? ((⟨W.heap.size, 0, none⟩ : Addr).add i) = pc[i]? := by
  intro i hi
  rw [Addr.add_lit, Nat.zero_add, (Blk.made W 71 pc).cell i]
theorem GRow.below (h : GRow w B v L) (hb : Below w.heap.size w w') : GRow w' B v L := own_below h hb
end
end Go.Proofs.Ytpaalhhadjihlaa
