/- What is proved here: rows of messages of one's own, and their sort by topics. Conditions: those that each theorem names. -/
import Derived.Test.YtfmkeapbddhndaaDoorCmp19
import Derived.Test.YtfmkeapbddhndaaDoorAMapIn
import Derived.Great.BuildSlice
namespace Go.Proofs.YtfmkeapbddhndaaDoor
open Go.RowKit Go.Extern.Stop Go.Stop Go.Extern Go.Maps Go.Shelf Go.Lib Go.Sort
set_option maxRecDepth 100000
theorem own_listM {v : Value} {k : Nat} : k ∈ v.ownBlock.toList ↔ v.ownBlock = some k := by simp
/-- A row of messages from its block's beginning. -/
abbrev MRow (w : World) (B : Nat) (v : Value) (L : QL) : Prop := w.ownsRow B 57 9 v L.length (qcs L)
theorem MRow.form {w : World} {B : Nat} {v : Value} {L : QL} (h : MRow w B v L) : ∃ a c, v = .slice a L.length c := by
  rcases h.2 with ⟨rfl, h0⟩ | ⟨gr, cap, cur, rfl, _⟩
  · exact ⟨none, 0, by rw [h0]⟩
  · exact ⟨_, _, rfl⟩
theorem MRow.lt {w : World} {B : Nat} {v : Value} {L : QL} (h : MRow w B v L) : ∀ k, v.ownBlock = some k → B ≤ k ∧ k < w.heap.size ∧ ∃ cs, w.heap[k]? = some (.cells cs 57 (0, 0)) := by
  intro k hk
  rcases h.2 with ⟨rfl, h0⟩ | ⟨gr, cap, cur, rfl, hB, hh, _⟩
  · cases hk
  · injection hk with hk
    subst hk
    exact ⟨hB, lt_of_block hh, _, hh⟩
section
variable {w w' : World} {B : Nat} {v : Value} {L : QL}
theorem MRow.fr {X : List Nat} (h : MRow w B v L) (hf : Fr X w w') (hX : ∀ k, v.ownBlock = some k → k ∉ X) : MRow w' B v L := by
  obtain ⟨h1, h2⟩ := h
  refine ⟨h1, ?_⟩
  rcases h2 with h2 | ⟨gr, cap, cur, rfl, hB, hh, h3⟩
  · exact .inl h2
  · exact .inr ⟨gr, cap, cur, rfl, hB, (hf.block gr (lt_of_block hh) (hX gr rfl)).trans hh, h3⟩
theorem MRow.below (h : MRow w B v L) (hb : Below w.heap.size w w') : MRow w' B v L := own_below h hb
theorem MRow.push {t ty : TypeId} (ht : Tryd.prog.underlying t = some (.slice 57)) (h : MRow w B v L) (hB : B ≤ w.heap.size) (hl : L.length ≤ 1000) (x : QV) {ad : Addr} (hq : ∀ i, i < 9 → w.cell? (ad.add i) = x.cells[i]?) (c : Nat) :
    ∃ v' w', (Builtin.append_ #[t, t] ty #[v, .slice (some ad) 1 c]).run Tryd.prog w = .ok v' w' ∧ MRow w' B v' (L ++ [x]) ∧ w.grownBy w' v.ownBlock := by
  obtain ⟨i0, hi0, hz0, hz1, hz2⟩ := info_parts Tryd.msgInfo
  have hlen : (L ++ [x]).length = L.length + 1 := by simp
  have hn : ∀ j u, (x.cells)[j]? = some u → w.cell? (ad.add j) = some u := fun j u hj => by
    rw [hq j (by have := (List.getElem?_eq_some_iff.1 hj).1; exact this)]; exact hj
  have h1 : ∀ u ∈ x.cells, u.oneCell' = true := fun u hu => qcs_ones [x] u (by simpa [qcs] using hu)
  have hL9 : (L.length + 1) * 120 ≤ 140737488355328 := by omega
  obtain ⟨v', w', hr, ho, hg, _, _⟩ := run_append_own_at (P := Tryd.prog) w B t ty _ i0 _ 9 120 ht hi0 hz0 hz1 hz2 rfl (by decide) v L.length (qcs L) h ad 1 c x.cells rfl hn h1 (Nat.le_trans (show L.length + 1 ≤ 1001 by omega) (by unfold maxLen; decide)) (by omega) hB
  refine ⟨v', w', hr, ?_, hg⟩
  show World.ownsRow w' B 57 9 v' (L ++ [x]).length (qcs (L ++ [x]))
  rw [qcs_app, show qcs [x] = x.cells by simp [qcs], hlen]
  exact ho
theorem append_m {ops : Array Oper} {rest : List Oper} {o : Oper} {a : Act} {Q : Exit → Act → World → Prop} {w0 w : World} (hgd : o.guard = none) (s y : Operand) (ho : o.op = .call { callee := .builtin .append, args := #[s, y], argTypes := #[52, 52] })
    {v : Value} {L : QL} (x : QV) (hb : Below w0.heap.size w0 w) (h : MRow w w0.heap.size v L) (hs : a.eval s = v) (hl : L.length ≤ 1000) (ad : Addr) (c : Nat) (hx : a.eval y = .slice (some ad) 1 c) (hq : ∀ i, i < 9 → w.cell? (ad.add i) = x.cells[i]?)
    (hk : ∀ a' c' w', MRow w' w0.heap.size (.slice a' (L.length + 1) c') (L ++ [x]) → Below w0.heap.size w0 w' → Fr v.ownBlock.toList w w' → wpList Tryd.prog ops Q rest (a.put o.dst (.slice a' (L.length + 1) c')) w') : wpList Tryd.prog ops Q (o :: rest) a w := by
  obtain ⟨v', w', hr, hrow, hg⟩ := h.push (ty := o.type) Tryd.underlying52 hb.size hl x hq c
  obtain ⟨a', c', rfl⟩ := hrow.form
  have hlen : (L ++ [x]).length = L.length + 1 := by simp
  rw [hlen] at hr hrow
  have hf : Fr v.ownBlock.toList w w' := (Fr.refl _ w).grown hg (fun k hk => .inl (own_listM.2 hk))
  refine Lib.wpList_append_run w hgd s y 52 52 ho v _ hs hx _ w' hr (hk a' c' w' ?_ (hf.later hb (fun k hm => (h.lt k (own_listM.1 hm)).1) hb.size) hf)
  exact hrow
theorem mrow_pin {A : Option Addr} {P : PL} (h : MRow w B v L) (hf : Fr v.ownBlock.toList w w') (hp : PIn w 0 A P) : PIn w' 0 A P :=
  hp.fr hf fun k hk => by
    obtain ⟨_, _, cs', hh'⟩ := h.lt k (own_listM.1 hk)
    refine ⟨Nat.zero_le _, fun cs hh => ?_⟩
    rw [hh'] at hh
    injection hh with hh
    injection hh with _ ht
    exact absurd ht (by decide)
theorem wpm_slice1 {ops : Array Oper} {rest : List Oper} {o : Oper} {a : Act} {Q : Exit → Act → World → Prop} {pc : Array Value} (hs : pc.size = 9) (hgd : o.guard = none) (x : Operand) (ho : o.op = .buildSlice 52 1 #[(0, x)]) (hx : a.eval x = .agg pc)
    (h : wpList Tryd.prog ops Q rest (a.put o.dst (.slice (some ⟨w.heap.size, 0, none⟩) 1 1)) (w.alloc (.cells pc 57))) : wpList Tryd.prog ops Q (o :: rest) a w := by
  obtain ⟨i0, hi0, hz0, hz1, hz2⟩ := info_parts Tryd.msgInfo
  refine wpList_buildSlice hgd _ _ 1 _ ho pc i0 _ Tryd.underlying52 hi0 hz0 (by rw [hz1]; decide) (by rw [hz1]; decide) ?_ h
  have e : ((#[(0, x)] : Array (Nat × Operand)).map fun (i, x) => (i, a.eval x)).toList = (([Value.agg pc] : List Value).zipIdx 0).map fun x => (x.2, x.1) := by
    simp [hx]
  rw [e, hz1, Great.fill_whole (s := 9) (by decide) [.agg pc] _ (fun v hv => by rw [List.mem_singleton] at hv; subst hv; exact hs) (by simp)]
  simp [Value.cells]
theorem news_m (W : World) (pc : Array Value) : ∀ i, i < 9 → (W.alloc (.cells pc 57)).cell? ((⟨W.heap.size, 0, none⟩ : Addr).add i) = pc[i]? := by
  intro i hi
  rw [Addr.add_lit, Nat.zero_add, (Blk.made W 57 pc).cell i]
end
instance : Inhabited QV := ⟨q0⟩
theorem qv_one (q : QV) : ∀ u ∈ q.cells, u.oneCell' = true := fun u hu => qcs_ones [q] u (by simpa [qcs] using hu)
set_option maxHeartbeats 2000000 in
theorem cmpc_any (x y : QV) (W : World) : Calls Tryd.prog 61 #[.agg x.cells.toArray, .agg y.cells.toArray] W fun e w' => e = .returned (.int .i64 (cmpQ x y)) ∧ ∃ q os', w' = grow (W.drewN q) os' := by
  have hcon := fun W' => compareT_any x.m.topic y.m.topic W'
  unfold cmpQ
  generalize cmpT x.m.topic y.m.topic = r at hcon ⊢
  unfold QV.cells
  go_enter Tryd.func61, Tryd.ntmps61
  go_wp2_with (go_at_call 62; refine (hcon _).mono ?_; rintro e w' ⟨rfl, rfl⟩)
  go_ret
  exact ⟨rfl, 0, _, by rw [alloc_eq_grow, alloc_eq_grow, grow_grow]; rfl⟩
theorem cmpLaysQ (blk off size : Nat) (w : World) : CmpLays Tryd.prog 61 #[] QV.cells 9 cmpQ blk off size w := fun _ _ _ _ x y => cmpc_any x y _
/-- A row is sorted by topics. -/
theorem sort_m {w : World} {B g cap : Nat} {ss : QL} (hr : MRow w B (.slice (some ⟨g, 0, none⟩) ss.length cap) ss) (hl : ss.length ≤ 1000) :
    Calls Tryd.prog 60 #[.slice (some ⟨g, 0, none⟩) ss.length cap, .func (.func 61) #[] #[]] w fun e w' => ∃ d : QL, e = .returned (.tuple #[]) ∧ d.Perm ss ∧ d.Pairwise (fun a b => lessT b.m.topic a.m.topic = false) ∧ MRow w' B (.slice (some ⟨g, 0, none⟩) ss.length cap) d ∧ w.grownBy w' (some g) := by
  have eg : ∀ args w, (callFunc 61 args).run Tryd.prog w = .ok (.enter 61 args) w := enters_of Tryd.func61 (by kernel_rfl) rfl
  have hsz : ss.toArray.size = ss.length := by simp
  have hk9 : ∀ q : QV, q.cells.length = 9 := fun _ => rfl
  have hcon := AnyQ.slices_SortFunc Tryd.sortFl 9 Tryd.isAgg57 Tryd.sizeOf57 QV.cells hk9 qv_one cmpQ swoQ 61 #[] g 0 cap ss.toArray w eg (cmpLaysQ g 0 _ w) (row_holds hk9 hr) (row_lt hr) (by rw [hsz]; omega)
  rw [hsz] at hcon
  change Calls Tryd.prog 60 _ _ _ at hcon
  refine hcon.mono ?_
  rintro e w' ⟨rfl, d', n, os, hpi, hsi, rfl⟩
  rw [← hsz] at hpi hsi
  have h1 := perm_of_in hpi
  have h2 := pair_of_in hpi hsi
  rw [List.toList_toArray] at h1
  have h3 : d'.toList.Pairwise (fun a b => lessT b.m.topic a.m.topic = false) := h2.imp fun {a b} hab => by
    rw [ltQ] at hab
    exact hab
  obtain ⟨d⟩ := d'
  have hd : d.length = ss.length := h1.length_eq
  have h4 := row_sorted (n := n) (os := os) (M := d) hk9 hd hr
  refine ⟨d, rfl, h1, h3, ?_, h4.2⟩
  rw [← hd]
  exact h4.1
end Go.Proofs.YtfmkeapbddhndaaDoor
