/- What is proved here: rows of packets of one's own, and one more behind them. Conditions: few packets. -/
import Derived.Test.YtpaalhhadjihlaaOpg24
import Derived.Great.BuildSlice
namespace Go.Proofs.Ytpaalhhadjihlaa
open Go.RowKit Go.Extern.Stop Go.Stop Go.Extern Go.Maps
set_option maxRecDepth 100000
theorem own_listK {v : Value} {k : Nat} : k ∈ v.ownBlock.toList ↔ v.ownBlock = some k := by
  cases hv : v.ownBlock <;> simp [eq_comm]
abbrev KL := List (Pk × PkA)
def kcs (L : KL) : List Value := L.flatMap fun x => (x.1.cells x.2).toList
theorem kcs_app (L M : KL) : kcs (L ++ M) = kcs L ++ kcs M := by simp [kcs]
theorem kcs_one (x : Pk × PkA) : kcs [x] = (x.1.cells x.2).toList := by simp [kcs]
theorem kcs_get (L : KL) : ∀ k i, k < L.length → i < 26 → (kcs L)[k * 26 + i]? = ((L.getD k (pk0, pa0)).1.cells (L.getD k (pk0, pa0)).2)[i]? := by
  induction L with
  | nil => intro k i hk; cases hk
  | cons p L ih =>
    intro k i hk hi
    have hl : (p.1.cells p.2).toList.length = 26 := rfl
    show ((p.1.cells p.2).toList ++ kcs L)[_]? = _
    rcases k with _ | k
    · rw [Nat.zero_mul, Nat.zero_add, List.getElem?_append_left (by rw [hl]; exact hi), Array.getElem?_toList]
      rfl
    · rw [List.getElem?_append_right (by rw [hl]; omega), hl]
      rw [show (k + 1) * 26 + i - 26 = k * 26 + i by omega]
      exact ih k i (by simpa using hk) hi
/-- A row of packets. -/
abbrev KRow (w : World) (B : Nat) (v : Value) (L : KL) : Prop := w.ownsRow B 49 26 v L.length (kcs L)
theorem KRow.form {w : World} {B : Nat} {v : Value} {L : KL} (h : KRow w B v L) : ∃ a c, v = .slice a L.length c := by
  rcases h.2 with ⟨rfl, h0⟩ | ⟨gr, cap, cur, rfl, _⟩
  · exact ⟨none, 0, by rw [h0]⟩
  · exact ⟨_, _, rfl⟩
theorem KRow.cell {w : World} {B : Nat} {a : Option Addr} {n c : Nat} {L : KL} (h : KRow w B (.slice a n c) L) (hl : 0 < L.length) : ∃ g, a = some ⟨g, 0, none⟩ ∧ g < w.heap.size ∧ ∀ k i, k < L.length → i < 26 → w.cell? ⟨g, k * 26 + i, none⟩ = ((L.getD k (pk0, pa0)).1.cells (L.getD k (pk0, pa0)).2)[i]? := by
  rcases h.2 with ⟨_, h0⟩ | ⟨gr, cap, cur, e, hB, hh, h3⟩
  · omega
  · have e' := e
    injection e' with ha hn hc
    subst ha hn hc
    refine ⟨gr, rfl, lt_of_block hh, fun k i hk hi => ?_⟩
    rw [← kcs_get L k i hk hi]
    exact World.ownsRow.cellAt h (k * 26 + i) (by omega)
theorem KRow.lt {w : World} {B : Nat} {v : Value} {L : KL} (h : KRow w B v L) : ∀ k, v.ownBlock = some k → B ≤ k ∧ k < w.heap.size ∧ ∃ cs, w.heap[k]? = some (.cells cs 49 (0, 0)) := by
  intro k hk
  rcases h.2 with ⟨rfl, h0⟩ | ⟨gr, cap, cur, rfl, hB, hh, _⟩
  · cases hk
  · injection hk with hk
    subst hk
    exact ⟨hB, lt_of_block hh, _, hh⟩
theorem Try.packetInfo : (Try.prog.info? 49).map (fun i => (i.zero, i.size, i.bytes)) = some (some (.agg (pk0.cells pa0)), 26, 336) := by kernel_rfl
section
variable {w w' : World} {B : Nat} {v : Value} {L : KL}
/-- One packet more. -/
theorem KRow.push {t ty : TypeId} (ht : Try.prog.underlying t = some (.slice 49)) (h : KRow w B v L) (hB : B ≤ w.heap.size) (hl : L.length ≤ 1000) (x : Pk × PkA) {ad : Addr} (hq : ∀ i, i < 26 → w.cell? (ad.add i) = (x.1.cells x.2)[i]?) (c : Nat) :
    ∃ v' w', (Builtin.append_ #[t, t] ty #[v, .slice (some ad) 1 c]).run Try.prog w = .ok v' w' ∧ KRow w' B v' (L ++ [x]) ∧ w.grownBy w' v.ownBlock := by
  obtain ⟨i0, hi0, hz0, hz1, hz2⟩ := info_parts Try.packetInfo
  have hlen : (L ++ [x]).length = L.length + 1 := by simp
  have hn : ∀ j u, ((x.1.cells x.2).toList)[j]? = some u → w.cell? (ad.add j) = some u := fun j u hj => by
    rw [hq j (by have := (List.getElem?_eq_some_iff.1 hj).1; exact this), ← Array.getElem?_toList]; exact hj
  have h1 : ∀ u ∈ (x.1.cells x.2).toList, u.oneCell' = true := fun u hu => by
    have := pk_one x.1 x.2
    rw [← Array.all_toList, List.all_eq_true] at this
    exact this u hu
  have hL9 : (L.length + 1) * 336 ≤ 140737488355328 := by omega
  obtain ⟨v', w', hr, ho, hg, _, _⟩ := run_append_own_at (P := Try.prog) w B t ty _ i0 _ 26 336 ht hi0 hz0 hz1 hz2 rfl (by decide) v L.length (kcs L) h ad 1 c (x.1.cells x.2).toList rfl hn h1 (Nat.le_trans (show L.length + 1 ≤ 1001 by omega) (by unfold maxLen; decide)) (by omega) hB
  refine ⟨v', w', hr, ?_, hg⟩
  show World.ownsRow w' B 49 26 v' (L ++ [x]).length (kcs (L ++ [x]))
  rw [kcs_app, kcs_one, hlen]
  exact ho
theorem append_k {ops : Array Oper} {rest : List Oper} {o : Oper} {a : Act} {Q : Exit → Act → World → Prop} {w0 w : World} (hgd : o.guard = none) (s y : Operand) (ho : o.op = .call { callee := .builtin .append, args := #[s, y], argTypes := #[63, 63] })
    {v : Value} {L : KL} (x : Pk × PkA) (hb : Below w0.heap.size w0 w) (h : KRow w w0.heap.size v L) (hs : a.eval s = v) (hl : L.length ≤ 1000) (ad : Addr) (c : Nat) (hx : a.eval y = .slice (some ad) 1 c) (hq : ∀ i, i < 26 → w.cell? (ad.add i) = (x.1.cells x.2)[i]?)
    (hk : ∀ a' c' w', KRow w' w0.heap.size (.slice a' (L.length + 1) c') (L ++ [x]) → Below w0.heap.size w0 w' → Fr v.ownBlock.toList w w' → wpList Try.prog ops Q rest (a.put o.dst (.slice a' (L.length + 1) c')) w') : wpList Try.prog ops Q (o :: rest) a w := by
  obtain ⟨v', w', hr, hrow, hg⟩ := h.push (ty := o.type) Try.underlying63 hb.size hl x hq c
  obtain ⟨a', c', rfl⟩ := hrow.form
  have hlen : (L ++ [x]).length = L.length + 1 := by simp
  rw [hlen] at hr hrow
  have hf : Fr v.ownBlock.toList w w' := (Fr.refl _ w).grown hg (fun k hk => .inl (own_listK.2 hk))
  refine Lib.wpList_append_run w hgd s y 63 63 ho v _ hs hx _ w' hr (hk a' c' w' ?_ (hf.later hb (fun k hm => (h.lt k (own_listK.1 hm)).1) hb.size) hf)
  exact hrow
/-- What a row of packets leaves of properties. -/
theorem krow_pin {A : Option Addr} {P : PL} (h : KRow w B v L) (hf : Fr v.ownBlock.toList w w') (hp : PIn w 0 A P) : PIn w' 0 A P :=
  hp.fr hf fun k hk => by
    obtain ⟨_, _, cs', hh'⟩ := h.lt k (own_listK.1 hk)
    refine ⟨Nat.zero_le _, fun cs hh => ?_⟩
    rw [hh'] at hh
    injection hh with hh
    injection hh with _ ht
    exact absurd ht (by decide)
/-- A slice literal of one packet. -/
theorem wpk_slice1 {ops : Array Oper} {rest : List Oper} {o : Oper} {a : Act} {Q : Exit → Act → World → Prop} {pc : Array Value} (hs : pc.size = 26) (hgd : o.guard = none) (x : Operand) (ho : o.op = .buildSlice 63 1 #[(0, x)]) (hx : a.eval x = .agg pc)
    (h : wpList Try.prog ops Q rest (a.put o.dst (.slice (some ⟨w.heap.size, 0, none⟩) 1 1)) (w.alloc (.cells pc 49))) : wpList Try.prog ops Q (o :: rest) a w := by
  obtain ⟨i0, hi0, hz0, hz1, hz2⟩ := info_parts Try.packetInfo
  refine wpList_buildSlice hgd _ _ 1 _ ho pc i0 _ Try.underlying63 hi0 hz0 (by rw [hz1]; decide) (by rw [hz1]; decide) ?_ h
  have e : ((#[(0, x)] : Array (Nat × Operand)).map fun (i, x) => (i, a.eval x)).toList = (([Value.agg pc] : List Value).zipIdx 0).map fun x => (x.2, x.1) := by
    simp [hx]
  rw [e, hz1, Great.fill_whole (s := 26) (by decide) [.agg pc] _ (fun v hv => by rw [List.mem_singleton] at hv; subst hv; exact hs) (by simp)]
  simp [Value.cells]
theorem news_k (W : World) (pc : Array Value) : ∀ i, i < 26 → (W.alloc (.cells pc 49)).cell? ((⟨W.heap.size, 0, none⟩ : Addr).add i) = pc[i]? := by
  intro i hi
  rw [Addr.add_lit, Nat.zero_add, (Blk.made W 49 pc).cell i]
theorem KRow.below (h : KRow w B v L) (hb : Below w.heap.size w w') : KRow w' B v L := own_below h hb
end
end Go.Proofs.Ytpaalhhadjihlaa
