/- What is proved here: keys of two parts, a text and a number below 2^32, and the map of them. Conditions: texts that fit. What is proved here: rows of messages of one's own, and what is appended to them. Conditions: those that each theorem names. What is proved here: what the program's Replay holds: a map of places by keys, and a row of messages. Conditions: those that each theorem names. -/
import Derived.Test.YtnolnhpmpjgnaaaGreatDoorPlt34
import Derived.Test.YtnolnhpmpjgnaaaGreatDoorAMap
import Derived.DeepKeys4
import Derived.Test.YtnolnhpmpjgnaaaGreatDoorMsgF
import Derived.Test.YtnolnhpmpjgnaaaGreatDoorPrp
import Derived.Great.BuildSlice
import Derived.Test.YtnolnhpmpjgnaaaGreatDoorAwk04
namespace Go.Proofs.YtnolnhpmpjgnaaaGreatDoor
set_option maxRecDepth 100000
open Go.RowKit Go.Extern.Stop Go.Stop Go.Extern Go.Maps
def kyE : KE Ky := ⟨fun k => .agg #[.string k.1, .int .i64 ((k.2.val : Nat) : Int)], fun k => .string (keyBytes [.string k.1.data.toList, .int .i64 ((k.2.val : Nat) : Int)])⟩
theorem kyE_inj (x y : Ky) (h : kyE.kl x = kyE.kl y) : x = y := by
  injection h with h
  simp only [keyBytes, List.flatMap_cons, List.flatMap_nil, List.append_nil, Lit.keyBytes, List.append_assoc] at h
  have hl := congrArg List.length h
  simp only [List.length_append, length_bytesBE] at hl
  have hl2 : x.1.data.toList.length = y.1.data.toList.length := by omega
  rw [hl2] at h
  have h2 := List.append_cancel_left h
  obtain ⟨h3, h4⟩ := List.append_inj h2 hl2
  have hx := x.2.isLt
  have hy := y.2.isLt
  have h5 := bytesBE_inj (int_lt .i64 _) (int_lt .i64 _) h4
  have h6 : ((x.2.val : Nat) : Int) = ((y.2.val : Nat) : Int) := by
    simp only [IntKind.bits] at h5
    omega
  exact Prod.ext (ByteArray.ext (Array.toList_inj.mp h3)) (Fin.ext (by omega))
theorem Tryz.keyLaid : laidOutB Tryz.prog = true := by kernel_rfl
theorem Tryz.keyWide : (match Tryz.prog.underlying 76 with | some (.array _ _) | some (.struct _) => true | _ => false) = true := by rw [Tryz.underlying76]
theorem keyK : Keyed Tryz.prog 76 := Keyed.of_law (deep_law_laid Tryz.keyLaid (m := 2) (by omega) (of_decide_eq_true (by kernel_rfl)) (by kernel_rfl) Tryz.keyWide)
theorem keyCells : Tryz.prog.cellsOf 76 = 2 := by kernel_rfl
theorem keyType : Tryz.prog.keyType 76 = true := by kernel_rfl
theorem kyE_ok (k : Ky) (hk : k.1.size ≤ maxLen) : keyOf Tryz.prog 76 (kyE.kv k) = some (kyE.kl k) := by
  obtain ⟨g, n⟩ := k
  have hn := n.isLt
  have hw : (Lit.int .i64 ((n.val : Nat) : Int)).wf = true := by simp [Lit.wf, IntKind.min, IntKind.max, IntKind.signed, IntKind.bits]; omega
  have hpos : 0 < Tryz.prog.types.size := of_decide_eq_true (by kernel_rfl)
  have hsz : ∃ m, Tryz.prog.types.size = m + 1 := ⟨_, (Nat.succ_pred_eq_of_pos hpos).symm⟩
  obtain ⟨m, hm⟩ := hsz
  unfold keyOf
  simp only [Tryz.underlying76]
  rw [if_pos (by simp [keyType, kyE, Value.formed, Tryz.underlying76, keyCells]), hm]
  unfold Program.keyLits
  simp only [Tryz.underlying76, kyE, Value.cells]
  rw [if_pos ⟨by rw [keyCells]; rfl, by simp⟩]
  have c1 : Tryz.prog.cellsOf 9 = 1 := by kernel_rfl
  have c2 : Tryz.prog.cellsOf 3 = 1 := by kernel_rfl
  have hk2 : g.size ≤ maxLen := hk
  simp [List.mapM_cons, c1, c2, Program.keyLits, Tryz.underlying9, Tryz.underlying3, hk2, hw]
end Go.Proofs.YtnolnhpmpjgnaaaGreatDoor
namespace Go.Proofs.YtnolnhpmpjgnaaaGreatDoor
open Go.RowKit Go.Extern.Stop Go.Stop Go.Extern
set_option maxRecDepth 100000
theorem own_listM {v : Value} {k : Nat} : k ∈ v.ownBlock.toList ↔ v.ownBlock = some k := by simp
/-- A row of messages from its block's beginning. -/
abbrev MRow (w : World) (B : Nat) (v : Value) (L : QL) : Prop := w.ownsRow B 25 9 v L.length (qcs L)
theorem MRow.form {w : World} {B : Nat} {v : Value} {L : QL} (h : MRow w B v L) : ∃ a c, v = .slice a L.length c := by
  rcases h.2 with ⟨rfl, h0⟩ | ⟨gr, cap, cur, rfl, _⟩
  · exact ⟨none, 0, by rw [h0]⟩
  · exact ⟨_, _, rfl⟩
theorem MRow.lt {w : World} {B : Nat} {v : Value} {L : QL} (h : MRow w B v L) : ∀ k, v.ownBlock = some k → B ≤ k ∧ k < w.heap.size ∧ ∃ cs, w.heap[k]? = some (.cells cs 25 (0, 0)) := by
  intro k hk
  rcases h.2 with ⟨rfl, h0⟩ | ⟨gr, cap, cur, rfl, hB, hh, _⟩
  · cases hk
  · injection hk with hk
    subst hk
    exact ⟨hB, lt_of_block hh, _, hh⟩
section
variable {w w' : World} {B : Nat} {v : Value} {L : QL}
theorem MRow.fr {X : List Nat} (h : MRow w B v L) (hf : Fr X w w') (hX : ∀ k, v.ownBlock = some k → k ∉ X) : MRow w' B v L := by
  obtain ⟨h1, h2⟩ := h
  refine ⟨h1, ?_⟩
  rcases h2 with h2 | ⟨gr, cap, cur, rfl, hB, hh, h3⟩
  · exact .inl h2
  · exact .inr ⟨gr, cap, cur, rfl, hB, (hf.block gr (lt_of_block hh) (hX gr rfl)).trans hh, h3⟩
theorem MRow.below (h : MRow w B v L) (hb : Below w.heap.size w w') : MRow w' B v L := own_below h hb
theorem MRow.push {t ty : TypeId} (ht : Tryz.prog.underlying t = some (.slice 25)) (h : MRow w B v L) (hB : B ≤ w.heap.size) (hl : L.length ≤ 1000) (x : QV) {ad : Addr} (hq : ∀ i, i < 9 → w.cell? (ad.add i) = x.cells[i]?) (c : Nat) :
    ∃ v' w', (Builtin.append_ #[t, t] ty #[v, .slice (some ad) 1 c]).run Tryz.prog w = .ok v' w' ∧ MRow w' B v' (L ++ [x]) ∧ w.grownBy w' v.ownBlock := by
  obtain ⟨i0, hi0, hz0, hz1, hz2⟩ := info_parts Tryz.msgInfo
  have hlen : (L ++ [x]).length = L.length + 1 := by simp
  have hn : ∀ j u, (x.cells)[j]? = some u → w.cell? (ad.add j) = some u := fun j u hj => by
    rw [hq j (by have := (List.getElem?_eq_some_iff.1 hj).1; exact this)]; exact hj
  have h1 : ∀ u ∈ x.cells, u.oneCell' = true := fun u hu => qcs_ones [x] u (by simpa [qcs] using hu)
  have hL9 : (L.length + 1) * 120 ≤ 140737488355328 := by omega
  obtain ⟨v', w', hr, ho, hg, _, _⟩ := run_append_own_at (P := Tryz.prog) w B t ty _ i0 _ 9 120 ht hi0 hz0 hz1 hz2 rfl (by decide) v L.length (qcs L) h ad 1 c x.cells rfl hn h1 (Nat.le_trans (show L.length + 1 ≤ 1001 by omega) (by unfold maxLen; decide)) (by omega) hB
  refine ⟨v', w', hr, ?_, hg⟩
  show World.ownsRow w' B 25 9 v' (L ++ [x]).length (qcs (L ++ [x]))
  rw [qcs_app, show qcs [x] = x.cells by simp [qcs], hlen]
  exact ho
theorem append_m {ops : Array Oper} {rest : List Oper} {o : Oper} {a : Act} {Q : Exit → Act → World → Prop} {w0 w : World} (hgd : o.guard = none) (s y : Operand) (ho : o.op = .call { callee := .builtin .append, args := #[s, y], argTypes := #[41, 41] })
    {v : Value} {L : QL} (x : QV) (hb : Below w0.heap.size w0 w) (h : MRow w w0.heap.size v L) (hs : a.eval s = v) (hl : L.length ≤ 1000) (ad : Addr) (c : Nat) (hx : a.eval y = .slice (some ad) 1 c) (hq : ∀ i, i < 9 → w.cell? (ad.add i) = x.cells[i]?)
    (hk : ∀ a' c' w', MRow w' w0.heap.size (.slice a' (L.length + 1) c') (L ++ [x]) → Below w0.heap.size w0 w' → Fr v.ownBlock.toList w w' → wpList Tryz.prog ops Q rest (a.put o.dst (.slice a' (L.length + 1) c')) w') : wpList Tryz.prog ops Q (o :: rest) a w := by
  obtain ⟨v', w', hr, hrow, hg⟩ := h.push (ty := o.type) Tryz.underlying41 hb.size hl x hq c
  obtain ⟨a', c', rfl⟩ := hrow.form
  have hlen : (L ++ [x]).length = L.length + 1 := by simp
  rw [hlen] at hr hrow
  have hf : Fr v.ownBlock.toList w w' := (Fr.refl _ w).grown hg (fun k hk => .inl (own_listM.2 hk))
  refine Lib.wpList_append_run w hgd s y 41 41 ho v _ hs hx _ w' hr (hk a' c' w' ?_ (hf.later hb (fun k hm => (h.lt k (own_listM.1 hm)).1) hb.size) hf)
  exact hrow
theorem mrow_pin {A : Option Addr} {P : PL} (h : MRow w B v L) (hf : Fr v.ownBlock.toList w w') (hp : PIn w 0 A P) : PIn w' 0 A P :=
  hp.fr hf fun k hk => by
    obtain ⟨_, _, cs', hh'⟩ := h.lt k (own_listM.1 hk)
    refine ⟨Nat.zero_le _, fun cs hh => ?_⟩
    rw [hh'] at hh
    injection hh with hh
    injection hh with _ ht
    exact absurd ht (by decide)
theorem wpm_slice1 {ops : Array Oper} {rest : List Oper} {o : Oper} {a : Act} {Q : Exit → Act → World → Prop} {pc : Array Value} (hs : pc.size = 9) (hgd : o.guard = none) (x : Operand) (ho : o.op = .buildSlice 41 1 #[(0, x)]) (hx : a.eval x = .agg pc)
    (h : wpList Tryz.prog ops Q rest (a.put o.dst (.slice (some ⟨w.heap.size, 0, none⟩) 1 1)) (w.alloc (.cells pc 25))) : wpList Tryz.prog ops Q (o :: rest) a w := by
  obtain ⟨i0, hi0, hz0, hz1, hz2⟩ := info_parts Tryz.msgInfo
  refine wpList_buildSlice hgd _ _ 1 _ ho pc i0 _ Tryz.underlying41 hi0 hz0 (by rw [hz1]; decide) (by rw [hz1]; decide) ?_ h
  have e : ((#[(0, x)] : Array (Nat × Operand)).map fun (i, x) => (i, a.eval x)).toList = (([Value.agg pc] : List Value).zipIdx 0).map fun x => (x.2, x.1) := by
    simp [hx]
  rw [e, hz1, Great.fill_whole (s := 9) (by decide) [.agg pc] _ (fun v hv => by rw [List.mem_singleton] at hv; subst hv; exact hs) (by simp)]
  simp [Value.cells]
theorem news_m (W : World) (pc : Array Value) : ∀ i, i < 9 → (W.alloc (.cells pc 25)).cell? ((⟨W.heap.size, 0, none⟩ : Addr).add i) = pc[i]? := by
  intro i hi
  rw [Addr.add_lit, Nat.zero_add, (Blk.made W 25 pc).cell i]
end
end Go.Proofs.YtnolnhpmpjgnaaaGreatDoor
namespace Go.Proofs.YtnolnhpmpjgnaaaGreatDoor
set_option maxRecDepth 100000
open Go.RowKit Go.Extern.Stop Go.Stop Go.Extern Go.Maps
theorem take_le (s : ByteArray) (n : Nat) (R : RV) : (rTake s n R).1.size ≤ s.size := by
  unfold rTake
  split
  · split
    · exact Nat.zero_le _
    · simp only [ByteArray.size_extract]
      omega
  · exact Nat.zero_le _
theorem bin_le (s : ByteArray) (R : RV) : (rBin s R).1.size ≤ s.size := take_le _ _ _
theorem rdLoop_len (place : Int) (base : Nat) (t : ByteArray) : ∀ (f : Nat) (L : PL) (R : RV), (rdLoop place base t f L R).L.length ≤ L.length + f
  | 0, L, _ => Nat.le_refl _
  | f + 1, L, R => by
    unfold rdLoop
    split
    · exact Nat.le_add_right _ _
    · split
      · have := rdLoop_len place base t f (L ++ [(nextF place L base t R).p]) (nextF place L base t R).R2
        simp only [List.length_append, List.length_singleton] at this
        omega
      · exact Nat.zero_le _
theorem readF_len (place : Int) (s : ByteArray) (R : RV) : (readF place s R).1.L.length ≤ s.size + 1 := by
  unfold readF
  split
  · have h1 := rdLoop_len place (rVar s R).2.p (rTake s (rVar s R).1 (rVar s R).2).1 ((rTake s (rVar s R).1 (rVar s R).2).1.size + 1) [] ⟨0, 0, 0⟩
    have h2 := take_le s (rVar s R).1 (rVar s R).2
    simp only [List.length_nil] at h1
    show (rdLoop _ _ _ _ _ _).L.length ≤ _
    omega
  · exact Nat.zero_le _
theorem opM_props (m : MV) (sq : Nat) (gr : ByteArray) : (opM m sq gr).props = m.props := rfl
theorem msF_props (s : ByteArray) (R : RV) : (msF s R).m.props = (msD s R).1.L := by simp only [msF]
theorem msD_len (s : ByteArray) (R : RV) : (msD s R).1.L.length ≤ s.size + 1 := by
  unfold msD
  exact readF_len 3 s _
/-- What is told without an error is small. -/
theorem tk_small {s : ByteArray} (h : (tkF s).no = 0) : 1 ≤ (tkF s).o.seq ∧ (tkF s).o.seq ≤ 4294967295 ∧ (tkF s).o.grp.size ≤ s.size ∧ (tkF s).o.m.props.length ≤ s.size + 1 := by
  obtain ⟨m, e, h1, h2, h3, h4⟩ := tk_ok h
  have hg : (tkG s).1.size ≤ s.size := bin_le _ _
  have hl : m.props.length ≤ s.size + 1 := by
    by_cases hk : (tkK s).1 = 1
    · rw [h3 hk, opM_props, msF_props]
      exact msD_len _ _
    · rw [h4 hk]
      exact Nat.zero_le _
  rw [e]
  clear e h h1 h3 h4
  generalize (tkQ s).1 = n at h2 ⊢
  generalize (tkG s).1 = g at h2 hg ⊢
  generalize (tkK s).1 = k at h2 ⊢
  unfold mayO mayA at h2
  simp only [Bool.and_eq_true, decide_eq_true_eq] at h2
  simp only
  exact ⟨h2.1.1.1, h2.1.1.2, hg, hl⟩
theorem kv_o (o : OV) (h1 : 0 ≤ o.seq) (h2 : o.seq < 4294967296) : kyE.kv (kyO o) = .agg #[.string o.grp, .int .i64 o.seq] := by
  show Value.agg #[.string o.grp, .int .i64 (((Fin.ofNat 4294967296 o.seq.toNat).val : Nat) : Int)] = _
  rw [Fin.val_ofNat, show ((o.seq.toNat % 4294967296 : Nat) : Int) = o.seq by omega]
theorem kv_m (m : MV) (h1 : 0 ≤ m.seq) (h2 : m.seq < 4294967296) : kyE.kv (kyM m) = .agg #[.string m.grp, .int .i64 m.seq] := by
  show Value.agg #[.string m.grp, .int .i64 (((Fin.ofNat 4294967296 m.seq.toNat).val : Nat) : Int)] = _
  rw [Fin.val_ofNat, show ((m.seq.toNat % 4294967296 : Nat) : Int) = m.seq by omega]
theorem lk_none {k : Ky} : ∀ {l : List (Ky × Nat)}, lkP k l = none → ∀ p ∈ l, p.1 ≠ k
  | [], _, p, hp => by cases hp
  | q :: l, h, p, hp => by
    rw [lk_cons] at h
    split at h
    · cases h
    · rename_i hq
      rcases List.mem_cons.1 hp with rfl | hp
      · exact hq
      · exact lk_none h p hp
theorem lk_some {k : Ky} {j : Nat} : ∀ {l : List (Ky × Nat)}, lkP k l = some j → (k, j) ∈ l
  | [], h => by cases h
  | q :: l, h => by
    rw [lk_cons] at h
    split at h
    · rename_i hq
      obtain rfl := hq
      injection h with h
      subst h
      exact List.mem_cons_self ..
    · exact List.mem_cons_of_mem _ (lk_some h)
abbrev PMap (w : World) (b : Nat) (pr : List (Ky × Nat)) : Prop := AMap Tryz.prog 76 kyE (fun i : Nat => .int .i64 (i : Int)) w b pr
theorem zeroI (w : World) : (zeroValue 3).run Tryz.prog w = .ok (.int .i64 0) w := by kernel_rfl
structure RpI (w W : World) (b : Nat) (v : Value) (Q : QL) (pr : List (Ky × Nat)) : Prop where
  bel : Below w.heap.size w W
  map : PMap W b pr
  low : w.heap.size ≤ b
  row : MRow W w.heap.size v Q
  pin : ∀ q ∈ Q, PIn W 0 q.pa q.m.props ∧ q.m.props.length ≤ q.pc ∧ q.m.props.length ≤ 1000 ∧ 0 ≤ q.m.seq ∧ q.m.seq < 4294967296 ∧ q.m.grp.size ≤ 1000
section
variable {w W W' : World} {b : Nat} {v v' : Value} {Q : QL} {pr pr' : List (Ky × Nat)} {A : Option Addr} {M : PL}
theorem RpI.below (h : RpI w W b v Q pr) (hb : Below W.heap.size W W') : RpI w W' b v Q pr :=
  ⟨h.bel.trans (hb.mono h.bel.size), h.map.below hb h.map.lt, h.low, h.row.below hb, fun q hq => ⟨(h.pin q hq).1.below hb, (h.pin q hq).2⟩⟩
theorem pin_map (hm : PMap W b pr) (hf : Fr [b] W W') (h : PIn W 0 A M) : PIn W' 0 A M :=
  h.fr hf (fun k hk => by
    rw [List.mem_singleton] at hk
    subst hk
    exact ⟨Nat.zero_le _, fun cs hh => hm.ne (show Blk W k 98 cs from hh) rfl⟩)
theorem RpI.mapped (h : RpI w W b v Q pr) (hm : PMap W' b pr') (hf : Fr [b] W W') : RpI w W' b v Q pr' :=
  ⟨hf.later h.bel (fun k hk => by rw [List.mem_singleton] at hk; subst hk; exact h.low) h.bel.size, hm, h.low, h.row.fr hf (fun k hk hkb => by
    rw [List.mem_singleton] at hkb
    subst hkb
    obtain ⟨_, _, cs, hh⟩ := h.row.lt k hk
    exact h.map.ne (show Blk W k 25 cs from hh) rfl), fun q hq => ⟨pin_map h.map hf (h.pin q hq).1, (h.pin q hq).2⟩⟩
theorem RpI.blk (h : RpI w W b v Q pr) (hf : Fr [b] W W') {k : Nat} {t : TypeId} {cs : Array Value} (hb : Blk W k t cs) : Blk W' k t cs :=
  hb.fr hf (fun hk => by
    rw [List.mem_singleton] at hk
    exact h.map.ne hb hk)
theorem RpI.pushed {x : QV} (h : RpI w W b v Q pr) (hf : Fr v.ownBlock.toList W W') (hb : Below w.heap.size w W') (hr : MRow W' w.heap.size v' (Q ++ [x]))
    (hx : PIn W 0 x.pa x.m.props ∧ x.m.props.length ≤ x.pc ∧ x.m.props.length ≤ 1000 ∧ 0 ≤ x.m.seq ∧ x.m.seq < 4294967296 ∧ x.m.grp.size ≤ 1000) : RpI w W' b v' (Q ++ [x]) pr := by
  refine ⟨hb, h.map.fr hf (fun hk => ?_), h.low, hr, fun q hq => ?_⟩
  · obtain ⟨_, _, cs, hh⟩ := h.row.lt b (own_listM.1 hk)
    exact h.map.ne (show Blk W b 25 cs from hh) rfl
  · rcases List.mem_append.1 hq with hq | hq
    · exact ⟨mrow_pin h.row hf (h.pin q hq).1, (h.pin q hq).2⟩
    · rw [List.mem_singleton] at hq
      subst hq
      exact ⟨mrow_pin h.row hf hx.1, hx.2⟩
theorem RpI.hit (h : RpI w W b v Q pr) {k : Ky} {j : Nat} (hk : lkP k pr = some j) : (Instr.lookup 74 (.map (some b)) (kyE.kv k) true).run Tryz.prog W = .ok (.tuple #[.int .i64 (j : Int), .bool true]) W :=
  (h.map.hit keyK Tryz.underlying74 zeroI (lk_some hk)).1
theorem RpI.miss (h : RpI w W b v Q pr) {k : Ky} (hs : k.1.size ≤ maxLen) (hk : lkP k pr = none) : (Instr.lookup 74 (.map (some b)) (kyE.kv k) true).run Tryz.prog W = .ok (.tuple #[.int .i64 0, .bool false]) W :=
  (h.map.miss keyK Tryz.underlying74 zeroI (kyE_ok k hs) (fun p hp e => lk_none hk p hp (kyE_inj _ _ e))).1
theorem RpI.put (h : RpI w W b v Q pr) {k : Ky} (hs : k.1.size ≤ maxLen) (hl : pr.length < 1000) (n : Nat) : ∃ W', (Instr.mapUpdate 74 (.map (some b)) (kyE.kv k) (.int .i64 (n : Int))).run Tryz.prog W = .ok () W' ∧ RpI w W' b v Q ((k, n) :: dlP k pr) ∧ Fr [b] W W' := by
  obtain ⟨W', hr, hm, hg⟩ := h.map.put keyK Tryz.underlying74 kyE_inj (by unfold maxLen; omega) (kyE_ok k hs) n
  have hf : Fr [b] W W' := (Fr.refl _ W).grown hg (fun k hk => by injection hk with hk; subst hk; exact .inl (List.mem_singleton_self _))
  exact ⟨W', hr, h.mapped hm hf, hf⟩
theorem RpI.del (h : RpI w W b v Q pr) {k : Ky} (hs : k.1.size ≤ maxLen) : ∃ W', (Builtin.delete_ #[74, 76] 0 #[.map (some b), kyE.kv k]).run Tryz.prog W = .ok (.tuple #[]) W' ∧ RpI w W' b v Q (dlP k pr) ∧ Fr [b] W W' := by
  obtain ⟨W', hr, hm, hg⟩ := h.map.del keyK Tryz.underlying74 kyE_inj 0 (kyE_ok k hs)
  have hf : Fr [b] W W' := (Fr.refl _ W).grown hg (fun k hk => by injection hk with hk; subst hk; exact .inl (List.mem_singleton_self _))
  exact ⟨W', hr, h.mapped hm hf, hf⟩
end
end Go.Proofs.YtnolnhpmpjgnaaaGreatDoor
