/- What is proved here: the library's iterator over the elements of a map hands out each of them once, in some order. Conditions: those that each theorem names. What is proved here: the library's AppendSeq over an iterator that hands out messages under way: a row of one's own of them. Conditions: few messages. -/
import Derived.Test.YtpaalhhadjihlaaOpd24
import Derived.Test.YtpaalhhadjihlaaAMapIn
namespace Go.Proofs.Ytpaalhhadjihlaa
open Go.RowKit Go.Extern.Stop Go.Stop Go.Extern Go.Maps Go.Shelf
set_option maxRecDepth 100000
theorem wof_perm {f : FV} {M : FL} (hf : f ∈ M) (hd : (ids M).Nodup) : M.Perm (f :: wof f.id M) := by
  have hd2 : (M.map ent24).Pairwise (fun p q => p.1 ≠ q.1) := by
    rw [List.pairwise_map]
    unfold ids at hd
    rw [List.Nodup, List.pairwise_map] at hd
    exact hd
  have h1 := (perm_pick (lt_of_mem hf) hd2).map Prod.snd
  rw [wof_ent, List.map_map, List.map_cons, List.map_map] at h1
  have e : ∀ l : FL, l.map (Prod.snd ∘ ent24) = l := fun l => by
    conv => rhs; rw [← List.map_id l]
    rfl
  rw [e, e] at h1
  exact h1
theorem ids_sub {f : FV} {M : FL} (hd : (ids M).Nodup) : (ids (wof f.id M)).Nodup := by
  unfold ids wof at *
  rw [List.Nodup, List.pairwise_map] at *
  exact hd.filter _
attribute [local go_sem] Oper.semAt_some
set_option maxHeartbeats 4000000 in
theorem values1_in (F : Fence) (n : Nat) (h60 : F.fn 58) (hro : F.round = none) (hn : 1 ≤ n) (l Bm b : Nat) (L : FL) (hd : (ids L).Nodup) (J Jx : FL → World → Prop)
    (hY : ∀ pre x W, J pre W → pre.length < L.length → YieldAt F (n - 1) Try.prog l #[x.agg] W fun e W' => (e = .returned (.bool true) ∧ J (pre ++ [x]) W' ∧ KeepsWalks W W') ∨ (e = .returned (.bool false) ∧ Jx (pre ++ [x]) W'))
    (W : World) (hJ : AbidesFrom W.heap.size J) (hm : W.cell? ⟨Bm, 0, none⟩ = some (.map (some b))) (hown : AMap Try.prog 3 intKE FV.agg W b (L.map ent24)) (h0 : J [] W) :
    CallsIn F n Try.prog 58 #[.func (.yield l) #[] #[], .pointer (some ⟨Bm, 0, none⟩)] W fun e W' => (∃ v, e = .returned v) ∧ ((∃ ss, ss.Perm L ∧ J ss W') ∨ (∃ pre, True ∧ Jx pre W')) := by
  refine callsIn_of_wp Try.func58 rfl h60 ?_ hro
  simp only [Try.ntmps58, List.size_toArray, List.length_cons, List.length_nil, Nat.reduceAdd, Nat.reduceSub, Array.replicate_succ, Array.replicate_zero, List.push_toArray, List.append_toArray, List.nil_append, List.cons_append]
  gi_wp2_with (first
    | (gi_at_range; refine wpai_range rfl _ 30 rfl 3 73 KI Try.underlying30 b rfl hown ?_; intro w0 hrg0 hg0 hs0)
    | gi_in)
  go_frame
  gi_loopw [4] (fun _ wr => ∃ (C M : FL), ARange Try.prog 3 intKE FV.agg wr b W.heap.size (L.map ent24) (M.map ent24) ∧ (C ++ M).Perm L ∧ (ids M).Nodup ∧ J C wr)
    (fun _ wr => wr.rangeLeft b W.heap.size)
  case atStart =>
    exact ⟨[], L, hrg0, List.Perm.refl _, hd, hJ [] W w0 none h0 hg0 (fun r e => by cases e)⟩
  case round =>
    obtain ⟨C, M, hrg, hp, hdM, hJs⟩ := hrel
    gi_wp2_with (first
      | (gi_at_next; refine wpai_next rfl _ rfl 3 KI intKE_inj b W.heap.size rfl hrg ?_ ?_)
      | gi_in)
    · intro hM
      subst hM
      gi_wp2
      go_end0
      rw [List.append_nil] at hp
      exact ⟨⟨_, rfl⟩, .inl ⟨C, hp, hJs⟩⟩
    · intro x v w2 f hf hfe hrg2 hlt hg2 hs2 hen
      obtain ⟨rfl, rfl⟩ : f.id = x ∧ f = v := by
        unfold ent24 at hfe
        injection hfe with e1 e2
        exact ⟨e1, e2⟩
      have hpf := wof_perm hf hdM
      have hp2 : ((C ++ [f]) ++ wof f.id M).Perm L := by
        rw [List.append_assoc]
        exact (List.Perm.append_left C hpf.symm).trans hp
      have hJ2 : J C w2 := hJ C wr w2 (some W.heap.size) hJs hg2 (fun r e => by cases e; exact ⟨Nat.le_refl _, hrg.iter_walk⟩)
      have hlen : C.length < L.length := by
        have := hp.length_eq
        rw [List.length_append] at this
        have := List.length_pos_of_mem hf
        omega
      have hyy := hY C f
      have hen2 : (Instr.entry (.pointer (some ⟨W.heap.size, 0, none⟩))).run Try.prog w2 = .ok (.tuple #[.int .i64 f.id, f.agg]) w2 := hen
      clear hs2 hen
      have HJ := Lib.hid hJ
      have HRG := Lib.hid (And.intro hrg2 (And.intro hlt (And.intro hp2 (And.intro (ids_sub (f := f) hdM) hg2))))
      have hb3 := (Below.refl w2.heap.size w2).alloc (Nat.le_refl _) (.cells f.cells.toArray 73)
      have hJ3 : J C (w2.alloc (.cells f.cells.toArray 73)) := hJ C w2 _ none hJ2 (World.grownBy_alloc w2 _ none) (fun r e => by cases e)
      obtain ⟨fn, tmps, assign, body, hy, hR⟩ := hyy _ hJ3 hlen
      have HR := Lib.hid hR
      unfold FV.agg at hy hen2
      unfold FV.cells at hy HR
      clear hR hJ hJ2 hJ3 hyy hY hrg2 hlt hp2 hg2 hpf hrg hrg0 hown h0 hb3
      gi_wp2
      refine HR.out.mono ?_
      obtain ⟨hrg2, hlt, hp2, hd2, hg2⟩ := HRG.out
      have hfa := (Fr.refl [] w2).alloc (.cells #[.int .i64 f.id, .int .i64 f.st, .string f.q.m.topic, .string f.q.m.payload, .int .i64 f.q.m.qos, .bool f.q.m.retain, .slice f.q.pa f.q.m.props.length f.q.pc, .string f.q.m.frm, .int .i64 f.q.m.til, .int .i64 f.q.m.seq, .string f.q.m.grp, .int .i64 f.pl] 73)
      have hrg4 := hrg2.fr hfa (by simp) (by simp)
      have hl4 := hrg2.left_fr hfa (by simp) (by simp)
      clear HR HRG
      rintro e W3 (⟨rfl, hJ3, hk3⟩ | ⟨rfl, hJx3⟩)
      · have HX := Lib.hid (And.intro (hrg4.of_walks hk3) (And.intro ((hrg4.left_walks hk3).trans hl4) (And.intro hJ3 (And.intro hlt (And.intro hp2 hd2)))))
        clear hrg4 hl4 hJ3 hk3 hrg2 hlt hp2 hd2 hg2 hfa
        gi_wp2
        go_roundw
        case rel =>
          obtain ⟨x1, x2, x3, x4, x5, x6⟩ := HX.out
          rw [wof_ent] at x1
          exact ⟨C ++ [f], wof f.id M, x1, x5, x6, x3⟩
        case measure =>
          obtain ⟨x1, x2, x3, x4, x5, x6⟩ := HX.out
          rw [x2]
          exact x4
      · have HX := Lib.hid hJx3
        clear hrg4 hl4 hJx3 hrg2 hlt hp2 hd2 hg2 hfa
        gi_wp2
        refine bodyPost_ret (results_none rfl _ _ _) rfl ?_
        exact ⟨⟨_, rfl⟩, .inr ⟨C ++ [f], trivial, HX.out⟩⟩
end Go.Proofs.Ytpaalhhadjihlaa
namespace Go.Proofs.Ytpaalhhadjihlaa
open Go.RowKit Go.Extern.Stop Go.Stop Go.Extern Go.Maps Go.Shelf
set_option maxRecDepth 100000
attribute [local go_sem] Oper.semAt_some
/-- The iterator's contract. -/
abbrev Stops24 (F : Fence) (n : Nat) (Bm : Nat) (L : FL) (w : World) : Prop :=
  SeqStopsK F n Try.prog 58 #[.pointer (some ⟨Bm, 0, none⟩)] (fun x : FV => #[x.agg]) KeepsWalks (fun ss => ss.Perm L) (fun _ => True) L.length w
theorem values_stops (F : Fence) (n : Nat) (h60 : F.fn 58) (hro : F.round = none) (hn : 1 ≤ n) (Bm b : Nat) (L : FL) (hd : (ids L).Nodup) (w : World) (hBm : Bm < w.heap.size)
    (hm : w.cell? ⟨Bm, 0, none⟩ = some (.map (some b))) (hown : AMap Try.prog 3 intKE FV.agg w b (L.map ent24)) : Stops24 F n Bm L w :=
  fun l J Jx W hW hJ _ hY h0 => values1_in F n h60 hro hn l Bm b L hd J Jx hY W hJ ((hW.cell (p := ⟨Bm, 0, none⟩) hBm).trans hm) (hown.below hW hown.lt) h0
theorem walksK_t' {A B C : World} (h : KeepsWalks A B) (k : KeepsWalks B C) : KeepsWalks A C := h.trans k
/-- What the loop holds: the box of the slice, the slice's row. -/
def ColI (w : World) (pre : FL) (W : World) : Prop := (∃ v, Boxed W w.heap.size 81 v ∧ FRow W w.heap.size v pre ∧ (v = .slice none 0 0 ↔ pre = [])) ∧ Below w.heap.size w W
theorem colI_own (w : World) (B : Nat) (hB : w.heap.size ≤ B) : OwnFrom B (ColI w) :=
  OwnFrom.and (Own.from (holdsRow_own w.heap.size w.heap.size 81 73 12 (fun pre : FL => pre.length) (fun pre => fcs pre) (fun pre v => v = .slice none 0 0 ↔ pre = [])) B) (ownFrom_below (Nat.le_refl _) hB)
def ColA (w : World) (fv : Value) (x : FV) (a' : Act) (W : World) : Prop :=
  ∃ Bx, w.heap.size < Bx ∧ Blk W Bx 73 x.cells.toArray ∧ a' = { tmps := #[.slice none 0 0, fv, .pointer (some ⟨w.heap.size, 0, none⟩), undef, .slice none 0 0, .pointer (some ⟨Bx, 0, none⟩), fv, x.agg, undef, undef, undef, undef, undef], defers := [] }
theorem colA_own (w : World) (fv : Value) (x : FV) (a' : Act) (B : Nat) : OwnFrom B (fun (_ : Unit) W => ColA w fv x a' W) := by
  intro _ W W' row hs hg hr
  obtain ⟨Bx, h1, h2, h3⟩ := hs
  refine ⟨Bx, h1, h2.grown hg (fun e => ?_), h3⟩
  obtain ⟨_, o, ho, hc⟩ := hr Bx e.symm
  rw [show W.heap[Bx]? = _ from h2] at ho
  cases ho
  cases hc
theorem colI_alloc {w W : World} {pre : FL} (h : ColI w pre W) (o : Obj) : ColI w pre (W.alloc o) := by
  obtain ⟨⟨v, h1, h2, h3⟩, h4⟩ := h
  exact ⟨⟨v, h1.alloc o, own_below h2 ((Below.refl _ W).alloc (Nat.le_refl _) o), h3⟩, h4.alloc h4.size o⟩
set_option maxHeartbeats 8000000 in
theorem appendSeq_in (F : Fence) (n : Nat) (h62 : F.fn 60) (h60 : F.fn 58) (hro : F.round = none) (hn : 2 ≤ n) (Bm : Nat) (L : FL) (hL : L.length ≤ 1000) (w : World)
    (hst : ∀ W, Below w.heap.size w W → Stops24 F (n - 1) Bm L W) :
    CallsIn F n Try.prog 60 #[.slice none 0 0, .func (.func 58) #[] #[.pointer (some ⟨Bm, 0, none⟩)]] w fun e W' =>
      ∃ v ss, e = .returned v ∧ ss.Perm L ∧ FRow W' w.heap.size v ss ∧ (v = .slice none 0 0 ↔ ss = []) ∧ Below w.heap.size w W' := by
  have h1 : 1 ≤ n := by omega
  obtain ⟨i0, hi, hz0, hz1, hz2⟩ := info_parts Try.flightInfo
  refine callsIn_of_wp_marks Try.func60 rfl h62 ?_ hro
  simp only [Try.ntmps60, List.size_toArray, List.length_cons, List.length_nil, Nat.reduceAdd, Nat.reduceSub, Array.replicate_succ, Array.replicate_zero, List.push_toArray, List.append_toArray, List.nil_append, List.cons_append]
  gi_wp2
  have bS := Boxed.new w 81 (.slice none 0 0)
  have hB0 : Below w.heap.size w (w.alloc (.cells #[.slice none 0 0] 81)) := (Below.refl _ w).alloc (Nat.le_refl _) _
  have hsz : (w.alloc (.cells #[.slice none 0 0] 81)).heap.size = w.heap.size + 1 := by simp
  have hst0 := hst _ hB0
  obtain ⟨W0, hW0⟩ : ∃ W0, w.alloc (.cells #[.slice none 0 0] 81) = W0 := ⟨_, rfl⟩
  rw [hW0] at bS hB0 hsz hst0 ⊢
  clear hW0
  refine wpIn_rangeFunc_ownH hro h1 (gf := 58) (lb := #[.pointer (some ⟨Bm, 0, none⟩)]) rfl h60 (enters_of Try.func58 (by kernel_rfl) rfl)
    hst0 walksK_t' walksK_b (Below.refl _ _) (fun _ => rfl) (ColI w) (fun _ _ _ => False) (colI_own w _ (by omega)) (fun _ _ _ _ _ hs _ _ => hs)
    ⟨⟨_, bS, World.ownsRow_nil _ _ _ _, by simp⟩, hB0⟩
    (ColA w (.func (.func 58) #[] #[.pointer (some ⟨Bm, 0, none⟩)])) (fun x a' => colA_own w _ x a' _) ?assign ?body ?done ?stop
  case assign =>
    rintro l pre x W K hI hK
    have hIa := colI_alloc hI (.cells x.cells.toArray 73)
    have hlt := hI.1
    unfold ColA FV.agg at hK
    unfold FV.agg
    unfold FV.cells at hIa hK
    gi_wp2
    obtain ⟨v, hv, _⟩ := hlt
    exact hK _ _ ((KeepsOthers.alloc _ _).from _) (KeepsWalks.alloc _ _) hIa ⟨W.heap.size, hv.lt, Blk.made _ _ _, rfl⟩
  case body =>
    rintro l pre x a' W hl ⟨r, hr⟩ ⟨⟨v, hv, hrow, hnil⟩, hB⟩ ⟨Bx, hBx, hblk, rfl⟩ hlt
    have hc := hv.cell
    have hnews : ∀ (j : Nat) (u : Value), x.cells[j]? = some u → (W.alloc (.cells x.cells.toArray 73)).cell? ((⟨W.heap.size, 0, none⟩ : Addr).add j) = some u := fun j u hj => by
      rw [Addr.add_lit, Nat.zero_add, (Blk.made W 73 x.cells.toArray).cell j]
      simpa using hj
    have HN := Lib.hid hnews
    have HNI := Lib.hid hnil
    have HROW := Lib.hid hrow
    have HV := Lib.hid hv
    have HB := Lib.hid hB
    have x0 := hblk.cell 0
    have x1 := hblk.cell 1
    have x2 := hblk.cell 2
    have x3 := hblk.cell 3
    have x4 := hblk.cell 4
    have x5 := hblk.cell 5
    have x6 := hblk.cell 6
    have x7 := hblk.cell 7
    have x8 := hblk.cell 8
    have x9 := hblk.cell 9
    have x10 := hblk.cell 10
    have x11 := hblk.cell 11
    unfold FV.cells at x0 x1 x2 x3 x4 x5 x6 x7 x8 x9 x10 x11
    simp only [List.getElem?_toArray, List.getElem?_cons_zero, List.getElem?_cons_succ] at x0 x1 x2 x3 x4 x5 x6 x7 x8 x9 x10 x11
    have hplen : pre.length ≤ 1000 := by omega
    unfold FV.agg
    clear hnews hnil hrow hv hB hblk hst hst0
    gi_wp2_with (gi_at_builtin; refine wpListIn_append_own _ rfl _ _ 81 rfl w.heap.size 73 i0 f0.agg 12 144 Try.underlying81 hi hz0 hz1 hz2 rfl (by decide) _ _ _ rfl (HROW.out.alloc _) ⟨W.heap.size, 0, none⟩ 1 1 x.cells rfl rfl HN.out (fv_one x) (by unfold maxLen; omega) (by omega) (by have := HB.out.size; simp; omega) ?_; intro v' w1 hown' hgrow _; obtain ⟨g', cap', rfl⟩ := ownsRow_succ hown'; obtain ⟨hv1, hv2, hr2, hk2, hb2⟩ := HV.out.appended (by decide) HROW.out HB.out.size (Nat.le_refl _) hown' hgrow; have hc1 := hv1.cell; have hf1 := hv1.frozen)
    refine ⟨hk2.from _, hk2.walks, ⟨_, hv2, ?_, by simp⟩, HB.out.trans hb2⟩
    show World.ownsRow _ _ _ _ _ (pre ++ [x]).length (fcs (pre ++ [x]))
    rw [fcs_app, fcs_one, List.length_append, List.length_singleton]
    exact hr2
  case done =>
    rintro D ys W hD hp ⟨⟨v, hv, hrow, hnil⟩, hB⟩ hK
    have hc := hv.cell
    gi_wp2
    refine ⟨by simp, .inl ⟨_, _, rfl, run_takeDeferred hK, ?_⟩⟩
    exact ⟨_, results_tmp rfl _ _ _, v, ys, rfl, hp, ownsRow_putObj hrow _ hK rfl, hnil, hB.trans (belowK_b (w := w) (Nat.le_refl _) W D _ _ (by omega) hK rfl rfl)⟩
  case stop =>
    rintro D c pre W _ _ h _
    exact h.elim
set_option maxHeartbeats 2000000 in
theorem collect_in (F : Fence) (n : Nat) (h58 : F.fn 56) (h62 : F.fn 60) (h60 : F.fn 58) (hro : F.round = none) (hn : 3 ≤ n) (Bm : Nat) (L : FL) (hL : L.length ≤ 1000) (w : World)
    (hst : ∀ W, Below w.heap.size w W → Stops24 F (n - 1 - 1) Bm L W) :
    CallsIn F n Try.prog 56 #[.func (.func 58) #[] #[.pointer (some ⟨Bm, 0, none⟩)]] w fun e W' =>
      ∃ v ss, e = .returned v ∧ ss.Perm L ∧ FRow W' w.heap.size v ss ∧ (v = .slice none 0 0 ↔ ss = []) ∧ Below w.heap.size w W' := by
  have h1 : 1 ≤ n := by omega
  refine callsIn_of_wp Try.func56 rfl h58 ?_ hro
  simp only [Try.ntmps56, List.size_toArray, List.length_cons, List.length_nil, Nat.reduceAdd, Nat.reduceSub, Array.replicate_succ, Array.replicate_zero, List.push_toArray, List.append_toArray, List.nil_append, List.cons_append]
  have HA := Lib.hid (appendSeq_in F (n - 1) h62 h60 hro (by omega) Bm L hL w hst)
  gi_wp2_with (gi_at_call 60; refine HA.out.mono ?_; rintro e w' ⟨v, ss, rfl, hp, hr, hni, hb⟩)
  go_ret
  exact ⟨v, ss, rfl, hp, hr, hni, hb⟩
/-- Collect, by itself. -/
theorem collect_any {w : World} {b Bm : Nat} {L : FL} (hL : L.length ≤ 1000) (hd : (ids L).Nodup) (hBm : Bm < w.heap.size) (hm : w.cell? ⟨Bm, 0, none⟩ = some (.map (some b))) (hown : AMap Try.prog 3 intKE FV.agg w b (L.map ent24)) :
    Calls Try.prog 56 #[.func (.func 58) #[] #[.pointer (some ⟨Bm, 0, none⟩)]] w fun e W' =>
      ∃ v ss, e = .returned v ∧ ss.Perm L ∧ FRow W' w.heap.size v ss ∧ (v = .slice none 0 0 ↔ ss = []) ∧ Below w.heap.size w W' := by
  refine (callsIn_wide (n := 6)).1 (collect_in _ 6 trivial trivial trivial rfl (by omega) Bm L hL w fun W hW => ?_)
  exact values_stops _ _ trivial rfl (by omega) Bm b L hd W (Nat.lt_of_lt_of_le hBm hW.size) ((hW.cell (p := ⟨Bm, 0, none⟩) hBm).trans hm) (hown.below hW hown.lt)
end Go.Proofs.Ytpaalhhadjihlaa
