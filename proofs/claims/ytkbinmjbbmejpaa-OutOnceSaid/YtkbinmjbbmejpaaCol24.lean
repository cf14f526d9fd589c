/- What is proved here: the library's AppendSeq over an iterator that hands out messages under way: a row of one's own of them. Conditions: few messages. -/
import Derived.Test.YtkbinmjbbmejpaaVal24
namespace Go.Proofs.Ytkbinmjbbmejpaa
open Go.RowKit Go.Extern.Stop Go.Stop Go.Extern Go.Maps Go.Shelf
set_option maxRecDepth 100000
attribute [local go_sem] Oper.semAt_some
/-- The iterator's contract. -/
abbrev Stops24 (F : Fence) (n : Nat) (Bm : Nat) (L : FL) (w : World) : Prop :=
  SeqStopsK F n Try.prog 60 #[.pointer (some ⟨Bm, 0, none⟩)] (fun x : FV => #[x.agg]) KeepsWalks (fun ss => ss.Perm L) (fun _ => True) L.length w
theorem values_stops (F : Fence) (n : Nat) (h60 : F.fn 60) (hro : F.round = none) (hn : 1 ≤ n) (Bm b : Nat) (L : FL) (hd : (ids L).Nodup) (w : World) (hBm : Bm < w.heap.size)
    (hm : w.cell? ⟨Bm, 0, none⟩ = some (.map (some b))) (hown : AMap Try.prog 3 intKE FV.agg w b (L.map ent24)) : Stops24 F n Bm L w :=
  fun l J Jx W hW hJ _ hY h0 => values1_in F n h60 hro hn l Bm b L hd J Jx hY W hJ ((hW.cell (p := ⟨Bm, 0, none⟩) hBm).trans hm) (hown.below hW hown.lt) h0
theorem walksK_t' {A B C : World} (h : KeepsWalks A B) (k : KeepsWalks B C) : KeepsWalks A C := h.trans k
/-- What the loop holds: the box of the slice, the slice's row. -/
def ColI (w : World) (pre : FL) (W : World) : Prop := (∃ v, Boxed W w.heap.size 85 v ∧ FRow W w.heap.size v pre ∧ (v = .slice none 0 0 ↔ pre = [])) ∧ Below w.heap.size w W
theorem colI_own (w : World) (B : Nat) (hB : w.heap.size ≤ B) : OwnFrom B (ColI w) :=
  OwnFrom.and (Own.from (holdsRow_own w.heap.size w.heap.size 85 77 12 (fun pre : FL => pre.length) (fun pre => fcs pre) (fun pre v => v = .slice none 0 0 ↔ pre = [])) B) (ownFrom_below (Nat.le_refl _) hB)
def ColA (w : World) (fv : Value) (x : FV) (a' : Act) (W : World) : Prop :=
  ∃ Bx, w.heap.size < Bx ∧ Blk W Bx 77 x.cells.toArray ∧ a' = { tmps := #[.slice none 0 0, fv, .pointer (some ⟨w.heap.size, 0, none⟩), undef, .slice none 0 0, .pointer (some ⟨Bx, 0, none⟩), fv, x.agg, undef, undef, undef, undef, undef], defers := [] }
theorem colA_own (w : World) (fv : Value) (x : FV) (a' : Act) (B : Nat) : OwnFrom B (fun (_ : Unit) W => ColA w fv x a' W) := by
  intro _ W W' row hs hg hr
  obtain ⟨Bx, h1, h2, h3⟩ := hs
  refine ⟨Bx, h1, h2.grown hg (fun e => ?_), h3⟩
  obtain ⟨_, o, ho, hc⟩ := hr Bx e.symm
  rw [show W.heap[Bx]? = _ from h2] at ho
  cases ho
  cases hc
theorem colI_alloc {w W : World} {pre : FL} (h : ColI w pre W) (o : Obj) : ColI w pre (W.alloc o) := by
  obtain ⟨⟨v, h1, h2, h3⟩, h4⟩ := h
  exact ⟨⟨v, h1.alloc o, own_below h2 ((Below.refl _ W).alloc (Nat.le_refl _) o), h3⟩, h4.alloc h4.size o⟩
set_option maxHeartbeats 8000000 in
theorem appendSeq_in (F : Fence) (n : Nat) (h62 : F.fn 62) (h60 : F.fn 60) (hro : F.round = none) (hn : 2 ≤ n) (Bm : Nat) (L : FL) (hL : L.length ≤ 1000) (w : World)
    (hst : ∀ W, Below w.heap.size w W → Stops24 F (n - 1) Bm L W) :
    CallsIn F n Try.prog 62 #[.slice none 0 0, .func (.func 60) #[] #[.pointer (some ⟨Bm, 0, none⟩)]] w fun e W' =>
      ∃ v ss, e = .returned v ∧ ss.Perm L ∧ FRow W' w.heap.size v ss ∧ (v = .slice none 0 0 ↔ ss = []) ∧ Below w.heap.size w W' := by
  have h1 : 1 ≤ n := by omega
  obtain ⟨i0, hi, hz0, hz1, hz2⟩ := info_parts Try.flightInfo
  refine callsIn_of_wp_marks Try.func62 rfl h62 ?_ hro
  simp only [Try.ntmps62, List.size_toArray, List.length_cons, List.length_nil, Nat.reduceAdd, Nat.reduceSub, Array.replicate_succ, Array.replicate_zero, List.push_toArray, List.append_toArray, List.nil_append, List.cons_append]
  gi_wp2
  have bS := Boxed.new w 85 (.slice none 0 0)
  have hB0 : Below w.heap.size w (w.alloc (.cells #[.slice none 0 0] 85)) := (Below.refl _ w).alloc (Nat.le_refl _) _
  have hsz : (w.alloc (.cells #[.slice none 0 0] 85)).heap.size = w.heap.size + 1 := by simp
  have hst0 := hst _ hB0
  obtain ⟨W0, hW0⟩ : ∃ W0, w.alloc (.cells #[.slice none 0 0] 85) = W0 := ⟨_, rfl⟩
  rw [hW0] at bS hB0 hsz hst0 ⊢
  clear hW0
  refine wpIn_rangeFunc_ownH hro h1 (gf := 60) (lb := #[.pointer (some ⟨Bm, 0, none⟩)]) rfl h60 (enters_of Try.func60 (by kernel_rfl) rfl)
    hst0 walksK_t' walksK_b (Below.refl _ _) (fun _ => rfl) (ColI w) (fun _ _ _ => False) (colI_own w _ (by omega)) (fun _ _ _ _ _ hs _ _ => hs)
    ⟨⟨_, bS, World.ownsRow_nil _ _ _ _, by simp⟩, hB0⟩
    (ColA w (.func (.func 60) #[] #[.pointer (some ⟨Bm, 0, none⟩)])) (fun x a' => colA_own w _ x a' _) ?assign ?body ?done ?stop
  case assign =>
    rintro l pre x W K hI hK
    have hIa := colI_alloc hI (.cells x.cells.toArray 77)
    have hlt := hI.1
    unfold ColA FV.agg at hK
    unfold FV.agg
    unfold FV.cells at hIa hK
    gi_wp2
    obtain ⟨v, hv, _⟩ := hlt
    exact hK _ _ ((KeepsOthers.alloc _ _).from _) (KeepsWalks.alloc _ _) hIa ⟨W.heap.size, hv.lt, Blk.made _ _ _, rfl⟩
  case body =>
    rintro l pre x a' W hl ⟨r, hr⟩ ⟨⟨v, hv, hrow, hnil⟩, hB⟩ ⟨Bx, hBx, hblk, rfl⟩ hlt
    have hc := hv.cell
    have hnews : ∀ (j : Nat) (u : Value), x.cells[j]? = some u → (W.alloc (.cells x.cells.toArray 77)).cell? ((⟨W.heap.size, 0, none⟩ : Addr).add j) = some u := fun j u hj => by
      rw [Addr.add_lit, Nat.zero_add, (Blk.made W 77 x.cells.toArray).cell j]
      simpa using hj
    have HN := Lib.hid hnews
    have HNI := Lib.hid hnil
    have HROW := Lib.hid hrow
    have HV := Lib.hid hv
    have HB := Lib.hid hB
    have x0 := hblk.cell 0
    have x1 := hblk.cell 1
    have x2 := hblk.cell 2
    have x3 := hblk.cell 3
    have x4 := hblk.cell 4
    have x5 := hblk.cell 5
    have x6 := hblk.cell 6
    have x7 := hblk.cell 7
    have x8 := hblk.cell 8
    have x9 := hblk.cell 9
    have x10 := hblk.cell 10
    have x11 := hblk.cell 11
    unfold FV.cells at x0 x1 x2 x3 x4 x5 x6 x7 x8 x9 x10 x11
    simp only [List.getElem?_toArray, List.getElem?_cons_zero, List.getElem?_cons_succ] at x0 x1 x2 x3 x4 x5 x6 x7 x8 x9 x10 x11
    have hplen : pre.length ≤ 1000 := by omega
    unfold FV.agg
    clear hnews hnil hrow hv hB hblk hst hst0
    gi_wp2_with (gi_at_builtin; refine wpListIn_append_own _ rfl _ _ 85 rfl w.heap.size 77 i0 f0.agg 12 144 Try.underlying85 hi hz0 hz1 hz2 rfl (by decide) _ _ _ rfl (HROW.out.alloc _) ⟨W.heap.size, 0, none⟩ 1 1 x.cells rfl rfl HN.out (fv_one x) (by unfold maxLen; omega) (by omega) (by have := HB.out.size; simp; omega) ?_; intro v' w1 hown' hgrow _; obtain ⟨g', cap', rfl⟩ := ownsRow_succ hown'; obtain ⟨hv1, hv2, hr2, hk2, hb2⟩ := HV.out.appended (by decide) HROW.out HB.out.size (Nat.le_refl _) hown' hgrow; have hc1 := hv1.cell; have hf1 := hv1.frozen)
    refine ⟨hk2.from _, hk2.walks, ⟨_, hv2, ?_, by simp⟩, HB.out.trans hb2⟩
    show World.ownsRow _ _ _ _ _ (pre ++ [x]).length (fcs (pre ++ [x]))
    rw [fcs_app, fcs_one, List.length_append, List.length_singleton]
    exact hr2
  case done =>
    rintro D ys W hD hp ⟨⟨v, hv, hrow, hnil⟩, hB⟩ hK
    have hc := hv.cell
    gi_wp2
    refine ⟨by simp, .inl ⟨_, _, rfl, run_takeDeferred hK, ?_⟩⟩
    exact ⟨_, results_tmp rfl _ _ _, v, ys, rfl, hp, ownsRow_putObj hrow _ hK rfl, hnil, hB.trans (belowK_b (w := w) (Nat.le_refl _) W D _ _ (by omega) hK rfl rfl)⟩
  case stop =>
    rintro D c pre W _ _ h _
    exact h.elim
set_option maxHeartbeats 2000000 in
theorem collect_in (F : Fence) (n : Nat) (h58 : F.fn 58) (h62 : F.fn 62) (h60 : F.fn 60) (hro : F.round = none) (hn : 3 ≤ n) (Bm : Nat) (L : FL) (hL : L.length ≤ 1000) (w : World)
    (hst : ∀ W, Below w.heap.size w W → Stops24 F (n - 1 - 1) Bm L W) :
    CallsIn F n Try.prog 58 #[.func (.func 60) #[] #[.pointer (some ⟨Bm, 0, none⟩)]] w fun e W' =>
      ∃ v ss, e = .returned v ∧ ss.Perm L ∧ FRow W' w.heap.size v ss ∧ (v = .slice none 0 0 ↔ ss = []) ∧ Below w.heap.size w W' := by
  have h1 : 1 ≤ n := by omega
  refine callsIn_of_wp Try.func58 rfl h58 ?_ hro
  simp only [Try.ntmps58, List.size_toArray, List.length_cons, List.length_nil, Nat.reduceAdd, Nat.reduceSub, Array.replicate_succ, Array.replicate_zero, List.push_toArray, List.append_toArray, List.nil_append, List.cons_append]
  have HA := Lib.hid (appendSeq_in F (n - 1) h62 h60 hro (by omega) Bm L hL w hst)
  gi_wp2_with (gi_at_call 62; refine HA.out.mono ?_; rintro e w' ⟨v, ss, rfl, hp, hr, hni, hb⟩)
  go_ret
  exact ⟨v, ss, rfl, hp, hr, hni, hb⟩
/-- Collect, by itself. -/
theorem collect_any {w : World} {b Bm : Nat} {L : FL} (hL : L.length ≤ 1000) (hd : (ids L).Nodup) (hBm : Bm < w.heap.size) (hm : w.cell? ⟨Bm, 0, none⟩ = some (.map (some b))) (hown : AMap Try.prog 3 intKE FV.agg w b (L.map ent24)) :
    Calls Try.prog 58 #[.func (.func 60) #[] #[.pointer (some ⟨Bm, 0, none⟩)]] w fun e W' =>
      ∃ v ss, e = .returned v ∧ ss.Perm L ∧ FRow W' w.heap.size v ss ∧ (v = .slice none 0 0 ↔ ss = []) ∧ Below w.heap.size w W' := by
  refine (callsIn_wide (n := 6)).1 (collect_in _ 6 trivial trivial trivial rfl (by omega) Bm L hL w fun W hW => ?_)
  exact values_stops _ _ trivial rfl (by omega) Bm b L hd W (Nat.lt_of_lt_of_le hBm hW.size) ((hW.cell (p := ⟨Bm, 0, none⟩) hBm).trans hm) (hown.below hW hown.lt)
end Go.Proofs.Ytkbinmjbbmejpaa
