/- What is proved here: queues: cutting the first message off, the first one whose time has not come, popping it. Conditions: the queue is there; few messages of few properties. -/
import Derived.Test.YtcfbfnlbdkgfkaaQue27
import Derived.Deep.LoopGhost
namespace Go.Proofs.Ytcfbfnlbdkgfkaa
open Go.RowKit Go.Extern.Stop Go.Stop Go.Extern
set_option maxRecDepth 100000
/-- A message's cells stored, at any place. -/
def putz (W : World) (g o : Nat) (u0 u1 u2 u3 u4 u5 u6 u7 u8 : Value) : World :=
  ((((((((W.setCell ⟨g, o, none⟩ u0).setCell ⟨g, o + 1, none⟩ u1).setCell ⟨g, o + 2, none⟩ u2).setCell ⟨g, o + 3, none⟩ u3).setCell ⟨g, o + 4, none⟩ u4).setCell ⟨g, o + 5, none⟩ u5).setCell ⟨g, o + 6, none⟩ u6).setCell ⟨g, o + 7, none⟩ u7).setCell ⟨g, o + 8, none⟩ u8
theorem putz_fr (W : World) (g o : Nat) (u0 u1 u2 u3 u4 u5 u6 u7 u8 : Value) : Fr [g] W (putz W g o u0 u1 u2 u3 u4 u5 u6 u7 u8) := by
  have h : ∀ {V : World}, Fr [g] W V → ∀ i u, Fr [g] W (V.setCell ⟨g, i, none⟩ u) := fun hf i u => hf.setCell (p := ⟨g, i, none⟩) (.inl (List.mem_singleton_self g)) u
  exact h (h (h (h (h (h (h (h (h (Fr.refl _ _) o u0) (o + 1) u1) (o + 2) u2) (o + 3) u3) (o + 4) u4) (o + 5) u5) (o + 6) u6) (o + 7) u7) (o + 8) u8
theorem putz_blk {W : World} {g o : Nat} {cur : Array Value} {t : TypeId} (h : Blk W g t cur) (u0 u1 u2 u3 u4 u5 u6 u7 u8 : Value) : ∃ cur', Blk (putz W g o u0 u1 u2 u3 u4 u5 u6 u7 u8) g t cur' ∧ cur'.size = cur.size ∧ ∀ j, o + 9 ≤ j → cur'[j]? = cur[j]? := by
  refine ⟨_, ((((((((h.store o u0).store (o + 1) u1).store (o + 2) u2).store (o + 3) u3).store (o + 4) u4).store (o + 5) u5).store (o + 6) u6).store (o + 7) u7).store (o + 8) u8, ?_, fun j hj => ?_⟩
  · simp only [Array.size_setIfInBounds]
  · rw [Array.getElem?_setIfInBounds_ne (by omega), Array.getElem?_setIfInBounds_ne (by omega), Array.getElem?_setIfInBounds_ne (by omega), Array.getElem?_setIfInBounds_ne (by omega), Array.getElem?_setIfInBounds_ne (by omega), Array.getElem?_setIfInBounds_ne (by omega), Array.getElem?_setIfInBounds_ne (by omega), Array.getElem?_setIfInBounds_ne (by omega), Array.getElem?_setIfInBounds_ne (by omega)]
section
variable {X : List Nat} {w w' : World} {B g : Nat} {most : Int} {v v' : Value} {L L' : QL} {q : QV}
/-- What is behind the first message, when that was overwritten. -/
theorem QRow.cut {W : World} {gr off n cap : Nat} (h : QRow W B (.slice (some ⟨gr, off, none⟩) n cap) (q :: L)) (u0 u1 u2 u3 u4 u5 u6 u7 u8 : Value) :
    (1 < cap → QRow (putz W gr off u0 u1 u2 u3 u4 u5 u6 u7 u8) B (.slice (some ⟨gr, off + 9, none⟩) L.length (cap - 1)) L) ∧ (cap = 1 → QRow (putz W gr off u0 u1 u2 u3 u4 u5 u6 u7 u8) B (.slice (some ⟨gr, off, none⟩) 0 0) L ∧ L = []) ∧ 1 ≤ cap ∧ n = L.length + 1 ∧ n ≤ cap ∧ cap ≤ maxLen := by
  rcases h with ⟨e, _⟩ | ⟨g2, off2, cap2, cur, e, hB, hh, h1, h2, h3, h4⟩
  · cases e
  · injection e with ha hn hc
    injection ha with ha
    injection ha with hg ho
    subst hg ho hn hc
    rw [List.length_cons] at *
    obtain ⟨cur', hb', hs', hj'⟩ := putz_blk (W := W) (g := gr) (o := off) (t := 36) hh u0 u1 u2 u3 u4 u5 u6 u7 u8
    refine ⟨fun hc => .inr ⟨gr, off + 9, cap - 1, cur', rfl, hB, hb', by omega, by omega, by omega, fun j hj => ?_⟩, fun hc => ?_, by omega, rfl, h1, h2⟩
    · rw [hj' _ (by omega), show off + 9 + j = off + (9 + j) by omega, h4 _ (by omega), qcs_cons, List.getElem?_append_right (by show 9 ≤ _; omega)]
      show (qcs L)[9 + j - 9]? = _
      rw [show 9 + j - 9 = j by omega]
    · have hl : L = [] := List.eq_nil_of_length_eq_zero (by omega)
      subst hl
      exact ⟨.inr ⟨gr, off, 0, cur', rfl, hB, hb', Nat.le_refl _, by omega, by omega, fun j hj => absurd hj (by simp)⟩, rfl⟩
def CutSays (w : World) (B g : Nat) (most : Int) (v : Value) (L : QL) (x : Ending) (w' : World) : Prop := x = .returned (.tuple #[]) ∧ ∃ v', QNext w w' B g most v v' L
/-- What the store of the shorter list leaves. -/
theorem cut_next {W1 : World} {gr off n cap o2 n2 c2 : Nat} (h : QObj w B g most (.slice (some ⟨gr, off, none⟩) n cap) (q :: L)) (hf : Fr [gr] w W1) (hrow : QRow W1 B (.slice (some ⟨gr, o2, none⟩) n2 c2) L) :
    QNext w (W1.setCell ⟨g, 1, none⟩ (.slice (some ⟨gr, o2, none⟩) n2 c2)) B g most (.slice (some ⟨gr, off, none⟩) n cap) (.slice (some ⟨gr, o2, none⟩) n2 c2) L := by
  have hne : g ≠ gr := h.ne rfl
  have hb1 := h.blk.fr hf (by simpa using hne)
  have hfs : Fr [g] W1 (W1.setCell ⟨g, 1, none⟩ (.slice (some ⟨gr, o2, none⟩) n2 c2)) := (Fr.refl [g] W1).setCell (p := ⟨g, 1, none⟩) (.inl (List.mem_singleton_self g)) _
  have hown : ∀ k ∈ [gr], B ≤ k ∧ ∀ cs, w.heap[k]? ≠ some (.cells cs 114 (0, 0)) := fun k hk => h.own_ok k (by rw [List.mem_singleton] at hk; subst hk; simp [Value.ownBlock])
  have hown2 : ∀ k ∈ [g], B ≤ k ∧ ∀ cs, W1.heap[k]? ≠ some (.cells cs 114 (0, 0)) := fun k hk => by
    rw [List.mem_singleton] at hk
    subst hk
    exact ⟨h.low, fun cs hh => hb1.other hh (by decide) rfl⟩
  refine ⟨⟨h.low, hb1.store 1 _, hrow.fr hfs (fun k hk => ?_), fun q2 hq2 => ((h.ms q2 (List.mem_cons_of_mem _ hq2)).fr hf hown).fr hfs hown2⟩, ?_, fun k hk => .inl hk⟩
  · obtain rfl : gr = k := Option.some.inj hk
    simpa using hne.symm
  · exact (hf.mono (Y := g :: (Value.slice (some ⟨gr, off, none⟩) n cap).ownBlock.toList) (fun b hb _ => by rw [List.mem_singleton] at hb; subst hb; simp [Value.ownBlock])).setCell (.inl (List.mem_cons_self ..)) _
set_option maxHeartbeats 1000000 in
theorem cut_any (h : QObj w B g most v (q :: L)) (hl : (q :: L).length ≤ 1000) : Calls Try.prog 68 #[.pointer (some ⟨g, 0, none⟩)] w (CutSays w B g most v L) := by
  obtain ⟨a, cap, rfl⟩ := h.form
  obtain ⟨gr, off, rfl, hcc⟩ := h.row.mrd (by simp)
  have hc0 := hcc 0 (by simp)
  rw [Nat.zero_mul, Nat.add_zero, List.getD_cons_zero] at hc0
  have hne : g ≠ gr := h.ne rfl
  have HNE := Lib.hid hne
  obtain ⟨hr1, hr2, hc1, hn, hnc, hcm⟩ := h.row.cut (.string ⟨#[]⟩) (.string ⟨#[]⟩) (.int .i64 0) (.bool false) (.slice none 0 0) (.string ⟨#[]⟩) (.int .i64 0) (.int .i64 0) (.string ⟨#[]⟩)
  have hlt := (h.row.lt gr rfl).2.1
  obtain ⟨_, _, cs, hh⟩ := h.row.lt gr rfl
  have HFZ := Lib.hid (fun o => show w.frozen? ⟨gr, o, none⟩ = false from by simp [World.frozen?, hh])
  have c1 : w.cell? ⟨g, 1, none⟩ = some (.slice (some ⟨gr, off, none⟩) (q :: L).length cap) := h.blk.cell 1
  have f1 : w.frozen? ⟨g, 1, none⟩ = false := h.blk.frozen 1
  obtain ⟨d0, d1, d2, d3, d4, d5, d6, d7, d8⟩ := hc0
  have z0 := HFZ.out off
  have z1 := HFZ.out (off + 1)
  have z2 := HFZ.out (off + 2)
  have z3 := HFZ.out (off + 3)
  have z4 := HFZ.out (off + 4)
  have z5 := HFZ.out (off + 5)
  have z6 := HFZ.out (off + 6)
  have z7 := HFZ.out (off + 7)
  have z8 := HFZ.out (off + 8)
  have HH := Lib.hid h
  have HR1 := Lib.hid hr1
  have HR2 := Lib.hid hr2
  have HF := Lib.hid (putz_fr w gr off (.string ⟨#[]⟩) (.string ⟨#[]⟩) (.int .i64 0) (.bool false) (.slice none 0 0) (.string ⟨#[]⟩) (.int .i64 0) (.int .i64 0) (.string ⟨#[]⟩))
  obtain ⟨n, hn'⟩ : ∃ n, n = (q :: L).length := ⟨_, rfl⟩
  rw [← hn'] at c1 hn hnc HH hl ⊢
  have HN := Lib.hid hn
  have hn1 : 1 ≤ n := by omega
  have hgr : ¬ gr = g := fun e => hne e.symm
  have hc7 : cap ≤ 9223372036854775807 := by unfold maxLen at hcm; omega
  clear h hcc hr1 hr2 hlt hh hn' hn hcm
  by_cases hcap : cap = 1
  · obtain rfl : n = 1 := by omega
    subst hcap
    go_enter Try.func68, Try.ntmps68
    go_wp2_with fail
    have HE := Lib.hid (show CutSays w B g most (.slice (some ⟨gr, off, none⟩) 1 1) L (.returned (.tuple #[])) ((putz w gr off (.string ⟨#[]⟩) (.string ⟨#[]⟩) (.int .i64 0) (.bool false) (.slice none 0 0) (.string ⟨#[]⟩) (.int .i64 0) (.int .i64 0) (.string ⟨#[]⟩)).setCell ⟨g, 1, none⟩ (.slice (some ⟨gr, off, none⟩) 0 0)) from ⟨rfl, _, cut_next HH.out HF.out (HR2.out trivial).1⟩)
    unfold putz at HE
    go_end0
    exact HE.out
  · have hcap2 : 1 < cap := by omega
    have e1 : IntKind.i64.wrap ((cap : Int) - 1) = (cap : Int) - 1 := IntWalk.i64_in _ (by omega)
    go_enter Try.func68, Try.ntmps68
    go_wp2_with fail
    have hln : L.length = n - 1 := by have := HN.out; omega
    have HE := Lib.hid (show CutSays w B g most (.slice (some ⟨gr, off, none⟩) n cap) L (.returned (.tuple #[])) ((putz w gr off (.string ⟨#[]⟩) (.string ⟨#[]⟩) (.int .i64 0) (.bool false) (.slice none 0 0) (.string ⟨#[]⟩) (.int .i64 0) (.int .i64 0) (.string ⟨#[]⟩)).setCell ⟨g, 1, none⟩ (.slice (some ⟨gr, off + 9, none⟩) (n - 1) (cap - 1))) from ⟨rfl, _, cut_next HH.out HF.out (by have hx := HR1.out hcap2; rw [hln] at hx; exact hx)⟩)
    unfold putz at HE
    go_end0
    exact HE.out
def exQ (now : Int) (q : QV) : Bool := exB q.m.til now
/-- What is left when those ahead whose time has come are thrown away. -/
def leftQ (now : Int) (L : QL) : QL := L.dropWhile (exQ now)
theorem left_len (now : Int) (L : QL) : (leftQ now L).length ≤ L.length := (List.dropWhile_sublist _).length_le
theorem zq_cells {W : World} {r : Nat} (h : Blk W r 36 zq) : (W.cell? ⟨r, 0, none⟩ = some (.string ⟨#[]⟩) ∧ W.cell? ⟨r, 1, none⟩ = some (.string ⟨#[]⟩) ∧ W.cell? ⟨r, 2, none⟩ = some (.int .i64 0) ∧ W.cell? ⟨r, 3, none⟩ = some (.bool false) ∧ W.cell? ⟨r, 4, none⟩ = some (.slice none 0 0) ∧ W.cell? ⟨r, 5, none⟩ = some (.string ⟨#[]⟩) ∧ W.cell? ⟨r, 6, none⟩ = some (.int .i64 0) ∧ W.cell? ⟨r, 7, none⟩ = some (.int .i64 0) ∧ W.cell? ⟨r, 8, none⟩ = some (.string ⟨#[]⟩)) ∧ ∀ i, W.frozen? ⟨r, i, none⟩ = false :=
  ⟨⟨h.cell 0, h.cell 1, h.cell 2, h.cell 3, h.cell 4, h.cell 5, h.cell 6, h.cell 7, h.cell 8⟩, fun i => h.frozen i⟩
theorem blk9_cells {W : World} {r : Nat} {u0 u1 u2 u3 u4 u5 u6 u7 u8 : Value} (h : Blk W r 36 #[u0, u1, u2, u3, u4, u5, u6, u7, u8]) : W.cell? ⟨r, 0, none⟩ = some u0 ∧ W.cell? ⟨r, 1, none⟩ = some u1 ∧ W.cell? ⟨r, 2, none⟩ = some u2 ∧ W.cell? ⟨r, 3, none⟩ = some u3 ∧ W.cell? ⟨r, 4, none⟩ = some u4 ∧ W.cell? ⟨r, 5, none⟩ = some u5 ∧ W.cell? ⟨r, 6, none⟩ = some u6 ∧ W.cell? ⟨r, 7, none⟩ = some u7 ∧ W.cell? ⟨r, 8, none⟩ = some u8 :=
  ⟨h.cell 0, h.cell 1, h.cell 2, h.cell 3, h.cell 4, h.cell 5, h.cell 6, h.cell 7, h.cell 8⟩
theorem QNext.size (h : QNext w w' B g most v v' L) : w.heap.size ≤ w'.heap.size := h.fr.size
theorem QNext.trans {w1 : World} {v1 v2 : Value} {L1 L2 : QL} (h : QNext w w1 B g most v v1 L1) (h2 : QNext w1 w' B g most v1 v2 L2) : QNext w w' B g most v v2 L2 := by
  refine ⟨h2.obj, h.fr.trans h2.fr fun b hb hlt => ?_, fun k hk => ?_⟩
  · rcases List.mem_cons.1 hb with rfl | hb
    · exact List.mem_cons_self ..
    · rcases h.own b (own_list.1 hb) with e | e
      · exact List.mem_cons_of_mem _ (own_list.2 e)
      · omega
  · rcases h2.own k hk with e | e
    · exact h.own k e
    · exact .inr (Nat.le_trans h.fr.size e)
theorem QNext.below {v1 : Value} {L1 : QL} {w1 : World} (h : QNext w w1 B g most v v1 L1) (hb : Below w1.heap.size w1 w') : QNext w w' B g most v v1 L1 := h.trans (h.obj.step hb)
/-- A block of another kind, from B on, is filled. -/
theorem QNext.put {W : World} {r : Nat} {cs : Array Value} (h : QNext w W B g most v v' L) (hB : B ≤ r) (hz : Blk W r 36 cs) (hr : g ≠ r) (hv : v'.ownBlock ≠ some r) (hw : w.heap.size ≤ r) (u0 u1 u2 u3 u4 u5 u6 u7 u8 : Value) : QNext w (put9 W r u0 u1 u2 u3 u4 u5 u6 u7 u8) B g most v v' L := by
  have hf := put9_fr W r u0 u1 u2 u3 u4 u5 u6 u7 u8
  refine ⟨h.obj.fr hf (by simpa using hr) (fun k hk hm => ?_) (fun k hk => ?_), h.fr.trans hf (fun b hb hlt => ?_), h.own⟩
  · rw [List.mem_singleton] at hm
    exact hv (by rw [hk, hm])
  · rw [List.mem_singleton] at hk
    subst hk
    exact ⟨hB, fun cs hh => hz.other hh (by decide) rfl⟩
  · rw [List.mem_singleton] at hb
    omega
/-- The answer of First: the first one that is left, or none. -/
def FirstSays (w : World) (B g : Nat) (most : Int) (v : Value) (L : QL) (x : Ending) (w' : World) : Prop :=
  ∃ v', QNext w w' B g most v v' L ∧ ((L = [] ∧ x = .returned (.tuple #[q0.agg, .bool false])) ∨ ∃ q L' pa pc, L = q :: L' ∧ x = .returned (.tuple #[QV.agg ⟨q.m, pa, pc⟩, .bool true]) ∧ PIn w' 0 pa q.m.props)
set_option maxHeartbeats 2000000 in
theorem first_any (h : QObj w B g most v L) (hl : L.length ≤ 1000) (hp : ∀ q ∈ L, q.m.props.length ≤ 1000) (now : Int) : Calls Try.prog 40 #[.pointer (some ⟨g, 0, none⟩), .int .i64 now] w (FirstSays w B g most v (leftQ now L)) := by
  have HS := Lib.hid (h.step ((Below.refl w.heap.size w).alloc (Nat.le_refl _) (.cells zq 36)))
  have HP := Lib.hid hp
  have h0 := h.size
  have hgr0 : g ≠ w.heap.size := Nat.ne_of_lt h.blk.lt
  have hv0 : ∀ k, v.ownBlock = some k → k ≠ w.heap.size := fun k hk => Nat.ne_of_lt (h.row.lt k hk).2.1
  have HG0 := Lib.hid (And.intro h0 hgr0)
  have HV0 := Lib.hid hv0
  clear h hp h0 hgr0 hv0
  unfold zq at HS
  go_enter Try.func40, Try.ntmps40
  go_wp2_with fail
  go_loopg [6] L.length (fun k p wr => ∃ v' L', QNext w wr B g most v v' L' ∧ k = L'.length ∧ Hid (leftQ now L' = leftQ now L) ∧ Hid (∀ q ∈ L', q.m.props.length ≤ 1000) ∧ L'.length ≤ 1000 ∧ Blk wr w.heap.size 36 zq ∧ Hid (∀ k, v'.ownBlock = some k → k ≠ w.heap.size))
  case atStart => exact ⟨_, _, HS.out, rfl, Lib.hid rfl, HP, hl, Blk.made w 36 zq, HV0⟩
  case round =>
    obtain ⟨v1, L1, hn, rfl, HL, HP1, hl1, hz, HV⟩ := hrel
    obtain ⟨a, c, rfl⟩ := hn.obj.form
    have c1 : wr.cell? ⟨g, 1, none⟩ = some (.slice a L1.length c) := hn.obj.blk.cell 1
    have HNX := Lib.hid hn
    have HZ := Lib.hid hz
    cases L1 with
    | nil =>
      obtain ⟨⟨z0, z1, z2, z3, z4, z5, z6, z7, z8⟩, zf⟩ := zq_cells hz
      have HLL := Lib.hid (show leftQ now L = [] from by rw [← HL.out]; rfl)
      have hbz := put9_blk hz (.string ⟨#[]⟩) (.string ⟨#[]⟩) (.int .i64 0) (.bool false) (.slice none 0 0) (.string ⟨#[]⟩) (.int .i64 0) (.int .i64 0) (.string ⟨#[]⟩)
      have HF := Lib.hid (show FirstSays w B g most v (leftQ now L) (.returned (.tuple #[q0.agg, .bool false])) (put9 wr w.heap.size (.string ⟨#[]⟩) (.string ⟨#[]⟩) (.int .i64 0) (.bool false) (.slice none 0 0) (.string ⟨#[]⟩) (.int .i64 0) (.int .i64 0) (.string ⟨#[]⟩)) from by
        rw [HLL.out]
        exact ⟨_, hn.put HG0.out.1 hz HG0.out.2 (fun e => HV.out _ e rfl) (Nat.le_refl _) _ _ _ _ _ _ _ _ _, .inl ⟨rfl, rfl⟩⟩)
      obtain ⟨y0, y1, y2, y3, y4, y5, y6, y7, y8⟩ := blk9_cells hbz
      have HY := Lib.hid (blk9_cells hbz)
      clear hn hz hbz y0 y1 y2 y3 y4 y5 y6 y7 y8
      go_wp2_with fail
      change bodyPost _ _ _ _ _ (put9 wr w.heap.size (.string ⟨#[]⟩) (.string ⟨#[]⟩) (.int .i64 0) (.bool false) (.slice none 0 0) (.string ⟨#[]⟩) (.int .i64 0) (.int .i64 0) (.string ⟨#[]⟩))
      obtain ⟨y0, y1, y2, y3, y4, y5, y6, y7, y8⟩ := HY.out
      generalize put9 wr w.heap.size _ _ _ _ _ _ _ _ _ = W at *
      exact bodyPost_ret (v := .tuple #[q0.agg, .bool false]) (by unfold q0 m0 QV.agg e0; simp [results, Try.results40, go_sem, y0, y1, y2, y3, y4, y5, y6, y7, y8]) rfl HF.out
    | cons q L2 =>
      have hq := hn.obj.row.mrd
      obtain ⟨gr, off, rfl, hcc⟩ := hq (by simp)
      have hc0 := hcc 0 (by simp)
      rw [Nat.zero_mul, Nat.add_zero, List.getD_cons_zero] at hc0
      have HQ := Lib.hid (hn.obj.ms q (List.mem_cons_self ..))
      have HPQ := Lib.hid (HP1.out q (List.mem_cons_self ..))
      obtain ⟨⟨z0, z1, z2, z3, z4, z5, z6, z7, z8⟩, zf⟩ := zq_cells hz
      obtain ⟨d0, d1, d2, d3, d4, d5, d6, d7, d8⟩ := hc0
      obtain ⟨n, hn'⟩ : ∃ n, n = (q :: L2).length := ⟨_, rfl⟩
      have HN := Lib.hid hn'
      have hn1 : 1 ≤ n := by rw [hn']; simp
      rw [← hn'] at c1
      rw [← hn'] at hl1
      rw [← hn'] at HNX
      have hb9 : Below wr.heap.size wr (wr.alloc (.cells q.cells.toArray 36)) := (Below.refl _ _).alloc (Nat.le_refl _) _
      have HE := Lib.hid (fun W => expired_any q now W)
      have HZ2 := Lib.hid (fun W (hb : Below wr.heap.size wr W) => hz.below hb hz.lt)
      have HMB := Lib.hid (Blk.made wr 36 q.cells.toArray)
      have HB9 := Lib.hid hb9
      clear hn hz hcc hq hn' hb9
      unfold QV.agg at HE
      unfold QV.cells at HB9
      go_upto_region 5 with fail
      go_wp2_with fail
      refine (HE.out _).mono ?_
      rintro x w5 ⟨rfl, hb5⟩
      have hbl5 := HMB.out.below hb5 HMB.out.lt
      have HB5 := Lib.hid (show Below wr.heap.size wr w5 from HB9.out.trans (hb5.mono HB9.out.size))
      obtain ⟨k0, k1, k2, k3, k4, k5, k6, k7, k8⟩ := box_cells hbl5
      clear hb5 hbl5 d0 d1 d2 d3 d4 d5 d6 d7 d8 c1 z0 z1 z2 z3 z4 z5 z6 z7 z8 zf
      have hz5 := HZ2.out w5 HB5.out
      have HZ5 := Lib.hid hz5
      obtain ⟨⟨z0, z1, z2, z3, z4, z5, z6, z7, z8⟩, zf⟩ := zq_cells hz5
      clear hz5
      cases hex : exB q.m.til now with
      | false =>
        have HLL := Lib.hid (show leftQ now L = q :: L2 from by
          rw [← HL.out]
          unfold leftQ
          rw [List.dropWhile_cons, show exQ now q = false from hex]
          rfl)
        have HC := Lib.hid ((copy_any q (HQ.out.below HB5.out) HPQ.out))
        unfold QV.agg at HC
        clear hex
        go_wp2_with fail
        refine HC.out.mono ?_
        rintro x w6 ⟨pa6, pc6, rfl, hp6, hb6⟩
        unfold QV.agg
        dsimp only
        have hz6 := HZ5.out.below hb6 HZ5.out.lt
        have hn6 := ((HNX.out.below HB5.out).below hb6).put HG0.out.1 hz6 HG0.out.2 (fun e => HV.out _ e rfl) (Nat.le_refl _) (.string q.m.topic) (.string q.m.payload) (.int .i64 q.m.qos) (.bool q.m.retain) (.slice pa6 q.m.props.length pc6) (.string q.m.frm) (.int .i64 q.m.til) (.int .i64 q.m.seq) (.string q.m.grp)
        have HF := Lib.hid (show FirstSays w B g most v (leftQ now L) (.returned (.tuple #[QV.agg ⟨q.m, pa6, pc6⟩, .bool true])) _ from by
          rw [HLL.out]
          exact ⟨_, hn6, .inr ⟨q, L2, pa6, pc6, rfl, rfl, put9_pin hp6 hz6 _ _ _ _ _ _ _ _ _⟩⟩)
        have HY := Lib.hid (blk9_cells (put9_blk hz6 (.string q.m.topic) (.string q.m.payload) (.int .i64 q.m.qos) (.bool q.m.retain) (.slice pa6 q.m.props.length pc6) (.string q.m.frm) (.int .i64 q.m.til) (.int .i64 q.m.seq) (.string q.m.grp)))
        clear k0 k1 k2 k3 k4 k5 k6 k7 k8 z0 z1 z2 z3 z4 z5 z6 z7 z8 zf
        obtain ⟨⟨z0, z1, z2, z3, z4, z5, z6, z7, z8⟩, zf⟩ := zq_cells hz6
        clear hz6 hn6 hb6 hp6 HC
        go_wp2_with fail
        change bodyPost _ _ _ _ _ (put9 w6 w.heap.size (.string q.m.topic) (.string q.m.payload) (.int .i64 q.m.qos) (.bool q.m.retain) (.slice pa6 q.m.props.length pc6) (.string q.m.frm) (.int .i64 q.m.til) (.int .i64 q.m.seq) (.string q.m.grp))
        obtain ⟨y0, y1, y2, y3, y4, y5, y6, y7, y8⟩ := HY.out
        generalize put9 w6 w.heap.size _ _ _ _ _ _ _ _ _ = W at *
        exact bodyPost_ret (v := .tuple #[QV.agg ⟨q.m, pa6, pc6⟩, .bool true]) (by unfold QV.agg; simp [results, Try.results40, go_sem, y0, y1, y2, y3, y4, y5, y6, y7, y8]) rfl HF.out
      | true =>
        have HLL := Lib.hid (show leftQ now L2 = leftQ now L from by
          rw [← HL.out]
          unfold leftQ
          rw [List.dropWhile_cons, show exQ now q = true from hex]
          rfl)
        have HCU := Lib.hid (cut_any (HNX.out.below HB5.out).obj (by rw [← HN.out]; exact hl1))
        clear hex
        go_wp2_with fail
        refine HCU.out.mono ?_
        rintro x w6 ⟨rfl, v6, hn6⟩
        have HN6 := Lib.hid ((HNX.out.below HB5.out).trans hn6)
        have HZ6 := Lib.hid (HZ5.out.fr hn6.fr (fun hm => by
          rcases List.mem_cons.1 hm with e | e
          · exact HG0.out.2 e.symm
          · exact HV.out _ (own_list.1 e) rfl))
        have HV6 := Lib.hid (show ∀ k, v6.ownBlock = some k → k ≠ w.heap.size from fun k hk => by
          rcases hn6.own k hk with e | e
          · exact HV.out k e
          · have := HZ5.out.lt
            omega)
        clear hn6
        go_wp2_with fail
        go_roundg L2.length
        case rel => exact ⟨v6, L2, HN6.out, rfl, HLL, Lib.hid fun q2 hq2 => HP1.out q2 (List.mem_cons_of_mem _ hq2), by have := HN.out; simp at this; omega, HZ6.out, HV6⟩
        case measure => simp
/-- The queue behind Pop. -/
def popQ (now : Int) (L : QL) : QL := (leftQ now L).drop 1
/-- The answer of Pop. -/
def PopSays (w : World) (B g : Nat) (most : Int) (v : Value) (L : QL) (x : Ending) (w' : World) : Prop :=
  ∃ v', QNext w w' B g most v v' (L.drop 1) ∧ ((L = [] ∧ x = .returned (.tuple #[q0.agg, .bool false])) ∨ ∃ q L' pa pc, L = q :: L' ∧ x = .returned (.tuple #[QV.agg ⟨q.m, pa, pc⟩, .bool true]) ∧ PIn w' 0 pa q.m.props)
set_option maxHeartbeats 2000000 in
theorem pop_any (h : QObj w B g most v L) (hl : L.length ≤ 1000) (hp : ∀ q ∈ L, q.m.props.length ≤ 1000) (now : Int) : Calls Try.prog 38 #[.pointer (some ⟨g, 0, none⟩), .int .i64 now] w (PopSays w B g most v (leftQ now L)) := by
  have hb0 : Below w.heap.size w (w.alloc (.cells zq 36)) := (Below.refl w.heap.size w).alloc (Nat.le_refl _) (.cells zq 36)
  have HFI := Lib.hid (first_any (h.below hb0) hl hp now)
  have HST := Lib.hid (h.step hb0)
  have HBZ := Lib.hid (Blk.made w 36 zq)
  have h0 := h.size
  have hgr0 : g ≠ w.heap.size := Nat.ne_of_lt h.blk.lt
  have hv0 : ∀ k, v.ownBlock = some k → k ≠ w.heap.size := fun k hk => Nat.ne_of_lt (h.row.lt k hk).2.1
  have HG0 := Lib.hid (And.intro h0 hgr0)
  have HV0 := Lib.hid hv0
  have hll := left_len now L
  clear h hp h0 hgr0 hv0 hb0
  obtain ⟨LL, hLL⟩ : ∃ LL, LL = leftQ now L := ⟨_, rfl⟩
  rw [← hLL] at HFI hll ⊢
  have hl2 : LL.length ≤ 1000 := by omega
  clear hLL
  unfold zq at HFI
  go_enter Try.func38, Try.ntmps38
  go_wp2_with fail
  refine HFI.out.mono ?_
  rintro x w5 ⟨v5, hn5, hx⟩
  have hz5 : Blk w5 w.heap.size 36 zq := HBZ.out.fr hn5.fr (fun hm => by
    rcases List.mem_cons.1 hm with e | e
    · exact HG0.out.2 e.symm
    · exact HV0.out _ (own_list.1 e) rfl)
  have hv5 : ∀ k, v5.ownBlock = some k → k ≠ w.heap.size := fun k hk => by
    rcases hn5.own k hk with e | e
    · exact HV0.out k e
    · simp at e; omega
  have HN5 := Lib.hid (show QNext w w5 B g most v v5 LL from HST.out.trans hn5)
  have HZ5 := Lib.hid hz5
  have HV5 := Lib.hid hv5
  clear hn5 hz5 hv5
  rcases hx with ⟨rfl, rfl⟩ | ⟨q, L2, pa6, pc6, rfl, rfl, hp6⟩
  · dsimp only
    have hb6 : Below w5.heap.size w5 (w5.alloc (.cells zq 36)) := (Below.refl _ _).alloc (Nat.le_refl _) _
    have hz6 := HZ5.out.below hb6 HZ5.out.lt
    have hn6 := (HN5.out.below hb6).put HG0.out.1 hz6 HG0.out.2 (fun e => HV5.out _ e rfl) (Nat.le_refl _) (.string ⟨#[]⟩) (.string ⟨#[]⟩) (.int .i64 0) (.bool false) (.slice none 0 0) (.string ⟨#[]⟩) (.int .i64 0) (.int .i64 0) (.string ⟨#[]⟩)
    have HF := Lib.hid (show PopSays w B g most v [] (.returned (.tuple #[q0.agg, .bool false])) _ from ⟨_, hn6, .inl ⟨rfl, rfl⟩⟩)
    have HY := Lib.hid (blk9_cells (put9_blk hz6 (.string ⟨#[]⟩) (.string ⟨#[]⟩) (.int .i64 0) (.bool false) (.slice none 0 0) (.string ⟨#[]⟩) (.int .i64 0) (.int .i64 0) (.string ⟨#[]⟩)))
    obtain ⟨⟨z0, z1, z2, z3, z4, z5, z6, z7, z8⟩, zf⟩ := zq_cells hz6
    clear hz6 hn6 hb6 hll
    unfold zq at z0 z1 z2 z3 z4 z5 z6 z7 z8 zf HF HY
    unfold QV.agg q0 m0 e0
    go_wp2_with fail
    change bodyPost _ _ _ _ _ (put9 (w5.alloc (.cells #[.string ⟨#[]⟩, .string ⟨#[]⟩, .int .i64 0, .bool false, .slice none 0 0, .string ⟨#[]⟩, .int .i64 0, .int .i64 0, .string ⟨#[]⟩] 36)) w.heap.size (.string ⟨#[]⟩) (.string ⟨#[]⟩) (.int .i64 0) (.bool false) (.slice none 0 0) (.string ⟨#[]⟩) (.int .i64 0) (.int .i64 0) (.string ⟨#[]⟩))
    obtain ⟨y0, y1, y2, y3, y4, y5, y6, y7, y8⟩ := HY.out
    generalize put9 (w5.alloc _) w.heap.size _ _ _ _ _ _ _ _ _ = W at *
    exact bodyPost_ret (v := .tuple #[q0.agg, .bool false]) (by unfold q0 m0 QV.agg e0; simp [results, Try.results38, go_sem, y0, y1, y2, y3, y4, y5, y6, y7, y8]) rfl HF.out
  · dsimp only
    have hb6 : Below w5.heap.size w5 (w5.alloc (.cells (QV.cells ⟨q.m, pa6, pc6⟩).toArray 36)) := (Below.refl _ _).alloc (Nat.le_refl _) _
    have HCU := Lib.hid (cut_any (HN5.out.below hb6).obj hl2)
    have HN6 := Lib.hid (HN5.out.below hb6)
    have HZ6 := Lib.hid (HZ5.out.below hb6 HZ5.out.lt)
    have HM6 := Lib.hid (Blk.made w5 36 (QV.cells ⟨q.m, pa6, pc6⟩).toArray)
    have HP6 := Lib.hid (hp6.below hb6)
    have HM5 := Lib.hid (fun k (hk : v5.ownBlock = some k) => (HN5.out.obj.row.lt k hk).2.1)
    have HG5 := Lib.hid HN5.out.obj.blk.lt
    have HX5 := Lib.hid (HN5.out.below hb6).obj.own_ok
    clear hb6 hp6 hll
    unfold QV.agg
    unfold QV.cells at HCU
    go_wp2_with fail
    refine HCU.out.mono ?_
    rintro x w7 ⟨rfl, v7, hn7⟩
    have hz7 : Blk w7 w.heap.size 36 zq := HZ6.out.fr hn7.fr (fun hm => by
      rcases List.mem_cons.1 hm with e | e
      · exact HG0.out.2 e.symm
      · exact HV5.out _ (own_list.1 e) rfl)
    have hm7 := HM6.out.fr hn7.fr (fun hm => by
      rcases List.mem_cons.1 hm with e | e
      · have := HG5.out; omega
      · have := HM5.out _ (own_list.1 e); omega)
    have hp7 := HP6.out.fr hn7.fr (fun k hk => ⟨Nat.zero_le _, (HX5.out k hk).2⟩)
    have hn8 := (HN6.out.trans hn7).put HG0.out.1 hz7 HG0.out.2 (fun e => by
      rcases hn7.own _ e with e2 | e2
      · exact HV5.out _ e2 rfl
      · have := HZ5.out.lt; simp at e2; omega) (Nat.le_refl _) (.string q.m.topic) (.string q.m.payload) (.int .i64 q.m.qos) (.bool q.m.retain) (.slice pa6 q.m.props.length pc6) (.string q.m.frm) (.int .i64 q.m.til) (.int .i64 q.m.seq) (.string q.m.grp)
    have HF := Lib.hid (show PopSays w B g most v (q :: L2) (.returned (.tuple #[QV.agg ⟨q.m, pa6, pc6⟩, .bool true])) _ from ⟨_, hn8, .inr ⟨q, L2, pa6, pc6, rfl, rfl, (put9_pin hp7 hz7 _ _ _ _ _ _ _ _ _ : PIn _ 0 _ _)⟩⟩)
    have HY := Lib.hid (blk9_cells (put9_blk hz7 (.string q.m.topic) (.string q.m.payload) (.int .i64 q.m.qos) (.bool q.m.retain) (.slice pa6 q.m.props.length pc6) (.string q.m.frm) (.int .i64 q.m.til) (.int .i64 q.m.seq) (.string q.m.grp)))
    obtain ⟨⟨z0, z1, z2, z3, z4, z5, z6, z7, z8⟩, zf⟩ := zq_cells hz7
    obtain ⟨k0, k1, k2, k3, k4, k5, k6, k7, k8⟩ := box_cells hm7
    clear hz7 hm7 hp7 hn8 hn7 HCU
    dsimp only at k0 k1 k2 k3 k4 k5 k6 k7 k8
    go_wp2_with fail
    change bodyPost _ _ _ _ _ (put9 w7 w.heap.size (.string q.m.topic) (.string q.m.payload) (.int .i64 q.m.qos) (.bool q.m.retain) (.slice pa6 q.m.props.length pc6) (.string q.m.frm) (.int .i64 q.m.til) (.int .i64 q.m.seq) (.string q.m.grp))
    obtain ⟨y0, y1, y2, y3, y4, y5, y6, y7, y8⟩ := HY.out
    generalize put9 w7 w.heap.size _ _ _ _ _ _ _ _ _ = W at *
    exact bodyPost_ret (v := .tuple #[QV.agg ⟨q.m, pa6, pc6⟩, .bool true]) (by unfold QV.agg; simp [results, Try.results38, go_sem, y0, y1, y2, y3, y4, y5, y6, y7, y8]) rfl HF.out
end
end Go.Proofs.Ytcfbfnlbdkgfkaa
