/- What is proved here: the program's queue, the document's and the queue of nobody, side by side: what each act does to all three. Conditions: all are there; few messages. -/
import Derived.Test.YtcfbfnlbdkgfkaaFew27
namespace Go.Proofs.Ytcfbfnlbdkgfkaa
open Go.RowKit Go.Extern.Stop Go.Stop Go.Extern
set_option maxRecDepth 100000
def headM (M : List MV) : MV := M.headD m0
def hasM (M : List MV) : Bool := !M.isEmpty
def keepM (now : Int) (M : List MV) : List MV := M.filter fun m => !exB m.til now
def pushM (most : Int) (M : List MV) (m : MV) : List MV := if (M.length : Int) < most then M ++ [m] else M
theorem keep_map (now : Int) (L : QL) : (keepQ now L).map QV.m = keepM now (L.map QV.m) := by
  unfold keepQ keepM
  rw [List.filter_map]
  rfl
def FewM (M : List MV) : Prop := ∀ m ∈ M, m.props.length ≤ 70
theorem few_map {L : QL} (h : FewM (L.map QV.m)) : ∀ q ∈ L, q.m.props.length ≤ 1000 := fun q hq => Nat.le_trans (h _ (List.mem_map_of_mem hq)) (by omega)
theorem FewM.left {M : List MV} (h : FewM M) (now : Int) : FewM (leftM now M) := fun m hm => h m ((List.dropWhile_sublist _).subset hm)
theorem FewM.drop {M : List MV} (h : FewM M) (k : Nat) : FewM (M.drop k) := fun m hm => h m ((List.drop_sublist _ _).subset hm)
theorem FewM.keep {M : List MV} (h : FewM M) (now : Int) : FewM (keepM now M) := fun m hm => h m (List.filter_sublist.subset hm)
theorem FewM.push {M : List MV} (h : FewM M) (most : Int) {m : MV} (hm : m.props.length ≤ 70) : FewM (pushM most M m) := by
  unfold pushM
  split
  · intro y hy
    rcases List.mem_append.1 hy with e | e
    · exact h y e
    · rw [List.mem_singleton] at e
      rw [e]
      exact hm
  · exact h
theorem leftM_len (now : Int) (M : List MV) : (leftM now M).length ≤ M.length := (List.dropWhile_sublist _).length_le
theorem keepM_len (now : Int) (M : List MV) : (keepM now M).length ≤ M.length := List.length_filter_le _ _
theorem pushM_len (most : Int) (M : List MV) (m : MV) : (pushM most M m).length ≤ M.length + 1 := by
  unfold pushM
  split <;> simp
section
variable {X : List Nat} {w W W' : World} {B g gq gx gz nb ba b : Nat} {most : Int} {a : AV} {v v' vq vq' vx vx' : Value} {L L' Lq Lq' Lx Lx' : QL} {M M' : List MV} {q : QV}
theorem qfoot (h : QObj W B g most v L) {t : TypeId} {cs : Array Value} (hb : Blk W b t cs) (h1 : t ≠ 80) (h2 : t ≠ 36) : b ∉ g :: v.ownBlock.toList := by
  intro hm
  rcases List.mem_cons.1 hm with rfl | hm
  · exact hb.other h.blk h1 rfl
  · obtain ⟨_, _, cs', hh⟩ := h.row.lt b (own_list.1 hm)
    exact hb.other hh h2 rfl
theorem rfoot (h : RQObj W B g most v L) {t : TypeId} {cs : Array Value} (hb : Blk W b t cs) (h1 : t ≠ 78) (h2 : t ≠ 36) : b ∉ g :: v.ownBlock.toList := by
  intro hm
  rcases List.mem_cons.1 hm with rfl | hm
  · exact hb.other h.blk h1 rfl
  · obtain ⟨_, _, cs', hh⟩ := h.row.lt b (own_list.1 hm)
    exact hb.other hh h2 rfl
/-- All three, and the slice of nobodies. -/
structure PlN (w W : World) (gq gx gz nb : Nat) (most : Int) (vq vx : Value) (Lq Lx : QL) : Prop where
  q : QObj W w.heap.size gq most vq Lq
  x : RQObj W w.heap.size gx most vx Lx
  z : ∃ vz, QObj W w.heap.size gz 0 vz [] ∧ ∀ k, vz.ownBlock = some k → vq.ownBlock ≠ some k ∧ vx.ownBlock ≠ some k
  nbk : Blk W nb 74 #[.pointer none, .pointer (some ⟨gz, 0, none⟩)]
  ne : gq ≠ gz
  dis : ∀ k, vq.ownBlock = some k → vx.ownBlock ≠ some k
  bel : Below w.heap.size w W
theorem PlN.below (h : PlN w W gq gx gz nb most vq vx Lq Lx) (hb : Below W.heap.size W W') : PlN w W' gq gx gz nb most vq vx Lq Lx := by
  obtain ⟨vz, hz, hd⟩ := h.z
  exact ⟨h.q.below hb, h.x.below hb, ⟨vz, hz.below hb, hd⟩, h.nbk.below hb h.nbk.lt, h.ne, h.dis, h.bel.trans (hb.mono h.bel.size)⟩
theorem PlN.stepq (h : PlN w W gq gx gz nb most vq vx Lq Lx) (n : QNext W W' w.heap.size gq most vq vq' Lq') : PlN w W' gq gx gz nb most vq' vx Lq' Lx := by
  obtain ⟨vz, hz, hd⟩ := h.z
  have hok := h.q.own_ok
  refine ⟨n.obj, h.x.fr n.fr (qfoot h.q h.x.blk (by decide) (by decide)) (fun k hk hm => ?_) hok, ⟨vz, hz.fr n.fr (fun hm => ?_) (fun k hk hm => ?_) hok, fun k hk => ⟨fun e => ?_, (hd k hk).2⟩⟩, h.nbk.fr n.fr (qfoot h.q h.nbk (by decide) (by decide)), h.ne, fun k hk e => ?_, n.fr.later h.bel (fun k hk => (hok k hk).1) h.bel.size⟩
  · rcases List.mem_cons.1 hm with rfl | hm
    · obtain ⟨_, _, cs', hh⟩ := h.x.row.lt _ hk
      exact h.q.blk.other hh (by decide) rfl
    · exact h.dis k (own_list.1 hm) hk
  · rcases List.mem_cons.1 hm with e | hm
    · exact h.ne e.symm
    · obtain ⟨_, _, cs', hh⟩ := h.q.row.lt _ (own_list.1 hm)
      exact hz.blk.other hh (by decide) rfl
  · rcases List.mem_cons.1 hm with rfl | hm
    · obtain ⟨_, _, cs', hh⟩ := hz.row.lt _ hk
      exact h.q.blk.other hh (by decide) rfl
    · exact (hd k hk).1 (own_list.1 hm)
  · rcases n.own k e with e | e
    · exact (hd k hk).1 e
    · have := (hz.row.lt _ hk).2.1
      omega
  · rcases n.own k hk with e2 | e2
    · exact h.dis k e2 e
    · have := (h.x.row.lt _ e).2.1
      omega
theorem PlN.stepx (h : PlN w W gq gx gz nb most vq vx Lq Lx) (n : RQNext W W' w.heap.size gx most vx vx' Lx') : PlN w W' gq gx gz nb most vq vx' Lq Lx' := by
  obtain ⟨vz, hz, hd⟩ := h.z
  have hok := h.x.own_ok
  refine ⟨h.q.fr n.fr (rfoot h.x h.q.blk (by decide) (by decide)) (fun k hk hm => ?_) hok, n.obj, ⟨vz, hz.fr n.fr (rfoot h.x hz.blk (by decide) (by decide)) (fun k hk hm => ?_) hok, fun k hk => ⟨(hd k hk).1, fun e => ?_⟩⟩, h.nbk.fr n.fr (rfoot h.x h.nbk (by decide) (by decide)), h.ne, fun k hk e => ?_, n.fr.later h.bel (fun k hk => (hok k hk).1) h.bel.size⟩
  · rcases List.mem_cons.1 hm with rfl | hm
    · obtain ⟨_, _, cs', hh⟩ := h.q.row.lt _ hk
      exact h.x.blk.other hh (by decide) rfl
    · exact h.dis k hk (own_list.1 hm)
  · rcases List.mem_cons.1 hm with rfl | hm
    · obtain ⟨_, _, cs', hh⟩ := hz.row.lt _ hk
      exact h.x.blk.other hh (by decide) rfl
    · exact (hd k hk).2 (own_list.1 hm)
  · rcases n.own k e with e | e
    · exact (hd k hk).2 e
    · have := (hz.row.lt _ hk).2.1
      omega
  · rcases n.own k e with e2 | e2
    · exact h.dis k hk e2
    · have := (h.q.row.lt _ hk).2.1
      omega
theorem PlN.stepz (h : PlN w W gq gx gz nb most vq vx Lq Lx) {vz vz' : Value} (hz : QObj W w.heap.size gz 0 vz []) (hd : ∀ k, vz.ownBlock = some k → vq.ownBlock ≠ some k ∧ vx.ownBlock ≠ some k) (n : QNext W W' w.heap.size gz 0 vz vz' []) : PlN w W' gq gx gz nb most vq vx Lq Lx := by
  have hok := hz.own_ok
  refine ⟨h.q.fr n.fr (fun hm => ?_) (fun k hk hm => ?_) hok, h.x.fr n.fr (qfoot hz h.x.blk (by decide) (by decide)) (fun k hk hm => ?_) hok, ⟨vz', n.obj, fun k hk => ?_⟩, h.nbk.fr n.fr (qfoot hz h.nbk (by decide) (by decide)), h.ne, h.dis, n.fr.later h.bel (fun k hk => (hok k hk).1) h.bel.size⟩
  · rcases List.mem_cons.1 hm with e | hm
    · exact h.ne e
    · obtain ⟨_, _, cs', hh⟩ := hz.row.lt _ (own_list.1 hm)
      exact h.q.blk.other hh (by decide) rfl
  · rcases List.mem_cons.1 hm with rfl | hm
    · obtain ⟨_, _, cs', hh⟩ := h.q.row.lt _ hk
      exact hz.blk.other hh (by decide) rfl
    · exact (hd k (own_list.1 hm)).1 hk
  · rcases List.mem_cons.1 hm with rfl | hm
    · obtain ⟨_, _, cs', hh⟩ := h.x.row.lt _ hk
      exact hz.blk.other hh (by decide) rfl
    · exact (hd k (own_list.1 hm)).2 hk
  · rcases n.own k hk with e | e
    · exact hd k e
    · exact ⟨fun e2 => by have := (h.q.row.lt _ e2).2.1; omega, fun e2 => by have := (h.x.row.lt _ e2).2.1; omega⟩
/-- All that stands at the beginning of a round: the messages alone are told. -/
def PlS (w W : World) (gq gx gz nb : Nat) (most : Int) (M M' : List MV) : Prop := ∃ vq Lq vx Lx, PlN w W gq gx gz nb most vq vx Lq Lx ∧ Lq.map QV.m = M ∧ Lx.map QV.m = M'
/-- And within the round: with the act in a block of its own. -/
def PlB (w W : World) (gq gx gz nb ba : Nat) (most : Int) (a : AV) (M M' : List MV) : Prop := PlS w W gq gx gz nb most M M' ∧ Blk W ba 83 a.cells.toArray
theorem PlS.bel (h : PlS w W gq gx gz nb most M M') : Below w.heap.size w W := by obtain ⟨_, _, _, _, h, _⟩ := h; exact h.bel
theorem PlS.below (h : PlS w W gq gx gz nb most M M') (hb : Below W.heap.size W W') : PlS w W' gq gx gz nb most M M' := by
  obtain ⟨vq, Lq, vx, Lx, h, e1, e2⟩ := h
  exact ⟨vq, Lq, vx, Lx, h.below hb, e1, e2⟩
theorem PlB.below (h : PlB w W gq gx gz nb ba most a M M') (hb : Below W.heap.size W W') : PlB w W' gq gx gz nb ba most a M M' := ⟨h.1.below hb, h.2.below hb h.2.lt⟩
theorem PlB.drewN (h : PlB w W gq gx gz nb ba most a M M') (d : Nat) : PlB w (W.drewN d) gq gx gz nb ba most a M M' := h.below (below_drewN (Below.refl _ _) d)
theorem PlB.bel (h : PlB w W gq gx gz nb ba most a M M') : Below w.heap.size w W := h.1.bel
def Says (w : World) (gq gx gz nb ba : Nat) (most : Int) (a : AV) (M M' : List MV) (r : Value) (x : Ending) (W' : World) : Prop := x = .returned r ∧ PlB w W' gq gx gz nb ba most a M M'
theorem c36 (h : PlB w W gq gx gz nb ba most a M M') (hl : M.length ≤ 900) (hp : PIn w w.heap.size a.q.pa a.q.m.props) (ha : a.q.m.props.length ≤ 70) :
    Calls Try.prog 36 #[.pointer (some ⟨gq, 0, none⟩), a.q.agg] W (Says w gq gx gz nb ba most a (pushM most M a.q.m) M' (.bool (decide ((M.length : Int) < most)))) := by
  obtain ⟨⟨vq, Lq, vx, Lx, h, rfl, rfl⟩, hb⟩ := h
  rw [List.length_map] at hl ⊢
  by_cases hr : (Lq.length : Int) < most
  · refine (push_room h.q a.q (hp.below h.bel) (by omega) hl hr).mono ?_
    rintro x W' ⟨rfl, pa, pc, v', hn⟩
    refine ⟨by rw [decide_eq_true hr], ⟨v', _, vx, Lx, h.stepq hn, ?_, rfl⟩, hb.fr hn.fr (qfoot h.q hb (by decide) (by decide))⟩
    unfold pushM
    rw [List.length_map, if_pos hr, List.map_append]
    rfl
  · refine (push_full h.q a.q (by omega)).mono ?_
    rintro x W' ⟨rfl, hb2⟩
    refine ⟨by rw [decide_eq_false hr], ⟨vq, Lq, vx, Lx, h.below hb2, ?_, rfl⟩, hb.below hb2 hb.lt⟩
    unfold pushM
    rw [List.length_map, if_neg hr]
theorem c37 (h : PlB w W gq gx gz nb ba most a M M') (hl : M'.length ≤ 900) (hp : PIn w w.heap.size a.q.pa a.q.m.props) :
    Calls Try.prog 37 #[.pointer (some ⟨gx, 0, none⟩), a.q.agg] W (Says w gq gx gz nb ba most a M (pushM most M' a.q.m) (.bool (decide ((M'.length : Int) < most)))) := by
  obtain ⟨⟨vq, Lq, vx, Lx, h, rfl, rfl⟩, hb⟩ := h
  rw [List.length_map] at hl ⊢
  by_cases hr : (Lx.length : Int) < most
  · refine (rpush_room h.x a.q (hp.below h.bel) hl hr).mono ?_
    rintro x W' ⟨rfl, v', hn⟩
    refine ⟨by rw [decide_eq_true hr], ⟨vq, Lq, v', _, h.stepx hn, rfl, ?_⟩, hb.fr hn.fr (rfoot h.x hb (by decide) (by decide))⟩
    unfold pushM
    rw [List.length_map, if_pos hr, List.map_append]
    rfl
  · refine (rpush_full h.x a.q (by omega)).mono ?_
    rintro x W' ⟨rfl, hb2⟩
    refine ⟨by rw [decide_eq_false hr], ⟨vq, Lq, vx, Lx, h.below hb2, rfl, ?_⟩, hb.below hb2 hb.lt⟩
    unfold pushM
    rw [List.length_map, if_neg hr]
theorem c42 (h : PlB w W gq gx gz nb ba most a M M') (hl : M.length ≤ 900) (now : Int) :
    Calls Try.prog 42 #[.pointer (some ⟨gq, 0, none⟩), .int .i64 now] W (Says w gq gx gz nb ba most a (keepM now M) M' (.int .i64 ((M.length : Int) - (keepM now M).length))) := by
  obtain ⟨⟨vq, Lq, vx, Lx, h, rfl, rfl⟩, hb⟩ := h
  rw [List.length_map] at hl ⊢
  refine (expire_any h.q (by omega) now).mono ?_
  rintro x W' ⟨rfl, v', hn⟩
  exact ⟨by rw [← keep_map, List.length_map], ⟨v', _, vx, Lx, h.stepq hn, keep_map _ _, rfl⟩, hb.fr hn.fr (qfoot h.q hb (by decide) (by decide))⟩
theorem c43 (h : PlB w W gq gx gz nb ba most a M M') (hl : M'.length ≤ 900) (now : Int) :
    Calls Try.prog 43 #[.pointer (some ⟨gx, 0, none⟩), .int .i64 now] W (Says w gq gx gz nb ba most a M (keepM now M') (.int .i64 ((M'.length : Int) - (keepM now M').length))) := by
  obtain ⟨⟨vq, Lq, vx, Lx, h, rfl, rfl⟩, hb⟩ := h
  rw [List.length_map] at hl ⊢
  refine (rexpire_any h.x hl now).mono ?_
  rintro x W' ⟨rfl, v', hn⟩
  exact ⟨by rw [← keep_map, List.length_map], ⟨vq, Lq, v', _, h.stepx hn, rfl, keep_map _ _⟩, hb.fr hn.fr (rfoot h.x hb (by decide) (by decide))⟩
/-- A message that was told, and whether there was one. -/
def Tells (w : World) (gq gx gz nb ba : Nat) (most : Int) (a : AV) (M M' : List MV) (T : List MV) (x : Ending) (W' : World) : Prop :=
  ∃ Y : QV, x = .returned (.tuple #[Y.agg, .bool (hasM T)]) ∧ Y.m = headM T ∧ PIn W' 0 Y.pa Y.m.props ∧ PlB w W' gq gx gz nb ba most a M M'
theorem c38 (h : PlB w W gq gx gz nb ba most a M M') (hl : M.length ≤ 900) (hf : FewM M) (now : Int) :
    Calls Try.prog 38 #[.pointer (some ⟨gq, 0, none⟩), .int .i64 now] W (Tells w gq gx gz nb ba most a ((leftM now M).drop 1) M' (leftM now M)) := by
  obtain ⟨⟨vq, Lq, vx, Lx, h, rfl, rfl⟩, hb⟩ := h
  rw [List.length_map] at hl
  refine (pop_any h.q (by omega) (few_map hf) now).mono ?_
  rintro x W' ⟨v', hn, hx⟩
  have hB : PlB w W' gq gx gz nb ba most a ((leftM now (Lq.map QV.m)).drop 1) (Lx.map QV.m) := ⟨⟨v', _, vx, Lx, h.stepq hn, by rw [← left_map, List.map_drop], rfl⟩, hb.fr hn.fr (qfoot h.q hb (by decide) (by decide))⟩
  rw [← left_map] at *
  rcases hx with ⟨e, rfl⟩ | ⟨y, L3, pa, pc, e, rfl, hp⟩
  · rw [e] at hB ⊢
    exact ⟨q0, rfl, rfl, PIn.nil _ _ _, hB⟩
  · rw [e] at hB ⊢
    exact ⟨⟨y.m, pa, pc⟩, rfl, rfl, hp, hB⟩
theorem c40 (h : PlB w W gq gx gz nb ba most a M M') (hl : M.length ≤ 900) (hf : FewM M) (now : Int) :
    Calls Try.prog 40 #[.pointer (some ⟨gq, 0, none⟩), .int .i64 now] W (Tells w gq gx gz nb ba most a (leftM now M) M' (leftM now M)) := by
  obtain ⟨⟨vq, Lq, vx, Lx, h, rfl, rfl⟩, hb⟩ := h
  rw [List.length_map] at hl
  refine (first_any h.q (by omega) (few_map hf) now).mono ?_
  rintro x W' ⟨v', hn, hx⟩
  have hB : PlB w W' gq gx gz nb ba most a (leftM now (Lq.map QV.m)) (Lx.map QV.m) := ⟨⟨v', _, vx, Lx, h.stepq hn, left_map _ _, rfl⟩, hb.fr hn.fr (qfoot h.q hb (by decide) (by decide))⟩
  rw [← left_map] at *
  rcases hx with ⟨e, rfl⟩ | ⟨y, L3, pa, pc, e, rfl, hp⟩
  · rw [e] at hB ⊢
    exact ⟨q0, rfl, rfl, PIn.nil _ _ _, hB⟩
  · rw [e] at hB ⊢
    exact ⟨⟨y.m, pa, pc⟩, rfl, rfl, hp, hB⟩
/-- The same with the program's own answer in a block of its own. -/
structure PlC (w W : World) (gq gx gz nb ba : Nat) (most : Int) (a : AV) (b : Nat) (Y : QV) (M M' : List MV) : Prop where
  all : ∃ vq Lq vx Lx, PlN w W gq gx gz nb most vq vx Lq Lx ∧ Lq.map QV.m = M ∧ Lx.map QV.m = M' ∧ vx.ownBlock ≠ some b
  box : Blk W ba 83 a.cells.toArray
  msg : Blk W b 36 Y.cells.toArray
  pin : PIn W 0 Y.pa Y.m.props
theorem PlC.pb {Y : QV} (h : PlC w W gq gx gz nb ba most a b Y M M') : PlB w W gq gx gz nb ba most a M M' := by
  obtain ⟨vq, Lq, vx, Lx, hn, e1, e2, _⟩ := h.all
  exact ⟨⟨vq, Lq, vx, Lx, hn, e1, e2⟩, h.box⟩
theorem PlC.below {Y : QV} (h : PlC w W gq gx gz nb ba most a b Y M M') (hb : Below W.heap.size W W') : PlC w W' gq gx gz nb ba most a b Y M M' := by
  obtain ⟨vq, Lq, vx, Lx, hn, e1, e2, e3⟩ := h.all
  exact ⟨⟨vq, Lq, vx, Lx, hn.below hb, e1, e2, e3⟩, h.box.below hb h.box.lt, h.msg.below hb h.msg.lt, h.pin.below hb⟩
theorem PlC.make {Y : QV} (h : PlB w W gq gx gz nb ba most a M M') (hp : PIn W 0 Y.pa Y.m.props) : PlC w (W.alloc (.cells Y.cells.toArray 36)) gq gx gz nb ba most a W.heap.size Y M M' := by
  have hb : Below W.heap.size W (W.alloc (.cells Y.cells.toArray 36)) := (Below.refl _ _).alloc (Nat.le_refl _) _
  obtain ⟨⟨vq, Lq, vx, Lx, hn, e1, e2⟩, hx⟩ := h
  exact ⟨⟨vq, Lq, vx, Lx, hn.below hb, e1, e2, fun e => by have := (hn.x.row.lt _ e).2.1; omega⟩, hx.below hb hx.lt, Blk.made _ _ _, hp.below hb⟩
theorem PlC.stepx {Y : QV} (h : PlC w W gq gx gz nb ba most a b Y M (Lx.map QV.m)) (hn : PlN w W gq gx gz nb most vq vx Lq Lx) (e1 : Lq.map QV.m = M) (he : vx.ownBlock ≠ some b) (n : RQNext W W' w.heap.size gx most vx vx' Lx') : PlC w W' gq gx gz nb ba most a b Y M (Lx'.map QV.m) := by
  have hbn : b ∉ gx :: vx.ownBlock.toList := by
    intro hm
    rcases List.mem_cons.1 hm with rfl | hm
    · exact h.msg.other hn.x.blk (by decide) rfl
    · exact he (own_list.1 hm)
  exact ⟨⟨vq, Lq, vx', Lx', hn.stepx n, e1, rfl, fun e => by
    rcases n.own _ e with e | e
    · exact he e
    · have := h.msg.lt; omega⟩, h.box.fr n.fr (rfoot hn.x h.box (by decide) (by decide)), h.msg.fr n.fr hbn, h.pin.fr n.fr (fun k hk => ⟨Nat.zero_le _, (hn.x.own_ok k hk).2⟩)⟩
def Tell2 (w : World) (gq gx gz nb ba : Nat) (most : Int) (a : AV) (b : Nat) (Y : QV) (M M' : List MV) (T : List MV) (x : Ending) (W' : World) : Prop :=
  ∃ Z : QV, x = .returned (.tuple #[Z.agg, .bool (hasM T)]) ∧ Z.m = headM T ∧ PIn W' w.heap.size Z.pa Z.m.props ∧ PlC w W' gq gx gz nb ba most a b Y M M'
theorem c39 {Y : QV} (h : PlC w W gq gx gz nb ba most a b Y M M') (hl : M'.length ≤ 900) (now : Int) :
    Calls Try.prog 39 #[.pointer (some ⟨gx, 0, none⟩), .int .i64 now] W (Tell2 w gq gx gz nb ba most a b Y M ((leftM now M').drop 1) (leftM now M')) := by
  obtain ⟨vq, Lq, vx, Lx, hn, e1, rfl, he⟩ := h.all
  rw [List.length_map] at hl
  refine (rpop_any hn.x (by omega) now).mono ?_
  rintro x W' ⟨v', n, hx⟩
  have hC := h.stepx hn e1 he n
  rw [List.map_drop, left_map] at hC
  rw [← left_map] at *
  rcases hx with ⟨e, rfl⟩ | ⟨y, L3, e, rfl, hp⟩
  · rw [e] at hC ⊢
    exact ⟨q0, rfl, rfl, PIn.nil _ _ _, hC⟩
  · rw [e] at hC ⊢
    exact ⟨y, rfl, rfl, hp, hC⟩
theorem c41 {Y : QV} (h : PlC w W gq gx gz nb ba most a b Y M M') (hl : M'.length ≤ 900) (now : Int) :
    Calls Try.prog 41 #[.pointer (some ⟨gx, 0, none⟩), .int .i64 now] W (Tell2 w gq gx gz nb ba most a b Y M (leftM now M') (leftM now M')) := by
  obtain ⟨vq, Lq, vx, Lx, hn, e1, rfl, he⟩ := h.all
  rw [List.length_map] at hl
  refine (rfirst_any hn.x (by omega) now).mono ?_
  rintro x W' ⟨v', n, hx⟩
  have hC := h.stepx hn e1 he n
  rw [left_map] at hC
  rw [← left_map] at *
  rcases hx with ⟨e, rfl⟩ | ⟨y, L3, e, rfl, hp⟩
  · rw [e] at hC ⊢
    exact ⟨q0, rfl, rfl, PIn.nil _ _ _, hC⟩
  · rw [e] at hC ⊢
    exact ⟨y, rfl, rfl, hp, hC⟩
/-- Nobody: nil, or the queue that is zero. -/
def nobP (gz k : Nat) : Option Addr := if k = 0 then none else some ⟨gz, 0, none⟩
theorem z38 (h : PlB w W gq gx gz nb ba most a M M') (k : Nat) (now : Int) :
    Calls Try.prog 38 #[.pointer (nobP gz k), .int .i64 now] W (fun x W' => x = .returned (.tuple #[q0.agg, .bool false]) ∧ PlB w W' gq gx gz nb ba most a M M' ∧ W.heap.size ≤ W'.heap.size) := by
  unfold nobP
  split
  · exact (nil_pop now W).mono fun x W' ⟨he, hb⟩ => ⟨he, h.below hb, hb.size⟩
  · obtain ⟨⟨vq, Lq, vx, Lx, hn, e1, e2⟩, hb⟩ := h
    obtain ⟨vz, hz, hd⟩ := hn.z
    refine (pop_any hz (by simp) (by simp) now).mono ?_
    rintro x W' ⟨v', n, hx⟩
    rcases hx with ⟨_, rfl⟩ | ⟨y, L3, pa, pc, e, _⟩
    · exact ⟨rfl, ⟨⟨vq, Lq, vx, Lx, hn.stepz hz hd n, e1, e2⟩, hb.fr n.fr (qfoot hz hb (by decide) (by decide))⟩, n.fr.size⟩
    · cases e
theorem z40 (h : PlB w W gq gx gz nb ba most a M M') (k : Nat) (now : Int) :
    Calls Try.prog 40 #[.pointer (nobP gz k), .int .i64 now] W (fun x W' => x = .returned (.tuple #[q0.agg, .bool false]) ∧ PlB w W' gq gx gz nb ba most a M M' ∧ W.heap.size ≤ W'.heap.size) := by
  unfold nobP
  split
  · exact (nil_first now W).mono fun x W' ⟨he, hb⟩ => ⟨he, h.below hb, hb.size⟩
  · obtain ⟨⟨vq, Lq, vx, Lx, hn, e1, e2⟩, hb⟩ := h
    obtain ⟨vz, hz, hd⟩ := hn.z
    refine (first_any hz (by simp) (by simp) now).mono ?_
    rintro x W' ⟨v', n, hx⟩
    rcases hx with ⟨_, rfl⟩ | ⟨y, L3, pa, pc, e, _⟩
    · exact ⟨rfl, ⟨⟨vq, Lq, vx, Lx, hn.stepz hz hd n, e1, e2⟩, hb.fr n.fr (qfoot hz hb (by decide) (by decide))⟩, n.fr.size⟩
    · cases e
theorem z36 (h : PlB w W gq gx gz nb ba most a M M') (k : Nat) :
    Calls Try.prog 36 #[.pointer (nobP gz k), a.q.agg] W (fun x W' => x = .returned (.bool false) ∧ PlB w W' gq gx gz nb ba most a M M') := by
  unfold nobP
  split
  · exact (nil_push a.q W).mono fun x W' ⟨he, hb⟩ => ⟨he, h.below hb⟩
  · obtain ⟨⟨vq, Lq, vx, Lx, hn, e1, e2⟩, hb⟩ := h
    obtain ⟨vz, hz, hd⟩ := hn.z
    refine (push_full hz a.q (by simp)).mono ?_
    rintro x W' ⟨rfl, hb2⟩
    exact ⟨rfl, ⟨vq, Lq, vx, Lx, hn.below hb2, e1, e2⟩, hb.below hb2 hb.lt⟩
theorem z42 (h : PlB w W gq gx gz nb ba most a M M') (k : Nat) (now : Int) :
    Calls Try.prog 42 #[.pointer (nobP gz k), .int .i64 now] W (fun x W' => x = .returned (.int .i64 0) ∧ PlB w W' gq gx gz nb ba most a M M') := by
  unfold nobP
  split
  · exact (nil_expire now W).mono fun x W' ⟨he, hb⟩ => ⟨he, h.below hb⟩
  · obtain ⟨⟨vq, Lq, vx, Lx, hn, e1, e2⟩, hb⟩ := h
    obtain ⟨vz, hz, hd⟩ := hn.z
    refine (expire_any hz (by simp) now).mono ?_
    rintro x W' ⟨rfl, v', n⟩
    exact ⟨rfl, ⟨vq, Lq, vx, Lx, hn.stepz hz hd n, e1, e2⟩, hb.fr n.fr (qfoot hz hb (by decide) (by decide))⟩
theorem z44 (h : PlB w W gq gx gz nb ba most a M M') (k : Nat) :
    Calls Try.prog 44 #[.pointer (nobP gz k)] W (fun x W' => x = .returned (.int .i64 0) ∧ PlB w W' gq gx gz nb ba most a M M') := by
  unfold nobP
  split
  · exact (nil_len W).mono fun x W' ⟨he, hb⟩ => ⟨he, hb ▸ h⟩
  · obtain ⟨⟨vq, Lq, vx, Lx, hn, e1, e2⟩, hb⟩ := h
    obtain ⟨vz, hz, hd⟩ := hn.z
    refine (qlen_any hz).mono ?_
    rintro x W' ⟨rfl, rfl⟩
    exact ⟨rfl, ⟨vq, Lq, vx, Lx, hn, e1, e2⟩, hb⟩
theorem z45 (h : PlB w W gq gx gz nb ba most a M M') (k : Nat) :
    Calls Try.prog 45 #[.pointer (nobP gz k)] W (fun x W' => (∃ A c, x = .returned (.slice A 0 c)) ∧ PlB w W' gq gx gz nb ba most a M M') := by
  unfold nobP
  split
  · exact (nil_all W).mono fun x W' ⟨he, hb⟩ => ⟨⟨_, _, he⟩, hb ▸ h⟩
  · have hB := h
    obtain ⟨⟨vq, Lq, vx, Lx, hn, e1, e2⟩, hb⟩ := h
    obtain ⟨vz, hz, hd⟩ := hn.z
    refine (qall_any hz (by simp) (by simp)).mono ?_
    rintro x W' ⟨v', L', rfl, hrow, hm, _, hb2⟩
    obtain ⟨A, c, rfl⟩ := hrow.form
    obtain rfl : L' = [] := List.map_eq_nil_iff.1 (hm.trans rfl)
    exact ⟨⟨A, c, rfl⟩, hB.below hb2⟩
end
end Go.Proofs.Ytcfbfnlbdkgfkaa
