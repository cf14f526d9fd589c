/- What is proved here: what Expire does to retained messages. Conditions: those that each theorem names. -/
import Derived.Test.YtfmkeapbddhndaaDoorMtc19
namespace Go.Proofs.YtfmkeapbddhndaaDoor
open Go.RowKit Go.Extern.Stop Go.Stop Go.Extern Go.Maps Go.Shelf Go.Lib Go.Sort Go.Deep
set_option maxRecDepth 100000
/-- It stays. -/
def kpB (now : Int) (q : QV) : Bool := !exB q.m.til now
theorem StI.perm {w : World} {g bm : Nat} {most : Int} {L L' : QL} (h : StI w g bm most L) (hp : L.Perm L') : StI w g bm most L' :=
  ⟨h.blk, h.map.perm (hp.map _), by rw [← hp.length_eq]; exact h.few, fun q hq => h.ms q (hp.mem_iff.2 hq)⟩
theorem tops_perm {L L' : QL} (hp : L.Perm L') (h : (tops L).Nodup) : (tops L').Nodup := (hp.map _).nodup_iff.1 h
theorem woT_out {A B : QL} {q : QV} (hd : (tops (A ++ [q] ++ B)).Nodup) : woT q.m.topic (A ++ [q] ++ B) = A ++ B := by
  have h1 : ∀ y ∈ A ++ B, y.m.topic ≠ q.m.topic := fun y hy e => by
    have hp : (A ++ [q] ++ B).Perm (q :: (A ++ B)) := by
      rw [List.append_assoc, List.singleton_append]
      exact List.perm_middle
    have h2 := tops_perm hp hd
    exact (List.nodup_cons.1 h2).1 (show q.m.topic ∈ (A ++ B).map (fun q => q.m.topic) from List.mem_map.2 ⟨y, hy, e⟩)
  unfold woT
  rw [List.filter_append, List.filter_append, List.filter_cons, if_neg (by simp), List.filter_nil, List.append_nil, List.filter_eq_self.2 fun y hy => decide_eq_true (h1 y (List.mem_append_left _ hy)), List.filter_eq_self.2 fun y hy => decide_eq_true (h1 y (List.mem_append_right _ hy))]
theorem woT_permL {s : ByteArray} {L L' : QL} (h : L.Perm L') : (woT s L).Perm (woT s L') := h.filter _
/-- What stands while the map is gone over: those of C are done, Q are at hand, M are to come; Lc are there. -/
structure ExJ (w V : World) (g bm r : Nat) (most now : Int) (L Lc C Q M : QL) : Prop where
  rg : ARange Tryd.prog 9 strKE QV.agg V bm r (Lc.map entQ) (M.map entQ)
  blk : Blk V g 72 #[.int .i64 most, .map (some bm)]
  pm : (C ++ Q ++ M).Perm L
  cur : Lc.Perm (C.filter (kpB now) ++ Q ++ M)
  nd : (tops L).Nodup
  fr : Fr [bm] w V
  ms : ∀ q ∈ L, PIn V 0 q.pa q.m.props ∧ q.m.props.length ≤ 1000 ∧ q.m.topic.size ≤ 1000
  few : L.length ≤ 900
section
variable {w V W : World} {g bm r : Nat} {most now : Int} {L Lc C Q M : QL}
theorem ExJ.below (h : ExJ w V g bm r most now L Lc C Q M) (hb : Below V.heap.size V W) : ExJ w W g bm r most now L Lc C Q M :=
  ⟨h.rg.fr (X := []) (Fr.of_below hb) (by simp) (by simp), h.blk.below hb h.blk.lt, h.pm, h.cur, h.nd, h.fr.trans (Fr.of_below (X := []) hb) (fun b hb => by cases hb), fun q hq => ⟨(h.ms q hq).1.below hb, (h.ms q hq).2⟩, h.few⟩
theorem ExJ.left (h : ExJ w V g bm r most now L Lc C Q M) (hb : Below V.heap.size V W) : W.rangeLeft bm r = V.rangeLeft bm r := h.rg.left_fr (X := []) (Fr.of_below hb) (by simp) (by simp)
theorem ExJ.ndM (h : ExJ w V g bm r most now L Lc C Q M) : (tops (C ++ Q ++ M)).Nodup := tops_perm h.pm.symm h.nd
theorem nodup_right {A B : QL} (h : (tops (A ++ B)).Nodup) : (tops B).Nodup := by
  unfold tops at *
  rw [List.map_append] at h
  exact (List.nodup_append.1 h).2.1
theorem ExJ.next (h : ExJ w V g bm r most now L Lc C [] M) {q : QV} (hq : q ∈ M) (hrg : ARange Tryd.prog 9 strKE QV.agg W bm r (Lc.map entQ) (wo q.m.topic (M.map entQ))) (hg : V.grownBy W (some r)) (hr : w.heap.size ≤ r) : ExJ w W g bm r most now L Lc C [q] (woT q.m.topic M) := by
  have hf : Fr [r] V W := (Fr.refl _ _).grown hg (fun k hk => by injection hk with hk; subst hk; exact .inl (List.mem_singleton_self _))
  have hp : ∀ cs, V.heap[r]? ≠ some (.cells cs 109 (0, 0)) := fun cs hc => h.rg.iter_ne (g := r) (u := 109) (cs := cs) hc rfl
  have hX : ∀ b ∈ [r], 0 ≤ b ∧ ∀ cs, V.heap[b]? ≠ some (.cells cs 109 (0, 0)) := fun b hb => ⟨Nat.zero_le _, by rw [List.mem_singleton.1 hb]; exact hp⟩
  have hM := woT_perm hq (nodup_right h.ndM)
  rw [woT_ent] at hrg
  refine ⟨hrg, h.blk.fr hf (by simpa using h.rg.iter_ne h.blk), ?_, ?_, h.nd, h.fr.trans hf (fun b hb hlt => ?_), fun q' hq' => ⟨(h.ms q' hq').1.fr hf hX, (h.ms q' hq').2⟩, h.few⟩
  · have h2 := h.pm
    rw [List.append_nil] at h2
    rw [List.append_assoc]
    exact (List.Perm.append_left C hM.symm).trans h2
  · have h2 := h.cur
    rw [List.append_nil] at h2
    rw [List.append_assoc]
    exact h2.trans (List.Perm.append_left _ hM)
  · rw [List.mem_singleton.1 hb] at hlt
    omega
theorem ExJ.keep {q : QV} (h : ExJ w V g bm r most now L Lc C [q] M) (hk : kpB now q = true) : ExJ w V g bm r most now L Lc (C ++ [q]) [] M :=
  ⟨h.rg, h.blk, by rw [List.append_nil]; exact h.pm, by rw [List.append_nil, List.filter_append, List.filter_cons, if_pos hk, List.filter_nil]; exact h.cur, h.nd, h.fr, h.ms, h.few⟩
theorem ExJ.drop {q : QV} (h : ExJ w V g bm r most now L Lc C [q] M) (hk : kpB now q = false) :
    ∃ W, (Builtin.delete_ #[70, 9] 0 #[.map (some bm), .string q.m.topic]).run Tryd.prog V = .ok (.tuple #[]) W ∧ ExJ w W g bm r most now L (woT q.m.topic Lc) (C ++ [q]) [] M ∧ W.rangeLeft bm r ≤ V.rangeLeft bm r := by
  have hq := h.ms q (h.pm.mem_iff.1 (by simp))
  have hnd := h.ndM
  have hout : ∀ p ∈ M.map entQ, p.1 ≠ q.m.topic := fun p hp e => by
    obtain ⟨y, hy, rfl⟩ := List.mem_map.1 hp
    rw [List.append_assoc] at hnd
    exact (List.nodup_cons.1 (nodup_right hnd)).1 (show q.m.topic ∈ M.map (fun q => q.m.topic) from List.mem_map.2 ⟨y, hy, e⟩)
  obtain ⟨W, hrun, hrg, hle, hg⟩ := h.rg.drop (x := q.m.topic) KS Tryd.underlying70 strKE_inj 0 (strKE_ok Tryd.underlying9 (by unfold maxLen; omega)) hout
  rw [woT_ent] at hrg
  have hf : Fr [bm] V W := (Fr.refl _ _).grown hg (fun k hk => by injection hk with hk; subst hk; exact .inl (List.mem_singleton_self _))
  have hp : ∀ b ∈ [bm], 0 ≤ b ∧ ∀ cs, V.heap[b]? ≠ some (.cells cs 109 (0, 0)) := fun b hb => ⟨Nat.zero_le _, fun cs hc => by
    rw [List.mem_singleton.1 hb] at hc
    exact h.rg.owns.ne (g := bm) (u := 109) (cs := cs) hc rfl⟩
  have hcn : (tops (C.filter (kpB now) ++ [q] ++ M)).Nodup := by
    have hs : (C.filter (kpB now) ++ [q] ++ M).Sublist (C ++ [q] ++ M) := (List.filter_sublist.append (List.Sublist.refl _)).append (List.Sublist.refl _)
    exact hnd.sublist (hs.map _)
  refine ⟨W, hrun, ⟨hrg, h.blk.fr hf (by simpa using h.rg.owns.ne h.blk), by rw [List.append_nil]; exact h.pm, ?_, h.nd, h.fr.trans hf (fun b hb _ => hb), fun q' hq' => ⟨(h.ms q' hq').1.fr hf hp, (h.ms q' hq').2⟩, h.few⟩, hle⟩
  have h1 := woT_permL (s := q.m.topic) h.cur
  rw [woT_out hcn] at h1
  rw [List.append_nil, List.filter_append, List.filter_cons, if_neg (by simp [hk]), List.filter_nil, List.append_nil]
  exact h1
theorem ExJ.start (h : StI w g bm most L) (hs : ∀ q ∈ L, q.m.topic.size ≤ 1000) (hrg : ARange Tryd.prog 9 strKE QV.agg V bm r (L.map entQ) (L.map entQ)) (hg : w.grownBy V none) : ExJ w V g bm r most now L L [] [] L := by
  have hf : Fr [bm] w V := (Fr.refl _ _).grown hg (fun k hk => by cases hk)
  have hf0 : Fr [] w V := (Fr.refl _ _).grown hg (fun k hk => by cases hk)
  exact ⟨hrg, h.blk.fr hf0 (by simp), List.Perm.refl _, List.Perm.refl _, h.apart, hf, fun q hq => ⟨(h.ms q hq).1.fr hf0 (fun b hb => by cases hb), (h.ms q hq).2, hs q hq⟩, h.few⟩
theorem ExJ.done (h : ExJ w V g bm r most now L Lc C [] []) : Lc.Perm (L.filter (kpB now)) ∧ St2 w g bm most Lc V := by
  have h1 := h.cur
  have h2 := h.pm
  rw [List.append_nil, List.append_nil] at h1 h2
  have h3 := h1.trans (h2.filter (kpB now))
  refine ⟨h3, ⟨h.blk, h.rg.owns, ?_, fun q hq => ?_⟩, h.fr⟩
  · rw [h3.length_eq]
    exact Nat.le_trans (List.length_filter_le _ _) h.few
  · have h4 := h.ms q (List.mem_filter.1 (h3.mem_iff.1 hq)).1
    exact ⟨h4.1, h4.2.1⟩
end
def ExpSays (w : World) (g bm : Nat) (most now : Int) (L : QL) (x : Ending) (w' : World) : Prop :=
  x = .returned (.int .i64 ((L.length : Int) - ((L.filter (kpB now)).length : Nat))) ∧ St2 w g bm most (L.filter (kpB now)) w'
set_option maxHeartbeats 8000000 in
theorem sexp_any {w : World} {g bm : Nat} {most : Int} {L : QL} (h : StI w g bm most L) (hts : ∀ q ∈ L, q.m.topic.size ≤ 1000) (now : Int) :
    Calls Tryd.prog 28 #[.pointer (some ⟨g, 0, none⟩), .int .i64 now] w (ExpSays w g bm most now L) := by
  have HH := Lib.hid h
  have HTS := Lib.hid hts
  have c1 := h.blk.cell 1
  have hl := h.map.len Tryd.underlying70 3
  rw [List.length_map] at hl
  have HFW := Lib.hid h.few
  clear h hts
  go_enter Tryd.func28, Tryd.ntmps28
  go_wp2_with (refine wpa_range rfl _ 70 rfl 9 57 KS Tryd.underlying70 bm rfl HH.out.map ?_; intro w0 hrg0 hg0 hs0)
  have HJ0 := Lib.hid (ExJ.start (now := now) HH.out HTS.out hrg0 hg0)
  clear c1 hrg0 hg0 hs0 hl
  go_frame
  go_loopw [6] (fun _ wr => ∃ (Lc C M : QL), Hid (ExJ w wr g bm w.heap.size most now L Lc C [] M)) (fun _ wr => wr.rangeLeft bm w.heap.size)
  case atStart => exact ⟨L, [], L, HJ0⟩
  case round =>
    obtain ⟨Lc, C, M, HJ⟩ := hrel
    go_wp2_with (refine wpa_next rfl _ rfl 9 KS strKE_inj bm w.heap.size rfl HJ.out.rg ?_ ?_)
    · intro hM
      subst hM
      have HD := Lib.hid HJ.out.done
      have c1 := HJ.out.blk.cell 1
      have hl := HD.out.2.1.map.len Tryd.underlying70 3
      rw [List.length_map, HD.out.1.length_eq] at hl
      have HR := Lib.hid (show ExpSays w g bm most now L (.returned (.int .i64 ((L.length : Int) - ((L.filter (kpB now)).length : Nat)))) wr from ⟨rfl, HD.out.2.1.perm HD.out.1, HD.out.2.2⟩)
      have hf1 : (L.filter (kpB now)).length ≤ L.length := List.length_filter_le _ _
      have hf2 := HFW.out
      generalize (L.filter (kpB now)).length = nk at *
      generalize L.length = nl at *
      clear HJ HD
      go_wp2_with fail
      go_ret
      exact HR.out
    · intro x y w2 q hq hqe hrg2 hlt hgr hsz hen
      obtain ⟨rfl, rfl⟩ : q.m.topic = x ∧ q = y := by
        unfold entQ at hqe
        injection hqe with e1 e2
        exact ⟨e1, e2⟩
      have HJ2 := Lib.hid (HJ.out.next hq hrg2 hgr (Nat.le_refl _))
      have HLT := Lib.hid hlt
      have hen2 : (Instr.entry (.pointer (some ⟨w.heap.size, 0, none⟩))).run Tryd.prog w2 = .ok (.tuple #[.string q.m.topic, .agg q.cells.toArray]) w2 := hen
      have HSQ := Lib.hid (hone19 q)
      have HO := Lib.hid (Own.start [] w2)
      have HMT : Hid (∀ W, Below w2.heap.size w2 W → Calls Tryd.prog 57 #[.agg q.cells.toArray, .int .i64 now] W fun x w' => x = .returned (.bool (exB q.m.til now)) ∧ Below W.heap.size W w') := Lib.hid (fun W _ => expired_any q now W)
      clear hrg2 hlt hgr hsz hen hq hqe
      generalize q.cells.toArray = qc at *
      go_upto_region 7 with (first
        | (refine wpo_alloc tyMs HO.out rfl rfl ?_; clear HO; rintro k7 W2 hO; have HO := Lib.hid hO; clear hO; simp only [Act.put, List.setIfInBounds_toArray, List.set_cons_zero, List.set_cons_succ])
        | (refine wpo_store (k := k7) HO.out 0 tyMs rfl _ _ rfl rfl rfl rfl rfl HSQ.out.1 HSQ.out.2 ?_; clear HO; rintro W3 hO; have HO := Lib.hid hO; clear hO; simp only [Act.put]))
      have HM2 := Lib.hid (HMT.out W3 HO.out.bel)
      clear hen2
      go_wp2_with (refine wpo_load (k := k7) HO.out 0 tyMs rfl HSQ.out.1 _ rfl rfl rfl ?_; simp only [Act.put, List.setIfInBounds_toArray, List.set_cons_zero, List.set_cons_succ])
      refine HM2.out.mono ?_
      rintro e W4 ⟨rfl, hb⟩
      have HB := Lib.hid (HO.out.bel.trans (hb.mono HO.out.bel.size))
      have HJ4 := Lib.hid (HJ2.out.below HB.out)
      have HLE := Lib.hid (HJ2.out.left HB.out)
      clear HO hb HM2 HMT HJ2
      cases hmb : exB q.m.til now with
      | false =>
        have HJ5 := Lib.hid (HJ4.out.keep (show kpB now q = true by unfold kpB; rw [hmb]; rfl))
        clear hmb
        go_wp2_with fail
        go_roundw
        case rel => exact ⟨_, _, _, HJ5⟩
        case measure => rw [HLE.out]; exact HLT.out
      | true =>
        obtain ⟨W5, hrun, hj5, hle⟩ := HJ4.out.drop (show kpB now q = false by unfold kpB; rw [hmb]; rfl)
        have HJ5 := Lib.hid hj5
        have HL5 := Lib.hid hle
        have c1 := HJ4.out.blk.cell 1
        clear hmb hj5 hle
        go_wp2_with fail
        go_roundw
        case rel => exact ⟨_, _, _, HJ5⟩
        case measure => exact Nat.lt_of_le_of_lt HL5.out (by rw [HLE.out]; exact HLT.out)
end Go.Proofs.YtfmkeapbddhndaaDoor
