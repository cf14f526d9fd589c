/- What is proved here: what Match answers of retained messages. Conditions: those that each theorem names. -/
import Derived.Test.YtfmkeapbddhndaaDoorMrw19
namespace Go.Proofs.YtfmkeapbddhndaaDoor
open Go.RowKit Go.Extern.Stop Go.Stop Go.Extern Go.Maps Go.Shelf Go.Lib Go.Sort Go.Deep
set_option maxRecDepth 100000
def mtB (f : ByteArray) (q : QV) : Bool := matchB f q.m.topic
/-- What stands while the map is gone over: those of C are done, Q are at hand, M are to come; R are those that were taken. -/
structure MtJ (w V : World) (g bm r : Nat) (most : Int) (f : ByteArray) (L C Q M : QL) (v : Value) (R : QL) : Prop where
  rg : ARange Tryd.prog 9 strKE QV.agg V bm r (L.map entQ) (M.map entQ)
  blk : Blk V g 72 #[.int .i64 most, .map (some bm)]
  pm : (C ++ Q ++ M).Perm L
  nd : (tops M).Nodup
  row : MRow V w.heap.size v R
  eq : R.map QV.m = (C.filter (mtB f)).map QV.m
  pin : ∀ q ∈ R, PIn V 0 q.pa q.m.props
  ms : ∀ q ∈ L, PIn V 0 q.pa q.m.props ∧ q.m.props.length ≤ 1000 ∧ q.m.topic.size ≤ 1000
  bel : Below w.heap.size w V
  few : L.length ≤ 900
theorem woT_perm {q : QV} {M : QL} (hq : q ∈ M) (hd : (tops M).Nodup) : M.Perm (q :: woT q.m.topic M) := by
  induction M with
  | nil => cases hq
  | cons y M ih =>
    obtain ⟨n1, n2⟩ := List.nodup_cons.1 hd
    by_cases hy : y.m.topic = q.m.topic
    · have e : y = q := by
        rcases List.mem_cons.1 hq with e | hm
        · exact e.symm
        · exact absurd (show y.m.topic ∈ M.map (fun q => q.m.topic) from List.mem_map.2 ⟨q, hm, hy.symm⟩) n1
      subst e
      have e2 : woT y.m.topic (y :: M) = M := by
        unfold woT
        rw [List.filter_cons, if_neg (by simp)]
        exact List.filter_eq_self.2 fun z hz => decide_eq_true fun ez => n1 (show y.m.topic ∈ M.map (fun q => q.m.topic) from List.mem_map.2 ⟨z, hz, ez⟩)
      rw [e2]
    · have hm : q ∈ M := (List.mem_cons.1 hq).resolve_left (fun e => hy (by rw [e]))
      have e2 : woT q.m.topic (y :: M) = y :: woT q.m.topic M := by
        unfold woT
        rw [List.filter_cons, if_pos (decide_eq_true hy)]
      rw [e2]
      exact ((ih hm n2).cons y).trans (List.Perm.swap ..)
theorem woT_nodup {s : ByteArray} {M : QL} (hd : (tops M).Nodup) : (tops (woT s M)).Nodup := by
  unfold tops woT at *
  rw [List.Nodup, List.pairwise_map] at *
  exact hd.filter _
section
variable {w V W : World} {g bm r : Nat} {most : Int} {f : ByteArray} {L C Q M R : QL} {v : Value} {S : Nat → Addr}
theorem MtJ.fr {X : List Nat} (h : MtJ w V g bm r most f L C Q M v R) (hf : Fr X V W) (hX : ∀ b ∈ X, w.heap.size ≤ b ∧ b ≠ bm ∧ b ≠ r ∧ b ≠ g ∧ v.ownBlock ≠ some b ∧ ∀ cs, V.heap[b]? ≠ some (.cells cs 109 (0, 0))) : MtJ w W g bm r most f L C Q M v R :=
  ⟨h.rg.fr hf (fun hm => (hX _ hm).2.1 rfl) (fun hm => (hX _ hm).2.2.1 rfl), h.blk.fr hf (fun hm => (hX _ hm).2.2.2.1 rfl), h.pm, h.nd, h.row.fr hf (fun k hk hm => (hX k hm).2.2.2.2.1 hk), h.eq,
    fun q hq => (h.pin q hq).fr hf fun b hb => ⟨Nat.zero_le _, (hX b hb).2.2.2.2.2⟩, fun q hq => ⟨(h.ms q hq).1.fr hf fun b hb => ⟨Nat.zero_le _, (hX b hb).2.2.2.2.2⟩, (h.ms q hq).2⟩, hf.later h.bel (fun b hb => (hX b hb).1) h.bel.size, h.few⟩
theorem MtJ.below (h : MtJ w V g bm r most f L C Q M v R) (hb : Below V.heap.size V W) : MtJ w W g bm r most f L C Q M v R := h.fr (X := []) (Fr.of_below hb) fun b hb => by cases hb
theorem MtJ.left (h : MtJ w V g bm r most f L C Q M v R) {X : List Nat} (hf : Fr X V W) (hX : ∀ b ∈ X, b ≠ bm ∧ b ≠ r) : W.rangeLeft bm r = V.rangeLeft bm r := h.rg.left_fr hf (fun hm => (hX _ hm).1 rfl) (fun hm => (hX _ hm).2 rfl)
theorem MtJ.apart (h : MtJ w V g bm r most f L C Q M v R) : ∀ b ∈ v.ownBlock.toList, w.heap.size ≤ b ∧ b ≠ bm ∧ b ≠ r ∧ ∀ cs, V.heap[b]? ≠ some (.cells cs 109 (0, 0)) := fun b hb => by
  obtain ⟨h1, _, cs, h2⟩ := h.row.lt b (own_listM.1 hb)
  refine ⟨h1, ?_, h.rg.iter_ne h2, fun cs' hc => ?_⟩
  · exact h.rg.owns.ne h2
  · rw [h2] at hc
    injection hc with hc
    injection hc with _ ht
    exact absurd ht (by decide)
/-- One is handed out. -/
theorem MtJ.next (h : MtJ w V g bm r most f L C [] M v R) {q : QV} (hq : q ∈ M) (hrg : ARange Tryd.prog 9 strKE QV.agg W bm r (L.map entQ) (wo q.m.topic (M.map entQ))) (hg : V.grownBy W (some r)) (hr : w.heap.size ≤ r) : MtJ w W g bm r most f L C [q] (woT q.m.topic M) v R := by
  have hf : Fr [r] V W := (Fr.refl _ _).grown hg (fun k hk => by injection hk with hk; subst hk; exact .inl (List.mem_singleton_self _))
  have hp : ∀ cs, V.heap[r]? ≠ some (.cells cs 109 (0, 0)) := fun cs hc => h.rg.iter_ne (g := r) (u := 109) (cs := cs) hc rfl
  have hX : ∀ b ∈ [r], 0 ≤ b ∧ ∀ cs, V.heap[b]? ≠ some (.cells cs 109 (0, 0)) := fun b hb => ⟨Nat.zero_le _, by rw [List.mem_singleton.1 hb]; exact hp⟩
  rw [woT_ent] at hrg
  refine ⟨hrg, h.blk.fr hf (by simpa using h.rg.iter_ne h.blk), ?_, woT_nodup h.nd, h.row.fr hf fun k hk hm => ?_, h.eq, fun q' hq' => (h.pin q' hq').fr hf hX, fun q' hq' => ⟨(h.ms q' hq').1.fr hf hX, (h.ms q' hq').2⟩, hf.later h.bel (fun b hb => by rw [List.mem_singleton.1 hb]; exact hr) h.bel.size, h.few⟩
  · have h1 := woT_perm hq h.nd
    have h2 := h.pm
    rw [List.append_nil] at h2
    rw [List.append_assoc]
    exact (List.Perm.append_left C h1.symm).trans h2
  · rw [List.mem_singleton] at hm
    obtain ⟨_, _, cs, hc⟩ := h.row.lt k hk
    exact h.rg.iter_ne hc hm
/-- It is gone over. -/
theorem MtJ.over {q : QV} {v' : Value} {R' : QL} (h : MtJ w V g bm r most f L C [q] M v R) (hrow : MRow V w.heap.size v' R') (he : R'.map QV.m = ((C ++ [q]).filter (mtB f)).map QV.m) (hpin : ∀ q ∈ R', PIn V 0 q.pa q.m.props) : MtJ w V g bm r most f L (C ++ [q]) [] M v' R' :=
  ⟨h.rg, h.blk, by rw [List.append_nil]; exact h.pm, h.nd, hrow, he, hpin, h.ms, h.bel, h.few⟩
theorem MtJ.start (h : StI w g bm most L) (hs : ∀ q ∈ L, q.m.topic.size ≤ 1000) (hrg : ARange Tryd.prog 9 strKE QV.agg V bm r (L.map entQ) (L.map entQ)) (hg : w.grownBy V none) : MtJ w V g bm r most f L [] [] L (.slice none 0 0) [] := by
  have hf : Fr [] w V := (Fr.refl _ _).grown hg (fun k hk => by cases hk)
  exact ⟨hrg, h.blk.fr hf (by simp), List.Perm.refl _, h.apart, World.ownsRow_nil _ _ _ _, rfl, (fun q hq => by cases hq), fun q hq => ⟨(h.ms q hq).1.fr hf (fun b hb => by cases hb), (h.ms q hq).2, hs q hq⟩, hf.later (Below.refl _ _) (fun b hb => by cases hb) (Nat.le_refl _), h.few⟩
theorem MtJ.len (h : MtJ w V g bm r most f L C Q M v R) : R.length ≤ 900 := by
  have h1 := congrArg List.length h.eq
  rw [List.length_map, List.length_map] at h1
  have h2 := List.length_filter_le (mtB f) C
  have h3 := h.pm.length_eq
  rw [List.length_append, List.length_append] at h3
  have := h.few
  omega
end
/-- It is gone over, and taken. -/
theorem MtJ.overA {w V W : World} {g bm r : Nat} {most : Int} {f : ByteArray} {L C M R : QL} {v v' : Value} {q : QV} {pa : Option Addr} {pc : Nat} (h : MtJ w V g bm r most f L C [q] M v R)
    (hap : ∀ b ∈ v.ownBlock.toList, w.heap.size ≤ b ∧ b ≠ bm ∧ b ≠ r ∧ ∀ cs, V.heap[b]? ≠ some (.cells cs 109 (0, 0))) (hf : Fr v.ownBlock.toList V W) (hrow : MRow W w.heap.size v' (R ++ [⟨q.m, pa, pc⟩])) (hb : Below w.heap.size w W) (hm : mtB f q = true) (hp : ∃ pa' pc', (⟨q.m, pa, pc⟩ : QV) = ⟨q.m, pa', pc'⟩ ∧ PIn V 0 pa' q.m.props) :
    MtJ w W g bm r most f L (C ++ [q]) [] M v' (R ++ [⟨q.m, pa, pc⟩]) := by
  have hX : ∀ b ∈ v.ownBlock.toList, 0 ≤ b ∧ ∀ cs, V.heap[b]? ≠ some (.cells cs 109 (0, 0)) := fun b hb => ⟨Nat.zero_le _, (hap b hb).2.2.2⟩
  refine ⟨h.rg.fr hf (fun hm => (hap _ hm).2.1 rfl) (fun hm => (hap _ hm).2.2.1 rfl), h.blk.fr hf fun hm => ?_, by rw [List.append_nil]; exact h.pm, h.nd, hrow, ?_, fun q' hq' => ?_, fun q' hq' => ⟨(h.ms q' hq').1.fr hf hX, (h.ms q' hq').2⟩, hb, h.few⟩
  · obtain ⟨_, _, cs, hc⟩ := h.row.lt g (own_listM.1 hm)
    exact h.blk.other hc (by decide) rfl
  · rw [List.map_append, h.eq, List.filter_append, List.map_append]
    simp [hm]
  · rcases List.mem_append.1 hq' with hq' | hq'
    · exact (h.pin q' hq').fr hf hX
    · rw [List.mem_singleton] at hq'
      subst hq'
      obtain ⟨pa', pc', e, hp⟩ := hp
      injection e with _ e1 e2
      subst e1
      exact hp.fr hf hX
theorem MtJ.perm {w V : World} {g bm r : Nat} {most : Int} {f : ByteArray} {L C R : QL} {v : Value} (h : MtJ w V g bm r most f L C [] [] v R) : (R.map QV.m).Perm ((L.filter (mtB f)).map QV.m) := by
  have h1 := h.pm
  rw [List.append_nil, List.append_nil] at h1
  rw [h.eq]
  exact (h1.filter _).map _
theorem hone19 (q : QV) : q.cells.toArray.size = zq.size ∧ q.cells.toArray.toList.all (·.oneCell') = true := ⟨rfl, by simp [QV.cells, Value.oneCell']⟩
def MatchSays (w : World) (L : QL) (f : ByteArray) (x : Ending) (w' : World) : Prop :=
  ∃ v R, x = .returned v ∧ MRow w' w.heap.size v R ∧ (R.map QV.m).Perm ((L.filter (mtB f)).map QV.m) ∧ R.Pairwise (fun a b => lessT b.m.topic a.m.topic = false) ∧ (∀ q ∈ R, PIn w' 0 q.pa q.m.props) ∧ Below w.heap.size w w'
set_option maxHeartbeats 8000000 in
theorem match19_any {w : World} {g bm : Nat} {most : Int} {L : QL} {S : Nat → Addr} (h : StI w g bm most L) (hts : ∀ q ∈ L, q.m.topic.size ≤ 1000) (f : ByteArray) (hf : f.size ≤ 1000) (he : EnvT w S) :
    Calls Tryd.prog 34 #[.pointer (some ⟨g, 0, none⟩), .string f] w (MatchSays w L f) := by
  have HH := Lib.hid h
  have HTS := Lib.hid hts
  have HE := Lib.hid he
  have HF := Lib.hid hf
  have c1 := h.blk.cell 1
  clear h hts he hf
  go_enter Tryd.func34, Tryd.ntmps34
  go_wp2_with (refine wpa_range rfl _ 70 rfl 9 57 KS Tryd.underlying70 bm rfl HH.out.map ?_; intro w0 hrg0 hg0 hs0)
  have HJ0 := Lib.hid (MtJ.start (f := f) HH.out HTS.out hrg0 hg0)
  clear c1 hrg0 hg0 hs0
  go_frame
  go_loopw [5] (fun v5 wr => ∃ (C M R : QL), Hid (MtJ w wr g bm w.heap.size most f L C [] M v5 R)) (fun _ wr => wr.rangeLeft bm w.heap.size)
  case atStart => exact ⟨[], L, [], HJ0⟩
  case round =>
    obtain ⟨C, M, R, HJ⟩ := hrel
    go_wp2_with (refine wpa_next rfl _ rfl 9 KS strKE_inj bm w.heap.size rfl HJ.out.rg ?_ ?_)
    · intro hM
      subst hM
      have HJE := HJ
      clear HJ
      obtain ⟨A, c, hvf⟩ := HJE.out.row.form
      rcases HJE.out.row.2 with ⟨hv0, h0⟩ | ⟨gr, cap, cur, hv0, hB, hh, h3⟩
      · have HR0 := Lib.hid (List.eq_nil_of_length_eq_zero h0)
        have HN := Lib.hid (fun w => show Calls Tryd.prog 60 #[.slice none 0 0, .func (.func 61) #[] #[]] w _ from AnyF.slices_SortFunc_none Tryd.sortFl none 0 _ w)
        clear hvf h0
        subst hv0
        go_wp2_with fail
        refine (HN.out _).mono ?_
        rintro e W2 ⟨rfl, rfl⟩
        go_wp2_with fail
        go_ret
        exact ⟨_, R, rfl, HJE.out.row, HJE.out.perm, by rw [HR0.out]; exact List.Pairwise.nil, HJE.out.pin, HJE.out.bel⟩
      · have hrw := HJE.out.row
        rw [hv0] at hrw
        have HS := Lib.hid (sort_m hrw (Nat.le_trans HJE.out.len (by omega)))
        have HB := Lib.hid hB
        have HV0 := Lib.hid hv0
        clear hvf hh h3 hrw hB
        subst hv0
        go_wp2_with fail
        refine HS.out.mono ?_
        rintro e W2 ⟨d, rfl, hd, hpw, hrow, hg⟩
        have HE2 := Lib.hid (show MatchSays w L f (.returned (.slice (some ⟨gr, 0, none⟩) R.length cap)) W2 from ⟨_, d, rfl, hrow, (hd.map QV.m).trans HJE.out.perm, hpw, fun q hq => mrow_pin HJE.out.row ((Fr.refl _ _).grown hg (fun k hk => by injection hk with hk; subst hk; exact .inl (own_listM.2 rfl))) (HJE.out.pin q (hd.mem_iff.1 hq)), HJE.out.bel.grown hg HJE.out.bel.size (fun k e => by injection e with e; subst e; exact HB.out)⟩)
        clear hd hpw hrow hg
        go_wp2_with fail
        go_ret
        exact HE2.out
    · intro x y w2 q hq hqe hrg2 hlt hgr hsz hen
      obtain ⟨rfl, rfl⟩ : q.m.topic = x ∧ q = y := by
        unfold entQ at hqe
        injection hqe with e1 e2
        exact ⟨e1, e2⟩
      have HJ2 := Lib.hid (HJ.out.next hq hrg2 hgr (Nat.le_refl _))
      have HLT := Lib.hid hlt
      have hq3 := HJ2.out.ms q (HJ2.out.pm.mem_iff.1 (by simp))
      have HQ := Lib.hid hq3
      have hen2 : (Instr.entry (.pointer (some ⟨w.heap.size, 0, none⟩))).run Tryd.prog w2 = .ok (.tuple #[.string q.m.topic, .agg q.cells.toArray]) w2 := hen
      have HSQ := Lib.hid (hone19 q)
      have HO := Lib.hid (Own.start [] w2)
      have HMT := Lib.hid (fun W (hb : Below w2.heap.size w2 W) => match_any f q.m.topic (by have := HF.out; omega) (by have := HQ.out.2.2; omega) (HE.out.later (HJ2.out.bel.trans (hb.mono HJ2.out.bel.size))))
      have HCP : Hid (∀ W, Below w2.heap.size w2 W → Calls Tryd.prog 56 #[.agg q.cells.toArray] W fun e W' => ∃ pa pc, e = .returned (.agg (QV.cells ⟨q.m, pa, pc⟩).toArray) ∧ PIn W' 0 pa q.m.props ∧ Below W.heap.size W W') := Lib.hid fun W hb =>
        copy_any q (HQ.out.1.below hb) HQ.out.2.1

      clear hrg2 hlt hgr hsz hen hq hqe hq3
      generalize q.cells.toArray = qc at *
      go_upto_region 7 with (first
        | (refine wpo_alloc tyMs HO.out rfl rfl ?_; clear HO; rintro k7 W2 hO; have HO := Lib.hid hO; clear hO; simp only [Act.put, List.setIfInBounds_toArray, List.set_cons_zero, List.set_cons_succ])
        | (refine wpo_store (k := k7) HO.out 0 tyMs rfl _ _ rfl rfl rfl rfl rfl HSQ.out.1 HSQ.out.2 ?_; clear HO; rintro W3 hO; have HO := Lib.hid hO; clear hO; simp only [Act.put]))
      have HM2 := Lib.hid (HMT.out W3 HO.out.bel)
      clear hen2
      go_wp2_with fail
      refine HM2.out.mono ?_
      rintro e W4 ⟨rfl, hb⟩
      have HB := Lib.hid (HO.out.below hb)
      clear HO hb HM2 HMT
      have HO := HB
      clear HB
      obtain ⟨A, c, hvf⟩ := HJ2.out.row.form
      subst hvf
      cases hmb : matchB f q.m.topic with
      | false =>
        have HJ3 := Lib.hid ((HJ2.out.below HO.out.bel).over (HJ2.out.below HO.out.bel).row (by rw [List.filter_append, List.map_append, HJ2.out.eq]; simp [mtB, hmb]) (HJ2.out.below HO.out.bel).pin)
        have HLE := Lib.hid (HJ2.out.left (Fr.of_below (X := []) HO.out.bel) (fun b hb => by cases hb))
        clear hmb
        go_wp2_with fail
        go_roundw
        case rel => exact ⟨_, _, _, HJ3⟩
        case measure => rw [HLE.out]; exact HLT.out
      | true =>
        have HC2 := Lib.hid (HCP.out W4 HO.out.bel)
        have HMB := Lib.hid hmb
        clear hmb
        go_wp2_with (refine wpo_load (k := k7) HO.out 0 tyMs rfl HSQ.out.1 _ rfl rfl rfl ?_; simp only [Act.put, List.setIfInBounds_toArray, List.set_cons_zero, List.set_cons_succ])
        refine HC2.out.mono ?_
        rintro e W5 ⟨pa, pc, rfl, hp, hb⟩
        have HB5 := Lib.hid (HO.out.bel.trans (hb.mono HO.out.bel.size))
        have HP5 := Lib.hid hp
        have HQ5 := Lib.hid (hone19 ⟨q.m, pa, pc⟩)
        have HQ6 := Lib.hid (show ∀ i, i < 9 → (QV.cells ⟨q.m, pa, pc⟩).toArray[i]? = (QV.cells ⟨q.m, pa, pc⟩)[i]? from fun i _ => List.getElem?_toArray)
        clear hb hp HC2
        generalize (QV.cells ⟨q.m, pa, pc⟩).toArray = vc at *
        have HB6 := Lib.hid (bva HB5.out (.cells vc 57))
        have HJ5 := Lib.hid (HJ2.out.below HB6.out)
        have HNW := Lib.hid (fun i (hi : i < 9) => (news_m W5 vc i hi).trans (HQ6.out i hi))
        have HPP := Lib.hid (HP5.out.alloc (.cells vc 57))
        go_wp2_with (first
          | (refine wpm_slice1 HQ5.out.1 rfl _ rfl rfl ?_; simp only [Act.put, List.setIfInBounds_toArray, List.set_cons_zero, List.set_cons_succ])
          | (refine append_m (w0 := w) rfl _ _ rfl ⟨q.m, pa, pc⟩ HJ5.out.bel HJ5.out.row rfl (by have := HJ5.out.len; omega) ⟨W5.heap.size, 0, none⟩ 1 rfl HNW.out ?_; intro a' c' w' hrow hbel hfr; have HX := Lib.hid (And.intro hrow (And.intro hbel hfr)); clear hrow hbel hfr; simp only [Act.put, List.setIfInBounds_toArray, List.set_cons_zero, List.set_cons_succ]))
        have hap := HJ5.out.apart
        have hF := HX.out.2.2
        have HJ6 := Lib.hid (HJ5.out.overA hap hF HX.out.1 HX.out.2.1 (show mtB f q = true from HMB.out) ⟨pa, pc, rfl, HPP.out⟩)
        have HLE := Lib.hid ((HJ5.out.left hF fun b hb => ⟨(hap b hb).2.1, (hap b hb).2.2.1⟩).trans (HJ2.out.left (Fr.of_below (X := []) HB6.out) (fun b hb => by cases hb)))
        clear hap hF
        go_roundw
        case rel => exact ⟨_, _, _, HJ6⟩
        case measure => rw [HLE.out]; exact HLT.out
end Go.Proofs.YtfmkeapbddhndaaDoor
