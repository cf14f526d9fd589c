/- What is proved here: the document takes the messages of groups away. Conditions: those that each theorem names. What is proved here: the document takes the messages of groups away: the walk. Conditions: those that each theorem names. -/
import Derived.Test.YtpaalhhadjihlaaRay24
namespace Go.Proofs.Ytpaalhhadjihlaa
open Go.RowKit Go.Extern.Stop Go.Stop Go.Extern Go.Maps Go.Deep
set_option maxRecDepth 100000
/-- One stays, to the document. -/
def keepR (f : FV) : Bool := decide (3 ≤ f.st) || decide (f.q.m.grp = ⟨#[]⟩)
def restR (k : Nat) (D : FL) : FL := (D.take k).filter keepR
def goneR (k : Nat) (D : FL) : FL := (D.take k).filter (fun f => !keepR f)
theorem rg_keep {D : FL} {k : Nat} (h : k < D.length) (hk : keepR (D.getD k f0) = true) : restR (k + 1) D = restR k D ++ [D.getD k f0] ∧ goneR (k + 1) D = goneR k D := by
  unfold restR goneR
  rw [(split_at h).1]
  constructor
  · rw [List.filter_append, List.filter_cons_of_pos hk, List.filter_nil]
  · rw [List.filter_append, List.filter_cons_of_neg (by rw [hk]; simp), List.filter_nil, List.append_nil]
theorem rg_gone {D : FL} {k : Nat} (h : k < D.length) (hk : keepR (D.getD k f0) = false) : restR (k + 1) D = restR k D ∧ goneR (k + 1) D = goneR k D ++ [D.getD k f0] := by
  unfold restR goneR
  rw [(split_at h).1]
  constructor
  · rw [List.filter_append, List.filter_cons_of_neg (by rw [hk]; simp), List.filter_nil, List.append_nil]
  · rw [List.filter_append, List.filter_cons_of_pos (by rw [hk]; rfl), List.filter_nil]
/-- The numbers that are still in use behind k rounds. -/
structure LeftP (k : Nat) (D : FL) (LP LQ : List Int) : Prop where
  iff : ∀ i, i ∈ LQ ↔ i ∈ LP ∧ i ∉ ids (goneR k D)
  len : LQ.length + (goneR k D).length ≤ D.length
theorem LeftP.free {k : Nat} {D : FL} {LP LQ : List Int} (h : LeftP k D LP LQ) (hk : k < D.length) (hnd : (ids D).Nodup) (hi : ∀ i, i ∈ LP ↔ i ∈ ids D) (hg : goneR (k + 1) D = goneR k D ++ [D.getD k f0]) : LeftP (k + 1) D LP (without (D.getD k f0).id LQ) := by
  have hm : (D.getD k f0).id ∈ LQ := by
    refine (h.iff _).2 ⟨(hi _).2 (List.mem_map.2 ⟨_, fmem hk, rfl⟩), fun hm => ?_⟩
    obtain ⟨g, hgm, he⟩ := List.mem_map.1 hm
    have h1 := (List.mem_filter.1 hgm).1
    obtain ⟨j, hj, rfl⟩ := List.getElem_of_mem h1
    rw [List.length_take] at hj
    have hp := List.pairwise_iff_getElem.1 hnd j k (by simp [ids]; omega) (by simpa [ids] using hk) (by omega)
    rw [List.getElem_take, getD_at2 hk] at he
    exact hp (by simp [ids, he])
  have hl := without_lt (D.getD k f0).id LQ
  rw [decide_eq_true hm] at hl
  have hl2 := of_decide_eq_true hl
  refine ⟨fun i => ?_, ?_⟩
  · unfold without
    rw [List.mem_filter, h.iff i, hg]
    unfold ids
    rw [List.map_append, List.mem_append, List.map_cons, List.map_nil, List.mem_singleton]
    constructor
    · rintro ⟨⟨h1, h2⟩, h3⟩
      exact ⟨h1, fun hh => hh.elim h2 (fun e => by simp [e] at h3)⟩
    · rintro ⟨h1, h2⟩
      exact ⟨⟨h1, fun hh => h2 (.inl hh)⟩, by simp; exact fun e => h2 (.inr e)⟩
  · rw [hg, List.length_append, List.length_singleton]
    have := h.len
    omega
section
variable {w W W' : World} {B x xp last : Nat} {v : Value} {D : FL} {LP : List Int}
theorem RsJ.fr2 {X : List Nat} (h : RsJ w W B x xp v D last LP) (hf : Fr X W W') (hX : ∀ b ∈ X, w.heap.size ≤ b ∧ ∃ cs t, W.heap[b]? = some (.cells cs t (0, 0)) ∧ t ≠ 60 ∧ t ≠ 90 ∧ t ≠ 3 ∧ t ≠ 93) (hv : ∀ k, v.ownBlock = some k → k < w.heap.size) : RsJ w W' B x xp v D last LP := by
  have tyne : ∀ {b : Nat} {t : TypeId} {cs : Array Value}, b ∈ X → W.heap[b]? = some (.cells cs t (0, 0)) → t ≠ 60 ∧ t ≠ 90 ∧ t ≠ 3 ∧ t ≠ 93 := by
    intro b t cs hb hc
    obtain ⟨_, cs', t', hh, ht⟩ := hX b hb
    rw [hc] at hh
    injection hh with hh
    injection hh with _ hq _
    subst hq
    exact ht
  refine ⟨h.blk.fr hf fun hm => absurd rfl (tyne hm h.blk).1, row_fr h.row hf fun k hk hm => ?_, h.ref.fr hf fun b hb t cur hc => ⟨(tyne hb hc).2.1, (tyne hb hc).2.2.1⟩, h.low, h.size, Nat.le_trans h.big hf.size, fun f hm => ⟨(h.ms f hm).1.fr hf fun b hb => ⟨Nat.le_trans h.size (hX b hb).1, fun cs hc => absurd rfl (tyne hb hc).2.2.2⟩, (h.ms f hm).2⟩, h.rn.newer hf fun b hb => (hX b hb).1, fun k cs hk hb => (h.fl k cs hk hb).fr hf fun hm => by have := (hX k hm).1; omega⟩
  have := (hX k hm).1
  have := hv k hk
  omega
theorem near_qrow {B' : Nat} {o : Value} {M : QL} (h : Near B xp W W') {cs : Array Value} (hb : Blk W xp 90 cs) (hr : QRow W B' o M) : QRow W' B' o M := by
  obtain ⟨X, hf, hX⟩ := h
  refine hr.fr hf fun k hk hm => ?_
  obtain ⟨_, _, cs', hh⟩ := hr.lt k hk
  rcases (hX k hm).2 with rfl | ⟨cur, f, h1⟩
  · exact (hb.other hh (by decide)) rfl
  · rw [hh] at h1
    injection h1 with h1
    injection h1 with _ ht _
    exact absurd ht (by decide)
end
end Go.Proofs.Ytpaalhhadjihlaa
namespace Go.Proofs.Ytpaalhhadjihlaa
open Go.RowKit Go.Extern.Stop Go.Stop Go.Extern Go.Maps Go.Deep
set_option maxRecDepth 100000
/-- What stands while one is freed. -/
structure RgK (w W : World) (B x xp k8 : Nat) (v : Value) (D : FL) (last : Nat) (LP : List Int) (o : Value) (R : FL) (o3 : Value) (M : QL) (cs : Array Value) : Prop where
  j : RsJ w W B x xp v D last LP
  b8 : Blk W k8 71 cs
  row : GRow W w.heap.size o R
  ms : QRow W w.heap.size o3 M
section
variable {w W : World} {B x xp k8 last : Nat} {v o o3 : Value} {D R : FL} {M : QL} {LP : List Int} {cs : Array Value}
theorem RgK.drew (h : RgK w W B x xp k8 v D last LP o R o3 M cs) : RgK w (W.drewN 1) B x xp k8 v D last LP o R o3 M cs :=
  have hb : Below W.heap.size W (W.drewN 1) := ⟨rfl, rfl, rfl, Nat.le_refl _, fun _ _ => rfl⟩
  ⟨h.j.below hb, h.b8.below hb h.b8.lt, own_below h.row hb, h.ms.below hb⟩
theorem RgK.free (h : RgK w W B x xp k8 v D last LP o R o3 M cs) (hl : LP.length ≤ 65535) (i : Int) :
    Calls Try.prog 36 #[.pointer (some ⟨xp, 0, none⟩), .int .i64 i] W fun e w' => ∃ b : Bool, e = .returned (.bool b) ∧ RgK w w' B x xp k8 v D last (without i LP) o R o3 M cs :=
  (refp_free h.j.ref (Nat.le_trans h.j.size h.j.big) hl i).mono fun _ _ ⟨he, hp, hn⟩ => by
    obtain ⟨⟨v1, b1, _⟩, _⟩ := h.j.ref
    exact ⟨_, he, h.j.near hn hp, hn.blk h.b8 (h.b8.other b1 (by decide)) (by decide), near_grow2 hn b1 h.row, near_qrow hn b1 h.ms⟩
end
theorem filter_two2 (p : FV → Bool) : ∀ M : FL, (M.filter p).length + (M.filter (fun f => !p f)).length = M.length
  | [] => rfl
  | f :: M => by
    have := filter_two2 p M
    cases hp : p f <;> simp [hp] <;> omega
def RGroupSays (w : World) (B x xp : Nat) (D : FL) (last : Nat) (e : Ending) (w' : World) : Prop :=
  ∃ a M c v' LP', e = .returned (.slice a M.length c) ∧ QRow w' w.heap.size (.slice a M.length c) M ∧ M = (goneR D.length D).map FV.q ∧ RfI w' B x xp v' (restR D.length D) last LP' ∧ RN B w w' ∧ ∀ q ∈ M, PIn w' B q.pa q.m.props
set_option maxHeartbeats 8000000 in
theorem rgroup_any {w : World} {B x xp last : Nat} {v : Value} {D : FL} {LP : List Int} (h : RfI w B x xp v D last LP) (hnd : (ids D).Nodup) :
    Calls Try.prog 16 #[.pointer (some ⟨x, 0, none⟩)] w (RGroupSays w B x xp D last) := by
  obtain ⟨a0, c0, rfl⟩ := h.form
  have HJ0 := Lib.hid h.toJ
  have HV := Lib.hid (show ∀ k, (Value.slice a0 D.length c0).ownBlock = some k → k < w.heap.size from fun k hk => (GRow.lt h.row k hk).2.1)
  have HL := Lib.hid h.few
  have HD := Lib.hid (And.intro hnd (And.intro h.iff (And.intro h.lp h.last_le)))
  obtain ⟨n, hn⟩ : ∃ n, n = D.length := ⟨_, rfl⟩
  have HN := Lib.hid hn
  rw [← hn] at HJ0 HV
  have hnm : n ≤ 1000 := by have := HL.out; omega
  clear h hn hnd
  go_enter Try.func16, Try.ntmps16
  go_wp2_with fail
  go_loopw [3, 4, 5] (fun o3 o i wr => ∃ (k : Nat) (M : QL) (R : FL) (LQ : List Int), k ≤ n ∧ i = .int .i64 k ∧ QRow wr w.heap.size o3 M ∧ GRow wr w.heap.size o R ∧ Hid (M = (goneR k D).map FV.q) ∧ Hid (R = restR k D) ∧ Hid (M.length ≤ k) ∧ Hid (R.length ≤ k) ∧ Hid (LeftP k D LP LQ) ∧ Hid (RsJ w wr B x xp (.slice a0 n c0) D last LQ)) (fun _ _ i _ => n - (intOf i).toNat)
  case atStart => exact ⟨0, [], [], LP, Nat.zero_le _, rfl, QRow.nil _ _, World.ownsRow_nil _ _ _ _, Lib.hid rfl, Lib.hid rfl, Lib.hid (Nat.le_refl _), Lib.hid (Nat.le_refl _), Lib.hid ⟨fun i => ⟨fun hh => ⟨hh, fun hc => by cases hc⟩, fun hh => hh.1⟩, by have := HD.out.2.2.1; simpa [goneR] using this⟩, HJ0⟩
  case round =>
    obtain ⟨k, M, R, LQ, hk, rfl, hmow, hrow, HME, HRE, HLM, HLR, HLP, HJ⟩ := hrel
    obtain ⟨a3, cc3, rfl⟩ := hmow.form
    obtain ⟨a, cc, rfl⟩ := hrow.form
    have HROW := Lib.hid hrow
    have HMOW := Lib.hid hmow
    have x1 := HJ.out.blk.cell 1
    by_cases hlt : k < n
    · have HKL := Lib.hid (show k < D.length by have := HN.out; omega)
      obtain ⟨gr, rfl, hg, hcc⟩ := HJ.out.row.cell (by have := HKL.out; omega)
      have HO := Lib.hid (Own.start [] wr)
      obtain ⟨f, hf⟩ : ∃ f, f = D.getD k f0 := ⟨_, rfl⟩
      have HF := Lib.hid hf
      have HS : Hid (f.gcells.size = f0.gcells.size ∧ f.gcells.toList.all (·.oneCell') = true) := Lib.hid ⟨rfl, by have := gv_one f; rwa [← Array.all_toList] at this⟩
      have HML := Lib.hid (show M.length ≤ 1000 ∧ R.length ≤ 1000 by have := HLM.out; have := HLR.out; have := HKL.out; have := HL.out; omega)
      have HLD := Lib.hid (show (D.getD k f0).gcells = f.gcells from by rw [hf])
      have HC0 : Hid (f.gcells[0]? = some (.int .i64 f.id) ∧ f.gcells[1]? = some (.int .i64 f.st) ∧ f.gcells[10]? = some (.string f.q.m.grp)) := Lib.hid ⟨rfl, rfl, rfl⟩
      have HQ := Lib.hid (gq_at f)
      have HYS := Lib.hid (show f.gcells.size = 11 from rfl)
      generalize hyc : f.gcells = yc at *
      have HYC := Lib.hid hyc
      clear hyc hf hrow hmow hcc hg
      go_upto_region 7 with (first
        | (refine wpl_load HJ.out.row HKL.out _ rfl rfl rfl (by omega) ?_; rw [HLD.out]; simp only [Act.put, List.setIfInBounds_toArray, List.set_cons_zero, List.set_cons_succ])
        | (refine wpo_alloc tyFl HO.out rfl rfl ?_; clear HO; rintro k6 W2 hO; have HO := Lib.hid hO; clear hO; simp only [Act.put, List.setIfInBounds_toArray, List.set_cons_zero, List.set_cons_succ])
        | (refine wpo_store (k := k6) HO.out 0 tyFl rfl _ _ rfl rfl rfl rfl rfl HS.out.1 HS.out.2 ?_; clear HO; rintro W3 hO; have HO := Lib.hid hO; clear hO; simp only [Act.put]))
      clear x1
      have c1 := ((HO.out.get 0 rfl).cell 1).trans HC0.out.2.1
      have c10 := ((HO.out.get 0 rfl).cell 10).trans HC0.out.2.2
      by_cases h3 : f.st < 3
      · by_cases hgr : f.q.m.grp = ⟨#[]⟩
        · rw [hgr] at c10
          have HKB := Lib.hid (show keepR f = true from by unfold keepR; rw [hgr]; simp)
          have HKE := Lib.hid (rg_keep HKL.out (by rw [← HF.out]; exact HKB.out))
          have HRL := Lib.hid (show restR (k + 1) D = R ++ [f] ∧ goneR (k + 1) D = goneR k D from by rw [HKE.out.1, HRE.out, HF.out]; exact ⟨rfl, HKE.out.2⟩)
          have HW := Lib.hid (show Below W3.heap.size W3 (W3.alloc (.cells yc 71)) from (Below.refl _ _).alloc (Nat.le_refl _) _)
          have HBE := Lib.hid (HO.out.bel.trans (HW.out.mono HO.out.bel.size))
          have HJ5 := Lib.hid (HJ.out.below HBE.out)
          have HR5 := Lib.hid (own_below HROW.out HBE.out)
          have HM5 := Lib.hid (HMOW.out.below HBE.out)
          have HCL := Lib.hid (show ∀ j u, f.gcells[j]? = some u → yc[0 + j]? = some u from fun j u hj => by rw [Nat.zero_add, ← HYC.out]; exact hj)
          go_wp2_with (first
            | (refine wpo_ldg HO.out 0 rfl f HCL.out _ rfl rfl rfl ?_; rw [HYC.out]; simp only [Act.put, List.setIfInBounds_toArray, List.set_cons_zero, List.set_cons_succ])
            | (refine wpg_slice1 HYS.out rfl _ rfl rfl ?_; simp only [Act.put, List.setIfInBounds_toArray, List.set_cons_zero, List.set_cons_succ])
            | (at_builtin; go_must (refine append_g2 rfl _ _ rfl f (Nat.le_trans HJ.out.big HBE.out.size) HR5.out rfl HML.out.2 ⟨W3.heap.size, 0, none⟩ 1 rfl (fun i hi => by rw [HYC.out]; exact news_g W3 yc i hi) ?_)))
          intro a7 c7 w7 hr7 hf7
          have HJ7 := Lib.hid (HJ5.out.fr hf7 (grow_fr HR5.out) HV.out)
          have HM7 := Lib.hid (HM5.out.fr hf7 fun k hk hm => by
            obtain ⟨_, _, cs', hh⟩ := HM5.out.lt k hk
            obtain ⟨_, _, cs2, hh2⟩ := GRow.lt HR5.out k (own_listK.1 hm)
            rw [hh] at hh2
            injection hh2 with hh2
            injection hh2 with _ ht _
            exact absurd ht (by decide))
          have HR7 := Lib.hid hr7
          clear hr7 hf7
          go_wp2_with fail
          go_roundw
          case rel => exact ⟨k + 1, M, R ++ [f], LQ, by omega, by go_num, HM7.out, HR7.out, Lib.hid (by rw [HRL.out.2]; exact HME.out), Lib.hid (by rw [HRL.out.1]), Lib.hid (Nat.le_succ_of_le HLM.out), Lib.hid (by rw [List.length_append]; exact Nat.succ_le_succ HLR.out), Lib.hid ⟨by rw [HRL.out.2]; exact HLP.out.iff, by rw [HRL.out.2]; exact HLP.out.len⟩, HJ7⟩
          case measure => simp [intOf]; omega
        · obtain ⟨hne1, hne2⟩ := text_ne24 hgr
          have HKB := Lib.hid (show keepR f = false from by unfold keepR; simp [hgr]; omega)
          have HKE := Lib.hid (rg_gone HKL.out (by rw [← HF.out]; exact HKB.out))
          have HRL := Lib.hid (show restR (k + 1) D = R ∧ goneR (k + 1) D = goneR k D ++ [f] from by rw [HKE.out.1, HRE.out, HF.out]; exact ⟨rfl, HKE.out.2⟩)
          have HAG := Lib.hid (show f.q.agg = .agg f.q.cells.toArray from rfl)
          have HQ9 := Lib.hid (show f.q.cells.toArray.size = 9 ∧ ∀ i, f.q.cells.toArray[i]? = f.q.cells[i]? from ⟨rfl, fun i => List.getElem?_toArray ..⟩)
          generalize f.q.cells.toArray = qc at *
          have HW := Lib.hid (show Below W3.heap.size W3 (W3.alloc (.cells qc 36)) from (Below.refl _ _).alloc (Nat.le_refl _) _)
          have HBE := Lib.hid (HO.out.bel.trans (HW.out.mono HO.out.bel.size))
          have HJ5 := Lib.hid (HJ.out.below HBE.out)
          have HR5 := Lib.hid (own_below HROW.out HBE.out)
          have HM5 := Lib.hid (HMOW.out.below HBE.out)
          have HB5 := Lib.hid ((HO.out.get 0 rfl).below HW.out (HO.out.get 0 rfl).lt)
          go_upto_region 9 with (first
            | (refine wpo_ldq HO.out 0 rfl f.q HQ.out _ rfl rfl rfl ?_; rw [HAG.out]; simp only [Act.put, List.setIfInBounds_toArray, List.set_cons_zero, List.set_cons_succ])
            | (refine wpq_slice1 HQ9.out.1 rfl _ rfl rfl ?_; simp only [Act.put, List.setIfInBounds_toArray, List.set_cons_zero, List.set_cons_succ])
            | (at_builtin; go_must (refine append_q24 rfl _ _ rfl f.q (Nat.le_trans HJ.out.big HBE.out.size) HM5.out rfl HML.out.1 ⟨W3.heap.size, 0, none⟩ 1 rfl (fun i hi => (news_q24 W3 qc i hi).trans (HQ9.out.2 i)) ?_; intro a7 c7 w7 hr7 hf7)))
          have hXm : ∀ b ∈ (Value.slice a3 M.length cc3).ownBlock.toList, w.heap.size ≤ b ∧ ∃ cs, (W3.alloc (.cells qc 36)).heap[b]? = some (.cells cs 36 (0, 0)) := fun b hb => ⟨(HM5.out.lt b (own_listQ.1 hb)).1, (HM5.out.lt b (own_listQ.1 hb)).2.2⟩
          have hk7 : RgK w w7 B x xp k6 (.slice (some ⟨gr, 0, none⟩) n c0) D last LQ (.slice a R.length cc) R (.slice a7 (M.length + 1) c7) (M ++ [f.q]) yc := by
            refine ⟨HJ5.out.fr2 hf7 (fun b hb => ⟨(hXm b hb).1, ?_⟩) HV.out, HB5.out.fr hf7 fun hm => ?_, row_fr HR5.out hf7 fun k hk hm => ?_, hr7⟩
            · obtain ⟨_, cs, hh⟩ := hXm b hb
              exact ⟨cs, _, hh, by decide, by decide, by decide, by decide⟩
            · obtain ⟨_, cs, hh⟩ := hXm _ hm
              exact (HB5.out.other hh (by decide)) rfl
            · obtain ⟨_, cs, hh⟩ := hXm _ hm
              obtain ⟨_, _, cs2, hh2⟩ := GRow.lt HR5.out k hk
              rw [hh] at hh2
              injection hh2 with hh2
              injection hh2 with _ ht _
              exact absurd ht (by decide)
          have HLQ := Lib.hid (show LQ.length ≤ 65535 by have := HLP.out.len; have := HL.out; omega)
          have DF := Lib.hid (fun W (hk : RgK w W B x xp k6 (.slice (some ⟨gr, 0, none⟩) n c0) D last LQ (.slice a R.length cc) R (.slice a7 (M.length + 1) c7) (M ++ [f.q]) yc) => hk.free HLQ.out f.id)
          have KT := Lib.hid (fun W (LR : List Int) (hk : RgK w W B x xp k6 (.slice (some ⟨gr, 0, none⟩) n c0) D last LR (.slice a R.length cc) R (.slice a7 (M.length + 1) c7) (M ++ [f.q]) yc) => show W.cell? ⟨x, 0, none⟩ = some (.pointer (some ⟨xp, 0, none⟩)) ∧ W.cell? ⟨k6, 0, none⟩ = some (.int .i64 f.id) from ⟨hk.j.blk.cell 0, (hk.b8.cell 0).trans HC0.out.1⟩)
          clear HO c1 c10 hr7 hf7 hXm hne1 hne2 h3 hgr
          obtain ⟨t0, t1⟩ := KT.out _ _ hk7
          go_region_held3 (fun W => W.cell? ⟨x, 0, none⟩ = some (.pointer (some ⟨xp, 0, none⟩)) ∧ W.cell? ⟨k6, 0, none⟩ = some (.int .i64 f.id))
            (first | assumption | (exact KT.out _ _ (by assumption)) | (exact KT.out _ _ (RgK.drew (by assumption))))
            (first
              | (go_at_call 36; (with_reducible refine (DF.out _ ?_).mono ?_); (first | assumption | exact RgK.drew (by assumption)); rintro e5 w8 ⟨b8, rfl, hk8⟩))
          have HK8 := Lib.hid hk8
          have HLP2 := Lib.hid (HLP.out.free HKL.out HD.out.1 HD.out.2.1 HKE.out.2)
          rw [← HF.out] at HLP2
          clear hk8 hk7 t0 t1
          go_wp2_with fail
          go_roundw
          case rel => exact ⟨k + 1, M ++ [f.q], R, _, by omega, by go_num, HK8.out.ms, HK8.out.row, Lib.hid (by rw [HRL.out.2, List.map_append, HME.out]; rfl), Lib.hid (by rw [HRL.out.1]), Lib.hid (by rw [List.length_append]; exact Nat.succ_le_succ HLM.out), Lib.hid (Nat.le_succ_of_le HLR.out), HLP2, Lib.hid HK8.out.j⟩
          case measure => simp [intOf]; omega
      · have HKB := Lib.hid (show keepR f = true from by unfold keepR; simp; omega)
        clear c10
        have HKE := Lib.hid (rg_keep HKL.out (by rw [← HF.out]; exact HKB.out))
        have HRL := Lib.hid (show restR (k + 1) D = R ++ [f] ∧ goneR (k + 1) D = goneR k D from by rw [HKE.out.1, HRE.out, HF.out]; exact ⟨rfl, HKE.out.2⟩)
        have HW := Lib.hid (show Below W3.heap.size W3 (W3.alloc (.cells yc 71)) from (Below.refl _ _).alloc (Nat.le_refl _) _)
        have HBE := Lib.hid (HO.out.bel.trans (HW.out.mono HO.out.bel.size))
        have HJ5 := Lib.hid (HJ.out.below HBE.out)
        have HR5 := Lib.hid (own_below HROW.out HBE.out)
        have HM5 := Lib.hid (HMOW.out.below HBE.out)
        have HCL := Lib.hid (show ∀ j u, f.gcells[j]? = some u → yc[0 + j]? = some u from fun j u hj => by rw [Nat.zero_add, ← HYC.out]; exact hj)
        go_wp2_with (first
          | (refine wpo_ldg HO.out 0 rfl f HCL.out _ rfl rfl rfl ?_; rw [HYC.out]; simp only [Act.put, List.setIfInBounds_toArray, List.set_cons_zero, List.set_cons_succ])
          | (refine wpg_slice1 HYS.out rfl _ rfl rfl ?_; simp only [Act.put, List.setIfInBounds_toArray, List.set_cons_zero, List.set_cons_succ])
          | (at_builtin; go_must (refine append_g2 rfl _ _ rfl f (Nat.le_trans HJ.out.big HBE.out.size) HR5.out rfl HML.out.2 ⟨W3.heap.size, 0, none⟩ 1 rfl (fun i hi => by rw [HYC.out]; exact news_g W3 yc i hi) ?_)))
        intro a7 c7 w7 hr7 hf7
        have HJ7 := Lib.hid (HJ5.out.fr hf7 (grow_fr HR5.out) HV.out)
        have HM7 := Lib.hid (HM5.out.fr hf7 fun k hk hm => by
          obtain ⟨_, _, cs', hh⟩ := HM5.out.lt k hk
          obtain ⟨_, _, cs2, hh2⟩ := GRow.lt HR5.out k (own_listK.1 hm)
          rw [hh] at hh2
          injection hh2 with hh2
          injection hh2 with _ ht _
          exact absurd ht (by decide))
        have HR7 := Lib.hid hr7
        clear hr7 hf7
        go_wp2_with fail
        go_roundw
        case rel => exact ⟨k + 1, M, R ++ [f], LQ, by omega, by go_num, HM7.out, HR7.out, Lib.hid (by rw [HRL.out.2]; exact HME.out), Lib.hid (by rw [HRL.out.1]), Lib.hid (Nat.le_succ_of_le HLM.out), Lib.hid (by rw [List.length_append]; exact Nat.succ_le_succ HLR.out), Lib.hid ⟨by rw [HRL.out.2]; exact HLP.out.iff, by rw [HRL.out.2]; exact HLP.out.len⟩, HJ7⟩
        case measure => simp [intOf]; omega
    · have hkn : k = D.length := by have := HN.out; omega
      have HRT := Lib.hid (show R = restR D.length D from by rw [HRE.out, hkn])
      have HMT := Lib.hid (show M = (goneR D.length D).map FV.q from by rw [HME.out, hkn])
      have hlp := HLP.out
      rw [hkn] at hlp
      have hgone : ∀ i, i ∈ ids (restR D.length D) ↔ i ∈ ids D ∧ i ∉ ids (goneR D.length D) := by
        intro i
        unfold restR goneR ids
        rw [List.take_length]
        constructor
        · intro hm
          obtain ⟨g, hg, rfl⟩ := List.mem_map.1 hm
          obtain ⟨h1, h2⟩ := List.mem_filter.1 hg
          refine ⟨List.mem_map.2 ⟨g, h1, rfl⟩, fun hc => ?_⟩
          obtain ⟨g2, hg2, he⟩ := List.mem_map.1 hc
          obtain ⟨h3, h4⟩ := List.mem_filter.1 hg2
          have : g2 = g := by
            obtain ⟨j, hj, rfl⟩ := List.getElem_of_mem h1
            obtain ⟨j2, hj2, rfl⟩ := List.getElem_of_mem h3
            by_cases e : j2 = j
            · subst e; rfl
            · exfalso
              have hp := List.pairwise_iff_getElem.1 HD.out.1
              rcases Nat.lt_or_gt_of_ne e with h | h
              · exact hp j2 j (by simpa [ids] using hj2) (by simpa [ids] using hj) h (by simp [ids, he])
              · exact hp j j2 (by simpa [ids] using hj) (by simpa [ids] using hj2) h (by simp [ids, he])
          rw [this, h2] at h4
          cases h4
        · rintro ⟨hm, hc⟩
          obtain ⟨g, hg, rfl⟩ := List.mem_map.1 hm
          refine List.mem_map.2 ⟨g, List.mem_filter.2 ⟨hg, ?_⟩, rfl⟩
          cases hk : keepR g with
          | true => rfl
          | false => exact absurd (List.mem_map.2 ⟨g, List.mem_filter.2 ⟨hg, by rw [hk]; rfl⟩, rfl⟩) hc
      have hcount : (restR D.length D).length + (goneR D.length D).length = D.length := by
        unfold restR goneR
        rw [List.take_length]
        exact filter_two2 keepR D
      have HE := Lib.hid (show _ ∧ _ from rj_end HJ.out HROW.out (by rw [HRT.out]; exact fun i => (hlp.iff i).trans ((and_congr_left fun _ => HD.out.2.1 i).trans (hgone i).symm)) (by rw [HRT.out]; have := hlp.len; omega) (by rw [HRT.out]; have := HL.out; omega) HD.out.2.2.2 (by rw [HRT.out]; exact fun f hf => ⟨f, List.mem_of_mem_take (List.mem_filter.1 hf).1, rfl⟩))
      have HSET := Lib.hid (show Fr [x] wr (wr.setCell ⟨x, 1, none⟩ (.slice a R.length cc)) from Fr.setCell (X := [x]) (Fr.refl _ _) (.inl (by simp)) _)
      have HMM := Lib.hid (HMOW.out.fr HSET.out fun k hk hm => by
        rw [List.mem_singleton] at hm
        subst hm
        obtain ⟨_, _, cs', hh⟩ := HMOW.out.lt k hk
        exact (HJ.out.blk.other hh (by decide)) rfl)
      have HPM := Lib.hid (show ∀ q ∈ M, PIn (wr.setCell ⟨x, 1, none⟩ (.slice a R.length cc)) B q.pa q.m.props from fun q hq => by
        rw [HMT.out] at hq
        obtain ⟨g, hg, rfl⟩ := List.mem_map.1 hq
        have hgm := List.mem_of_mem_take (List.mem_filter.1 hg).1
        refine (HJ.out.ms g hgm).1.fr HSET.out fun b hb => ?_
        rw [List.mem_singleton] at hb
        subst hb
        exact ⟨HJ.out.low, fun cs hc => (HJ.out.blk.other hc (by decide)) rfl⟩)
      have f1 := HJ.out.blk.frozen 1
      have hxl := HJ.out.blk.lt
      clear hrow hmow hlp hgone hcount hkn
      go_wp2_with fail
      go_ret
      exact ⟨_, M, _, _, _, rfl, HMM.out, HMT.out, by rw [← HRT.out]; exact HE.out.1, HE.out.2.1, HPM.out⟩
end Go.Proofs.Ytpaalhhadjihlaa
