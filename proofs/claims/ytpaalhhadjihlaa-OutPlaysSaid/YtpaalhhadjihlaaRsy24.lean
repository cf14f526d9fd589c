/- What is proved here: the document sets the state of one. Conditions: those that each theorem names. What is proved here: the document takes one away. Conditions: those that each theorem names. -/
import Derived.Test.YtpaalhhadjihlaaRst24
namespace Go.Proofs.Ytpaalhhadjihlaa
open Go.RowKit Go.Extern.Stop Go.Stop Go.Extern Go.Maps Go.Deep
set_option maxRecDepth 100000
theorem append_g2 {ops : Array Oper} {rest : List Oper} {o : Oper} {a : Act} {Q : Exit → Act → World → Prop} {w : World} {B : Nat} {v : Value} {L : FL} (hgd : o.guard = none) (s y : Operand) (ho : o.op = .call { callee := .builtin .append, args := #[s, y], argTypes := #[56, 56] })
    (x : FV) (hB : B ≤ w.heap.size) (h : GRow w B v L) (hs : a.eval s = v) (hl : L.length ≤ 1000) (ad : Addr) (c : Nat) (hx : a.eval y = .slice (some ad) 1 c) (hq : ∀ i, i < 11 → w.cell? (ad.add i) = x.gcells[i]?)
    (hk : ∀ a' c' w', GRow w' B (.slice a' (L.length + 1) c') (L ++ [x]) → Fr v.ownBlock.toList w w' → wpList Try.prog ops Q rest (a.put o.dst (.slice a' (L.length + 1) c')) w') : wpList Try.prog ops Q (o :: rest) a w := by
  obtain ⟨v', w', hr, hrow, hg⟩ := h.push (ty := o.type) Try.underlying56 hB hl x hq c
  obtain ⟨a', c', rfl⟩ := hrow.form
  have hlen : (L ++ [x]).length = L.length + 1 := by simp
  rw [hlen] at hr
  have hrow2 : GRow w' B (.slice a' (L.length + 1) c') (L ++ [x]) := by rw [← hlen]; exact hrow
  have hf : Fr v.ownBlock.toList w w' := (Fr.refl _ w).grown hg (fun k hk => .inl (own_listK.2 hk))
  exact Lib.wpList_append_run w hgd s y 56 56 ho v _ hs hx _ w' hr (hk a' c' w' hrow2 hf)
theorem grow_fr {w : World} {B' : Nat} {o : Value} {M : FL} (hr : GRow w B' o M) : ∀ b ∈ o.ownBlock.toList, B' ≤ b ∧ ∃ cs, w.heap[b]? = some (.cells cs 71 (0, 0)) :=
  fun b hb => ⟨(GRow.lt hr b (own_listK.1 hb)).1, (GRow.lt hr b (own_listK.1 hb)).2.2⟩
theorem getD_at2 {M : FL} {k : Nat} (h : k < M.length) : M.getD k f0 = M[k] := by rw [List.getD_eq_getElem?_getD, List.getElem?_eq_getElem h]; rfl
def st3 (f : FV) : FV := ⟨f.id, 3, f.q, f.pl⟩
theorem st3_cells (f : FV) : f.gcells.setIfInBounds 1 (.int .i64 3) = (st3 f).gcells := by kernel_rfl
theorem set_getD {D : FL} {k0 k : Nat} (hk : k < D.length) (g : FV) : (D.set k0 g).getD k f0 = if k0 = k then g else D.getD k f0 := by
  rw [List.getD_eq_getElem?_getD, List.getD_eq_getElem?_getD]
  by_cases h : k0 = k
  · subst h
    rw [if_pos rfl, List.getElem?_set_self hk]
    rfl
  · rw [if_neg h, List.getElem?_set_ne h]
theorem take_at1 {T : FL} {k : Nat} (h : k < T.length) : T.take (k + 1) = T.take k ++ [T.getD k f0] := (split_at h).1
set_option maxHeartbeats 4000000 in
theorem rset3_any {w : World} {B x xp last : Nat} {v : Value} {D : FL} {LP : List Int} (h : RfI w B x xp v D last LP) {k0 : Nat} (hk0 : k0 < D.length) :
    Calls Try.prog 32 #[.pointer (some ⟨x, 0, none⟩), .int .i64 k0, .int .i64 3] w fun e w' => e = .returned (.tuple #[]) ∧ ∃ v', RfI w' B x xp v' (D.set k0 (st3 (D.getD k0 f0))) last LP ∧ RN B w w' ∧ ∀ k cs, Blk w k 71 cs → Blk w' k 71 cs := by
  obtain ⟨a0, c0, rfl⟩ := h.form
  have HJ0 := Lib.hid h.toJ
  have HV := Lib.hid (show ∀ k, (Value.slice a0 D.length c0).ownBlock = some k → k < w.heap.size from fun k hk => (GRow.lt h.row k hk).2.1)
  have HL := Lib.hid h.few
  have HQ0 := Lib.hid hk0
  obtain ⟨T, hT⟩ : ∃ T, T = D.set k0 (st3 (D.getD k0 f0)) := ⟨_, rfl⟩
  rw [← hT]
  have HTL := Lib.hid (show T.length = D.length by rw [hT]; simp)
  have HTG := Lib.hid (show ∀ k, k < D.length → T.getD k f0 = if k0 = k then st3 (D.getD k0 f0) else D.getD k f0 from fun k hk => by rw [hT]; exact set_getD hk _)
  have hids : ids T = ids D := by
    rw [hT]
    unfold ids
    rw [List.map_set]
    have e : (st3 (D.getD k0 f0)).id = (D.map FV.id)[k0]'(by simpa using hk0) := by
      rw [List.getElem_map, getD_at2 hk0]
      rfl
    rw [e, List.set_getElem_self]
  have HEND := Lib.hid (show (∀ i, i ∈ LP ↔ i ∈ ids T) ∧ LP.length ≤ T.length ∧ T.length ≤ 1000 ∧ last ≤ 65535 ∧ ∀ f ∈ T, ∃ f' ∈ D, f'.q = f.q from ⟨by rw [hids]; exact h.iff, by rw [HTL.out]; exact h.lp, by rw [HTL.out]; exact h.few, h.last_le, fun f hf => by
    rw [hT] at hf
    rcases List.mem_or_eq_of_mem_set hf with hm | rfl
    · exact ⟨f, hm, rfl⟩
    · exact ⟨D.getD k0 f0, fmem hk0, rfl⟩⟩)
  clear hT hids
  obtain ⟨n, hn⟩ : ∃ n, n = D.length := ⟨_, rfl⟩
  have HN := Lib.hid hn
  rw [← hn] at HJ0 HV
  have hnm : n ≤ 1000 := by have := HL.out; omega
  have hk0n : k0 < n := by omega
  clear h hn hk0
  go_enter Try.func32, Try.ntmps32
  go_wp2_with fail
  go_loopw [6, 7] (fun o i wr => ∃ (k : Nat) (M : FL), k ≤ n ∧ i = .int .i64 k ∧ GRow wr w.heap.size o M ∧ Hid (M = T.take k) ∧ Hid (M.length = k) ∧ Hid (RsJ w wr B x xp (.slice a0 n c0) D last LP)) (fun _ i _ => n - (intOf i).toNat)
  case atStart => exact ⟨0, [], Nat.zero_le _, rfl, World.ownsRow_nil _ _ _ _, Lib.hid rfl, Lib.hid rfl, HJ0⟩
  case round =>
    obtain ⟨k, M, hk, rfl, hrow, HM, HLK, HJ⟩ := hrel
    obtain ⟨a, cc, rfl⟩ := hrow.form
    have HROW := Lib.hid hrow
    have x1 := HJ.out.blk.cell 1
    by_cases hlt : k < n
    · have HKL := Lib.hid (show k < D.length by have := HN.out; omega)
      obtain ⟨gr, rfl, hg, hcc⟩ := HJ.out.row.cell (by have := HKL.out; omega)
      have HO := Lib.hid (Own.start [] wr)
      have HTK := Lib.hid (take_at1 (T := T) (k := k) (by have := HTL.out; have := HKL.out; omega))
      have htg := HTG.out k HKL.out
      obtain ⟨f, hf⟩ : ∃ f, f = D.getD k f0 := ⟨_, rfl⟩
      have HS : Hid (f.gcells.size = f0.gcells.size ∧ f.gcells.toList.all (·.oneCell') = true) := Lib.hid ⟨rfl, by have := gv_one f; rwa [← Array.all_toList] at this⟩
      have HML := Lib.hid (show M.length ≤ 1000 by have := HLK.out; have := HKL.out; have := HL.out; omega)
      have HLD := Lib.hid (show (D.getD k f0).gcells = f.gcells from by rw [hf])
      have HC3 := Lib.hid (st3_cells f)
      obtain ⟨y, hy⟩ : ∃ y, y = T.getD k f0 := ⟨_, rfl⟩
      rw [← hy] at HTK htg
      have HYY := Lib.hid (show (k0 = k → y.gcells = (st3 f).gcells) ∧ (k0 ≠ k → y.gcells = f.gcells) from ⟨fun e => by rw [htg, if_pos e, hf, e], fun e => by rw [htg, if_neg e, hf]⟩)
      have HYS := Lib.hid (show y.gcells.size = 11 from rfl)
      have HF1 := Lib.hid (show (11 : Nat) = f.gcells.size from rfl)
      generalize (st3 f).gcells = fc3 at *
      generalize f.gcells = fc at *
      generalize hyc : y.gcells = yc at *
      have HYC := Lib.hid hyc
      clear hyc hy htg hf hrow hcc hg
      go_upto_region 5 with (first
        | (refine wpl_load HJ.out.row HKL.out _ rfl rfl rfl (by omega) ?_; rw [HLD.out]; simp only [Act.put, List.setIfInBounds_toArray, List.set_cons_zero, List.set_cons_succ])
        | (refine wpo_alloc tyFl HO.out rfl rfl ?_; clear HO; rintro k8 W2 hO; have HO := Lib.hid hO; clear hO; simp only [Act.put, List.setIfInBounds_toArray, List.set_cons_zero, List.set_cons_succ])
        | (refine wpo_store (k := k8) HO.out 0 tyFl rfl _ _ rfl rfl rfl rfl rfl HS.out.1 HS.out.2 ?_; clear HO; rintro W3 hO; have HO := Lib.hid hO; clear hO; simp only [Act.put]))
      clear x1
      by_cases hkk : k0 = k
      · have e5 : ((k : Int) == (k0 : Int)) = true := by rw [hkk]; simp
        have HY3 := Lib.hid (HYY.out.1 hkk)
        clear hkk
        go_upto_region 7 with (refine wpo_cell (k := k8) (v := .int .i64 3) HO.out 0 1 (by kernel_rfl) rfl _ _ rfl rfl rfl rfl (by rw [← HF1.out]; decide) rfl ?_; clear HO; rw [HC3.out]; rintro W4 hO; have HO := Lib.hid hO; clear hO; simp only [Act.put])
        have HW := Lib.hid (show Below W4.heap.size W4 (W4.alloc (.cells yc 71)) from (Below.refl _ _).alloc (Nat.le_refl _) _)
        have HBE := Lib.hid (HO.out.bel.trans (HW.out.mono HO.out.bel.size))
        have HJ5 := Lib.hid (HJ.out.below HBE.out)
        have HR5 := Lib.hid (own_below HROW.out HBE.out)
        have HCL := Lib.hid (show ∀ j u, y.gcells[j]? = some u → fc3[0 + j]? = some u from fun j u hj => by rw [Nat.zero_add, ← HY3.out, ← HYC.out]; exact hj)
        go_wp2_with (first
          | (refine wpo_ldg HO.out 0 rfl y HCL.out _ rfl rfl rfl ?_; rw [HYC.out]; simp only [Act.put, List.setIfInBounds_toArray, List.set_cons_zero, List.set_cons_succ])
          | (refine wpg_slice1 HYS.out rfl _ rfl rfl ?_; simp only [Act.put, List.setIfInBounds_toArray, List.set_cons_zero, List.set_cons_succ])
          | (at_builtin; go_must (refine append_g2 rfl _ _ rfl y (Nat.le_trans HJ.out.big HBE.out.size) HR5.out rfl HML.out ⟨W4.heap.size, 0, none⟩ 1 rfl (fun i hi => by rw [HYC.out]; exact news_g W4 yc i hi) ?_)))
        intro a7 c7 w7 hr7 hf7
        have HJ7 := Lib.hid (HJ5.out.fr hf7 (grow_fr HR5.out) HV.out)
        have HR7 := Lib.hid hr7
        clear hr7 hf7
        go_wp2_with fail
        go_roundw
        case rel => exact ⟨k + 1, M ++ [y], by omega, by go_num, HR7.out, Lib.hid (by rw [HTK.out, HM.out]), Lib.hid (by rw [List.length_append, HLK.out]; rfl), HJ7⟩
        case measure => simp [intOf]; omega
      · have e5 : ((k : Int) == (k0 : Int)) = false := by simp; omega
        have HY3 := Lib.hid (HYY.out.2 hkk)
        clear hkk
        have HW := Lib.hid (show Below W3.heap.size W3 (W3.alloc (.cells yc 71)) from (Below.refl _ _).alloc (Nat.le_refl _) _)
        have HBE := Lib.hid (HO.out.bel.trans (HW.out.mono HO.out.bel.size))
        have HJ5 := Lib.hid (HJ.out.below HBE.out)
        have HR5 := Lib.hid (own_below HROW.out HBE.out)
        have HCL := Lib.hid (show ∀ j u, y.gcells[j]? = some u → fc[0 + j]? = some u from fun j u hj => by rw [Nat.zero_add, ← HY3.out, ← HYC.out]; exact hj)
        go_wp2_with (first
          | (refine wpo_ldg HO.out 0 rfl y HCL.out _ rfl rfl rfl ?_; rw [HYC.out]; simp only [Act.put, List.setIfInBounds_toArray, List.set_cons_zero, List.set_cons_succ])
          | (refine wpg_slice1 HYS.out rfl _ rfl rfl ?_; simp only [Act.put, List.setIfInBounds_toArray, List.set_cons_zero, List.set_cons_succ])
          | (at_builtin; go_must (refine append_g2 rfl _ _ rfl y (Nat.le_trans HJ.out.big HBE.out.size) HR5.out rfl HML.out ⟨W3.heap.size, 0, none⟩ 1 rfl (fun i hi => by rw [HYC.out]; exact news_g W3 yc i hi) ?_)))
        intro a7 c7 w7 hr7 hf7
        have HJ7 := Lib.hid (HJ5.out.fr hf7 (grow_fr HR5.out) HV.out)
        have HR7 := Lib.hid hr7
        clear hr7 hf7
        go_wp2_with fail
        go_roundw
        case rel => exact ⟨k + 1, M ++ [y], by omega, by go_num, HR7.out, Lib.hid (by rw [HTK.out, HM.out]), Lib.hid (by rw [List.length_append, HLK.out]; rfl), HJ7⟩
        case measure => simp [intOf]; omega
    · have HE := Lib.hid (show _ ∧ _ from rj_end HJ.out hrow (by rw [show M = T from by rw [HM.out]; exact List.take_of_length_le (by have := HTL.out; have := HN.out; omega)]; exact HEND.out.1) (by rw [show M = T from by rw [HM.out]; exact List.take_of_length_le (by have := HTL.out; have := HN.out; omega)]; exact HEND.out.2.1) (by rw [show M = T from by rw [HM.out]; exact List.take_of_length_le (by have := HTL.out; have := HN.out; omega)]; exact HEND.out.2.2.1) HEND.out.2.2.2.1 (by rw [show M = T from by rw [HM.out]; exact List.take_of_length_le (by have := HTL.out; have := HN.out; omega)]; exact HEND.out.2.2.2.2))
      have HMT := Lib.hid (show M = T from by rw [HM.out]; exact List.take_of_length_le (by have := HTL.out; have := HN.out; omega))
      have f1 := HJ.out.blk.frozen 1
      have hxl := HJ.out.blk.lt
      clear hrow
      go_wp2_with fail
      go_end0
      exact ⟨rfl, _, by rw [← HMT.out]; exact HE.out.1, HE.out.2⟩
end Go.Proofs.Ytpaalhhadjihlaa
namespace Go.Proofs.Ytpaalhhadjihlaa
open Go.RowKit Go.Extern.Stop Go.Stop Go.Extern Go.Maps Go.Deep
set_option maxRecDepth 100000
theorem st0_cells (f : FV) : ∃ c, f.gcells.setIfInBounds 1 (.int .i64 0) = c ∧ c.size = 11 ∧ c[0]? = some (.int .i64 f.id) := ⟨_, rfl, rfl, rfl⟩
def part0 (k0 k : Nat) (D : FL) : FL := (D.take k).eraseIdx k0
theorem part0_other {D : FL} {k0 k : Nat} (hk : k < D.length) (hne : k0 ≠ k) : part0 k0 (k + 1) D = part0 k0 k D ++ [D.getD k f0] := by
  unfold part0
  rw [(split_at hk).1]
  have hl : (D.take k).length = k := by rw [List.length_take]; omega
  rcases Nat.lt_or_ge k0 k with h | h
  · rw [List.eraseIdx_append_of_lt_length (by omega)]
  · rw [List.eraseIdx_of_length_le (by rw [List.length_append, hl, List.length_singleton]; omega), List.eraseIdx_of_length_le (by omega)]
theorem part0_self {D : FL} {k : Nat} (hk : k < D.length) : part0 k (k + 1) D = part0 k k D := by
  unfold part0
  rw [(split_at hk).1]
  have hl : (D.take k).length = k := by rw [List.length_take]; omega
  rw [List.eraseIdx_append_of_length_le (by omega), hl, Nat.sub_self, List.eraseIdx_of_length_le (l := D.take k) (by omega)]
  simp
theorem part0_all {D : FL} {k0 : Nat} : part0 k0 D.length D = D.eraseIdx k0 := by unfold part0; rw [List.take_length]
theorem erase_wof {D : FL} {k0 : Nat} (hk : k0 < D.length) (hd : (ids D).Nodup) : D.eraseIdx k0 = wof (D.getD k0 f0).id D := by
  have e : D = D.take k0 ++ D.getD k0 f0 :: D.drop (k0 + 1) := by
    rw [← (split_at hk).2, List.take_append_drop]
  have h2 : wof (D.getD k0 f0).id D = D.take k0 ++ D.drop (k0 + 1) := by
    have hd2 := hd
    rw [e] at hd2
    have h3 := wof_mid hd2
    rw [← e] at h3
    exact h3
  rw [h2, List.eraseIdx_eq_take_drop_succ]
/-- The same, with the one that is looked at. -/
structure RsK (w W : World) (B x xp k8 : Nat) (v : Value) (D : FL) (last : Nat) (LP : List Int) (o : Value) (M : FL) (cs : Array Value) : Prop where
  j : RsJ w W B x xp v D last LP
  b8 : Blk W k8 71 cs
  row : GRow W w.heap.size o M
theorem RsK.drew {w W : World} {B x xp k8 last : Nat} {v o : Value} {D M : FL} {LP : List Int} {cs : Array Value} (h : RsK w W B x xp k8 v D last LP o M cs) : RsK w (W.drewN 1) B x xp k8 v D last LP o M cs :=
  have hb : Below W.heap.size W (W.drewN 1) := ⟨rfl, rfl, rfl, Nat.le_refl _, fun _ _ => rfl⟩
  ⟨h.j.below hb, h.b8.below hb h.b8.lt, own_below h.row hb⟩
theorem RsK.free {w W : World} {B x xp k8 last : Nat} {v o : Value} {D M : FL} {LP : List Int} {cs : Array Value} (h : RsK w W B x xp k8 v D last LP o M cs) (hl : LP.length ≤ 65535) (i : Int) :
    Calls Try.prog 36 #[.pointer (some ⟨xp, 0, none⟩), .int .i64 i] W fun e w' => ∃ b : Bool, e = .returned (.bool b) ∧ RsK w w' B x xp k8 v D last (without i LP) o M cs :=
  (refp_free h.j.ref (Nat.le_trans h.j.size h.j.big) hl i).mono fun _ _ ⟨he, hp, hn⟩ => by
    obtain ⟨⟨v1, b1, _⟩, _⟩ := h.j.ref
    exact ⟨_, he, h.j.near hn hp, hn.blk h.b8 (h.b8.other b1 (by decide)) (by decide), near_grow2 hn b1 h.row⟩
set_option maxHeartbeats 4000000 in
theorem rset0_any {w : World} {B x xp last : Nat} {v : Value} {D : FL} {LP : List Int} (h : RfI w B x xp v D last LP) {k0 : Nat} (hk0 : k0 < D.length) (hnd : (ids D).Nodup) :
    Calls Try.prog 32 #[.pointer (some ⟨x, 0, none⟩), .int .i64 k0, .int .i64 0] w fun e w' => e = .returned (.tuple #[]) ∧ ∃ v', RfI w' B x xp v' (wof (D.getD k0 f0).id D) last (without (D.getD k0 f0).id LP) ∧ RN B w w' ∧ ∀ k cs, Blk w k 71 cs → Blk w' k 71 cs := by
  obtain ⟨a0, c0, rfl⟩ := h.form
  have HJ0 := Lib.hid h.toJ
  have HV := Lib.hid (show ∀ k, (Value.slice a0 D.length c0).ownBlock = some k → k < w.heap.size from fun k hk => (GRow.lt h.row k hk).2.1)
  have HL := Lib.hid h.few
  have HLP := Lib.hid (show LP.length ≤ 65535 by have := h.lp; have := h.few; omega)
  obtain ⟨i0, hi0⟩ : ∃ i0, i0 = (D.getD k0 f0).id := ⟨_, rfl⟩
  have hm0 : D.getD k0 f0 ∈ D := fmem hk0
  have hiD : i0 ∈ ids D := by rw [hi0]; exact List.mem_map.2 ⟨_, hm0, rfl⟩
  have hiP : i0 ∈ LP := (h.iff i0).2 hiD
  have HEND := Lib.hid (show (∀ i, i ∈ without i0 LP ↔ i ∈ ids (wof i0 D)) ∧ (without i0 LP).length ≤ (wof i0 D).length ∧ (wof i0 D).length ≤ 1000 ∧ last ≤ 65535 ∧ ∀ f ∈ wof i0 D, ∃ f' ∈ D, f'.q = f.q from ⟨fun i => by
    have h1 := h.iff i
    unfold without
    rw [List.mem_filter, h1]
    constructor
    · rintro ⟨hm, hne⟩
      obtain ⟨f, hf, rfl⟩ := List.mem_map.1 hm
      have : f.id ≠ i0 := by simpa using hne
      exact List.mem_map.2 ⟨f, mem_wof.2 ⟨hf, this⟩, rfl⟩
    · intro hm
      obtain ⟨f, hf, rfl⟩ := List.mem_map.1 hm
      have := mem_wof.1 hf
      exact ⟨List.mem_map.2 ⟨f, this.1, rfl⟩, by simpa using this.2⟩, by
    have h1 := without_lt i0 LP
    rw [decide_eq_true hiP] at h1
    have h2 : (without i0 LP).length < LP.length := of_decide_eq_true h1
    have h3 := wof_len hnd hiD
    have h4 := h.lp
    omega, Nat.le_trans (wof_le _ _) h.few, h.last_le, fun f hf => ⟨f, (mem_wof.1 hf).1, rfl⟩⟩)
  have HPA := Lib.hid (show part0 k0 D.length D = wof i0 D from by rw [part0_all, hi0]; exact erase_wof hk0 hnd)
  rw [← hi0]
  have HI0 := Lib.hid hi0
  obtain ⟨n, hn⟩ : ∃ n, n = D.length := ⟨_, rfl⟩
  have HN := Lib.hid hn
  rw [← hn] at HJ0 HV
  have hnm : n ≤ 1000 := by have := HL.out; omega
  have hk0n : k0 < n := by omega
  clear h hn hk0 hi0 hm0 hiD hiP hnd
  go_enter Try.func32, Try.ntmps32
  go_wp2_with fail
  go_loopw [6, 7] (fun o i wr => ∃ (k : Nat) (M : FL) (LQ : List Int), k ≤ n ∧ i = .int .i64 k ∧ GRow wr w.heap.size o M ∧ Hid (M = part0 k0 k D) ∧ Hid (M.length ≤ k) ∧ Hid (LQ = if k0 < k then without i0 LP else LP) ∧ Hid (RsJ w wr B x xp (.slice a0 n c0) D last LQ)) (fun _ i _ => n - (intOf i).toNat)
  case atStart => exact ⟨0, [], LP, Nat.zero_le _, rfl, World.ownsRow_nil _ _ _ _, Lib.hid (by simp [part0]), Lib.hid (Nat.le_refl _), Lib.hid (by rw [if_neg (by omega)]), HJ0⟩
  case round =>
    obtain ⟨k, M, LQ, hk, rfl, hrow, HM, HLK, HLQ, HJ⟩ := hrel
    obtain ⟨a, cc, rfl⟩ := hrow.form
    have HROW := Lib.hid hrow
    have x1 := HJ.out.blk.cell 1
    by_cases hlt : k < n
    · have HKL := Lib.hid (show k < D.length by have := HN.out; omega)
      obtain ⟨gr, rfl, hg, hcc⟩ := HJ.out.row.cell (by have := HKL.out; omega)
      have HO := Lib.hid (Own.start [] wr)
      obtain ⟨y, hy⟩ : ∃ y, y = D.getD k f0 := ⟨_, rfl⟩
      have HYD := Lib.hid hy
      have HS : Hid (y.gcells.size = f0.gcells.size ∧ y.gcells.toList.all (·.oneCell') = true) := Lib.hid ⟨rfl, by have := gv_one y; rwa [← Array.all_toList] at this⟩
      have HML := Lib.hid (show M.length ≤ 1000 by have := HLK.out; have := HKL.out; have := HL.out; omega)
      have HLD := Lib.hid (show (D.getD k f0).gcells = y.gcells from by rw [hy])
      have HC3 := Lib.hid (st0_cells y)
      have HYS := Lib.hid (show y.gcells.size = 11 from rfl)
      have HF1 := Lib.hid (show (11 : Nat) = y.gcells.size from rfl)
      generalize hyc : y.gcells = yc at *
      have HYC := Lib.hid hyc
      clear hyc hy hrow hcc hg
      go_upto_region 5 with (first
        | (refine wpl_load HJ.out.row HKL.out _ rfl rfl rfl (by omega) ?_; rw [HLD.out]; simp only [Act.put, List.setIfInBounds_toArray, List.set_cons_zero, List.set_cons_succ])
        | (refine wpo_alloc tyFl HO.out rfl rfl ?_; clear HO; rintro k8 W2 hO; have HO := Lib.hid hO; clear hO; simp only [Act.put, List.setIfInBounds_toArray, List.set_cons_zero, List.set_cons_succ])
        | (refine wpo_store (k := k8) HO.out 0 tyFl rfl _ _ rfl rfl rfl rfl rfl HS.out.1 HS.out.2 ?_; clear HO; rintro W3 hO; have HO := Lib.hid hO; clear hO; simp only [Act.put]))
      clear x1
      by_cases hkk : k0 = k
      · subst hkk
        have e5 : ((k0 : Int) == (k0 : Int)) = true := by simp
        obtain ⟨fc3, HE3, hs3, h30⟩ := HC3.out
        have HQ3 := Lib.hid (And.intro HE3 h30)
        clear HE3 hs3 h30
        go_upto_region 7 with (refine wpo_cell (k := k8) (v := .int .i64 0) HO.out 0 1 (by kernel_rfl) rfl _ _ rfl rfl rfl rfl (by rw [← HF1.out]; decide) rfl ?_; clear HO; rw [HQ3.out.1]; rintro W4 hO; have HO := Lib.hid hO; clear hO; simp only [Act.put])
        have HLE := Lib.hid (show LQ = LP from by rw [HLQ.out, if_neg (Nat.lt_irrefl _)])
        have HYI := Lib.hid (show y.id = i0 from by rw [HYD.out, HI0.out])
        have hk4 : RsK w W4 B x xp k8 (.slice (some ⟨gr, 0, none⟩) n c0) D last LP (.slice a M.length cc) M fc3 := ⟨by rw [← HLE.out]; exact HJ.out.below HO.out.bel, HO.out.get 0 rfl, own_below HROW.out HO.out.bel⟩
        have DF := Lib.hid (fun W (hk : RsK w W B x xp k8 (.slice (some ⟨gr, 0, none⟩) n c0) D last LP (.slice a M.length cc) M fc3) => hk.free HLP.out y.id)
        have KT := Lib.hid (fun W (LR : List Int) (hk : RsK w W B x xp k8 (.slice (some ⟨gr, 0, none⟩) n c0) D last LR (.slice a M.length cc) M fc3) => show W.cell? ⟨x, 0, none⟩ = some (.pointer (some ⟨xp, 0, none⟩)) ∧ W.cell? ⟨k8, 0, none⟩ = some (.int .i64 y.id) from ⟨hk.j.blk.cell 0, (hk.b8.cell 0).trans HQ3.out.2⟩)
        have HPS := Lib.hid (part0_self HKL.out)
        clear HO
        go_wp2_with fail
        obtain ⟨t0, t1⟩ := KT.out _ _ hk4
        go_region_held3 (fun W => W.cell? ⟨x, 0, none⟩ = some (.pointer (some ⟨xp, 0, none⟩)) ∧ W.cell? ⟨k8, 0, none⟩ = some (.int .i64 y.id))
          (first | assumption | (exact KT.out _ _ (by assumption)) | (exact KT.out _ _ (RsK.drew (by assumption))))
          (first
            | (go_at_call 36; (with_reducible refine (DF.out _ ?_).mono ?_); (first | assumption | exact RsK.drew (by assumption)); rintro e5 w6 ⟨b6, rfl, hk6⟩))
        have HK6 := Lib.hid hk6
        clear hk6 t0 t1 hk4
        go_wp2_with fail
        go_roundw
        case rel => exact ⟨k0 + 1, M, _, by omega, by go_num, HK6.out.row, Lib.hid (by rw [HPS.out]; exact HM.out), Lib.hid (Nat.le_succ_of_le HLK.out), Lib.hid (by rw [HYI.out, if_pos (Nat.lt_succ_self _)]), Lib.hid HK6.out.j⟩
        case measure => simp [intOf]; omega
      · have e5 : ((k : Int) == (k0 : Int)) = false := by simp; omega
        have HTK := Lib.hid (part0_other HKL.out hkk)
        have HL2 := Lib.hid (show (if k0 < k + 1 then without i0 LP else LP) = if k0 < k then without i0 LP else LP from by
          by_cases hh : k0 < k
          · rw [if_pos hh, if_pos (by omega)]
          · rw [if_neg hh, if_neg (by omega)])
        clear hkk
        have HW := Lib.hid (show Below W3.heap.size W3 (W3.alloc (.cells yc 71)) from (Below.refl _ _).alloc (Nat.le_refl _) _)
        have HBE := Lib.hid (HO.out.bel.trans (HW.out.mono HO.out.bel.size))
        have HJ5 := Lib.hid (HJ.out.below HBE.out)
        have HR5 := Lib.hid (own_below HROW.out HBE.out)
        have HCL := Lib.hid (show ∀ j u, y.gcells[j]? = some u → yc[0 + j]? = some u from fun j u hj => by rw [Nat.zero_add, ← HYC.out]; exact hj)
        go_wp2_with (first
          | (refine wpo_ldg HO.out 0 rfl y HCL.out _ rfl rfl rfl ?_; rw [HYC.out]; simp only [Act.put, List.setIfInBounds_toArray, List.set_cons_zero, List.set_cons_succ])
          | (refine wpg_slice1 HYS.out rfl _ rfl rfl ?_; simp only [Act.put, List.setIfInBounds_toArray, List.set_cons_zero, List.set_cons_succ])
          | (at_builtin; go_must (refine append_g2 rfl _ _ rfl y (Nat.le_trans HJ.out.big HBE.out.size) HR5.out rfl HML.out ⟨W3.heap.size, 0, none⟩ 1 rfl (fun i hi => by rw [HYC.out]; exact news_g W3 yc i hi) ?_)))
        intro a7 c7 w7 hr7 hf7
        have HJ7 := Lib.hid (HJ5.out.fr hf7 (grow_fr HR5.out) HV.out)
        have HR7 := Lib.hid hr7
        clear hr7 hf7
        go_wp2_with fail
        go_roundw
        case rel => exact ⟨k + 1, M ++ [y], LQ, by omega, by go_num, HR7.out, Lib.hid (by rw [HTK.out, HM.out, HYD.out]), Lib.hid (by rw [List.length_append]; exact Nat.succ_le_succ HLK.out), Lib.hid (by rw [HL2.out]; exact HLQ.out), HJ7⟩
        case measure => simp [intOf]; omega
    · have HMT := Lib.hid (show M = wof i0 D from by rw [HM.out, show k = D.length by have := HN.out; omega]; exact HPA.out)
      have hlq : LQ = without i0 LP := by rw [HLQ.out, if_pos (by omega)]
      subst hlq
      have HE := Lib.hid (show _ ∧ _ from rj_end HJ.out hrow (by rw [HMT.out]; exact HEND.out.1) (by rw [HMT.out]; exact HEND.out.2.1) (by rw [HMT.out]; exact HEND.out.2.2.1) HEND.out.2.2.2.1 (by rw [HMT.out]; exact HEND.out.2.2.2.2))
      have f1 := HJ.out.blk.frozen 1
      have hxl := HJ.out.blk.lt
      clear hrow
      go_wp2_with fail
      go_end0
      exact ⟨rfl, _, by rw [← HMT.out]; exact HE.out.1, HE.out.2⟩
end Go.Proofs.Ytpaalhhadjihlaa
