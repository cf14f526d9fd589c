/- What is proved here: entries that end at a node are laid into a list: rows of entries, and what else stays. Conditions: those that each theorem names. What is proved here: all entries at a node and behind it are laid into a list. Conditions: the trie stands; few entries. What is proved here: all entries of a trie, sorted; and how many nodes it has. Conditions: the trie stands; few entries. What is proved here: which places a topic's levels visit, and what is laid into a list there. Conditions: those that each theorem names. -/
import Derived.Test.YtebaojbagogniaaDoorSrt18
import Derived.Test.YtebaojbagogniaaDoorSme18
import Derived.Test.YtebaojbagogniaaDoorRegT
import Derived.Test.YtebaojbagogniaaDoorAMapIn
namespace Go.Proofs.YtebaojbagogniaaDoor
open Go.RowKit Go.Extern.Stop Go.Stop Go.Extern Go.Maps Go.Deep
set_option maxRecDepth 100000
/-- A list that a call makes, since world w0. -/
structure LsI (w0 V : World) (l : Nat) (v : Value) (R : List EV) : Prop where
  blk : Blk V l 51 #[v]
  row : ERow18 V w0.heap.size v R
  low : w0.heap.size ≤ l
  bel : Below w0.heap.size w0 V
/-- Nothing has changed but the list's block, and blocks of entries. -/
def Kp (l : Nat) (V W : World) : Prop := ∃ X, Fr X V W ∧ ∀ b ∈ X, b < V.heap.size → b = l ∨ ∃ cs, V.heap[b]? = some (.cells cs 46 (0, 0))
section
variable {w0 V W W2 : World} {l : Nat} {v v' : Value} {R : List EV} {e : EV}
theorem Kp.of_below (hb : Below V.heap.size V W) : Kp l V W := ⟨[], Fr.of_below hb, fun b hm => by cases hm⟩
theorem Kp.trans (h : Kp l V W) (h2 : Kp l W W2) : Kp l V W2 := by
  obtain ⟨X, hX, kX⟩ := h
  obtain ⟨Y, hY, kY⟩ := h2
  refine ⟨X ++ Y, (hX.mono fun b hb _ => List.mem_append_left Y hb).trans hY fun b hb _ => List.mem_append_right X hb, fun b hb hlt => ?_⟩
  rcases Classical.em (b ∈ X) with hx | hx
  · exact kX b hx hlt
  · have hy := (List.mem_append.1 hb).resolve_left hx
    rcases kY b hy (Nat.lt_of_lt_of_le hlt hX.size) with h1 | ⟨cs, hc⟩
    · exact .inl h1
    · exact .inr ⟨cs, (hX.block b hlt hx).symm.trans hc⟩
theorem Kp.then {r : Nat} (h : Kp l V W) (hf : Fr [r] W W2) (hr : V.heap.size ≤ r) : Kp l V W2 := by
  obtain ⟨X, hX, kX⟩ := h
  refine ⟨X ++ [r], (hX.mono fun b hb _ => List.mem_append_left _ hb).trans hf fun b hb _ => List.mem_append_right _ hb, fun b hb hlt => ?_⟩
  rcases List.mem_append.1 hb with hb | hb
  · exact kX b hb hlt
  · rw [List.mem_singleton] at hb
    omega
theorem Kp.size (h : Kp l V W) : V.heap.size ≤ W.heap.size := by
  obtain ⟨X, hX, _⟩ := h
  exact hX.size
theorem Kp.kmap {κ α : Type} {P : Program} {k : TypeId} {E : KE κ} {en : α → Value} {b : Nat} {L : List (κ × α)} {u : TypeId} {cs : Array Value} (h : Kp l V W) (hl : Blk V l u cs) (hm : AMap P k E en V b L) : AMap P k E en W b L := by
  obtain ⟨X, hX, kX⟩ := h
  refine hm.fr hX fun hb => ?_
  rcases kX b hb hm.lt with e | ⟨c2, hc⟩
  · exact hm.ne hl e.symm
  · exact hm.ne (g := b) hc rfl
theorem Kp.krange {κ α : Type} {P : Program} {k : TypeId} {E : KE κ} {en : α → Value} {b r : Nat} {L M : List (κ × α)} {u : TypeId} {cs : Array Value} (h : Kp l V W) (hl : Blk V l u cs) (hm : ARange P k E en V b r L M) : ARange P k E en W b r L M ∧ W.rangeLeft b r = V.rangeLeft b r := by
  obtain ⟨X, hX, kX⟩ := h
  have h1 : b ∉ X := fun hb => by
    rcases kX b hb hm.owns.lt with e | ⟨c2, hc⟩
    · exact hm.owns.ne hl e.symm
    · exact hm.owns.ne (g := b) hc rfl
  have h2 : r ∉ X := fun hb => by
    rcases kX r hb hm.lt with e | ⟨c2, hc⟩
    · exact hm.iter_ne hl e.symm
    · exact hm.iter_ne (g := r) hc rfl
  exact ⟨hm.fr hX h1 h2, hm.left_fr hX h1 h2⟩
theorem LsI.below (h : LsI w0 V l v R) (hb : Below V.heap.size V W) : LsI w0 W l v R :=
  ⟨h.blk.below hb h.blk.lt, h.row.below hb, h.low, h.bel.trans (hb.mono h.bel.size)⟩
/-- A block that is none of the list's changes. -/
theorem LsI.other (h : LsI w0 V l v R) {r : Nat} (hf : Fr [r] V W) (hr : w0.heap.size ≤ r) (hn : ∀ u cs, V.heap[r]? ≠ some (.cells cs u (0, 0))) : LsI w0 W l v R :=
  ⟨h.blk.fr hf (fun hm => by rw [List.mem_singleton] at hm; exact hn _ _ (hm ▸ h.blk)), h.row.fr hf (fun k hk hm => by
    obtain ⟨_, _, cs, hc⟩ := h.row.lt k hk
    rw [List.mem_singleton] at hm
    exact hn _ _ (hm ▸ hc)), h.low, hf.later h.bel (fun b hb => by rw [List.mem_singleton] at hb; omega) h.bel.size⟩
theorem LsI.push (h : LsI w0 V l v R) (hr : ERow18 W w0.heap.size v' (R ++ [e])) (hg : V.grownBy W v.ownBlock) : LsI w0 (W.setCell ⟨l, 0, none⟩ v') l v' (R ++ [e]) ∧ Kp l V (W.setCell ⟨l, 0, none⟩ v') ∧ Blk W l 51 #[v] := by
  have hf : Fr v.ownBlock.toList V W := (Fr.refl _ V).grown hg (fun k hk => .inl (own_listE.2 hk))
  have hn : l ∉ v.ownBlock.toList := fun hm => by
    obtain ⟨_, _, cs, hc⟩ := h.row.lt l (own_listE.1 hm)
    exact h.blk.other hc (by decide) rfl
  have hb := h.blk.fr hf hn
  have hf2 : Fr [l] W (W.setCell ⟨l, 0, none⟩ v') := fr_setCell W l 0 v'
  refine ⟨⟨?_, hr.fr hf2 fun k hk hm => ?_, h.low, ?_⟩, ⟨v.ownBlock.toList ++ [l], (hf.mono fun b hb _ => List.mem_append_left _ hb).trans hf2 fun b hb _ => List.mem_append_right _ hb, fun b hb _ => ?_⟩, hb⟩
  · have := hb.store 0 v'
    simpa using this
  · obtain ⟨_, _, cs, hc⟩ := hr.lt k hk
    rw [List.mem_singleton.1 hm] at hc
    exact hb.other hc (by decide) rfl
  · exact hf2.later (hf.later h.bel (fun k hm => (h.row.lt k (own_listE.1 hm)).1) h.bel.size) (fun b hb => by rw [List.mem_singleton] at hb; rw [hb]; exact h.low) (Nat.le_trans h.bel.size hf.size)
  · rcases List.mem_append.1 hb with hb | hb
    · exact .inr (h.row.lt b (own_listE.1 hb)).2.2
    · exact .inl (List.mem_singleton.1 hb)
end
section
variable {ops : Array Oper} {o : Oper} {a : Act} {w : World} {K : Act → World → Prop} {Q : Exit → Act → World → Prop} {E : Prop}
theorem step_slice_e {pc : Array Value} (hs : pc.size = 2) (hgd : o.guard = none) (x : Operand) (ho : o.op = .buildSlice 28 1 #[(0, x)]) (hx : a.eval x = .agg pc)
    (h : K (a.put o.dst (.slice (some ⟨w.heap.size, 0, none⟩) 1 1)) (w.alloc (.cells pc 46))) : if Region.wanted o (yielded ops a.tmps) = true then Oper.wp Tryd.prog o a w K Q else E := by
  have hw : Region.wanted o (yielded ops a.tmps) = true := by simp [Region.wanted, hgd]
  rw [if_pos hw]
  obtain ⟨i0, hi0, hz0, hz1, hz2⟩ := info_parts Tryd.entInfo18
  refine wp_buildSlice _ _ 1 _ ho pc i0 _ Tryd.underlying28 hi0 hz0 (by rw [hz1]; decide) (by rw [hz1]; decide) ?_ h
  have e : ((#[(0, x)] : Array (Nat × Operand)).map fun (i, x) => (i, a.eval x)).toList = (([Value.agg pc] : List Value).zipIdx 0).map fun x => (x.2, x.1) := by
    simp [hx]
  rw [e, hz1, Great.fill_whole (s := 2) (by decide) [.agg pc] _ (fun v hv => by rw [List.mem_singleton] at hv; subst hv; exact hs) (by simp)]
  simp [Value.cells]
theorem step_append_e {B : Nat} (hgd : o.guard = none) (s x : Operand) (ho : o.op = .call { callee := .builtin .append, args := #[s, x], argTypes := #[28, 28] })
    (v : Value) (L : List EV) (f : EV) (hs : a.eval s = v) (h : ERow18 w B v L) (hB : B ≤ w.heap.size) (hl : L.length ≤ 1000) (ad : Addr) (c : Nat) (hx : a.eval x = .slice (some ad) 1 c) (hq : ∀ i, i < 2 → w.cell? (ad.add i) = (ecell f)[i]?)
    (hk : ∀ a' c' w', ERow18 w' B (.slice a' (L.length + 1) c') (L ++ [f]) → w.grownBy w' v.ownBlock → K (a.put o.dst (.slice a' (L.length + 1) c')) w') :
    if Region.wanted o (yielded ops a.tmps) = true then Oper.wp Tryd.prog o a w K Q else E := by
  have hw : Region.wanted o (yielded ops a.tmps) = true := by simp [Region.wanted, hgd]
  rw [if_pos hw]
  obtain ⟨v', w', hr, hrow, hg⟩ := h.push (ty := o.type) Tryd.underlying28 hB hl f hq c
  obtain ⟨a', c', rfl⟩ := hrow.form
  have hlen : (L ++ [f]).length = L.length + 1 := by simp
  rw [hlen] at hr
  have hrow2 : ERow18 w' B (.slice a' (L.length + 1) c') (L ++ [f]) := by rw [← hlen]; exact hrow
  exact Lib.wp_append_run w s x 28 28 ho v _ hs hx _ w' hr (hk a' c' w' hrow2 hg)
end
def TakeSays (w0 V : World) (l : Nat) (R E : List EV) (x : Ending) (W : World) : Prop := x = .returned (.tuple #[]) ∧ ∃ v' R', R'.Perm E ∧ LsI w0 W l v' (R ++ R') ∧ Kp l V W
theorem woK_ent (s : ByteArray) (L : List EV) : wo s (L.map entK) = (woW s L).map entK := by
  unfold wo woW
  rw [List.filter_map]
  rfl
theorem woW_perm {E : List EV} {e : EV} (he : e ∈ E) (hw : E.Pairwise (fun a b => a.1 ≠ b.1)) : E.Perm (e :: woW e.1 E) := by
  have hn : E.Nodup := hw.imp fun hne h => hne (by rw [h])
  refine nodup_perm hn (List.nodup_cons.2 ⟨fun hm => by simpa using (List.mem_filter.1 hm).2, hn.sublist List.filter_sublist⟩) fun x => ?_
  rw [List.mem_cons]
  unfold woW
  rw [List.mem_filter, decide_eq_true_iff]
  constructor
  · intro hx
    rcases Classical.em (x.1 = e.1) with h | h
    · exact .inl (pw_one (f := fun (x : EV) => x.1) hw hx he h)
    · exact .inr ⟨hx, h⟩
  · rintro (rfl | ⟨hx, _⟩)
    · exact he
    · exact hx
/-- What stands while ends are gone over. -/
structure TkJ (w0 V V' : World) (l : Nat) (R E C M : List EV) (b r : Nat) (v : Value) : Prop where
  rg : ARange Tryd.prog 9 strKE entV V' b r (E.map entK) (M.map entK)
  pm : (C ++ M).Perm E
  nd : M.Pairwise (fun a b => a.1 ≠ b.1)
  ls : LsI w0 V' l v (R ++ C)
  kp : Kp l V V'
set_option maxHeartbeats 8000000 in
theorem take_any {w0 V : World} {g r l : Nat} {T : NL} {n : NV} {v : Value} {R : List EV} (h : TrI w0 g T r) (hn : n ∈ T) (hL : LsI w0 V l v R) (hf : R.length + n.ends.length ≤ 900) :
    Calls Tryd.prog 26 #[.pointer (some ⟨l, 0, none⟩), .pointer (some ⟨n.blk, 0, none⟩)] V (TakeSays w0 V l R n.ends) := by
  have hV := h.fr (X := []) (Fr.of_below hL.bel) (fun b hb => by cases hb)
  have c1 := (hV.th.nb n hn).cell 1
  have HM := Lib.hid (hV.th.en n hn)
  have HL := Lib.hid hL
  have HF := Lib.hid hf
  have HW := Lib.hid (h.tc.wh n hn)
  clear hV h hL hf
  go_enter Tryd.func26, Tryd.ntmps26
  go_wp2_with (refine wpa_range rfl _ 59 rfl 9 46 KS18 Tryd.underlying59 n.en rfl HM.out ?_; intro w1 hrg0 hg0 hs0)
  have HJ0 : Hid (TkJ w0 V w1 l R n.ends [] n.ends n.en V.heap.size v) := Lib.hid (by
    have hb : Below V.heap.size V w1 := (Below.refl _ _).grown hg0 (Nat.le_refl _) (fun k hk => by cases hk)
    exact ⟨hrg0, List.Perm.refl _, HW.out, by rw [List.append_nil]; exact HL.out.below hb, Kp.of_below hb⟩)
  have HSZ := Lib.hid (show w0.heap.size ≤ V.heap.size from HL.out.bel.size)
  clear c1 hrg0 hg0 hs0
  go_frame
  go_loopw [] (fun wr => ∃ (C M : List EV) (v' : Value), Hid (TkJ w0 V wr l R n.ends C M n.en V.heap.size v')) (fun wr => wr.rangeLeft n.en V.heap.size)
  case atStart => exact ⟨[], n.ends, v, HJ0⟩
  case round =>
    obtain ⟨C, M, v', HJ⟩ := hrel
    clear HJ0
    go_wp2_with (refine wpa_next rfl _ rfl 9 KS18 strKE_inj n.en V.heap.size rfl HJ.out.rg ?_ ?_)
    · intro hM
      have HE := Lib.hid (show TakeSays w0 V l R n.ends (.returned (.tuple #[])) wr from ⟨rfl, v', C, by
        have h1 := HJ.out.pm
        rw [hM, List.append_nil] at h1
        exact h1, HJ.out.ls, HJ.out.kp⟩)
      clear HJ
      go_wp2_with fail
      exact bodyPost_end (by simp [results, Tryd.f26, go_sem]) rfl HE.out
    · intro x y1 y2 w2 e1 e2 heM hee hrg2 hlt hgr hsz hen
      unfold entK at hee
      injection hee with ex ey
      injection ey with ey1 ey2
      subst ex ey1 ey2
      have hfr : Fr [V.heap.size] wr w2 := one_fr hgr
      have hnc : ∀ u cs, wr.heap[V.heap.size]? ≠ some (.cells cs u (0, 0)) := fun u cs hc => HJ.out.rg.iter_ne (g := V.heap.size) (u := u) (cs := cs) hc rfl
      have hLS := HJ.out.ls.other hfr HSZ.out hnc
      have hKP := HJ.out.kp.then hfr (Nat.le_refl _)
      have hb3 : Below w2.heap.size w2 (w2.alloc (.cells #[.string e1, .string e2] 46)).drew := ((Below.refl _ w2).alloc (Nat.le_refl _) _).drew
      have HLS := Lib.hid (hLS.below hb3)
      have HOW := Lib.hid (fun k hk => (hLS.row.lt k hk).2.1)
      have HKP := Lib.hid (hKP.trans (Kp.of_below (l := l) hb3))
      have HRG := Lib.hid (show ARange Tryd.prog 9 strKE entV (w2.alloc (.cells #[.string e1, .string e2] 46)).drew n.en V.heap.size (n.ends.map entK) ((woW e1 M).map entK) ∧ (w2.alloc (.cells #[.string e1, .string e2] 46)).drew.rangeLeft n.en V.heap.size < wr.rangeLeft n.en V.heap.size from by
        have e0 : wo e1 (M.map entK) = (woW e1 M).map entK := woK_ent e1 M
        have hrg3 := hrg2
        rw [e0] at hrg3
        obtain ⟨h1, h2⟩ := (Kp.of_below (l := l) hb3).krange hLS.blk hrg3
        exact ⟨h1, by rw [h2]; exact hlt⟩)
      have HBX := Lib.hid ((Blk.made w2 46 #[.string e1, .string e2]).drew)
      have HPM := Lib.hid (show (C ++ [(e1, e2)] ++ woW e1 M).Perm n.ends from by
        rw [List.append_assoc]
        exact (List.Perm.append_left C (woW_perm heM HJ.out.nd).symm).trans HJ.out.pm)
      have HND := Lib.hid (show (woW e1 M).Pairwise (fun a b => a.1 ≠ b.1) from HJ.out.nd.filter _)
      have HLE := Lib.hid (show (R ++ C).length ≤ 900 from by
        have h1 := HJ.out.pm.length_eq
        have h2 := HF.out
        rw [List.length_append] at h1 ⊢
        omega)
      have hen2 : (Instr.entry (.pointer (some ⟨V.heap.size, 0, none⟩))).run Tryd.prog w2 = .ok (.tuple #[.string e1, .agg #[.string e1, .string e2]]) w2 := hen
      clear hrg2 hlt hgr hsz heM hfr hnc hLS hKP hb3 HJ hen
      go_upto_region 3 with fail
      clear hen2
      generalize w2.heap.size = k5 at *
      generalize w2.alloc (.cells #[.string e1, .string e2] 46) = Wa at *
      obtain ⟨A, c, rfl⟩ := HLS.out.row.form
      obtain ⟨nl, hnl⟩ : ∃ nl, nl = (R ++ C).length := ⟨_, rfl⟩
      have HNL := Lib.hid hnl
      have hs0 : Wa.drew.cell? ⟨l, 0, none⟩ = some (.slice A nl c) ∧ Wa.drew.cell? ⟨k5, 0, none⟩ = some (.string e1) ∧ Wa.drew.cell? ⟨k5, 1, none⟩ = some (.string e2) := ⟨by rw [hnl]; exact HLS.out.blk.cell 0, HBX.out.cell 0, HBX.out.cell 1⟩
      clear hnl
      · refine wp_region_T (fun W => W.cell? ⟨l, 0, none⟩ = some (.slice A nl c) ∧ W.cell? ⟨k5, 0, none⟩ = some (.string e1) ∧ W.cell? ⟨k5, 1, none⟩ = some (.string e2)) 10 (by kernel_rfl) ?_ (fun hHeld => ?_)
        · exact hs0
        refine wpAnyT_take (i := 0) (oi := _) (v := ?_) rfl (by kernel_rfl) (by kernel_rfl) (by kernel_rfl) (by kernel_rfl) (fun _ _ _ h => h) (Or.inl ⟨by rfl, ?_⟩) (by assumption) ?_
        rotate_left
        · (intro w hSw; (try dsimp only at hSw); go_simp; (try with_reducible rfl))
        (try simp only [Act.put])
        (try simp only [List.setIfInBounds_toArray])
        (try simp only [List.set_cons_succ])
        (try simp only [List.set_cons_zero])
        (try simp only [List.getElem_toArray])
        (try simp only [List.getElem_cons_succ])
        (try simp only [List.getElem_cons_zero])
        refine wpAnyT_take (i := 1) (oi := _) (v := ?_) rfl (by kernel_rfl) (by kernel_rfl) (by kernel_rfl) (by kernel_rfl) (fun _ _ _ h => h) (Or.inl ⟨by rfl, ?_⟩) (by assumption) ?_
        rotate_left
        · (intro w hSw; (try dsimp only at hSw); go_simp; (try with_reducible rfl))
        (try simp only [Act.put])
        (try simp only [List.setIfInBounds_toArray])
        (try simp only [List.set_cons_succ])
        (try simp only [List.set_cons_zero])
        (try simp only [List.getElem_toArray])
        (try simp only [List.getElem_cons_succ])
        (try simp only [List.getElem_cons_zero])
        refine wpAnyT_take (i := 2) (oi := _) (v := ?_) rfl (by kernel_rfl) (by kernel_rfl) (by kernel_rfl) (by kernel_rfl) (fun _ _ _ h => h) (Or.inl ⟨by rfl, ?_⟩) (by assumption) ?_
        rotate_left
        · (intro w hSw; (try dsimp only at hSw); go_simp; (try with_reducible rfl))
        (try simp only [Act.put])
        (try simp only [List.setIfInBounds_toArray])
        (try simp only [List.set_cons_succ])
        (try simp only [List.set_cons_zero])
        (try simp only [List.getElem_toArray])
        (try simp only [List.getElem_cons_succ])
        (try simp only [List.getElem_cons_zero])
        refine wpAnyT_take (i := 3) (oi := _) (v := ?_) rfl (by kernel_rfl) (by kernel_rfl) (by kernel_rfl) (by kernel_rfl) (fun _ _ _ h => h) (Or.inl ⟨by rfl, ?_⟩) (by assumption) ?_
        rotate_left
        · (intro w hSw; (try dsimp only at hSw); go_simp; (try with_reducible rfl))
        (try simp only [Act.put])
        (try simp only [List.setIfInBounds_toArray])
        (try simp only [List.set_cons_succ])
        (try simp only [List.set_cons_zero])
        (try simp only [List.getElem_toArray])
        (try simp only [List.getElem_cons_succ])
        (try simp only [List.getElem_cons_zero])
        refine wpAnyT_take (i := 4) (oi := _) (v := ?_) rfl (by kernel_rfl) (by kernel_rfl) (by kernel_rfl) (by kernel_rfl) (fun _ _ _ h => h) (Or.inl ⟨by rfl, ?_⟩) (by assumption) ?_
        rotate_left
        · (intro w hSw; (try dsimp only at hSw); go_simp; (try with_reducible rfl))
        (try simp only [Act.put])
        (try simp only [List.setIfInBounds_toArray])
        (try simp only [List.set_cons_succ])
        (try simp only [List.set_cons_zero])
        (try simp only [List.getElem_toArray])
        (try simp only [List.getElem_cons_succ])
        (try simp only [List.getElem_cons_zero])
        refine wpAnyT_take (i := 5) (oi := _) (v := ?_) rfl (by kernel_rfl) (by kernel_rfl) (by kernel_rfl) (by kernel_rfl) (fun _ _ _ h => h) (Or.inl ⟨by rfl, ?_⟩) (by assumption) ?_
        rotate_left
        · (intro w hSw; (try dsimp only at hSw); go_simp; (try with_reducible rfl))
        (try simp only [Act.put])
        (try simp only [List.setIfInBounds_toArray])
        (try simp only [List.set_cons_succ])
        (try simp only [List.set_cons_zero])
        (try simp only [List.getElem_toArray])
        (try simp only [List.getElem_cons_succ])
        (try simp only [List.getElem_cons_zero])
        refine wpAnyT_one (i := 6) (o := _) (by kernel_rfl) rfl (fun K hK => ?_)
        refine step_slice_e (pc := #[.string e1, .string e2]) rfl (by rfl) _ (by rfl) (by rfl) ?_
        have hb6 : Below Wa.drew.heap.size Wa.drew (Wa.drew.alloc (.cells #[.string e1, .string e2] 46)) := (Below.refl _ _).alloc (Nat.le_refl _) _
        have hL6 := HLS.out.below hb6
        have hB6 := HBX.out.below hb6 HBX.out.lt
        have hs6 := And.intro (show (Wa.drew.alloc (.cells #[.string e1, .string e2] 46)).cell? ⟨l, 0, none⟩ = some (.slice A nl c) by rw [HNL.out]; exact hL6.blk.cell 0) (And.intro (hB6.cell 0) (hB6.cell 1))
        refine hK.out _ _ (fun _ => ?_) (fun hH6 => ?_)
        · exact hs6
        have hHeld6 := hH6 (by decide)
        clear hK K hH6
        (try simp only [Act.put])
        (try simp only [List.setIfInBounds_toArray])
        (try simp only [List.set_cons_succ])
        (try simp only [List.set_cons_zero])
        (try simp only [List.getElem_toArray])
        (try simp only [List.getElem_cons_succ])
        (try simp only [List.getElem_cons_zero])
        refine wpAnyT_one (i := 7) (o := _) (by kernel_rfl) rfl (fun K hK => ?_)
        refine step_append_e (by rfl) _ _ (by rfl) (.slice A (R ++ C).length c) (R ++ C) (e1, e2) (by rw [← HNL.out]; rfl) hL6.row hL6.bel.size (by have := HLE.out; omega) ⟨Wa.drew.heap.size, 0, none⟩ 1 (by rfl) (fun i hi => (news_e18 _ _ i hi).trans (show (#[Value.string e1, Value.string e2] : Array Value)[i]? = (ecell (e1, e2))[i]? from List.getElem?_toArray)) ?_
        intro a7 c7 w7 hrow7 hg7
        have hx := hL6.push hrow7 hg7
        have hf7 : Fr (Value.slice A (R ++ C).length c).ownBlock.toList _ w7 := (Fr.refl _ _).grown hg7 (fun k hk => .inl (own_listE.2 hk))
        have hB7 := hB6.fr hf7 (fun hm => Nat.lt_irrefl _ (HOW.out _ (own_listE.1 hm)))
        have hs7 := And.intro (show w7.cell? ⟨l, 0, none⟩ = some (.slice A nl c) by rw [HNL.out]; exact hx.2.2.cell 0) (And.intro (hB7.cell 0) (hB7.cell 1))
        have y1 := hx.2.2.frozen 0
        have y0 : w7.cell? ⟨l, 0, none⟩ = some (.slice A (R ++ C).length c) := hx.2.2.cell 0
        refine hK.out _ _ (fun _ => ?_) (fun hH7 => ?_)
        · exact hs7
        have hHeld7 := hH7 (by decide)
        clear hK K hH7
        (try simp only [Act.put])
        (try simp only [List.setIfInBounds_toArray])
        (try simp only [List.set_cons_succ])
        (try simp only [List.set_cons_zero])
        (try simp only [List.getElem_toArray])
        (try simp only [List.getElem_cons_succ])
        (try simp only [List.getElem_cons_zero])
        refine wpAnyT_one (i := 8) (o := _) (by kernel_rfl) rfl (fun K hK => ?_)
        go_simp
        refine hK.out _ _ (fun _ => ?_) (fun hH8 => ?_)
        · exact hs7
        have hHeld8 := hH8 (by decide)
        clear hK K hH8
        (try simp only [Act.put])
        (try simp only [List.setIfInBounds_toArray])
        (try simp only [List.set_cons_succ])
        (try simp only [List.set_cons_zero])
        (try simp only [List.getElem_toArray])
        (try simp only [List.getElem_cons_succ])
        (try simp only [List.getElem_cons_zero])
        refine wpAnyT_one (i := 9) (o := _) (by kernel_rfl) rfl (fun K hK => ?_)
        go_simp
        refine hK.out _ _ (fun _ => ?_) (fun hH9 => ?_)
        · exact hs7
        have hHeld9 := hH9 (by decide)
        clear hK K hH9
        (try simp only [Act.put])
        (try simp only [List.setIfInBounds_toArray])
        (try simp only [List.set_cons_succ])
        (try simp only [List.set_cons_zero])
        (try simp only [List.getElem_toArray])
        (try simp only [List.getElem_cons_succ])
        (try simp only [List.getElem_cons_zero])
        refine wpAnyT_one (i := 10) (o := _) (by kernel_rfl) rfl (fun K hK => ?_)
        go_simp
        refine hK.out _ _ (fun h => absurd rfl h) (fun _ => ?_)
        clear hK K
        (try simp only [Act.put])
        (try simp only [List.setIfInBounds_toArray])
        (try simp only [List.set_cons_succ])
        (try simp only [List.set_cons_zero])
        (try simp only [List.getElem_toArray])
        (try simp only [List.getElem_cons_succ])
        (try simp only [List.getElem_cons_zero])
        refine wpAnyT_done (by kernel_rfl) ?_ _
        clear hs7 y0 y1 hs6 hs0
        have HJ7 := Lib.hid (show TkJ w0 V (w7.setCell ⟨l, 0, none⟩ (.slice a7 ((R ++ C).length + 1) c7)) l R n.ends (C ++ [(e1, e2)]) (woW e1 M) n.en V.heap.size (.slice a7 ((R ++ C).length + 1) c7) from ⟨(Kp.krange ((Kp.of_below (l := l) hb6).trans hx.2.1) HLS.out.blk HRG.out.1).1, HPM.out, HND.out, by rw [← List.append_assoc]; exact hx.1, HKP.out.trans ((Kp.of_below (l := l) hb6).trans hx.2.1)⟩)
        have HLT := Lib.hid (Kp.krange ((Kp.of_below (l := l) hb6).trans hx.2.1) HLS.out.blk HRG.out.1).2
        rw [List.length_append] at HJ7 HLT
        clear hx hf7 hB7 hB6 hL6 hb6 hrow7 hg7
        go_wp2_with fail
        go_roundw
        case rel => exact ⟨_, _, _, HJ7⟩
        case measure => rw [HLT.out]; exact HRG.out.2
end Go.Proofs.YtebaojbagogniaaDoor
namespace Go.Proofs.YtebaojbagogniaaDoor
open Go.RowKit Go.Extern.Stop Go.Stop Go.Extern Go.Maps Go.Deep
set_option maxRecDepth 100000
/-- The list's take, as a value. -/
def tkV (l : Nat) : Value := .func (.func 26) #[.pointer (some ⟨l, 0, none⟩)] #[]
structure EaJ (w0 V V' : World) (l : Nat) (T : NL) (p : List BL) (R E0 : List EV) (C M : List (BL × Nat)) (b r : Nat) (v : Value) (RC : List EV) : Prop where
  rg : ARange Tryd.prog 9 blKE ptrV V' b r (kids T p) M
  pm : (C ++ M).Perm (kids T p)
  nd : M.Pairwise (fun a b => a.1 ≠ b.1)
  ls : LsI w0 V' l v (R ++ (E0 ++ RC))
  pr : RC.Perm (C.flatMap fun k => subE T (k.1 :: p))
  kp : Kp l V V'
theorem woB_perm {E : List (BL × Nat)} {e : BL × Nat} (he : e ∈ E) (hw : E.Pairwise (fun a b => a.1 ≠ b.1)) : E.Perm (e :: wo e.1 E) := by
  obtain ⟨e1, e2⟩ := e
  exact perm_pick he hw
section
variable {w0 V V' W W2 : World} {g r l b it : Nat} {T : NL} {p : List BL} {n m : NV} {v : Value} {R E0 RC : List EV} {C M : List (BL × Nat)}
theorem sub_le (h : TC T) (hn : n ∈ T) (hp : n.rp = p) (hE : E0.Perm n.ends) (hpm : (C ++ M).Perm (kids T p)) (hpr : RC.Perm (C.flatMap fun k => subE T (k.1 :: p))) :
    (E0 ++ RC).length + (M.flatMap fun k => subE T (k.1 :: p)).length = (subE T p).length := by
  have h1 := (subE_split h hn hp).length_eq
  have h2 := (hpm.flatMap_right (fun k => subE T (k.1 :: p))).length_eq
  rw [List.flatMap_append, List.length_append] at h2
  rw [h1, List.length_append, List.length_append, hE.length_eq, hpr.length_eq]
  omega
theorem EaJ.fin (h : EaJ w0 V V' l T p R E0 C [] b it v RC) (ht : TC T) (hn : n ∈ T) (hp : n.rp = p) (hE : E0.Perm n.ends) : TakeSays w0 V l R (subE T p) (.returned (.tuple #[])) V' := by
  refine ⟨rfl, v, E0 ++ RC, ?_, h.ls, h.kp⟩
  refine ((hE.append h.pr).trans ?_).trans (subE_split ht hn hp).symm
  have h1 := h.pm
  rw [List.append_nil] at h1
  exact List.Perm.append_left _ (h1.flatMap_right _)
set_option maxHeartbeats 8000000 in
theorem each_more (h : TrI w0 g T r) (hn : n ∈ T) (hp : n.rp = p) (hL : LsI w0 V l v R) (hf : R.length + (subE T p).length ≤ 900)
    (ih : ∀ (m : NV) (V : World) (v : Value) (R : List EV), m ∈ T → (∃ x, m.rp = x :: p) → LsI w0 V l v R → R.length + (subE T m.rp).length ≤ 900 → Calls Tryd.prog 25 #[.pointer (some ⟨m.blk, 0, none⟩), tkV l] V (TakeSays w0 V l R (subE T m.rp))) :
    Calls Tryd.prog 25 #[.pointer (some ⟨n.blk, 0, none⟩), tkV l] V (TakeSays w0 V l R (subE T p)) := by
  have hle : n.ends.length ≤ (subE T p).length := by
    rw [(subE_split h.tc hn hp).length_eq, List.length_append]
    omega
  have HT := Lib.hid (take_any h hn hL (by omega))
  have HH := Lib.hid h
  have HN := Lib.hid (And.intro hn hp)
  have HI := Lib.hid ih
  have HF := Lib.hid hf
  have HSZ := Lib.hid hL.bel.size
  clear h hL hf ih hle
  unfold tkV at HI ⊢
  go_enter Tryd.func25, Tryd.ntmps25
  go_wp2_with fail
  refine HT.out.mono ?_
  rintro x W1 ⟨rfl, v1, E0, hE0, hL1, hK1⟩
  have hW1 := HH.out.fr (X := []) (Fr.of_below hL1.bel) (fun b hb => by cases hb)
  have c0 := (hW1.th.nb n HN.out.1).cell 0
  have HM := Lib.hid (hW1.th.nx n HN.out.1)
  have HE0 := Lib.hid hE0
  have HL1 := Lib.hid hL1
  have HK1 := Lib.hid hK1
  have HSZ := Lib.hid hL1.bel.size
  clear HT hE0 hL1 hK1 hW1
  go_wp2_with (refine wpa_range rfl _ 58 rfl 9 31 KS18 Tryd.underlying58 n.nx rfl HM.out ?_; intro w1 hrg0 hg0 hs0)
  have HJ0 : Hid (EaJ w0 V w1 l T p R E0 [] (kids T p) n.nx W1.heap.size v1 []) := Lib.hid (by
    have hb : Below W1.heap.size W1 w1 := (Below.refl _ _).grown hg0 (Nat.le_refl _) (fun k hk => by cases hk)
    rw [HN.out.2] at hrg0
    exact ⟨hrg0, List.Perm.refl _, HH.out.tc.kids_apart p, by rw [List.append_nil]; exact HL1.out.below hb, List.Perm.refl _, HK1.out.trans (Kp.of_below hb)⟩)
  have HVS := Lib.hid HK1.out.size
  obtain ⟨it, hit⟩ : ∃ it, it = W1.heap.size := ⟨_, rfl⟩
  have HIT := Lib.hid (show w0.heap.size ≤ it ∧ V.heap.size ≤ it from by rw [hit]; exact ⟨HSZ.out, HVS.out⟩)
  rw [← hit] at HJ0 ⊢
  clear c0 hrg0 hg0 hs0 hit HK1 HL1 HSZ HVS
  go_frame
  go_loopw [] (fun wr => ∃ (C M : List (BL × Nat)) (v' : Value) (RC : List EV), Hid (EaJ w0 V wr l T p R E0 C M n.nx it v' RC)) (fun wr => wr.rangeLeft n.nx it)
  case atStart => exact ⟨[], kids T p, v1, [], HJ0⟩
  case round =>
    obtain ⟨C, M, v', RC, HJ⟩ := hrel
    clear HJ0
    go_wp2_with (refine wpa_next rfl _ rfl 9 KS18 blKE_inj n.nx it rfl HJ.out.rg ?_ ?_)
    · intro hM
      subst hM
      have HE := Lib.hid (HJ.out.fin HH.out.tc HN.out.1 HN.out.2 HE0.out)
      clear HJ
      go_wp2_with fail
      exact bodyPost_end (v := .tuple #[]) (by simp [results, Tryd.f25, go_sem]) rfl HE.out
    · intro x y w2 hxy hrg2 hlt hgr hsz hen
      obtain ⟨m, hm, hmr, hmb⟩ := mem_kids.1 (HJ.out.pm.mem_iff.1 (List.mem_append_right _ hxy))
      simp only at hmr hmb
      subst hmb
      have hfr : Fr [it] wr w2 := one_fr hgr
      have hnc : ∀ u cs, wr.heap[it]? ≠ some (.cells cs u (0, 0)) := fun u cs hc => HJ.out.rg.iter_ne (g := it) (u := u) (cs := cs) hc rfl
      have hLS := HJ.out.ls.other hfr HIT.out.1 hnc
      have HKP := Lib.hid (HJ.out.kp.then hfr HIT.out.2)
      have HLS := Lib.hid hLS
      have HRG := Lib.hid (And.intro hrg2 hlt)
      have hen2 : (Instr.entry (.pointer (some ⟨it, 0, none⟩))).run Tryd.prog w2 = .ok (.tuple #[.string (bs x), .pointer (some ⟨m.blk, 0, none⟩)]) w2 := hen
      have HPM := Lib.hid (show (C ++ [(x, m.blk)] ++ wo x M).Perm (kids T p) from by
        rw [List.append_assoc]
        exact (List.Perm.append_left C (woB_perm hxy HJ.out.nd).symm).trans HJ.out.pm)
      have HND := Lib.hid (show (wo x M).Pairwise (fun a b => a.1 ≠ b.1) from HJ.out.nd.filter _)
      have HPR := Lib.hid HJ.out.pr
      have HCL := Lib.hid (HI.out m w2 v' (R ++ (E0 ++ RC)) hm ⟨x, hmr⟩ hLS (by
        have h1 := sub_le HH.out.tc HN.out.1 HN.out.2 HE0.out HJ.out.pm HJ.out.pr
        have h2 := ((woB_perm hxy HJ.out.nd).flatMap_right (fun k => subE T (k.1 :: p))).length_eq
        have h3 := HF.out
        rw [List.flatMap_cons, List.length_append] at h2
        rw [hmr, List.length_append]
        simp only at h2
        omega))
      have HMR := Lib.hid hmr
      clear hrg2 hlt hgr hsz hxy hfr hnc hLS HJ hen hmr hm
      go_wp2_with fail
      refine HCL.out.mono ?_
      rintro x9 W3 ⟨rfl, v3, R3, hR3, hL3, hK3⟩
      have hk := hK3.krange HLS.out.blk HRG.out.1
      have HJ3 := Lib.hid (show EaJ w0 V W3 l T p R E0 (C ++ [(x, m.blk)]) (wo x M) n.nx it v3 (RC ++ R3) from ⟨hk.1, HPM.out, HND.out, by rw [← List.append_assoc E0, ← List.append_assoc R]; exact hL3, by
        rw [List.flatMap_append]
        refine HPR.out.append ?_
        rw [HMR.out] at hR3
        simpa using hR3, HKP.out.trans hK3⟩)
      have HLT := Lib.hid (show W3.rangeLeft n.nx it < wr.rangeLeft n.nx it from by rw [hk.2]; exact HRG.out.2)
      clear hk hR3 hL3 hK3
      go_wp2_with fail
      go_roundw
      case rel => exact ⟨_, _, _, _, HJ3⟩
      case measure => exact HLT.out
theorem each_any (h : TrI w0 g T r) (he : (ents T).length ≤ 900) : ∀ (d : Nat) (n : NV) (V : World) (v : Value) (R : List EV), n ∈ T → (∀ m ∈ T, n.rp <:+ m.rp → m.rp.length ≤ n.rp.length + d) → LsI w0 V l v R → R.length + (subE T n.rp).length ≤ 900 →
    Calls Tryd.prog 25 #[.pointer (some ⟨n.blk, 0, none⟩), tkV l] V (TakeSays w0 V l R (subE T n.rp))
  | 0, n, V, v, R, hn, hd, hL, hf => each_more h hn rfl hL hf fun m V v R hm ⟨x, hx⟩ _ _ => by
      have := hd m hm (by rw [hx]; exact List.suffix_cons _ _)
      rw [hx, List.length_cons] at this
      omega
  | d + 1, n, V, v, R, hn, hd, hL, hf => each_more h hn rfl hL hf fun m V v R hm ⟨x, hx⟩ hL hf => each_any h he d m V v R hm (fun k hk hs => by
      have := hd k hk ((show n.rp <:+ m.rp by rw [hx]; exact List.suffix_cons _ _).trans hs)
      rw [hx, List.length_cons]
      omega) hL hf
end
end Go.Proofs.YtebaojbagogniaaDoor
namespace Go.Proofs.YtebaojbagogniaaDoor
open Go.RowKit Go.Extern.Stop Go.Stop Go.Extern Go.Maps Go.Deep Go.Shelf Go.Lib Go.Sort
set_option maxRecDepth 100000
section
variable {w0 V W w : World} {g r l : Nat} {T : NL} {v : Value} {R : List EV}
/-- A sorted row of entries since w0. -/
def SrtSays (w0 : World) (R : List EV) (x : Ending) (W : World) : Prop := ∃ v d, x = .returned v ∧ ERow18 W w0.heap.size v d ∧ d.Perm R ∧ d.Pairwise (fun a b => lessE b a = false) ∧ Below w0.heap.size w0 W
set_option maxHeartbeats 4000000 in
theorem sorted_any (h : LsI w0 V l v R) (hl : R.length ≤ 900) : Calls Tryd.prog 27 #[.pointer (some ⟨l, 0, none⟩)] V (SrtSays w0 R) := by
  have c0 := h.blk.cell 0
  have HH := Lib.hid h
  obtain ⟨A, c, hvf⟩ := h.row.form
  rcases h.row.2 with ⟨hv0, h0⟩ | ⟨gr, cap, cur, hv0, hB, hh, h3⟩
  · have HR0 := Lib.hid (List.eq_nil_of_length_eq_zero h0)
    have HN := Lib.hid (fun w => show Calls Tryd.prog 41 #[.slice none 0 0, .func (.func 42) #[] #[]] w _ from AnyF.slices_SortFunc_none Tryd.sortFe none 0 _ w)
    have HV0 := Lib.hid hv0
    clear hvf h0 h
    subst hv0
    go_enter Tryd.func27, Tryd.ntmps27
    go_wp2_with fail
    refine (HN.out _).mono ?_
    rintro e W2 ⟨rfl, rfl⟩
    go_wp2_with fail
    go_ret
    exact ⟨_, R, rfl, HH.out.row, List.Perm.refl _, by rw [HR0.out]; exact List.Pairwise.nil, HH.out.bel⟩
  · have hrw := h.row
    rw [hv0] at hrw
    have HS := Lib.hid (sort_e hrw (by omega))
    have HB := Lib.hid hB
    have hlg : l ≠ gr := fun e => h.blk.other (e ▸ hh) (by decide) rfl
    have HLG := Lib.hid hlg
    have HV0 := Lib.hid hv0
    obtain ⟨nl, hnl⟩ : ∃ nl, nl = R.length := ⟨_, rfl⟩
    rw [← hnl] at HS hv0
    have HNL := Lib.hid hnl
    clear hvf hh h3 hrw hB h hlg hnl
    subst hv0
    go_enter Tryd.func27, Tryd.ntmps27
    go_wp2_with fail
    refine HS.out.mono ?_
    rintro e W2 ⟨d, rfl, hd, hpw, hrow, hg⟩
    have hf : Fr [gr] V W2 := one_fr hg
    have c2 := (HH.out.blk.fr hf (by rw [List.mem_singleton]; exact HLG.out)).cell 0
    have HE := Lib.hid (show SrtSays w0 R (.returned (.slice (some ⟨gr, 0, none⟩) nl cap)) W2 from ⟨_, d, rfl, by rw [HNL.out]; rw [HNL.out] at hrow; exact (hd.length_eq ▸ hrow), hd, hpw, hf.later HH.out.bel (fun b hb => by rw [List.mem_singleton] at hb; rw [hb]; exact HB.out) HH.out.bel.size⟩)
    clear hd hpw hrow hg hf c0
    go_wp2_with fail
    go_ret
    exact HE.out
theorem deep_any : ∀ T : NL, ∃ D, ∀ m ∈ T, m.rp.length ≤ D
  | [] => ⟨0, fun m hm => by cases hm⟩
  | n :: T => by
    obtain ⟨D, h⟩ := deep_any T
    refine ⟨D + n.rp.length, fun m hm => ?_⟩
    rcases List.mem_cons.1 hm with rfl | hm
    · omega
    · have := h m hm
      omega
theorem LsI.start (w : World) : LsI w (w.alloc (.cells #[.slice none 0 0] 51)) w.heap.size (.slice none 0 0) [] :=
  ⟨Blk.made w _ _, World.ownsRow_nil _ _ _ _, Nat.le_refl _, (Below.refl _ w).alloc (Nat.le_refl _) _⟩
set_option maxHeartbeats 4000000 in
theorem tall_any (h : TrS w g T r) (he : (ents T).length ≤ 900) : Calls Tryd.prog 14 #[.pointer (some ⟨g, 0, none⟩)] w (SrtSays w (ents T)) := by
  have HI := Lib.hid (isnone_no h.i)
  have HE : Hid (Calls Tryd.prog 25 #[.pointer (some ⟨r, 0, none⟩), .func (.func 26) #[.pointer (some ⟨w.heap.size, 0, none⟩)] #[]] (w.alloc (.cells #[.slice none 0 0] 51)) (TakeSays w (w.alloc (.cells #[.slice none 0 0] 51)) w.heap.size [] (ents T))) := Lib.hid (by
    obtain ⟨n, hn, hnp, hnb⟩ := h.i.rt
    obtain ⟨D, hD⟩ := deep_any T
    have := each_any h.i he D n _ _ [] hn (fun m hm _ => Nat.le_trans (hD m hm) (by omega)) (LsI.start w) (by rw [hnp, subE_all]; simpa using he)
    rw [hnp, subE_all, hnb] at this
    exact this)
  have hb0 : Below w.heap.size w (w.alloc (.cells #[.slice none 0 0] 51)) := (Below.refl _ w).alloc (Nat.le_refl _) _
  have c0 := (h.i.below hb0).blk.cell 0
  have HS := Lib.hid (fun V v R (hL : LsI w V w.heap.size v R) (hl : R.length ≤ 900) => sorted_any hL hl)
  have HL := Lib.hid he
  clear h he hb0
  go_enter Tryd.func14, Tryd.ntmps14
  go_wp2_with fail
  refine HI.out.mono ?_
  rintro x W ⟨rfl, rfl⟩
  go_wp2_with fail
  refine HE.out.mono ?_
  rintro x W ⟨rfl, v', R', hR, hLs, _⟩
  have HP := Lib.hid hR
  have HC := Lib.hid (HS.out W v' ([] ++ R') hLs (by rw [List.nil_append, hR.length_eq]; exact HL.out))
  clear hR hLs HE HI c0 HS
  go_wp2_with fail
  refine HC.out.mono ?_
  rintro x W2 ⟨v2, d, rfl, h1, h2, h3, h4⟩
  have HX := Lib.hid (show SrtSays w (ents T) (.returned v2) W2 from ⟨v2, d, rfl, h1, h2.trans HP.out, h3, h4⟩)
  clear h1 h2 h3 h4
  go_wp2_with fail
  go_ret
  exact HX.out
theorem tnodes_any (h : TrS w g T r) : Calls Tryd.prog 15 #[.pointer (some ⟨g, 0, none⟩)] w fun x W => x = .returned (.int .i64 ((T.length : Int) - 1)) ∧ w = W := by
  have HI := Lib.hid (isnone_no h.i)
  have c1 := h.i.blk.cell 1
  clear h
  generalize ((T.length : Int) - 1) = c at *
  go_enter Tryd.func15, Tryd.ntmps15
  go_wp2_with fail
  refine HI.out.mono ?_
  rintro x W ⟨rfl, rfl⟩
  go_wp2_with fail
  go_ret
  exact ⟨rfl, rfl⟩
end
end Go.Proofs.YtebaojbagogniaaDoor
namespace Go.Proofs.YtebaojbagogniaaDoor
open Go.RowKit Go.Extern.Stop Go.Stop Go.Extern Go.Maps Go.Deep
set_option maxRecDepth 100000
/-- The places that are visited. -/
def visP : List BL → List BL → Bool → List (List BL)
  | p, [], s => (if s then [[35] :: p] else []) ++ [p]
  | p, l :: L, s => (if s then [[35] :: p] else []) ++ ((if s then visP ([43] :: p) L true else []) ++ visP (l :: p) L true)
def visE (T : NL) (p L : List BL) (s : Bool) : List EV := (visP p L s).flatMap (endsAt T)
theorem vis_suf : ∀ (L p : List BL) (s : Bool) (q : List BL), q ∈ visP p L s → p <:+ q
  | [], p, s, q, h => by
    unfold visP at h
    rcases List.mem_append.1 h with h | h
    · cases s with
      | false => cases h
      | true => rw [List.mem_singleton.1 h]; exact List.suffix_cons _ _
    · rw [List.mem_singleton.1 h]
      exact List.suffix_refl _
  | l :: L, p, s, q, h => by
    unfold visP at h
    rcases List.mem_append.1 h with h | h
    · cases s with
      | false => cases h
      | true => rw [List.mem_singleton.1 h]; exact List.suffix_cons _ _
    · rcases List.mem_append.1 h with h | h
      · cases s with
        | false => cases h
        | true => exact (List.suffix_cons _ _).trans (vis_suf L _ true q h)
      · exact (List.suffix_cons _ _).trans (vis_suf L _ true q h)
theorem two_suf {a b : BL} {p q : List BL} (h1 : (a :: p) <:+ q) (h2 : (b :: p) <:+ q) : a = b := by
  have := suf_eq h1 h2 (by simp)
  injection this
theorem vis_nodup : ∀ (L p : List BL) (s : Bool), [35] ∉ L → [43] ∉ L → (visP p L s).Nodup
  | [], p, s, _, _ => by
    unfold visP
    cases s with
    | false => simp
    | true => simp
  | l :: L, p, s, h1, h2 => by
    have i1 := fun p => vis_nodup L p true (fun h => h1 (List.mem_cons_of_mem _ h)) (fun h => h2 (List.mem_cons_of_mem _ h))
    unfold visP
    cases s with
    | false => simpa using i1 _
    | true =>
      rw [if_pos rfl, if_pos rfl]
      unfold List.Nodup at *
      rw [List.pairwise_append, List.pairwise_append]
      refine ⟨List.pairwise_singleton _ _, ⟨i1 _, i1 _, fun a ha b hb he => ?_⟩, fun a ha b hb he => ?_⟩
      · subst he
        have := two_suf (vis_suf L _ true a ha) (vis_suf L _ true a hb)
        exact h2 (by rw [this]; exact List.mem_cons_self ..)
      · rw [List.mem_singleton] at ha
        subst he ha
        rcases List.mem_append.1 hb with hb | hb
        · have := two_suf (vis_suf L _ true _ hb) (List.suffix_refl ([35] :: p))
          exact absurd this (by decide)
        · have := two_suf (vis_suf L _ true _ hb) (List.suffix_refl ([35] :: p))
          exact h1 (by rw [← this]; exact List.mem_cons_self ..)
theorem visE_none {T : NL} (h : TC T) (p L : List BL) (s : Bool) (hno : ∀ m ∈ T, m.rp ≠ p) : visE T p L s = [] := by
  unfold visE
  refine List.eq_nil_iff_forall_not_mem.2 fun e he => ?_
  obtain ⟨q, hq, hx⟩ := List.mem_flatMap.1 he
  obtain ⟨m, hm, hr, _⟩ := mem_endsAt.1 hx
  obtain ⟨k, hk, hkp⟩ := h.up hm (q := p) (by rw [hr]; exact vis_suf L p s q hq)
  exact hno k hk hkp
theorem visE_nodup {T : NL} (h : TC T) (L p : List BL) (s : Bool) (h1 : [35] ∉ L) (h2 : [43] ∉ L) : (visE T p L s).Nodup := by
  unfold visE List.Nodup
  rw [List.pairwise_flatMap]
  refine ⟨fun q _ => h.nodup_sub _, (vis_nodup L p s h1 h2).imp fun {a b} hne x hx y hy he => ?_⟩
  subst he
  obtain ⟨m, hm, hr, hxm⟩ := mem_endsAt.1 hx
  obtain ⟨k, hk, hkr, hxk⟩ := mem_endsAt.1 hy
  exact hne (by rw [← hr, ← hkr, ← h.ok m hm x hxm, ← h.ok k hk x hxk])
theorem mem_visE {T : NL} {p L : List BL} {s : Bool} {e : EV} (h : TC T) : e ∈ visE T p L s ↔ e ∈ ents T ∧ lv e ∈ visP p L s := by
  unfold visE
  rw [List.mem_flatMap]
  constructor
  · rintro ⟨q, hq, hx⟩
    obtain ⟨m, hm, hr, hxm⟩ := mem_endsAt.1 hx
    exact ⟨mem_ents.2 ⟨m, hm, hxm⟩, by rw [h.ok m hm e hxm, hr]; exact hq⟩
  · rintro ⟨hx, hq⟩
    obtain ⟨m, hm, hr, hxm⟩ := h.lvOf hx
    exact ⟨_, hq, mem_endsAt.2 ⟨m, hm, hr, hxm⟩⟩
theorem visE_le {T : NL} (h : TC T) {p L : List BL} {s : Bool} (h1 : [35] ∉ L) (h2 : [43] ∉ L) : (visE T p L s).length ≤ (ents T).length := by
  have hp : (visE T p L s).Perm ((ents T).filter fun e => decide (lv e ∈ visP p L s)) := nodup_perm (visE_nodup h L p s h1 h2) (h.nodup.sublist List.filter_sublist) fun e => by
    rw [mem_visE h, List.mem_filter, decide_eq_true_iff]
  rw [hp.length_eq]
  exact List.length_filter_le _ _
theorem visE_nil (T : NL) (p : List BL) (s : Bool) : visE T p [] s = (if s then endsAt T ([35] :: p) else []) ++ endsAt T p := by
  unfold visE visP
  cases s <;> simp
theorem visE_cons (T : NL) (p : List BL) (l : BL) (L : List BL) (s : Bool) : visE T p (l :: L) s = (if s then endsAt T ([35] :: p) else []) ++ ((if s then visE T ([43] :: p) L true else []) ++ visE T (l :: p) L true) := by
  unfold visE
  rw [visP]
  cases s <;> simp
/-- What stands at a place, as a pointer. -/
def NdAt (T : NL) (q : List BL) (o : Value) : Prop := (∃ m ∈ T, m.rp = q ∧ o = .pointer (some ⟨m.blk, 0, none⟩)) ∨ ((∀ m ∈ T, m.rp ≠ q) ∧ o = .pointer none)
theorem nlook_any {T : NL} {n : NV} (hn : n ∈ T) (l : BL) (hl : l.length ≤ maxLen) :
    ∃ o, NdAt T (l :: n.rp) o ∧ ∀ W, TH W T → (Instr.lookup 58 (.map (some n.nx)) (.string (bs l)) false).run Tryd.prog W = .ok o W := by
  rcases Classical.em (∃ m ∈ T, m.rp = l :: n.rp) with ⟨m, hm, hr⟩ | hno
  · exact ⟨_, .inl ⟨m, hm, hr, rfl⟩, fun W hW => nlook_hit hW hn hm hr⟩
  · exact ⟨_, .inr ⟨fun m hm e => hno ⟨m, hm, e⟩, rfl⟩, fun W hW => nlook_miss hW hn hl (fun m hm e => hno ⟨m, hm, e⟩)⟩
section
variable {w0 V W W2 : World} {g r l : Nat} {T : NL} {p L : List BL} {n m : NV} {v : Value} {R R1 X Y : List EV}
theorem LRd.kp {A : Option Addr} {u : TypeId} {cs : Array Value} (h : LRd V A L) (hk : Kp l V W) (hl : Blk V l u cs) (hu : u ≠ 9) : LRd W A L := by
  obtain ⟨X, hX, kX⟩ := hk
  intro hlen
  obtain ⟨g, off, e, ⟨c, hc⟩, hcl⟩ := h hlen
  have hlt := lt_of_block hc
  have hn : g ∉ X := fun hm => by
    rcases kX g hm hlt with e | ⟨c2, hc2⟩
    · exact hl.other hc hu e.symm
    · rw [hc] at hc2
      injection hc2 with hc2
      injection hc2 with _ ht
      exact absurd ht (by decide)
  exact ⟨g, off, e, ⟨c, (hX.block g hlt hn).trans hc⟩, fun k hk => (hX.cell hlt hn).trans (hcl k hk)⟩
/-- What has been visited so far. -/
structure MvJ (w0 V W : World) (l : Nat) (R X : List EV) (v : Value) (R1 : List EV) : Prop where
  ls : LsI w0 W l v (R ++ R1)
  pm : R1.Perm X
  kp : Kp l V W
theorem MvJ.start (h : LsI w0 V l v R) : MvJ w0 V V l R [] v [] := ⟨by rw [List.append_nil]; exact h, List.Perm.refl _, Kp.of_below (Below.refl _ _)⟩
theorem MvJ.drewN (h : MvJ w0 V W l R X v R1) (hb : Below W.heap.size W W2) : MvJ w0 V W2 l R X v R1 := ⟨h.ls.below hb, h.pm, h.kp.trans (Kp.of_below hb)⟩
theorem MvJ.step {x : Ending} (h : MvJ w0 V W l R X v R1) (ht : TakeSays w0 W l (R ++ R1) Y x W2) : x = .returned (.tuple #[]) ∧ ∃ v' R', MvJ w0 V W2 l R (X ++ Y) v' R' := by
  obtain ⟨hx, v', R', hR, hL, hK⟩ := ht
  exact ⟨hx, v', R1 ++ R', by rw [← List.append_assoc]; exact hL, h.pm.append hR, h.kp.trans hK⟩
theorem MvJ.len (h : MvJ w0 V W l R X v R1) : (R ++ R1).length = R.length + X.length := by rw [List.length_append, h.pm.length_eq]
theorem MvJ.fin (h : MvJ w0 V W l R X v R1) (he : Y.Perm X) : TakeSays w0 V l R Y (.returned (.tuple #[])) W := ⟨rfl, v, R1, h.pm.trans he.symm, h.ls, h.kp⟩
end
end Go.Proofs.YtebaojbagogniaaDoor
