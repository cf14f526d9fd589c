/- What is proved here: a copy of the members, their generation, who is connected, who owns, and one of them. Conditions: the members are there; few of them. -/
import Derived.Test.YtkjghlmlfanafaaMem31
import Derived.Lib.SliceRun
namespace Go.Proofs.Ytkjghlmlfanafaa
open Go.RowKit Go.Extern.Stop Go.Stop Go.Extern
theorem Try.memInfo : (Try.prog.info? 37).map (fun i => (i.zero, i.size, i.bytes)) = some (some (.agg #[.string ⟨#[]⟩, .int .i64 0, .int .i64 0, .bool false]), 4, 40) := by kernel_rfl
section
variable {w w' : World} {B g : Nat} {v : Value} {L : ML} {gen : Nat}
theorem gen_any (h : MObj w B g v L gen) : Calls Try.prog 26 #[.pointer (some ⟨g, 0, none⟩)] w fun x w' => x = .returned (.int .i64 gen) ∧ w = w' := by
  have c1 : w.cell? ⟨g, 1, none⟩ = some (.int .i64 gen) := h.blk.cell 1
  clear h
  go_enter Try.func26, Try.ntmps26
  go_wp2_with fail
  go_ret
  exact ⟨rfl, rfl⟩
theorem mcs_news {ad : Addr} (h : MRd w (some ad) L) : ∀ (j : Nat) (u : Value), (mcs L)[j]? = some u → w.cell? (ad.add j) = some u := by
  intro j u hj
  have hl : j < L.length * 4 := by
    have := (List.getElem?_eq_some_iff.1 hj).1
    rwa [mcs_len] at this
  obtain ⟨g, off, e, hc⟩ := h (by omega)
  obtain rfl : ad = ⟨g, off, none⟩ := Option.some.inj e
  rw [add_to]
  obtain ⟨c1, c2, c3, c4⟩ := hc (j / 4) (by omega)
  obtain ⟨q1, q2, q3, q4⟩ := mcs_get L (j / 4) (by omega)
  rcases (show j = j / 4 * 4 ∨ j = j / 4 * 4 + 1 ∨ j = j / 4 * 4 + 2 ∨ j = j / 4 * 4 + 3 by omega) with hj' | hj' | hj' | hj'
  · rw [hj'] at hj ⊢; rw [← hj, q1]; exact c1
  · rw [hj'] at hj ⊢; rw [← hj, q2]; exact c2
  · rw [hj'] at hj ⊢; rw [← hj, q3]; exact c3
  · rw [hj'] at hj ⊢; rw [← hj, q4]; exact c4
/-- A copy of a row of members, as a call answers it. -/
def CopySays (w : World) (L : ML) (x : Ending) (w' : World) : Prop := ∃ v', x = .returned v' ∧ w'.ownsRow w.heap.size 37 4 v' L.length (mcs L) ∧ Below w.heap.size w w'
theorem clone_any {A : Option Addr} {cp : Nat} (h : MRd w A L) (hA : A = none → cp = 0 ∧ L = []) (hm : L.length ≤ 1000) : Calls Try.prog 58 #[.slice A L.length cp] w (CopySays w L) := by
  obtain ⟨i0, hi0, hz0, hz1, hz2⟩ := info_parts Try.memInfo
  have q26 : ∀ (w : World) (a : Option Addr) (n c n' c' : Nat), (binOp .eql 26 (.slice a n c) (.slice none n' c')).run Try.prog w = .ok (.bool a.isNone) w := fun w a n c n' c' => Lib.run_eql_slice_nil w _ _ a n c n' c' Try.underlying26
  cases A with
  | none =>
    obtain ⟨rfl, rfl⟩ := hA rfl
    clear h hA hm
    go_enter Try.func58, Try.ntmps58
    go_wp2_with fail
    go_ret
    exact ⟨_, rfl, World.ownsRow_nil _ _ _ _, Below.refl _ _⟩
  | some ad =>
    have hne := Lib.hid (mcs_news (h.alloc (.cells #[] 37)))
    clear h hA
    go_enter Try.func58, Try.ntmps58
    go_wp2_with (at_builtin; go_must (refine wpList_append_own _ rfl _ _ 26 rfl w.heap.size 37 i0 (.agg #[.string ⟨#[]⟩, .int .i64 0, .int .i64 0, .bool false]) 4 40 Try.underlying26 hi0 hz0 hz1 hz2 rfl (by decide) _ 0 [] rfl (World.ownsRow_made w #[] 0 (Nat.le_refl _) (Nat.zero_le _) (by simp)) ad L.length cp (mcs L) rfl (mcs_len L) hne.out (mcs_ones L) (by unfold maxLen; omega) (by omega) (by simp) ?_))
    intro v' w1 ho hg _
    have HO := Lib.hid (show w1.ownsRow w.heap.size 37 4 v' L.length (mcs L) by simpa using ho)
    have HB := Lib.hid (show Below w.heap.size w w1 from (Fr.later (X := [w.heap.size]) ((Fr.refl _ (w.alloc (.cells #[] 37))).grown hg (fun k hk => .inl (by rw [← Option.some.inj hk]; exact List.mem_singleton_self _))) ((Below.refl w.heap.size w).alloc (Nat.le_refl _) _) (by simp) (by simp)))
    clear ho hg
    go_wp2_with fail
    go_ret
    exact ⟨_, rfl, HO.out, HB.out⟩
theorem MObj.none_of {cp : Nat} (h : MObj w B g (.slice none L.length cp) L gen) : cp = 0 ∧ L = [] := by
  rcases h.row.2 with ⟨e, h0⟩ | ⟨gr, cap, cur, e, _⟩
  · injection e with _ _ hc
    exact ⟨hc, List.eq_nil_of_length_eq_zero h0⟩
  · injection e with ha
    cases ha
theorem all_any (h : MObj w B g v L gen) (hm : L.length ≤ 1000) : Calls Try.prog 20 #[.pointer (some ⟨g, 0, none⟩)] w (CopySays w L) := by
  obtain ⟨a, cp, rfl⟩ := h.form
  have HC := Lib.hid (clone_any (cp := cp) (row_mrd h.row) (fun e => by subst e; exact h.none_of) hm)
  have c0 : w.cell? ⟨g, 0, none⟩ = some (.slice a L.length cp) := h.blk.cell 0
  clear h
  go_enter Try.func20, Try.ntmps20
  go_wp2_with fail
  refine HC.out.mono ?_
  rintro x w1 ⟨v', rfl, ho, hb⟩
  have HO := Lib.hid ho
  have HB := Lib.hid hb
  clear ho hb
  go_wp2_with fail
  go_ret
  exact ⟨_, rfl, HO.out, HB.out⟩
/-- The clients of those that are connected. -/
def hereOf (L : ML) : List ByteArray := (L.filter MV.on).map MV.client
theorem here_take {k : Nat} (h : k < L.length) : hereOf (L.take (k + 1)) = hereOf (L.take k) ++ (if (L.getD k m0).on then [(L.getD k m0).client] else []) := by
  unfold hereOf
  rw [List.take_succ_eq_append_getElem h, List.filter_append, List.map_append, List.getD_eq_getElem?_getD, List.getElem?_eq_getElem h]
  congr 1
  show List.map MV.client (List.filter MV.on [L[k]]) = if L[k].on = true then [L[k].client] else []
  cases hp : L[k].on <;> simp [hp]
theorem here_len (M : ML) : (hereOf M).length ≤ M.length := by
  unfold hereOf
  rw [List.length_map]
  exact List.length_filter_le _ _
def HereSays (w : World) (L : ML) (x : Ending) (w' : World) : Prop := ∃ v', x = .returned v' ∧ Row w' w.heap.size v' (hereOf L) ∧ Below w.heap.size w w'
set_option maxHeartbeats 1000000 in
theorem here_any (h : MObj w B g v L gen) (hm : L.length ≤ 900) : Calls Try.prog 22 #[.pointer (some ⟨g, 0, none⟩)] w (HereSays w L) := by
  have HC := Lib.hid (all_any h (by omega))
  clear h
  obtain ⟨n, hn⟩ : ∃ n, n = L.length := ⟨_, rfl⟩
  have HN := Lib.hid hn
  go_enter Try.func22, Try.ntmps22
  go_wp2_with fail
  refine HC.out.mono ?_
  rintro x w1 ⟨v', rfl, ho, hb⟩
  obtain ⟨a, cp, rfl⟩ : ∃ a c, v' = .slice a n c := by
    rw [hn]
    rcases ho.2 with ⟨rfl, h0⟩ | ⟨gr, cap, cur, rfl, _⟩
    · exact ⟨none, 0, by rw [h0]⟩
    · exact ⟨_, _, rfl⟩
  have HR := Lib.hid (row_mrd (show w1.ownsRow w.heap.size 37 4 (.slice a n cp) L.length (mcs L) from ho))
  have HB := Lib.hid hb
  have hm9 : n ≤ 900 := by omega
  clear ho hb HC hn hm
  go_wp2_with fail
  go_loopw [3, 9] (fun v i wr => ∃ k : Nat, k ≤ n ∧ i = .int .i64 k ∧ Row wr w1.heap.size v (hereOf (L.take k)) ∧ Below w1.heap.size w1 wr) (fun _ i _ => n - (intOf i).toNat)
  case atStart => exact ⟨0, by omega, rfl, Row.nil _ _, Below.refl _ _⟩
  case round =>
    obtain ⟨k, hk, rfl, hrow, hb1⟩ := hrel
    obtain ⟨va, vc, rfl⟩ := hrow.form
    have hl := Nat.le_trans (here_len (L.take k)) (by rw [List.length_take]; exact Nat.min_le_left _ _)
    by_cases hlt : k < n
    · have hkL : k < L.length := by have := HN.out; omega
      obtain ⟨g1, off, rfl, hcc⟩ := HR.out (by omega)
      obtain ⟨c1, c2, c3, c4⟩ := hcc k hkL
      have hgb := hb1.block g1 (lt_of_cell c1)
      have c1' := (World.cell?_of_block (w := w1) (w' := wr) hgb).trans c1
      have c2' := (World.cell?_of_block (w := w1) (w' := wr) hgb).trans c2
      have c3' := (World.cell?_of_block (w := w1) (w' := wr) hgb).trans c3
      have c4' := (World.cell?_of_block (w := w1) (w' := wr) hgb).trans c4
      have hht := here_take hkL
      clear c1 c2 c3 c4 hgb hcc hkL
      obtain ⟨m, hm⟩ : ∃ m, m = L.getD k m0 := ⟨_, rfl⟩
      rw [← hm] at c1' c2' c3' c4' hht
      have HB1 := Lib.hid (hb1.alloc hb1.size (.cells #[.string m.client, .int .i64 m.since, .int .i64 m.qos, .bool m.on] 37))
      have HRW := Lib.hid (show Row (wr.alloc (.cells #[.string m.client, .int .i64 m.since, .int .i64 m.qos, .bool m.on] 37)) w1.heap.size _ _ from hrow.below ((Below.refl _ wr).alloc (Nat.le_refl _) _))
      clear hrow hb1 hm
      cases hon : m.on with
      | true =>
        rw [hon] at hht c4' HB1 HRW
        have HT := Lib.hid hht
        clear hht hon
        go_wp2_with (at_builtin; go_must (refine append_row rfl _ _ rfl (HB1.out.alloc HB1.out.size _) (HRW.out.alloc _) rfl ⟨wr.heap.size + 1, 0, none⟩ 1 1 rfl rfl (srd_one _ m.client (by simp)) (by simp; omega) ?_))
        intro v5 w5 h5 hb5
        have H5 := Lib.hid h5
        have HB5 := Lib.hid hb5
        clear h5 hb5
        go_wp2_with fail
        go_roundw
        case rel => exact ⟨k + 1, by omega, by go_num, by rw [HT.out]; exact H5.out, HB5.out⟩
        case measure => simp [intOf]; omega
      | false =>
        rw [hon] at hht c4' HB1 HRW
        have HT := Lib.hid hht
        clear hht hon
        go_wp2_with fail
        go_roundw
        case rel => exact ⟨k + 1, by omega, by go_num, by rw [HT.out]; simpa using HRW.out, HB1.out⟩
        case measure => simp [intOf]; omega
    · have HE := Lib.hid (show Row wr w.heap.size (.slice va (hereOf (L.take k)).length vc) (hereOf L) ∧ Below w.heap.size w wr from by
        have e : L.take k = L := List.take_of_length_le (by have := HN.out; omega)
        rw [e] at hrow ⊢
        exact ⟨hrow.base HB.out.size, HB.out.trans (hb1.mono HB.out.size)⟩)
      clear hrow hb1
      go_wp2_with fail
      go_ret
      exact ⟨_, rfl, HE.out.1, HE.out.2⟩
theorem owner_any (h : MObj w B g v L gen) (hm : L.length ≤ 900) : Calls Try.prog 24 #[.pointer (some ⟨g, 0, none⟩)] w fun x w' => x = .returned (.string ((hereOf L).getD 0 e0)) ∧ Below w.heap.size w w' := by
  have HH := Lib.hid (here_any h hm)
  clear h
  have hl := Nat.le_trans (here_len L) hm
  clear hm
  go_enter Try.func24, Try.ntmps24
  go_wp2_with fail
  refine HH.out.mono ?_
  rintro x w1 ⟨v', rfl, hr, hb⟩
  obtain ⟨va, vc, rfl⟩ := hr.form
  have HR := Lib.hid hr.rd
  have HB := Lib.hid hb
  clear hr hb
  by_cases hp : 0 < (hereOf L).length
  · obtain ⟨g1, off, rfl, hcc⟩ := HR.out hp
    have c0 : w1.cell? ⟨g1, off, none⟩ = some (.string ((hereOf L).getD 0 e0)) := hcc 0 hp
    obtain ⟨y, hy⟩ : ∃ y, y = (hereOf L).getD 0 e0 := ⟨_, rfl⟩
    rw [← hy] at c0
    have HY := Lib.hid hy
    clear hcc HR hy
    go_wp2_with fail
    go_ret
    exact ⟨ret_str HY.out, HB.out⟩
  · have he : hereOf L = [] := List.eq_nil_of_length_eq_zero (by omega)
    have HY := Lib.hid (show (⟨#[]⟩ : ByteArray) = (hereOf L).getD 0 e0 by rw [he]; rfl)
    rw [he]
    simp only [List.length_nil]
    clear hl hp HR he
    go_wp2_with fail
    go_ret
    exact ⟨ret_str HY.out, HB.out⟩
def GetSays (w : World) (L : ML) (c : ByteArray) (x : Ending) (w' : World) : Prop :=
  (∃ i : Nat, idxM L c = i ∧ i < L.length ∧ x = .returned (.tuple #[(L.getD i m0).agg, .bool true]) ∧ Below w.heap.size w w') ∨ (idxM L c = -1 ∧ x = .returned (.tuple #[m0.agg, .bool false]) ∧ Below w.heap.size w w')
theorem idxM_or (L : ML) (c : ByteArray) : (∃ i : Nat, idxM L c = i ∧ i < L.length) ∨ idxM L c = -1 := by
  have h := idx_bd (clientsOf L) c
  have hl : (clientsOf L).length = L.length := by unfold clientsOf; rw [List.length_map]
  rw [hl] at h
  unfold idxM
  by_cases h0 : idxI (clientsOf L) c = -1
  · exact .inr h0
  · exact .inl ⟨(idxI (clientsOf L) c).toNat, by omega, by omega⟩
theorem get_any (h : MObj w B g v L gen) (hm : L.length ≤ 900) (c : ByteArray) : Calls Try.prog 17 #[.pointer (some ⟨g, 0, none⟩), .string c] w (GetSays w L c) := by
  have hb0 : Below w.heap.size w (w.alloc (.cells #[.string ⟨#[]⟩, .int .i64 0, .int .i64 0, .bool false] 37)) := (Below.refl _ _).alloc (Nat.le_refl _) _
  have h2 := h.below hb0
  have HF := Lib.hid (find_any h2 (by omega) c)
  have HB0 := Lib.hid hb0
  have HM := Lib.hid (fun W hb => h2.below (w' := W) hb)
  have HV := Lib.hid (Blk.made w 37 #[.string ⟨#[]⟩, .int .i64 0, .int .i64 0, .bool false])
  clear h h2 hb0
  rcases idxM_or L c with ⟨i, hi, hil⟩ | hi
  · have HI := Lib.hid hi
    rw [hi] at HF
    clear hi
    go_enter Try.func17, Try.ntmps17
    go_wp2_with fail
    refine HF.out.mono ?_
    rintro x w1 ⟨rfl, hb1⟩
    have hM1 := HM.out w1 hb1
    have hv1 := HV.out.below hb1 HV.out.lt
    have HB1 := Lib.hid (HB0.out.trans (hb1.mono HB0.out.size))
    obtain ⟨a, cp, rfl⟩ := hM1.form
    have c0 : w1.cell? ⟨g, 0, none⟩ = some (.slice a L.length cp) := hM1.blk.cell 0
    obtain ⟨g1, off, rfl, hcc⟩ := row_mrd hM1.row (by omega)
    obtain ⟨c1, c2, c3, c4⟩ := hcc i hil
    have d0 := hv1.cell 0
    have d1 := hv1.cell 1
    have d2 := hv1.cell 2
    have d3 := hv1.cell 3
    have f0 := hv1.frozen 0
    have f1 := hv1.frozen 1
    have f2 := hv1.frozen 2
    have f3 := hv1.frozen 3
    obtain ⟨k, hk⟩ : ∃ k, k = w.heap.size := ⟨_, rfl⟩
    rw [← hk] at d0 d1 d2 d3 f0 f1 f2 f3 hv1
    have HK := Lib.hid hk
    obtain ⟨m, hm'⟩ : ∃ m, m = L.getD i m0 := ⟨_, rfl⟩
    rw [← hm'] at c1 c2 c3 c4
    have HMM := Lib.hid hm'
    have HV1 := Lib.hid hv1
    clear hcc hM1 hb1 HM HV hm' hv1
    rw [← hk]
    clear hk
    have hst := ((((HV1.out.store 0 (.string m.client)).store 1 (.int .i64 m.since)).store 2 (.int .i64 m.qos)).store 3 (.bool m.on))
    have r0 := hst.cell 0
    have r1 := hst.cell 1
    have r2 := hst.cell 2
    have r3 := hst.cell 3
    simp at r0 r1 r2 r3
    have HFR := Lib.hid (show Below w.heap.size w ((((w1.setCell ⟨k, 0, none⟩ (.string m.client)).setCell ⟨k, 1, none⟩ (.int .i64 m.since)).setCell ⟨k, 2, none⟩ (.int .i64 m.qos)).setCell ⟨k, 3, none⟩ (.bool m.on)) from by
      have hk := HK.out
      exact ((((HB1.out.setCell (p := ⟨k, 0, none⟩) (by simp [hk]) _).setCell (p := ⟨k, 1, none⟩) (by simp [hk]) _).setCell (p := ⟨k, 2, none⟩) (by simp [hk]) _).setCell (p := ⟨k, 3, none⟩) (by simp [hk]) _))
    have R0 := Lib.hid r0
    have R1 := Lib.hid r1
    have R2 := Lib.hid r2
    have R3 := Lib.hid r3
    clear hst r0 r1 r2 r3
    go_wp2_with fail
    have r0 := R0.out
    have r1 := R1.out
    have r2 := R2.out
    have r3 := R3.out
    refine bodyPost_ret (v := .tuple #[.agg #[.string m.client, .int .i64 m.since, .int .i64 m.qos, .bool m.on], .bool true]) (by simp [results, Try.results17, go_sem, r0, r1, r2, r3]) rfl (.inl ⟨i, HI.out, hil, ?_, HFR.out⟩)
    rw [← HMM.out]; rfl
  · rw [hi] at HF
    have HI := Lib.hid hi
    clear hi
    go_enter Try.func17, Try.ntmps17
    go_wp2_with fail
    refine HF.out.mono ?_
    rintro x w1 ⟨rfl, hb1⟩
    have hv1 := HV.out.below hb1 HV.out.lt
    have HB1 := Lib.hid (HB0.out.trans (hb1.mono HB0.out.size))
    have d0 := hv1.cell 0
    have d1 := hv1.cell 1
    have d2 := hv1.cell 2
    have d3 := hv1.cell 3
    have f0 := hv1.frozen 0
    have f1 := hv1.frozen 1
    have f2 := hv1.frozen 2
    have f3 := hv1.frozen 3
    obtain ⟨k, hk⟩ : ∃ k, k = w.heap.size := ⟨_, rfl⟩
    rw [← hk] at d0 d1 d2 d3 f0 f1 f2 f3 hv1
    have HK := Lib.hid hk
    have HV1 := Lib.hid hv1
    clear hb1 HM HV hv1
    rw [← hk]
    clear hk
    have hst := ((((HV1.out.store 0 (.string ⟨#[]⟩)).store 1 (.int .i64 0)).store 2 (.int .i64 0)).store 3 (.bool false))
    have r0 := hst.cell 0
    have r1 := hst.cell 1
    have r2 := hst.cell 2
    have r3 := hst.cell 3
    simp at r0 r1 r2 r3
    have HFR := Lib.hid (show Below w.heap.size w ((((w1.setCell ⟨k, 0, none⟩ (.string ⟨#[]⟩)).setCell ⟨k, 1, none⟩ (.int .i64 0)).setCell ⟨k, 2, none⟩ (.int .i64 0)).setCell ⟨k, 3, none⟩ (.bool false)) from by
      have hk := HK.out
      exact ((((HB1.out.setCell (p := ⟨k, 0, none⟩) (by simp [hk]) _).setCell (p := ⟨k, 1, none⟩) (by simp [hk]) _).setCell (p := ⟨k, 2, none⟩) (by simp [hk]) _).setCell (p := ⟨k, 3, none⟩) (by simp [hk]) _))
    have R0 := Lib.hid r0
    have R1 := Lib.hid r1
    have R2 := Lib.hid r2
    have R3 := Lib.hid r3
    clear hst r0 r1 r2 r3
    go_wp2_with fail
    have r0 := R0.out
    have r1 := R1.out
    have r2 := R2.out
    have r3 := R3.out
    exact bodyPost_ret (v := .tuple #[.agg #[.string ⟨#[]⟩, .int .i64 0, .int .i64 0, .bool false], .bool false]) (by simp [results, Try.results17, go_sem, r0, r1, r2, r3]) rfl (.inr ⟨HI.out, rfl, HFR.out⟩)
end
end Go.Proofs.Ytkjghlmlfanafaa
