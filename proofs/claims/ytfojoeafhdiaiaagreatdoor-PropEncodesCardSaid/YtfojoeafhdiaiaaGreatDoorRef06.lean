/- What is proved here: the document's own answers on properties: the first of an identifier, its number, the others, whether a place may have it. Conditions: the properties stand where the slices say, few of them. -/
import Derived.Test.YtfojoeafhdiaiaaGreatDoorAwk06
namespace Go.Proofs.YtfojoeafhdiaiaaGreatDoor
set_option maxRecDepth 100000
open Go.RowKit Go.Extern.Stop Go.Stop Go.Extern
section
variable {w w' : World} {B : Nat} {A : Option Addr} {L : PL}
set_option maxHeartbeats 1000000 in
theorem rget_any (i : Int) (n c : Nat) (hn : n = L.length) (h : PIn w B A L) (hm : n ≤ 1000) : Calls Tryz.prog 8 #[.slice A n c, .int .i64 i] w (GetSays w (getV L i)) := by
  obtain ⟨q, hq⟩ : ∃ q, q = getV L i := ⟨_, rfl⟩
  rw [← hq]
  have HN := Lib.hid hn
  have HA := Lib.hid h
  obtain ⟨W, hW⟩ : ∃ W, W = w.alloc (.cells #[.int .i64 0, .int .i64 0, .string ⟨#[]⟩, .string ⟨#[]⟩] 26) := ⟨_, rfl⟩
  have hb0 : Below w.heap.size w W := by rw [hW]; exact (Below.refl _ _).alloc (Nat.le_refl _) _
  have hbk : Blk W w.heap.size 26 #[.int .i64 0, .int .i64 0, .string ⟨#[]⟩, .string ⟨#[]⟩] := by rw [hW]; exact Blk.made w _ _
  have HQ := Lib.hid (show q = getV (L.drop 0) i from hq)
  have HB0 := Lib.hid hb0
  have HBK := Lib.hid hbk
  clear hq hn h hb0 hbk
  go_enter Tryz.func8, Tryz.ntmps8
  go_wp2_with fail
  rw [← hW]
  clear hW
  go_loop [6] (fun j => ∃ k : Nat, k ≤ n ∧ j = .int .i64 k ∧ Hid (q = getV (L.drop k) i)) (fun j => n - (intOf j).toNat)
  case atStart => exact ⟨0, by omega, rfl, HQ⟩
  case round =>
    obtain ⟨k, hk, rfl, HJ⟩ := hrel
    have hj1 := HJ.out
    by_cases hlt : k < n
    · obtain ⟨g, off, rfl, hc, _⟩ := HA.out (by have := HN.out; omega)
      have hcc := hc k (by have := HN.out; omega)
      have hcw := hcc.at (w' := W) (HB0.out.block g (lt_of_cell hcc.c0))
      rw [drop_at (by have := HN.out; omega)] at hj1
      generalize L.getD k p0 = p at *
      obtain ⟨pi, pn, ps, pv⟩ := p
      obtain ⟨c0, c1, c2, c3⟩ := hcw
      by_cases hi : pi = i
      · subst hi
        rw [getV, if_pos rfl] at hj1
        subst hj1
        obtain ⟨⟨r0, r1, r2, r3, s0, s1, s2, s3⟩, ⟨x1, y1, x2, y2, x3, y3⟩, ⟨k2, l2, k3, l3, m3, n3⟩, z0, z1, z2, z3⟩ := box4 HBK.out (.int .i64 pi) (.int .i64 pn) (.string ps) (.string pv)
        have HT := Lib.hid (((((HB0.out.setCell (p := ⟨w.heap.size, 0, none⟩) (Nat.le_refl _) (.int .i64 pi)).setCell (p := ⟨w.heap.size, 1, none⟩) (Nat.le_refl _) (.int .i64 pn))).setCell (p := ⟨w.heap.size, 2, none⟩) (Nat.le_refl _) (.string ps)).setCell (p := ⟨w.heap.size, 3, none⟩) (Nat.le_refl _) (.string pv))
        clear hc hcc HJ
        go_wp2_with fail
        exact bodyPost_ret (v := .tuple #[.agg #[.int .i64 pi, .int .i64 pn, .string ps, .string pv], .bool true]) (by simp [results, Tryz.results8, go_sem, z0, z1, z2, z3]) rfl ⟨rfl, HT.out⟩
      · rw [getV, if_neg hi] at hj1
        have hb : (pi == i) = false := beq_eq_false_iff_ne.2 hi
        have HX := Lib.hid hj1
        clear hj1 hc hcc HJ hi
        go_wp2_with fail
        go_round
        case rel => exact ⟨k + 1, by omega, by go_num, HX⟩
        case measure => simp [intOf]; omega
    · rw [List.drop_eq_nil_of_le (by have := HN.out; omega)] at hj1
      subst hj1
      obtain ⟨⟨r0, r1, r2, r3, s0, s1, s2, s3⟩, ⟨x1, y1, x2, y2, x3, y3⟩, ⟨k2, l2, k3, l3, m3, n3⟩, z0, z1, z2, z3⟩ := box4 HBK.out (.int .i64 0) (.int .i64 0) (.string ⟨#[]⟩) (.string ⟨#[]⟩)
      have HT := Lib.hid (((((HB0.out.setCell (p := ⟨w.heap.size, 0, none⟩) (Nat.le_refl _) (.int .i64 0)).setCell (p := ⟨w.heap.size, 1, none⟩) (Nat.le_refl _) (.int .i64 0))).setCell (p := ⟨w.heap.size, 2, none⟩) (Nat.le_refl _) (.string ⟨#[]⟩)).setCell (p := ⟨w.heap.size, 3, none⟩) (Nat.le_refl _) (.string ⟨#[]⟩))
      clear HJ
      go_wp2_with fail
      exact bodyPost_ret (v := .tuple #[.agg #[.int .i64 0, .int .i64 0, .string ⟨#[]⟩, .string ⟨#[]⟩], .bool false]) (by simp [results, Tryz.results8, go_sem, z0, z1, z2, z3]) rfl ⟨rfl, HT.out⟩
theorem rnum06_any (i o : Int) (n c : Nat) (hn : n = L.length) (h : PIn w B A L) (hm : n ≤ 1000) : Calls Tryz.prog 14 #[.slice A n c, .int .i64 i, .int .i64 o] w fun x w' => x = .returned (.int .i64 (if (getV L i).2 then (getV L i).1.n else o)) ∧ Below w.heap.size w w' := by
  have HG := Lib.hid (rget_any i n c hn h hm)
  obtain ⟨⟨p, b⟩, hq⟩ : ∃ q, q = getV L i := ⟨_, rfl⟩
  rw [← hq] at HG ⊢
  obtain ⟨pi, pn, ps, pv⟩ := p
  clear hq hn h hm
  go_enter Tryz.func14, Tryz.ntmps14
  go_wp2_with fail
  refine HG.out.mono ?_
  rintro x w1 ⟨rfl, hb⟩
  have hbk := Blk.made w1 26 #[.int .i64 pi, .int .i64 pn, .string ps, .string pv]
  have e1 := hbk.cell 1
  have HB := Lib.hid (hb.trans (((Below.refl w1.heap.size w1).alloc (Nat.le_refl _) (.cells #[.int .i64 pi, .int .i64 pn, .string ps, .string pv] 26)).mono hb.size))
  rw [show PV.agg ⟨pi, pn, ps, pv⟩ = .agg #[.int .i64 pi, .int .i64 pn, .string ps, .string pv] from rfl]
  clear hb hbk HG
  cases b with
  | true =>
    go_wp2_with fail
    go_ret
    exact ⟨rfl, HB.out⟩
  | false =>
    go_wp2_with fail
    go_ret
    exact ⟨rfl, HB.out⟩
set_option maxHeartbeats 4000000 in
theorem rplaces_any (i : Int) (w : World) : Calls Tryz.prog 29 #[.int .i64 i] w (PlSays i w) := by
  by_cases h : i ∈ ids06
  · unfold ids06 at h
    simp only [List.mem_cons, List.not_mem_nil, or_false] at h
    rcases h with rfl | rfl | rfl | rfl | rfl | rfl | rfl | rfl | rfl | rfl | rfl | rfl | rfl | rfl | rfl | rfl | rfl | rfl | rfl | rfl | rfl | rfl | rfl | rfl | rfl | rfl | rfl
    all_goals
      go_enter Tryz.func29, Tryz.ntmps29
      go_wp2
      go_ret
      exact ⟨_, _, rfl, ird_made w _ _, (Below.refl _ _).alloc (Nat.le_refl _) _⟩
  · obtain ⟨⟨⟨a1, a2, a3, a4, a5, a6, a7⟩, b1, b2, b3, b4, b5, b6, b7⟩, ⟨c1, c2, c3, c4, c5, c6, c7⟩, d1, d2, d3, d4, d5, d6⟩ := no_ids h
    have HT := Lib.hid (show PlSays i w (.returned (.slice none 0 0)) w from by
      unfold PlSays
      rw [(no_type h).2.1]
      exact ⟨none, 0, rfl, fun hp => absurd hp (by simp), Below.refl _ _⟩)
    clear h
    go_enter Tryz.func29, Tryz.ntmps29
    go_wp2
    go_ret
    exact HT.out
theorem rallowed_any (i p : Int) (w : World) : Calls Tryz.prog 12 #[.int .i64 i, .int .i64 p] w fun x w' => x = .returned (.bool (allowI i p)) ∧ Below w.heap.size w w' := by
  have hln : (placesI i).length ≤ 14 := by
    by_cases h : i ∈ ids06
    · unfold ids06 at h
      simp only [List.mem_cons, List.not_mem_nil, or_false] at h
      rcases h with rfl | rfl | rfl | rfl | rfl | rfl | rfl | rfl | rfl | rfl | rfl | rfl | rfl | rfl | rfl | rfl | rfl | rfl | rfl | rfl | rfl | rfl | rfl | rfl | rfl | rfl | rfl
      all_goals decide
    · rw [(no_type h).2.1]
      decide
  unfold allowI
  obtain ⟨M, hM⟩ : ∃ M, M = placesI i := ⟨_, rfl⟩
  rw [← hM] at hln ⊢
  have HM := Lib.hid hM
  clear hM
  go_enter Tryz.func12, Tryz.ntmps12
  go_wp2_with fail
  refine (rplaces_any i w).mono ?_
  rintro x w1 ⟨a, c, rfl, hr, hb⟩
  rw [← HM.out] at hr ⊢
  have HR := Lib.hid hr
  have HB := Lib.hid hb
  clear hr hb
  obtain ⟨n, hn⟩ : ∃ n, n = M.length := ⟨_, rfl⟩
  rw [← hn] at hln ⊢
  have HN := Lib.hid hn
  clear hn
  go_wp2_with fail
  go_loop [6] (fun j => ∃ k : Nat, k ≤ n ∧ j = .int .i64 k ∧ Hid (∀ j, j < k → M.getD j 0 ≠ p)) (fun j => n - (intOf j).toNat)
  case atStart => exact ⟨0, by omega, rfl, Lib.hid fun j hj => absurd hj (by omega)⟩
  case round =>
    obtain ⟨k, hk, rfl, HJ⟩ := hrel
    by_cases hlt : k < n
    · obtain ⟨g, off, rfl, hc⟩ := HR.out (by have := HN.out; omega)
      have c1 := hc k (by have := HN.out; omega)
      obtain ⟨y, hy⟩ : ∃ y, y = M.getD k 0 := ⟨_, rfl⟩
      rw [← hy] at c1
      have HY := Lib.hid hy
      clear hy hc
      by_cases hv : y = p
      · have HX := Lib.hid (show decide (p ∈ M) = true from decide_eq_true (by
          have hkM : k < M.length := by have := HN.out; omega
          rw [← hv, HY.out, List.getD_eq_getElem?_getD, List.getElem?_eq_getElem hkM]
          exact List.getElem_mem hkM))
        have hvb : (y == p) = true := beq_iff_eq.2 hv
        clear hv
        go_wp2_with fail
        go_ret
        exact ⟨ret_bool HX.out.symm, HB.out⟩
      · have hvb : (y == p) = false := beq_eq_false_iff_ne.2 hv
        have HV := Lib.hid hv
        clear hv
        go_wp2_with fail
        go_round
        case rel => exact ⟨k + 1, by omega, by go_num, Lib.hid fun j hj => by
          rcases Nat.lt_or_eq_of_le (Nat.le_of_lt_succ hj) with h | h
          · exact HJ.out j h
          · rw [h, ← HY.out]; exact HV.out⟩
        case measure => simp [intOf]; omega
    · have HX := Lib.hid (show decide (p ∈ M) = false from decide_eq_false (fun h => by
        obtain ⟨j, hj, e⟩ := List.mem_iff_getElem.1 h
        refine HJ.out j (by have := HN.out; omega) ?_
        rw [List.getD_eq_getElem?_getD, List.getElem?_eq_getElem hj]
        exact e))
      go_wp2_with fail
      go_ret
      exact ⟨ret_bool HX.out.symm, HB.out⟩
set_option maxHeartbeats 2000000 in
theorem rwithout_any (i : Int) (n c : Nat) (hn : n = L.length) (h : PIn w B A L) (hm : n ≤ 1000) : Calls Tryz.prog 17 #[.slice A n c, .int .i64 i] w (WoSays w (woL L i)) := by
  have HN := Lib.hid hn
  have HA := Lib.hid h
  have HI0 : Hid (WoIn w w B A L (.slice none 0 0) (woL (L.take 0) i)) := Lib.hid ⟨PRow.nil _ _, Below.refl _ _⟩
  clear hn h
  go_enter Tryz.func17, Tryz.ntmps17
  go_wp2_with fail
  go_loopw [5, 6] (fun u j wr => ∃ k : Nat, k ≤ n ∧ j = .int .i64 k ∧ Hid (WoIn w wr B A L u (woL (L.take k) i))) (fun _ j _ => n - (intOf j).toNat)
  case atStart => exact ⟨0, by omega, rfl, HI0⟩
  case round =>
    obtain ⟨k, hk, rfl, HI⟩ := hrel
    obtain ⟨av, nv, cv, rfl, hnv, _⟩ := HI.out.row.some_form
    by_cases hlt : k < n
    · have hkL : k < L.length := by have := HN.out; omega
      obtain ⟨g, off, rfl, hc, _⟩ := HA.out (by omega)
      have hcc := hc k hkL
      have hcw := hcc.at (w' := wr) (HI.out.bel.block g (lt_of_cell hcc.c0))
      have hwo := wo_at i hkL
      have hml : (woL (L.take k) i).length ≤ 1000 := by
        have h1 := List.length_filter_le (fun p : PV => !(p.id == i)) (L.take k)
        have h2 : (L.take k).length ≤ k := by rw [List.length_take]; omega
        unfold woL
        omega
      generalize L.getD k p0 = p at *
      obtain ⟨pi, pn, ps, pv⟩ := p
      obtain ⟨c0, c1, c2, c3⟩ := hcw
      have HI1 := Lib.hid HI.out
      by_cases hi : pi = i
      · rw [if_pos hi, List.append_nil] at hwo
        have hb : (pi == i) = true := beq_iff_eq.2 hi
        have HX := Lib.hid (show WoIn w _ B (some ⟨g, off, none⟩) L (.slice av nv cv) (woL (L.take (k + 1)) i) from by rw [hwo]; exact HI1.out)
        clear hwo hml hc hcc HI0 hi hnv
        go_wp2_with fail
        go_roundw
        case rel => exact ⟨k + 1, by omega, by go_num, HX⟩
        case measure => simp [intOf]; omega
      · rw [if_neg hi] at hwo
        have hb : (pi == i) = false := beq_eq_false_iff_ne.2 hi
        have HWO := Lib.hid hwo
        have HS1 := Lib.hid HI1.out.bel.size
        have HML := Lib.hid (show (woL (L.take k) i).length ≤ 100000 from by omega)
        clear hwo hml hc hcc HI0 hi hnv
        go_wp2_with (at_builtin; go_must (refine append_prop ⟨pi, pn, ps, pv⟩ rfl _ _ rfl HI1.out.row HS1.out rfl wr.heap.size 1 rfl rfl HML.out ?_))
        intro v7 w7 hn7
        have HX := Lib.hid (show WoIn w w7 B (some ⟨g, off, none⟩) L v7 (woL (L.take (k + 1)) i) from by rw [HWO.out]; exact HI1.out.app hn7)
        clear hn7
        go_wp2_with fail
        go_roundw
        case rel => exact ⟨k + 1, by omega, by go_num, HX⟩
        case measure => simp [intOf]; omega
    · have HX := Lib.hid (show WoSays w (woL L i) (.returned (.slice av nv cv)) wr from by
        have h1 := HI.out
        rw [List.take_of_length_le (by have := HN.out; omega)] at h1 hnv
        exact ⟨av, nv, cv, rfl, hnv, h1.row, h1.bel⟩)
      clear hnv HI0
      go_wp2_with fail
      go_ret
      exact HX.out
end
end Go.Proofs.YtfojoeafhdiaiaaGreatDoor
