/- What is proved here: what the document's Take answers, beside what is kept. Condition: there are few. -/
import Derived.Test.YtbicoiciapngdaaAct25
namespace Go.Proofs.Ytbicoiciapngdaa
open Go.RowKit Go.Extern.Stop Go.Stop Go.Extern Go.Maps
section
variable {w : World} {B g : Nat} {most : Int} {L : PL} {s : Q25}
theorem two_cells (w : World) (x y : Int) : ∀ (j : Nat) (u : Value), [Value.int IntKind.i64 x, Value.int IntKind.i64 y][j]? = some u → (w.alloc (Obj.cells #[Value.int IntKind.i64 x, Value.int IntKind.i64 y] 92)).cell? ((⟨w.heap.size, 0, none⟩ : Addr).add j) = some u := by
  intro j u hj
  have hb := Blk.made w 92 #[Value.int .i64 x, Value.int .i64 y]
  rcases j with _ | _ | j
  · simp at hj; subst hj; exact hb.cell 0
  · simp at hj; subst hj; simp [Addr.add_lit]
  · simp at hj
theorem two_ones (x y : Int) : ∀ (u : Value), u ∈ [Value.int IntKind.i64 x, Value.int IntKind.i64 y] → u.oneCell' = true := by
  intro u hu
  simp at hu
  rcases hu with rfl | rfl <;> rfl
theorem neari_row {v : Value} {w' : World} (h1 : Blk w g 77 #[.int .i64 most, v]) (h2 : w.ownsRow B 92 2 v L.length (pcells L)) (hB : B ≤ g) (hf : Fr (g :: v.ownBlock.toList) w w') : NearI B g w w' := by
  refine ⟨_, hf, fun b hb => ?_⟩
  rcases List.mem_cons.1 hb with rfl | hb
  · exact ⟨hB, .inl rfl⟩
  · have : v.ownBlock = some b := by cases hv : v.ownBlock with | none => rw [hv] at hb; cases hb | some k => rw [hv] at hb; simp at hb; rw [hb]
    obtain ⟨_, h3, h4⟩ := row_ne h2 h1 (by decide) b this
    exact ⟨h3, .inr h4⟩
theorem pushi_end {v v' : Value} {W w1 : World} {x q : Int} (h1 : Blk w g 77 #[.int .i64 most, v]) (h2 : w.ownsRow B 92 2 v L.length (pcells L)) (hB : B ≤ g) (hW : Fr [] w W) (hg : W.grownBy w1 v.ownBlock) (ho : w1.ownsRow B 92 2 v' (L.length + 1) (pcells L ++ [.int .i64 x, .int .i64 q])) :
    IsRefI (w1.setCell ⟨g, 1, none⟩ v') B g most (L ++ [(x, q)]) ∧ NearI B g w (w1.setCell ⟨g, 1, none⟩ v') := by
  have hb1 : Blk w1 g 77 #[.int .i64 most, v] := (h1.fr hW (by simp)).grown hg (fun e => (row_ne h2 h1 (by decide) g e.symm).1 rfl)
  have hf1 : Fr (g :: v.ownBlock.toList) w w1 := (hW.mono (by simp)).grown hg (fun k hk => .inl (by simp [hk]))
  have hxs : pcells (L ++ [(x, q)]) = pcells L ++ [.int .i64 x, .int .i64 q] := by rw [pcells_app]; rfl
  refine ⟨⟨⟨v', hb1.store 1 v', ?_⟩, hB⟩, neari_row h1 h2 hB (hf1.setCell (.inl (by simp)) _)⟩
  rw [hxs, List.length_append]
  exact row_fr ho (Fr.setCell (X := [g]) (Fr.refl _ _) (.inl (by simp)) _) (fun k hk => by simpa using (row_ne ho hb1 (by decide) k hk).1)
set_option maxHeartbeats 1000000 in
theorem refi_take_bad (h : IsRefI w B g most L) (hs : Same25 s L) (id qos : Int) (hq : qos ≠ 1 ∧ qos ≠ 2) :
    Calls Try.prog 46 #[.pointer (some ⟨g, 0, none⟩), .int .i64 id, .int .i64 qos] w (ThenI w B g most (take25 most s id qos).2 (L.length + 1) (.int .i64 (take25 most s id qos).1)) := by
  have e : take25 most s id qos = (4, s) := by unfold take25; rw [if_pos hq]
  rw [e]
  have HE := Lib.hid (fun v => ThenI.same h hs (n := L.length + 1) (by omega) v)
  have q1 : (qos != 1) = true := by rw [bne_iff_ne]; exact hq.1
  have q2 : (qos != 2) = true := by rw [bne_iff_ne]; exact hq.2
  clear e hq hs h
  go_enter Try.func46, Try.ntmps46
  go_wp2_with fail
  go_ret
  exact HE.out _
set_option maxHeartbeats 1000000 in
theorem refi_take_is (h : IsRefI w B g most L) (hl : L.length ≤ 1000) (hs : Same25 s L) (id qos : Int) (hq : qos = 1 ∨ qos = 2) {k : Nat} (hk : At25 L id k) :
    Calls Try.prog 46 #[.pointer (some ⟨g, 0, none⟩), .int .i64 id, .int .i64 qos] w (ThenI w B g most (take25 most s id qos).2 (L.length + 1) (.int .i64 (take25 most s id qos).1)) := by
  have hvk : s.1 id = (L.getD k (0, 0)).2 := by rw [hs.val]; exact val_at hk
  have hv0 : s.1 id ≠ 0 := by rw [hs.val]; exact fun e => (val_ne_zero hs.tidy).1 e k hk.1 hk.2.1
  have hor := val_or hs.tidy id
  rw [← hs.val] at hor
  have HF := Lib.hid (refi_find h (by omega) id hk)
  have HE := Lib.hid (fun v => ThenI.same h hs (n := L.length + 1) (by omega) v)
  have hk0 : (0 : Int) ≤ (k : Int) := by omega
  have hkl := hk.1
  obtain ⟨⟨v, b1, r1⟩, hB⟩ := h
  have c1 := b1.cell 1
  rcases r1.2 with ⟨rfl, h0⟩ | ⟨gr, cap, cur, rfl, hB2, hh, hlc, hcm, hcs, htk⟩
  · omega
  have c3 : w.cell? ⟨gr, k * 2 + 1, none⟩ = some (.int .i64 (L.getD k (0, 0)).2) := by
    rw [r1.cellAt (k * 2 + 1) (by omega)]
    exact (pcells_get L k hk.1).2
  rw [← hvk] at c3
  have e : take25 most s id qos = if s.1 id = 2 ∧ qos = 2 then (2, s) else (4, s) := by unfold take25; rw [if_neg (by omega), if_pos hv0]
  rw [e]
  generalize s.1 id = y at *
  rcases (show y = 1 ∧ qos = 1 ∨ y = 1 ∧ qos = 2 ∨ y = 2 ∧ qos = 1 ∨ y = 2 ∧ qos = 2 by omega) with ⟨rfl, rfl⟩ | ⟨rfl, rfl⟩ | ⟨rfl, rfl⟩ | ⟨rfl, rfl⟩
  · rw [if_neg (by decide)]
    clear e hvk hk hs b1 r1 hh hcs htk hor hv0 hq
    go_enter Try.func46, Try.ntmps46
    go_wp2_with fail
    refine (HF.out).mono ?_
    rintro e w' ⟨rfl, rfl⟩
    go_wp2_with fail
    go_ret
    exact HE.out _
  · rw [if_neg (by decide)]
    clear e hvk hk hs b1 r1 hh hcs htk hor hv0 hq
    go_enter Try.func46, Try.ntmps46
    go_wp2_with fail
    refine (HF.out).mono ?_
    rintro e w' ⟨rfl, rfl⟩
    go_wp2_with fail
    go_ret
    exact HE.out _
  · rw [if_neg (by decide)]
    clear e hvk hk hs b1 r1 hh hcs htk hor hv0 hq
    go_enter Try.func46, Try.ntmps46
    go_wp2_with fail
    refine (HF.out).mono ?_
    rintro e w' ⟨rfl, rfl⟩
    go_wp2_with fail
    go_ret
    exact HE.out _
  · rw [if_pos (by decide)]
    clear e hvk hk hs b1 r1 hh hcs htk hor hv0 hq
    go_enter Try.func46, Try.ntmps46
    go_wp2_with fail
    refine (HF.out).mono ?_
    rintro e w' ⟨rfl, rfl⟩
    go_wp2_with fail
    go_ret
    exact HE.out _
set_option maxHeartbeats 1000000 in
theorem refi_take_full (h : IsRefI w B g most L) (hl : L.length ≤ 1000) (hs : Same25 s L) (id qos : Int) (hq : qos = 1 ∨ qos = 2) (hn : No25 L id) (hm : most ≤ L.length) :
    Calls Try.prog 46 #[.pointer (some ⟨g, 0, none⟩), .int .i64 id, .int .i64 qos] w (ThenI w B g most (take25 most s id qos).2 (L.length + 1) (.int .i64 (take25 most s id qos).1)) := by
  have hv : s.1 id = 0 := by rw [hs.val]; exact val_no hn
  have e : take25 most s id qos = (3, s) := by unfold take25; rw [if_neg (by omega), if_neg (by simp [hv]), if_pos (by rw [hs.len]; exact hm)]
  rw [e]
  have HF := Lib.hid (refi_find_no h (by omega) id hn)
  have HE := Lib.hid (fun v n => ThenI.drawn h hs (n := L.length + 1) (by omega) v n)
  obtain ⟨⟨v, b1, r1⟩, hB⟩ := h
  have c0 := b1.cell 0
  have c1 := b1.cell 1
  obtain ⟨a, c, rfl⟩ := own_slice r1
  clear e hv hn hs b1 r1
  rcases hq with rfl | rfl
  all_goals
    go_enter Try.func46, Try.ntmps46
    go_wp2_with fail
    refine (HF.out).mono ?_
    rintro e w' ⟨rfl, rfl⟩
    go_wp2_with fail
    go_quiet (fail)
    go_wp2_with fail
    go_ret
    exact HE.out _ _
set_option maxHeartbeats 1000000 in
theorem refi_take_new (h : IsRefI w B g most L) (hBw : B ≤ w.heap.size) (hl : L.length ≤ 1000) (hs : Same25 s L) (id qos : Int) (hq : qos = 1 ∨ qos = 2) (hn : No25 L id) (hm : ¬ most ≤ L.length) :
    Calls Try.prog 46 #[.pointer (some ⟨g, 0, none⟩), .int .i64 id, .int .i64 qos] w (ThenI w B g most (take25 most s id qos).2 (L.length + 1) (.int .i64 (take25 most s id qos).1)) := by
  obtain ⟨i0, hi0, hz0, hz1, hz2⟩ := info_parts Try.pairInfo
  have hv : s.1 id = 0 := by rw [hs.val]; exact val_no hn
  have e : take25 most s id qos = (1, (fun y => if y = id then qos else s.1 y), s.2 + 1) := by unfold take25; rw [if_neg (by omega), if_neg (by simp [hv]), if_neg (by rw [hs.len]; exact hm)]
  rw [e]
  have HS := Lib.hid (hs.on hn hq)
  have HF := Lib.hid (refi_find_no h (by omega) id hn)
  obtain ⟨⟨v, b1, r1⟩, hB⟩ := h
  have c0 := b1.cell 0
  have c1 := b1.cell 1
  have hgl := b1.lt
  obtain ⟨a, c, rfl⟩ := own_slice r1
  have HB := Lib.hid b1
  have HR := Lib.hid r1
  have HZ := Lib.hid (And.intro hB hBw)
  clear e hv hn hs b1 r1 hB hBw
  rcases hq with rfl | rfl
  all_goals
    go_enter Try.func46, Try.ntmps46
    go_wp2_with fail
    refine (HF.out).mono ?_
    rintro e w' ⟨rfl, rfl⟩
    go_wp2_with fail
    go_quiet (fail)
    clear c0 c1
    have HBQ := Lib.hid (HB.out.fr ((Fr.refl [] w).drewN nq) (by simp))
    have HRQ := Lib.hid (row_fr HR.out ((Fr.refl [] w).drewN nq) (by simp))
    have HWQ := Lib.hid ((Fr.refl [] w).drewN nq)
    have hgl' := HBQ.out.lt
    have c1 := HBQ.out.cell 1
    generalize hwq : w.drewN nq = wq at *
    clear hwq
    go_wp2_with (at_builtin; go_loud (refine wpList_append_own _ rfl _ _ 75 rfl B 92 i0 (.agg #[.int .i64 0, .int .i64 0]) 2 16 Try.underlying75 hi0 hz0 hz1 hz2 rfl (by decide) (.slice a L.length c) L.length (pcells L) rfl (HRQ.out.alloc _) ⟨wq.heap.size, 0, none⟩ 1 1 _ rfl rfl (two_cells wq _ _) (two_ones _ _) (by unfold maxLen; omega) (by omega) (Nat.le_trans HZ.out.2 (Nat.le_trans HWQ.out.size ((Fr.refl [] wq).alloc _).size)) ?_))
    intro v' w1 ho hg hnn
    have hb1 : Blk w1 g 77 #[.int .i64 most, .slice a L.length c] := (HBQ.out.alloc _).grown hg (fun e => (row_ne HRQ.out HBQ.out (by decide) g e.symm).1 rfl)
    clear c1
    have c2 := hb1.cell 1
    have f2 := hb1.frozen 1
    have hgl1 := hb1.lt
    have HE := Lib.hid (pushi_end HB.out HR.out HZ.out.1 (HWQ.out.alloc _) hg ho)
    obtain ⟨a2, c2, rfl⟩ := own_slice ho
    clear hnn ho hg hb1
    go_wp2_with fail
    go_ret
    exact ⟨rfl, _, HE.out.1, HS.out, by rw [List.length_append]; exact Nat.le_refl _, HE.out.2⟩
theorem refi_take (h : IsRefI w B g most L) (hBw : B ≤ w.heap.size) (hl : L.length ≤ 1000) (hs : Same25 s L) (id qos : Int) :
    Calls Try.prog 46 #[.pointer (some ⟨g, 0, none⟩), .int .i64 id, .int .i64 qos] w (ThenI w B g most (take25 most s id qos).2 (L.length + 1) (.int .i64 (take25 most s id qos).1)) := by
  by_cases hq : qos ≠ 1 ∧ qos ≠ 2
  · exact refi_take_bad h hs id qos hq
  · have hq' : qos = 1 ∨ qos = 2 := by omega
    rcases at_or_no L id with ⟨k, hk⟩ | hn
    · exact refi_take_is h hl hs id qos hq' hk
    · by_cases hm : most ≤ L.length
      · exact refi_take_full h hl hs id qos hq' hn hm
      · exact refi_take_new h hBw hl hs id qos hq' hn hm
end
end Go.Proofs.Ytbicoiciapngdaa
