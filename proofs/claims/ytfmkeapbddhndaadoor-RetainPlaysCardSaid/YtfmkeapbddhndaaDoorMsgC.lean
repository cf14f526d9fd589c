/- What is proved here: copies of properties and of messages, and whether a message's time has come. Conditions: the properties stand where the slice says; few of them. -/
import Derived.Test.YtfmkeapbddhndaaDoorMsg
namespace Go.Proofs.YtfmkeapbddhndaaDoor
open Go.RowKit Go.Extern.Stop Go.Stop Go.Extern
set_option maxRecDepth 100000
def CloneSays (w : World) (L : PL) (x : Ending) (w' : World) : Prop := ∃ v', x = .returned v' ∧ PRow w' w.heap.size v' L ∧ Below w.heap.size w w'
/-- A copy of a message, as a call answers it. -/
def CopySays (w : World) (q : QV) (x : Ending) (w' : World) : Prop := ∃ pa pc, x = .returned (QV.agg ⟨q.m, pa, pc⟩) ∧ PIn w' 0 pa q.m.props ∧ Below w.heap.size w w'
def exB (til now : Int) : Bool := decide (0 < til) && decide (til ≤ now)
section
variable {w w' : World} {B : Nat} {L : PL}
theorem clone_props {A : Option Addr} {cp : Nat} (h : PIn w B A L) (hm : L.length ≤ 1000) : Calls Tryd.prog 75 #[.slice A L.length cp] w (CloneSays w L) := by
  obtain ⟨i0, hi0, hz0, hz1, hz2⟩ := info_parts Tryd.propInfo
  have q26 : ∀ (w : World) (a : Option Addr) (n c n' c' : Nat), (binOp .eql 55 (.slice a n c) (.slice none n' c')).run Tryd.prog w = .ok (.bool a.isNone) w := fun w a n c n' c' => Lib.run_eql_slice_nil w _ _ a n c n' c' Tryd.underlying55
  cases A with
  | none =>
    have hl : L = [] := List.eq_nil_of_length_eq_zero (by
      rcases Nat.eq_zero_or_pos L.length with h0 | h0
      · exact h0
      · obtain ⟨g, off, e, _⟩ := h h0; cases e)
    subst hl
    clear h hm
    go_enter Tryd.func75, Tryd.ntmps75
    go_wp2_with fail
    go_ret
    exact ⟨_, rfl, PRow.nil _ _, Below.refl _ _⟩
  | some ad =>
    have hne := Lib.hid ((h.alloc (.cells #[] 109)).news)
    clear h
    go_enter Tryd.func75, Tryd.ntmps75
    go_wp2_with (at_builtin; go_must (refine wpList_append_own _ rfl _ _ 55 rfl w.heap.size 109 i0 (.agg #[.int .i64 0, .int .i64 0, .string ⟨#[]⟩, .string ⟨#[]⟩]) 4 48 Tryd.underlying55 hi0 hz0 hz1 hz2 rfl (by decide) _ 0 [] rfl (World.ownsRow_made w #[] 0 (Nat.le_refl _) (Nat.zero_le _) (by simp)) ad L.length cp (pcs L) rfl (pcs_len L) hne.out (pcs_ones L) (by unfold maxLen; omega) (by omega) (by simp) ?_))
    intro v' w1 ho hg _
    have HO := Lib.hid (show w1.ownsRow w.heap.size 109 4 v' L.length (pcs L) by simpa using ho)
    have HB := Lib.hid (show Below w.heap.size w w1 from (Fr.later (X := [w.heap.size]) ((Fr.refl _ (w.alloc (.cells #[] 109))).grown hg (fun k hk => .inl (by rw [← Option.some.inj hk]; exact List.mem_singleton_self _))) ((Below.refl w.heap.size w).alloc (Nat.le_refl _) _) (by simp) (by simp)))
    clear ho hg
    go_wp2_with fail
    go_ret
    exact ⟨_, rfl, HO.out, HB.out⟩
theorem msg_fr {A : Option Addr} {w1 : World} {g : Nat} {cs : Array Value} (h : PIn w1 B A L) (hb : Blk w1 g 57 cs) (hB : B ≤ g) (i : Nat) (u : Value) : PIn (w1.setCell ⟨g, i, none⟩ u) B A L :=
  h.fr (X := [g]) ((Fr.refl [g] w1).setCell (p := ⟨g, i, none⟩) (.inl (List.mem_singleton_self g)) u) fun k hk => by
    rw [List.mem_singleton] at hk
    subst hk
    exact ⟨hB, fun cs' hh => by
      unfold Blk at hb
      rw [hb] at hh
      injection hh with hh
      injection hh with _ ht
      exact absurd ht (by decide)⟩
/-- A message's cells stored one by one. -/
def put9 (W : World) (g : Nat) (u0 u1 u2 u3 u4 u5 u6 u7 u8 : Value) : World :=
  ((((((((W.setCell ⟨g, 0, none⟩ u0).setCell ⟨g, 1, none⟩ u1).setCell ⟨g, 2, none⟩ u2).setCell ⟨g, 3, none⟩ u3).setCell ⟨g, 4, none⟩ u4).setCell ⟨g, 5, none⟩ u5).setCell ⟨g, 6, none⟩ u6).setCell ⟨g, 7, none⟩ u7).setCell ⟨g, 8, none⟩ u8
section
variable {W : World} {g : Nat} {t : TypeId} {z0 z1 z2 z3 z4 z5 z6 z7 z8 : Value}
theorem put9_blk (h : Blk W g t #[z0, z1, z2, z3, z4, z5, z6, z7, z8]) (u0 u1 u2 u3 u4 u5 u6 u7 u8 : Value) : Blk (put9 W g u0 u1 u2 u3 u4 u5 u6 u7 u8) g t #[u0, u1, u2, u3, u4, u5, u6, u7, u8] := by
  have hh := ((((((((h.store 0 u0).store 1 u1).store 2 u2).store 3 u3).store 4 u4).store 5 u5).store 6 u6).store 7 u7).store 8 u8
  simp only [List.setIfInBounds_toArray, List.set_cons_zero, List.set_cons_succ] at hh
  exact hh
theorem put9_fr (W : World) (g : Nat) (u0 u1 u2 u3 u4 u5 u6 u7 u8 : Value) : Fr [g] W (put9 W g u0 u1 u2 u3 u4 u5 u6 u7 u8) := by
  have h : ∀ {V : World}, Fr [g] W V → ∀ i u, Fr [g] W (V.setCell ⟨g, i, none⟩ u) := fun hf i u => hf.setCell (p := ⟨g, i, none⟩) (.inl (List.mem_singleton_self g)) u
  exact h (h (h (h (h (h (h (h (h (Fr.refl _ _) 0 u0) 1 u1) 2 u2) 3 u3) 4 u4) 5 u5) 6 u6) 7 u7) 8 u8
theorem put9_below {w : World} (h : Below w.heap.size w W) (hg : w.heap.size ≤ g) (u0 u1 u2 u3 u4 u5 u6 u7 u8 : Value) : Below w.heap.size w (put9 W g u0 u1 u2 u3 u4 u5 u6 u7 u8) :=
  (put9_fr W g u0 u1 u2 u3 u4 u5 u6 u7 u8).later h (fun b hb => by rw [List.mem_singleton] at hb; rw [hb]; exact hg) h.size
theorem put9_pin {B : Nat} {A : Option Addr} {L : PL} (h : PIn W 0 A L) {cs : Array Value} (hb : Blk W g 57 cs) (u0 u1 u2 u3 u4 u5 u6 u7 u8 : Value) : PIn (put9 W g u0 u1 u2 u3 u4 u5 u6 u7 u8) B A L :=
  (h.fr (put9_fr W g u0 u1 u2 u3 u4 u5 u6 u7 u8) (fun k hk => by
    rw [List.mem_singleton] at hk
    subst hk
    exact ⟨Nat.zero_le _, fun cs' hh => hb.other hh (by decide) rfl⟩)).mono (Nat.zero_le _)
end
def zq : Array Value := #[.string ⟨#[]⟩, .string ⟨#[]⟩, .int .i64 0, .bool false, .slice none 0 0, .string ⟨#[]⟩, .int .i64 0, .int .i64 0, .string ⟨#[]⟩]
set_option maxHeartbeats 1000000 in
theorem copy_any (q : QV) (h : PIn w B q.pa q.m.props) (hm : q.m.props.length ≤ 1000) : Calls Tryd.prog 56 #[q.agg] w (CopySays w q) := by
  have hb0 : Below w.heap.size w ((w.alloc (.cells q.cells.toArray 57)).alloc (.cells zq 57)) := ((Below.refl _ _).alloc (Nat.le_refl _) _).alloc (by simp) _
  have HC := Lib.hid (clone_props (cp := q.pc) (h.below hb0) hm)
  have HM := Lib.hid ((Blk.made w 57 q.cells.toArray).alloc (.cells zq 57))
  have HZ := Lib.hid (show Blk ((w.alloc (.cells q.cells.toArray 57)).alloc (.cells zq 57)) (w.heap.size + 1) 57 zq from by
    have := Blk.made (w.alloc (.cells q.cells.toArray 57)) 57 zq
    simpa using this)
  have HB0 := Lib.hid hb0
  have hsz : ((w.alloc (.cells q.cells.toArray 57)).alloc (.cells zq 57)).heap.size = w.heap.size + 2 := by simp
  have HSZ := Lib.hid hsz
  have HPS := Lib.hid (show ∀ pa pc W', PIn W' 0 pa q.m.props → Below w.heap.size w W' → CopySays w q (.returned (QV.agg ⟨q.m, pa, pc⟩)) W' from fun pa pc _ h1 h2 => ⟨pa, pc, rfl, h1, h2⟩)
  clear h hb0 hsz
  generalize CopySays w q = PS at *
  unfold QV.agg at *
  unfold QV.cells zq at *
  obtain ⟨⟨m1, m2, m3, m4, ml, m6, m7, m8, m9⟩, pa, pc⟩ := q
  dsimp only at *
  obtain ⟨n, hn⟩ : ∃ n, n = ml.length := ⟨_, rfl⟩
  rw [← hn] at HC HM HZ HB0 HSZ HPS hm ⊢
  have HN := Lib.hid hn
  clear hn
  go_enter Tryd.func56, Tryd.ntmps56
  go_wp2_with fail
  refine HC.out.mono ?_
  rintro x w1 ⟨v', rfl, hrow, hb⟩
  obtain ⟨pa', pc', rfl⟩ := hrow.form
  have hblk := HM.out.below hb HM.out.lt
  have hblz := HZ.out.below hb HZ.out.lt
  rw [← HN.out]
  have hz1 := hblz.far (p := ⟨w.heap.size, 4, none⟩) (by simp) (.slice pa' n pc')
  have HP := Lib.hid (put9_pin (B := 0) (msg_fr (B := 0) hrow.pin hblk (Nat.zero_le _) 4 (.slice pa' n pc')) hz1 (.string m1) (.string m2) (.int .i64 m3) (.bool m4) (.slice pa' n pc') (.string m6) (.int .i64 m7) (.int .i64 m8) (.string m9))
  have HZE := Lib.hid (put9_blk hz1 (.string m1) (.string m2) (.int .i64 m3) (.bool m4) (.slice pa' n pc') (.string m6) (.int .i64 m7) (.int .i64 m8) (.string m9))
  have HBB := Lib.hid (show Below w.heap.size w (put9 (w1.setCell ⟨w.heap.size, 4, none⟩ (.slice pa' n pc')) (w.heap.size + 1) (.string m1) (.string m2) (.int .i64 m3) (.bool m4) (.slice pa' n pc') (.string m6) (.int .i64 m7) (.int .i64 m8) (.string m9)) from put9_below ((HB0.out.trans (hb.mono HB0.out.size)).setCell (Nat.le_refl _) _) (Nat.le_succ _) _ _ _ _ _ _ _ _ _)
  have k0 := hblk.cell 0
  have k1 := hblk.cell 1
  have k2 := hblk.cell 2
  have k3 := hblk.cell 3
  have k4 := hblk.cell 4
  have k5 := hblk.cell 5
  have k6 := hblk.cell 6
  have k7 := hblk.cell 7
  have k8 := hblk.cell 8
  have kf := hblk.frozen 4
  have z0 := hblz.cell 0
  have z1 := hblz.cell 1
  have z2 := hblz.cell 2
  have z3 := hblz.cell 3
  have z4 := hblz.cell 4
  have z5 := hblz.cell 5
  have z6 := hblz.cell 6
  have z7 := hblz.cell 7
  have z8 := hblz.cell 8
  have zf := fun i => hblz.frozen i
  simp only [List.getElem?_toArray, List.getElem?_cons_zero, List.getElem?_cons_succ] at k0 k1 k2 k3 k4 k5 k6 k7 k8 z0 z1 z2 z3 z4 z5 z6 z7 z8
  clear hrow hb hblk hblz HC hz1
  go_wp2_with fail
  change bodyPost _ _ _ _ _ (put9 (w1.setCell ⟨w.heap.size, 4, none⟩ (.slice pa' n pc')) (w.heap.size + 1) (.string m1) (.string m2) (.int .i64 m3) (.bool m4) (.slice pa' n pc') (.string m6) (.int .i64 m7) (.int .i64 m8) (.string m9))
  have y0 := HZE.out.cell 0
  have y1 := HZE.out.cell 1
  have y2 := HZE.out.cell 2
  have y3 := HZE.out.cell 3
  have y4 := HZE.out.cell 4
  have y5 := HZE.out.cell 5
  have y6 := HZE.out.cell 6
  have y7 := HZE.out.cell 7
  have y8 := HZE.out.cell 8
  have HPF := Lib.hid (HPS.out pa' pc' _ HP.out HBB.out)
  clear HP HBB HZE k0 k1 k2 k3 k4 k5 k6 k7 k8 z0 z1 z2 z3 z4 z5 z6 z7 z8 kf zf
  generalize put9 _ _ _ _ _ _ _ _ _ _ _ = W at *
  exact bodyPost_ret (v := .agg #[.string m1, .string m2, .int .i64 m3, .bool m4, .slice pa' n pc', .string m6, .int .i64 m7, .int .i64 m8, .string m9]) (by simp [results, Tryd.results56, go_sem, y0, y1, y2, y3, y4, y5, y6, y7, y8]) rfl HPF.out
theorem expired_any (q : QV) (now : Int) (w : World) : Calls Tryd.prog 57 #[q.agg, .int .i64 now] w fun x w' => x = .returned (.bool (exB q.m.til now)) ∧ Below w.heap.size w w' := by
  have HB := Lib.hid ((Below.refl w.heap.size w).alloc (Nat.le_refl _) (.cells q.cells.toArray 57))
  unfold QV.agg exB
  unfold QV.cells at *
  obtain ⟨⟨m1, m2, m3, m4, ml, m6, til, m8, m9⟩, pa, pc⟩ := q
  dsimp only at *
  by_cases h1 : 0 < til
  · by_cases h2 : til ≤ now
    · have e1 : decide (0 < til) = true := decide_eq_true h1
      have e2 : decide (til ≤ now) = true := decide_eq_true h2
      rw [e1, e2]
      go_enter Tryd.func57, Tryd.ntmps57
      go_wp2_with fail
      go_ret
      exact ⟨rfl, HB.out⟩
    · have e1 : decide (0 < til) = true := decide_eq_true h1
      have e2 : decide (til ≤ now) = false := decide_eq_false h2
      rw [e1, e2]
      go_enter Tryd.func57, Tryd.ntmps57
      go_wp2_with fail
      go_ret
      exact ⟨rfl, HB.out⟩
  · have e1 : decide (0 < til) = false := decide_eq_false h1
    rw [e1, Bool.false_and]
    go_enter Tryd.func57, Tryd.ntmps57
    go_wp2_with fail
    go_ret
    exact ⟨rfl, HB.out⟩
end
end Go.Proofs.YtfmkeapbddhndaaDoor
