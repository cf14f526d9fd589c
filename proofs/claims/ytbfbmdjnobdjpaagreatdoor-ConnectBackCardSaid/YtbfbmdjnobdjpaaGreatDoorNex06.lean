/- What is proved here: a property that comes behind others is read. Conditions: the reader is there, the others stand where the slice says, few of them; what the rows list of the package's variables. -/
import Derived.Test.YtbfbmdjnobdjpaaGreatDoorFil06
namespace Go.Proofs.YtbfbmdjnobdjpaaGreatDoor
set_option maxRecDepth 100000
open Go.RowKit Go.Extern.Stop Go.Stop Go.Extern
/-- A property that is read: the error's number, its reason, and where it is; the property, and the reader. -/
structure NR where
  no : Nat
  r : Int
  at_ : Nat
  p : PV
  R2 : RV
def nextF (place : Int) (L : PL) (base : Nat) (s : ByteArray) (R : RV) : NR :=
  if (rVar s R).2.no = 0 then
    if (idErr place L (rVar s R).1).1 = 0 then
      if (valF (rVar s R).1 s (rVar s R).2).2.no = 0 then
        if numI (valF (rVar s R).1 s (rVar s R).2).1.id (valF (rVar s R).1 s (rVar s R).2).1.n = true then ⟨0, 0, 0, (valF (rVar s R).1 s (rVar s R).2).1, (valF (rVar s R).1 s (rVar s R).2).2⟩ else ⟨3, 130, base + R.p, p0, (valF (rVar s R).1 s (rVar s R).2).2⟩
      else ⟨(valF (rVar s R).1 s (rVar s R).2).2.no, 129, (valF (rVar s R).1 s (rVar s R).2).2.ea + base, p0, (valF (rVar s R).1 s (rVar s R).2).2⟩
    else ⟨(idErr place L (rVar s R).1).1, (idErr place L (rVar s R).1).2, base + R.p, p0, (rVar s R).2⟩
  else ⟨(rVar s R).2.no, 129, (rVar s R).2.ea + base, p0, (rVar s R).2⟩
/-- Where an error of a reader is. -/
def EaOk (s : ByteArray) (R : RV) : Prop := R.no ≠ 0 → R.ea ≤ s.size + 70000
theorem ea_take {s : ByteArray} {R : RV} (n : Nat) (h : EaOk s R) : EaOk s (rTake s n R).2 := by
  unfold rTake
  split
  · split
    · intro _; show s.size ≤ _; omega
    · intro h; exact absurd rfl h
  · exact h
theorem ea_num {s : ByteArray} {R : RV} (n : Nat) (h : EaOk s R) : EaOk s (rNum s n R).2 := ea_take n h
theorem ea_var {s : ByteArray} {R : RV} (h : EaOk s R) (hp : R.p ≤ s.size) : EaOk s (rVar s R).2 := by
  unfold rVar
  split
  · unfold rVarOf
    split
    · intro h; exact absurd rfl h
    · intro _
      have := (vt_bd (s.extract R.p s.size) 4 0 0 1 (Nat.zero_le _)).2
      simp at this
      show R.p + _ ≤ _
      omega
  · exact h
theorem ea_bin {s : ByteArray} {R : RV} (h : EaOk s R) : EaOk s (rBin s R).2 := by
  have h1 := ea_take (rNum s 2 R).1 (ea_num 2 h)
  unfold rBin
  simp only
  split
  · exact h1
  · exact h1
theorem ea_text {s : ByteArray} {R : RV} (h : EaOk s R) (hp : R.p ≤ s.size) : EaOk s (rText s R).2 := by
  unfold rText
  split
  · exact ea_bin h
  · intro _
    have := check_at (rBin s R).1
    show R.p + 2 + _ ≤ _
    omega
theorem p_take {s : ByteArray} {R : RV} (n : Nat) (hp : R.p ≤ s.size) : (rTake s n R).2.p ≤ s.size := (rTake_le hp).1
theorem p_bin {s : ByteArray} {R : RV} (hp : R.p ≤ s.size) : (rBin s R).2.p ≤ s.size := by
  unfold rBin
  simp only
  split
  · exact p_take _ (p_take _ hp)
  · exact hp
theorem p_text {s : ByteArray} {R : RV} (hp : R.p ≤ s.size) : (rText s R).2.p ≤ s.size := by
  unfold rText
  split
  · exact p_bin hp
  · exact hp
theorem snd_of {α β : Type} {x : α × β} {a : α} {b : β} (h : x = (a, b)) : x.2 = b := by rw [h]
theorem ea_val {s : ByteArray} {R : RV} (i : Int) (h : EaOk s R) (hp : R.p ≤ s.size) : EaOk s (valF i s R).2 := by
  rcases typeI_vals i with ht | ht | ht | ht | ht | ht | ht | ht
  · rw [show (valF i s R).2 = R from snd_of (val_0 s R ht)]; exact h
  · rw [show (valF i s R).2 = (rNum s 1 R).2 from snd_of (val_1 s R ht)]; exact ea_num 1 h
  · rw [show (valF i s R).2 = (rNum s 2 R).2 from snd_of (val_2 s R ht)]; exact ea_num 2 h
  · rw [show (valF i s R).2 = (rNum s 4 R).2 from snd_of (val_4 s R ht)]; exact ea_num 4 h
  · rw [show (valF i s R).2 = (rVar s R).2 from snd_of (val_5 s R ht)]; exact ea_var h hp
  · rw [show (valF i s R).2 = (rText s R).2 from snd_of (val_6 s R ht)]; exact ea_text h hp
  · rw [show (valF i s R).2 = (rBin s R).2 from snd_of (val_7 s R ht)]; exact ea_bin h
  · rw [show (valF i s R).2 = (rText s (rText s R).2).2 from snd_of (val_9 s R ht)]; exact ea_text (ea_text h hp) (p_text hp)
/-- What next holds. -/
structure NxIn (z w W : World) (S : Nat → Addr) (g rb : Nat) (s : ByteArray) (R : RV) : Prop where
  obj : RObj W S g s R
  rbox : Blk W rb 121 #[.int .i64 0, .int .i64 0, .string ⟨#[]⟩, .string ⟨#[]⟩]
  bel : Below z.heap.size z W
  fr : Fr [g] w W
  gz : z.heap.size ≤ g
  rz : w.heap.size ≤ rb
  wz : z.heap.size ≤ w.heap.size
section
variable {z w W W' : World} {S : Nat → Addr} {g rb bx : Nat} {s : ByteArray} {R R' : RV} {p : PV} {A : Option Addr} {L : PL}
theorem NxIn.ne (h : NxIn z w W S g rb s R) : g ≠ rb := by
  obtain ⟨e, hb, _⟩ := h.obj.blk
  exact hb.other h.rbox (by decide)
theorem NxIn.below (h : NxIn z w W S g rb s R) (hb : Below W.heap.size W W') : NxIn z w W' S g rb s R :=
  ⟨h.obj.below hb, h.rbox.below hb h.rbox.lt, h.bel.trans (hb.mono h.bel.size), h.fr.trans (Y := []) (Fr.of_below hb) (fun k hk => by cases hk), h.gz, h.rz, h.wz⟩
theorem NxIn.step (h : NxIn z w W S g rb s R) (hn : RNext W W' S g s R') : NxIn z w W' S g rb s R' := by
  refine ⟨hn.obj, h.rbox.fr hn.fr fun hm => ?_, hn.later h.gz h.bel.size h.bel, h.fr.trans hn.fr fun k hk _ => hk, h.gz, h.rz, h.wz⟩
  rw [List.mem_singleton] at hm
  exact h.ne hm.symm
theorem NxIn.filled (h : NxIn z w W S g rb s R) (hf : FlIn z W W' S g bx s R' p) (hb : w.heap.size ≤ bx) (hr : rb < bx) : NxIn z w W' S g rb s R' := by
  refine ⟨hf.obj, h.rbox.fr hf.fr fun hm => ?_, hf.bel, h.fr.trans hf.fr fun k hk hlt => ?_, h.gz, h.rz, h.wz⟩
  · rcases List.mem_cons.1 hm with e | hm
    · exact h.ne e.symm
    · rw [List.mem_singleton] at hm
      omega
  · rcases List.mem_cons.1 hk with e | hk
    · rw [e]; exact List.mem_cons_self ..
    · rw [List.mem_singleton] at hk
      omega
theorem NxIn.rd {R0 : RV} (h : NxIn z w W S g rb s R) (ho : RObj w S g s R0) (hp : PIn w z.heap.size A L) : PIn W z.heap.size A L := hp.fr h.fr fun k hk => by
  rw [List.mem_singleton] at hk
  subst hk
  refine ⟨h.gz, fun cs hc => ?_⟩
  obtain ⟨e, hb, _⟩ := ho.blk
  exact hb.other hc (by decide) rfl
/-- The answer is stored. -/
theorem NxIn.stored {no a : Nat} {r : Int} {e : Value} (h : NxIn z w W S g rb s R) (he : ErrOf W S r no a e) (p : PV) :
    (RObj ((((W.setCell ⟨rb, 0, none⟩ (.int .i64 p.id)).setCell ⟨rb, 1, none⟩ (.int .i64 p.n)).setCell ⟨rb, 2, none⟩ (.string p.s)).setCell ⟨rb, 3, none⟩ (.string p.v)) S g s R ∧ ErrOf ((((W.setCell ⟨rb, 0, none⟩ (.int .i64 p.id)).setCell ⟨rb, 1, none⟩ (.int .i64 p.n)).setCell ⟨rb, 2, none⟩ (.string p.s)).setCell ⟨rb, 3, none⟩ (.string p.v)) S r no a e) ∧
    Fr [g] w ((((W.setCell ⟨rb, 0, none⟩ (.int .i64 p.id)).setCell ⟨rb, 1, none⟩ (.int .i64 p.n)).setCell ⟨rb, 2, none⟩ (.string p.s)).setCell ⟨rb, 3, none⟩ (.string p.v)) := by
  have hf : Fr [rb] W ((((W.setCell ⟨rb, 0, none⟩ (.int .i64 p.id)).setCell ⟨rb, 1, none⟩ (.int .i64 p.n)).setCell ⟨rb, 2, none⟩ (.string p.s)).setCell ⟨rb, 3, none⟩ (.string p.v)) :=
    ((((Fr.refl [rb] W).setCell (p := ⟨rb, 0, none⟩) (.inl (List.mem_singleton_self _)) _).setCell (p := ⟨rb, 1, none⟩) (.inl (List.mem_singleton_self _)) _).setCell (p := ⟨rb, 2, none⟩) (.inl (List.mem_singleton_self _)) _).setCell (p := ⟨rb, 3, none⟩) (.inl (List.mem_singleton_self _)) _
  have hX : NoF W [rb] := NoF.of fun k hk => by
    rw [List.mem_singleton] at hk
    rw [hk]
    exact ⟨_, _, h.rbox, by decide⟩
  refine ⟨⟨h.obj.fr hf (fun hm => ?_) hX, err_fr he hf hX⟩, h.fr.trans hf fun k hk hlt => ?_⟩
  · rw [List.mem_singleton] at hm
    exact h.ne hm
  · rw [List.mem_singleton] at hk
    have := h.rz
    omega
def NxSays (w : World) (S : Nat → Addr) (g : Nat) (s : ByteArray) (q : NR) (x : Ending) (w' : World) : Prop := ∃ e, x = .returned (.tuple #[q.p.agg, e]) ∧ ErrOf w' S q.r q.no q.at_ e ∧ RNext w w' S g s q.R2
set_option maxHeartbeats 4000000 in
theorem pnext_any (hE : Env z S) (hz : Below z.heap.size z w) (hg : z.heap.size ≤ g) (ho : RObj w S g s R) (hs : s.size ≤ 900000) (hea : EaOk s R) (place : Int) (n c base : Nat) (hn : n = L.length) (hp : PIn w z.heap.size A L) (hm : n ≤ 1000) (hbase : base ≤ 900000) :
    Calls Tryz.prog 148 #[.pointer (some ⟨g, 0, none⟩), .int .i64 place, .slice A n c, .int .i64 (base : Int)] w (NxSays w S g s (nextF place L base s R)) := by
  obtain ⟨q, hq⟩ : ∃ q, q = nextF place L base s R := ⟨_, rfl⟩
  rw [← hq]
  unfold nextF at hq
  have hb0 : Below w.heap.size w (w.alloc (.cells #[.int .i64 0, .int .i64 0, .string ⟨#[]⟩, .string ⟨#[]⟩] 121)) := (Below.refl _ _).alloc (Nat.le_refl _) _
  have hi0 : NxIn z w (w.alloc (.cells #[.int .i64 0, .int .i64 0, .string ⟨#[]⟩, .string ⟨#[]⟩] 121)) S g w.heap.size s R := ⟨ho.below hb0, Blk.made w _ _, hz.trans (hb0.mono hz.size), Fr.of_below hb0, hg, Nat.le_refl _, hz.size⟩
  have HI0 := Lib.hid hi0
  have HAT := Lib.hid (rat_any hi0.obj)
  have HV := Lib.hid (rvar_any (hE.later hi0.bel) hi0.obj hs)
  have HE := Lib.hid hE
  have HO := Lib.hid ho
  have HP := Lib.hid hp
  have HN := Lib.hid hn
  have hp0 := ho.le
  have he1 := ea_var hea hp0
  have hpp : R.p ≤ 900000 := by omega
  obtain ⟨⟨i, R1⟩, hv⟩ : ∃ V, V = rVar s R := ⟨_, rfl⟩
  rw [← hv] at hq HV he1
  simp only at hq he1
  have HQ := Lib.hid hq
  have HEA := Lib.hid he1
  have hsum : IntKind.i64.wrap ((base : Int) + (R.p : Int)) = ((base + R.p : Nat) : Int) := by rw [IntWalk.i64_in _ (by omega)]; omega
  generalize hat : base + R.p = at_ at *
  obtain ⟨rp, hrp⟩ : ∃ rp, rp = R.p := ⟨_, rfl⟩
  rw [← hrp] at HAT hsum
  have hrp9 : rp ≤ 900000 := by omega
  clear hE hz hg ho hea hn hp hq hi0 hb0 hv he1 hp0 hpp hrp hat
  go_enter Tryz.func148, Tryz.ntmps148
  go_wp2_with fail
  refine HAT.out.mono ?_
  rintro x w1 ⟨rfl, rfl⟩
  go_wp2_with fail
  refine HV.out.mono ?_
  rintro x w1 ⟨rfl, hN⟩
  have hi1 := HI0.out.step hN
  have hb1 : Below w1.heap.size w1 (w1.alloc (.cells #[.int .i64 i, .int .i64 0, .string ⟨#[]⟩, .string ⟨#[]⟩] 121)) := (Below.refl _ _).alloc (Nat.le_refl _) _
  have hi2 := hi1.below hb1
  have hbk := Blk.made w1 121 #[.int .i64 i, .int .i64 0, .string ⟨#[]⟩, .string ⟨#[]⟩]
  have hbx1 : w.heap.size ≤ w1.heap.size := hi1.fr.size
  have hbx2 : w.heap.size < w1.heap.size := hi1.rbox.lt
  have e0 := hbk.cell 0
  have HI2 := Lib.hid hi2
  have HBK := Lib.hid hbk
  have HRE := Lib.hid (rerr_any hi2.obj)
  clear hN hi1 hb1 hi2 hbk HAT HV HI0
  go_wp2_with fail
  refine HRE.out.mono ?_
  rintro x w2 ⟨e2, rfl, he2, rfl⟩
  by_cases h1 : R1.no = 0
  · unfold ErrOf at he2
    rw [if_pos h1] at he2
    subst he2
    have hq := HQ.out
    rw [if_pos h1] at hq
    have HQ1 := Lib.hid hq
    clear hq
    have HC := Lib.hid (checkId_any (HE.out.later HI2.out.bel) place i at_ n c HN.out (HI2.out.rd HO.out HP.out) hm)
    clear HRE
    go_wp2_with fail
    refine HC.out.mono ?_
    rintro x w3 ⟨e3, rfl, he3, hb3⟩
    have hi3 := HI2.out.below hb3
    have hq := HQ1.out
    by_cases h2 : (idErr place L i).1 = 0
    · rw [if_pos h2] at hq
      unfold ErrOf at he3
      rw [if_pos h2] at he3
      subst he3
      have hbx3 := HBK.out.below hb3 HBK.out.lt
      have hzw : z.heap.size ≤ w1.heap.size := Nat.le_trans hi3.wz hbx1
      have hfl : FlIn z w3 w3 S g w1.heap.size s R1 ⟨i, 0, ⟨#[]⟩, ⟨#[]⟩⟩ := ⟨hi3.obj, hbx3, hi3.bel, Fr.refl _ _, hi3.gz, hzw⟩
      have HFA := Lib.hid (fill_any HE.out i hfl hs)
      have hR1 := hi3.obj.le
      have hea2 := ea_val i HEA.out hR1
      have HI3 := Lib.hid hi3
      obtain ⟨⟨⟨pi, pn, ps, pv⟩, R2⟩, hF⟩ : ∃ F, F = valF i s R1 := ⟨_, rfl⟩
      rw [← hF] at HFA hq hea2
      simp only at HFA hq hea2
      have HQ3 := Lib.hid hq
      have HEA2 := Lib.hid hea2
      clear hq hb3 hi3 hbx3 hfl hea2 hF HC hzw hR1
      go_wp2_with fail
      refine HFA.out.mono ?_
      rintro x w4 ⟨rfl, hf4⟩
      have hi4 := HI3.out.filled hf4 hbx1 hbx2
      have HI4 := Lib.hid hi4
      have HF4 := Lib.hid hf4.box
      have HRE4 := Lib.hid (rerr_any hi4.obj)
      clear hi4 hf4 HFA
      go_wp2_with fail
      refine HRE4.out.mono ?_
      rintro x w5 ⟨e5, rfl, he5, rfl⟩
      by_cases h3 : R2.no = 0
      · unfold ErrOf at he5
        rw [if_pos h3] at he5
        subst he5
        have hq := HQ3.out
        rw [if_pos h3] at hq
        have HQ5 := Lib.hid hq
        clear hq
        have b0 := HF4.out.cell 0
        have b1 := HF4.out.cell 1
        have b2 := HF4.out.cell 2
        have b3 := HF4.out.cell 3
        have HCN := Lib.hid (cnum_any (HE.out.later HI4.out.bel) ⟨pi, pn, ps, pv⟩ at_)
        clear HRE4
        go_wp2_with fail
        refine HCN.out.mono ?_
        rintro x w6 ⟨e6, rfl, he6, hb6⟩
        have hi6 := HI4.out.below hb6
        have hq := HQ5.out
        cases hnum : numI pi pn with
        | true =>
          rw [hnum, if_pos rfl] at he6
          rw [hnum, if_pos rfl] at hq
          unfold ErrOf at he6
          rw [if_pos rfl] at he6
          subst he6
          have hbx6 := HF4.out.below hb6 HF4.out.lt
          have g0 := hbx6.cell 0
          have g1 := hbx6.cell 1
          have g2 := hbx6.cell 2
          have g3 := hbx6.cell 3
          have HQ2 := Lib.hid hq
          have HNE : Hid (ErrOf w6 S 0 0 0 .nilIface) := Lib.hid ErrOf.none
          obtain ⟨⟨q0, q1, q2, q3, p0', p1', p2', p3'⟩, ⟨x1, y1, x2, y2, x3, y3⟩, ⟨k2, l2, k3, l3, m3, n3⟩, z0, z1, z2, z3⟩ := box4 hi6.rbox (.int .i64 pi) (.int .i64 pn) (.string ps) (.string pv)
          have HX := Lib.hid (hi6.stored HNE.out ⟨pi, pn, ps, pv⟩)
          clear hi6 hb6 hbx6 hnum hq HCN
          go_wp2_with fail
          refine bodyPost_ret (v := .tuple #[.agg #[.int .i64 pi, .int .i64 pn, .string ps, .string pv], .nilIface]) (by simp [results, Tryz.results148, go_sem, z0, z1, z2, z3]) rfl ?_
          rw [HQ2.out]
          exact ⟨_, rfl, HX.out.1.2, HX.out.1.1, HX.out.2⟩
        | false =>
          rw [hnum, if_neg (by decide)] at he6
          rw [hnum, if_neg (by decide)] at hq
          obtain ⟨t6, u6, rfl⟩ := err_iface he6 (by decide)
          have HQ2 := Lib.hid hq
          obtain ⟨⟨q0, q1, q2, q3, p0', p1', p2', p3'⟩, ⟨x1, y1, x2, y2, x3, y3⟩, ⟨k2, l2, k3, l3, m3, n3⟩, z0, z1, z2, z3⟩ := box4 hi6.rbox (.int .i64 0) (.int .i64 0) (.string ⟨#[]⟩) (.string ⟨#[]⟩)
          have HX := Lib.hid (hi6.stored he6 p0)
          clear hi6 hb6 he6 hnum hq HCN
          go_wp2_with fail
          refine bodyPost_ret (v := .tuple #[.agg #[.int .i64 0, .int .i64 0, .string ⟨#[]⟩, .string ⟨#[]⟩], .iface t6 u6]) (by simp [results, Tryz.results148, go_sem, z0, z1, z2, z3]) rfl ?_
          rw [HQ2.out]
          exact ⟨_, rfl, HX.out.1.2, HX.out.1.1, HX.out.2⟩
      · obtain ⟨t5, u5, rfl⟩ := err_iface he5 h3
        have hq := HQ3.out
        rw [if_neg h3] at hq
        have hr2 := HEA2.out h3
        have HD := Lib.hid (deeper_err (HE.out.later HI4.out.bel) he5 h3 (by omega) (b := base) (by omega))
        have HQ2 := Lib.hid hq
        clear he5 HRE4 hq
        go_wp2_with fail
        refine HD.out.mono ?_
        rintro x w6 ⟨e6, rfl, he6, hb6⟩
        have hi6 := HI4.out.below hb6
        obtain ⟨⟨q0, q1, q2, q3, p0', p1', p2', p3'⟩, ⟨x1, y1, x2, y2, x3, y3⟩, ⟨k2, l2, k3, l3, m3, n3⟩, z0, z1, z2, z3⟩ := box4 hi6.rbox (.int .i64 0) (.int .i64 0) (.string ⟨#[]⟩) (.string ⟨#[]⟩)
        have HX := Lib.hid (hi6.stored he6 p0)
        clear hi6 hb6 he6 HD
        go_wp2_with fail
        refine bodyPost_ret (v := .tuple #[.agg #[.int .i64 0, .int .i64 0, .string ⟨#[]⟩, .string ⟨#[]⟩], e6]) (by simp [results, Tryz.results148, go_sem, z0, z1, z2, z3]) rfl ?_
        rw [HQ2.out]
        exact ⟨_, rfl, HX.out.1.2, HX.out.1.1, HX.out.2⟩
    · rw [if_neg h2] at hq
      obtain ⟨t3, u3, rfl⟩ := err_iface he3 h2
      have HQ2 := Lib.hid hq
      obtain ⟨⟨q0, q1, q2, q3, p0', p1', p2', p3'⟩, ⟨x1, y1, x2, y2, x3, y3⟩, ⟨k2, l2, k3, l3, m3, n3⟩, z0, z1, z2, z3⟩ := box4 hi3.rbox (.int .i64 0) (.int .i64 0) (.string ⟨#[]⟩) (.string ⟨#[]⟩)
      have HX := Lib.hid (hi3.stored he3 p0)
      clear hi3 hb3 he3 hq HC
      go_wp2_with fail
      refine bodyPost_ret (v := .tuple #[.agg #[.int .i64 0, .int .i64 0, .string ⟨#[]⟩, .string ⟨#[]⟩], .iface t3 u3]) (by simp [results, Tryz.results148, go_sem, z0, z1, z2, z3]) rfl ?_
      rw [HQ2.out]
      exact ⟨_, rfl, HX.out.1.2, HX.out.1.1, HX.out.2⟩
  · obtain ⟨t2, u2, rfl⟩ := err_iface he2 h1
    have hq := HQ.out
    rw [if_neg h1] at hq
    have hr1 := HEA.out h1
    have HD := Lib.hid (deeper_err (HE.out.later HI2.out.bel) he2 h1 (by omega) (b := base) (by omega))
    have HQ2 := Lib.hid hq
    clear he2 HRE hq
    go_wp2_with fail
    refine HD.out.mono ?_
    rintro x w3 ⟨e3, rfl, he3, hb3⟩
    have hi3 := HI2.out.below hb3
    obtain ⟨⟨q0, q1, q2, q3, p0', p1', p2', p3'⟩, ⟨x1, y1, x2, y2, x3, y3⟩, ⟨k2, l2, k3, l3, m3, n3⟩, z0, z1, z2, z3⟩ := box4 hi3.rbox (.int .i64 0) (.int .i64 0) (.string ⟨#[]⟩) (.string ⟨#[]⟩)
    have HX := Lib.hid (hi3.stored he3 p0)
    clear hi3 hb3 he3 HD
    go_wp2_with fail
    refine bodyPost_ret (v := .tuple #[.agg #[.int .i64 0, .int .i64 0, .string ⟨#[]⟩, .string ⟨#[]⟩], e3]) (by simp [results, Tryz.results148, go_sem, z0, z1, z2, z3]) rfl ?_
    rw [HQ2.out]
    exact ⟨e3, rfl, HX.out.1.2, HX.out.1.1, HX.out.2⟩
end
end Go.Proofs.YtbfbmdjnobdjpaaGreatDoor
