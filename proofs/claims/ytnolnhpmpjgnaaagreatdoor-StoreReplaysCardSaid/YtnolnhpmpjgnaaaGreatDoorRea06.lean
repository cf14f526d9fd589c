/- What is proved here: a property that comes behind others is read. Conditions: the reader is there, the others stand where the slice says, few of them; what the rows list of the package's variables. What is proved here: rows of properties of a call's own: append, what they read. Conditions: few properties. What is proved here: properties are read. Conditions: the reader is there, with few bytes; what the rows list of the package's variables. What is proved here: the properties without those of an identifier; whether properties are few, and plain; that equal ones are the same. Conditions: the properties stand where the slices say, few of them. -/
import Derived.Test.YtnolnhpmpjgnaaaGreatDoorFil06
namespace Go.Proofs.YtnolnhpmpjgnaaaGreatDoor
set_option maxRecDepth 100000
open Go.RowKit Go.Extern.Stop Go.Stop Go.Extern
/-- A property that is read: the error's number, its reason, and where it is; the property, and the reader. -/
structure NR where
  no : Nat
  r : Int
  at_ : Nat
  p : PV
  R2 : RV
def nextF (place : Int) (L : PL) (base : Nat) (s : ByteArray) (R : RV) : NR :=
  if (rVar s R).2.no = 0 then
    if (idErr place L (rVar s R).1).1 = 0 then
      if (valF (rVar s R).1 s (rVar s R).2).2.no = 0 then
        if numI (valF (rVar s R).1 s (rVar s R).2).1.id (valF (rVar s R).1 s (rVar s R).2).1.n = true then ⟨0, 0, 0, (valF (rVar s R).1 s (rVar s R).2).1, (valF (rVar s R).1 s (rVar s R).2).2⟩ else ⟨3, 130, base + R.p, p0, (valF (rVar s R).1 s (rVar s R).2).2⟩
      else ⟨(valF (rVar s R).1 s (rVar s R).2).2.no, 129, (valF (rVar s R).1 s (rVar s R).2).2.ea + base, p0, (valF (rVar s R).1 s (rVar s R).2).2⟩
    else ⟨(idErr place L (rVar s R).1).1, (idErr place L (rVar s R).1).2, base + R.p, p0, (rVar s R).2⟩
  else ⟨(rVar s R).2.no, 129, (rVar s R).2.ea + base, p0, (rVar s R).2⟩
/-- Where an error of a reader is. -/
def EaOk (s : ByteArray) (R : RV) : Prop := R.no ≠ 0 → R.ea ≤ s.size + 70000
theorem ea_take {s : ByteArray} {R : RV} (n : Nat) (h : EaOk s R) : EaOk s (rTake s n R).2 := by
  unfold rTake
  split
  · split
    · intro _; show s.size ≤ _; omega
    · intro h; exact absurd rfl h
  · exact h
theorem ea_num {s : ByteArray} {R : RV} (n : Nat) (h : EaOk s R) : EaOk s (rNum s n R).2 := ea_take n h
theorem ea_var {s : ByteArray} {R : RV} (h : EaOk s R) (hp : R.p ≤ s.size) : EaOk s (rVar s R).2 := by
  unfold rVar
  split
  · unfold rVarOf
    split
    · intro h; exact absurd rfl h
    · intro _
      have := (vt_bd (s.extract R.p s.size) 4 0 0 1 (Nat.zero_le _)).2
      simp at this
      show R.p + _ ≤ _
      omega
  · exact h
theorem ea_bin {s : ByteArray} {R : RV} (h : EaOk s R) : EaOk s (rBin s R).2 := by
  have h1 := ea_take (rNum s 2 R).1 (ea_num 2 h)
  unfold rBin
  simp only
  split
  · exact h1
  · exact h1
theorem ea_text {s : ByteArray} {R : RV} (h : EaOk s R) (hp : R.p ≤ s.size) : EaOk s (rText s R).2 := by
  unfold rText
  split
  · exact ea_bin h
  · intro _
    have := check_at (rBin s R).1
    show R.p + 2 + _ ≤ _
    omega
theorem p_take {s : ByteArray} {R : RV} (n : Nat) (hp : R.p ≤ s.size) : (rTake s n R).2.p ≤ s.size := (rTake_le hp).1
theorem p_bin {s : ByteArray} {R : RV} (hp : R.p ≤ s.size) : (rBin s R).2.p ≤ s.size := by
  unfold rBin
  simp only
  split
  · exact p_take _ (p_take _ hp)
  · exact hp
theorem p_text {s : ByteArray} {R : RV} (hp : R.p ≤ s.size) : (rText s R).2.p ≤ s.size := by
  unfold rText
  split
  · exact p_bin hp
  · exact hp
theorem snd_of {α β : Type} {x : α × β} {a : α} {b : β} (h : x = (a, b)) : x.2 = b := by rw [h]
theorem ea_val {s : ByteArray} {R : RV} (i : Int) (h : EaOk s R) (hp : R.p ≤ s.size) : EaOk s (valF i s R).2 := by
  rcases typeI_vals i with ht | ht | ht | ht | ht | ht | ht | ht
  · rw [show (valF i s R).2 = R from snd_of (val_0 s R ht)]; exact h
  · rw [show (valF i s R).2 = (rNum s 1 R).2 from snd_of (val_1 s R ht)]; exact ea_num 1 h
  · rw [show (valF i s R).2 = (rNum s 2 R).2 from snd_of (val_2 s R ht)]; exact ea_num 2 h
  · rw [show (valF i s R).2 = (rNum s 4 R).2 from snd_of (val_4 s R ht)]; exact ea_num 4 h
  · rw [show (valF i s R).2 = (rVar s R).2 from snd_of (val_5 s R ht)]; exact ea_var h hp
  · rw [show (valF i s R).2 = (rText s R).2 from snd_of (val_6 s R ht)]; exact ea_text h hp
  · rw [show (valF i s R).2 = (rBin s R).2 from snd_of (val_7 s R ht)]; exact ea_bin h
  · rw [show (valF i s R).2 = (rText s (rText s R).2).2 from snd_of (val_9 s R ht)]; exact ea_text (ea_text h hp) (p_text hp)
/-- What next holds. -/
structure NxIn (z w W : World) (S : Nat → Addr) (g rb : Nat) (s : ByteArray) (R : RV) : Prop where
  obj : RObj W S g s R
  rbox : Blk W rb 98 #[.int .i64 0, .int .i64 0, .string ⟨#[]⟩, .string ⟨#[]⟩]
  bel : Below z.heap.size z W
  fr : Fr [g] w W
  gz : z.heap.size ≤ g
  rz : w.heap.size ≤ rb
  wz : z.heap.size ≤ w.heap.size
section
variable {z w W W' : World} {S : Nat → Addr} {g rb bx : Nat} {s : ByteArray} {R R' : RV} {p : PV} {A : Option Addr} {L : PL}
theorem NxIn.ne (h : NxIn z w W S g rb s R) : g ≠ rb := by
  obtain ⟨e, hb, _⟩ := h.obj.blk
  exact hb.other h.rbox (by decide)
theorem NxIn.below (h : NxIn z w W S g rb s R) (hb : Below W.heap.size W W') : NxIn z w W' S g rb s R :=
  ⟨h.obj.below hb, h.rbox.below hb h.rbox.lt, h.bel.trans (hb.mono h.bel.size), h.fr.trans (Y := []) (Fr.of_below hb) (fun k hk => by cases hk), h.gz, h.rz, h.wz⟩
theorem NxIn.step (h : NxIn z w W S g rb s R) (hn : RNext W W' S g s R') : NxIn z w W' S g rb s R' := by
  refine ⟨hn.obj, h.rbox.fr hn.fr fun hm => ?_, hn.later h.gz h.bel.size h.bel, h.fr.trans hn.fr fun k hk _ => hk, h.gz, h.rz, h.wz⟩
  rw [List.mem_singleton] at hm
  exact h.ne hm.symm
theorem NxIn.filled (h : NxIn z w W S g rb s R) (hf : FlIn z W W' S g bx s R' p) (hb : w.heap.size ≤ bx) (hr : rb < bx) : NxIn z w W' S g rb s R' := by
  refine ⟨hf.obj, h.rbox.fr hf.fr fun hm => ?_, hf.bel, h.fr.trans hf.fr fun k hk hlt => ?_, h.gz, h.rz, h.wz⟩
  · rcases List.mem_cons.1 hm with e | hm
    · exact h.ne e.symm
    · rw [List.mem_singleton] at hm
      omega
  · rcases List.mem_cons.1 hk with e | hk
    · rw [e]; exact List.mem_cons_self ..
    · rw [List.mem_singleton] at hk
      omega
theorem NxIn.rd {R0 : RV} (h : NxIn z w W S g rb s R) (ho : RObj w S g s R0) (hp : PIn w z.heap.size A L) : PIn W z.heap.size A L := hp.fr h.fr fun k hk => by
  rw [List.mem_singleton] at hk
  subst hk
  refine ⟨h.gz, fun cs hc => ?_⟩
  obtain ⟨e, hb, _⟩ := ho.blk
  exact hb.other hc (by decide) rfl
/-- The answer is stored. -/
theorem NxIn.stored {no a : Nat} {r : Int} {e : Value} (h : NxIn z w W S g rb s R) (he : ErrOf W S r no a e) (p : PV) :
    (RObj ((((W.setCell ⟨rb, 0, none⟩ (.int .i64 p.id)).setCell ⟨rb, 1, none⟩ (.int .i64 p.n)).setCell ⟨rb, 2, none⟩ (.string p.s)).setCell ⟨rb, 3, none⟩ (.string p.v)) S g s R ∧ ErrOf ((((W.setCell ⟨rb, 0, none⟩ (.int .i64 p.id)).setCell ⟨rb, 1, none⟩ (.int .i64 p.n)).setCell ⟨rb, 2, none⟩ (.string p.s)).setCell ⟨rb, 3, none⟩ (.string p.v)) S r no a e) ∧
    Fr [g] w ((((W.setCell ⟨rb, 0, none⟩ (.int .i64 p.id)).setCell ⟨rb, 1, none⟩ (.int .i64 p.n)).setCell ⟨rb, 2, none⟩ (.string p.s)).setCell ⟨rb, 3, none⟩ (.string p.v)) := by
  have hf : Fr [rb] W ((((W.setCell ⟨rb, 0, none⟩ (.int .i64 p.id)).setCell ⟨rb, 1, none⟩ (.int .i64 p.n)).setCell ⟨rb, 2, none⟩ (.string p.s)).setCell ⟨rb, 3, none⟩ (.string p.v)) :=
    ((((Fr.refl [rb] W).setCell (p := ⟨rb, 0, none⟩) (.inl (List.mem_singleton_self _)) _).setCell (p := ⟨rb, 1, none⟩) (.inl (List.mem_singleton_self _)) _).setCell (p := ⟨rb, 2, none⟩) (.inl (List.mem_singleton_self _)) _).setCell (p := ⟨rb, 3, none⟩) (.inl (List.mem_singleton_self _)) _
  have hX : NoF W [rb] := NoF.of fun k hk => by
    rw [List.mem_singleton] at hk
    rw [hk]
    exact ⟨_, _, h.rbox, by decide⟩
  refine ⟨⟨h.obj.fr hf (fun hm => ?_) hX, err_fr he hf hX⟩, h.fr.trans hf fun k hk hlt => ?_⟩
  · rw [List.mem_singleton] at hm
    exact h.ne hm
  · rw [List.mem_singleton] at hk
    have := h.rz
    omega
def NxSays (w : World) (S : Nat → Addr) (g : Nat) (s : ByteArray) (q : NR) (x : Ending) (w' : World) : Prop := ∃ e, x = .returned (.tuple #[q.p.agg, e]) ∧ ErrOf w' S q.r q.no q.at_ e ∧ RNext w w' S g s q.R2
set_option maxHeartbeats 4000000 in
theorem pnext_any (hE : Env z S) (hz : Below z.heap.size z w) (hg : z.heap.size ≤ g) (ho : RObj w S g s R) (hs : s.size ≤ 900000) (hea : EaOk s R) (place : Int) (n c base : Nat) (hn : n = L.length) (hp : PIn w z.heap.size A L) (hm : n ≤ 1000) (hbase : base ≤ 900000) :
    Calls Tryz.prog 69 #[.pointer (some ⟨g, 0, none⟩), .int .i64 place, .slice A n c, .int .i64 (base : Int)] w (NxSays w S g s (nextF place L base s R)) := by
  obtain ⟨q, hq⟩ : ∃ q, q = nextF place L base s R := ⟨_, rfl⟩
  rw [← hq]
  unfold nextF at hq
  have hb0 : Below w.heap.size w (w.alloc (.cells #[.int .i64 0, .int .i64 0, .string ⟨#[]⟩, .string ⟨#[]⟩] 98)) := (Below.refl _ _).alloc (Nat.le_refl _) _
  have hi0 : NxIn z w (w.alloc (.cells #[.int .i64 0, .int .i64 0, .string ⟨#[]⟩, .string ⟨#[]⟩] 98)) S g w.heap.size s R := ⟨ho.below hb0, Blk.made w _ _, hz.trans (hb0.mono hz.size), Fr.of_below hb0, hg, Nat.le_refl _, hz.size⟩
  have HI0 := Lib.hid hi0
  have HAT := Lib.hid (rat_any hi0.obj)
  have HV := Lib.hid (rvar_any (hE.later hi0.bel) hi0.obj hs)
  have HE := Lib.hid hE
  have HO := Lib.hid ho
  have HP := Lib.hid hp
  have HN := Lib.hid hn
  have hp0 := ho.le
  have he1 := ea_var hea hp0
  have hpp : R.p ≤ 900000 := by omega
  obtain ⟨⟨i, R1⟩, hv⟩ : ∃ V, V = rVar s R := ⟨_, rfl⟩
  rw [← hv] at hq HV he1
  simp only at hq he1
  have HQ := Lib.hid hq
  have HEA := Lib.hid he1
  have hsum : IntKind.i64.wrap ((base : Int) + (R.p : Int)) = ((base + R.p : Nat) : Int) := by rw [IntWalk.i64_in _ (by omega)]; omega
  generalize hat : base + R.p = at_ at *
  obtain ⟨rp, hrp⟩ : ∃ rp, rp = R.p := ⟨_, rfl⟩
  rw [← hrp] at HAT hsum
  have hrp9 : rp ≤ 900000 := by omega
  clear hE hz hg ho hea hn hp hq hi0 hb0 hv he1 hp0 hpp hrp hat
  go_enter Tryz.func69, Tryz.ntmps69
  go_wp2_with fail
  refine HAT.out.mono ?_
  rintro x w1 ⟨rfl, rfl⟩
  go_wp2_with fail
  refine HV.out.mono ?_
  rintro x w1 ⟨rfl, hN⟩
  have hi1 := HI0.out.step hN
  have hb1 : Below w1.heap.size w1 (w1.alloc (.cells #[.int .i64 i, .int .i64 0, .string ⟨#[]⟩, .string ⟨#[]⟩] 98)) := (Below.refl _ _).alloc (Nat.le_refl _) _
  have hi2 := hi1.below hb1
  have hbk := Blk.made w1 98 #[.int .i64 i, .int .i64 0, .string ⟨#[]⟩, .string ⟨#[]⟩]
  have hbx1 : w.heap.size ≤ w1.heap.size := hi1.fr.size
  have hbx2 : w.heap.size < w1.heap.size := hi1.rbox.lt
  have e0 := hbk.cell 0
  have HI2 := Lib.hid hi2
  have HBK := Lib.hid hbk
  have HRE := Lib.hid (rerr_any hi2.obj)
  clear hN hi1 hb1 hi2 hbk HAT HV HI0
  go_wp2_with fail
  refine HRE.out.mono ?_
  rintro x w2 ⟨e2, rfl, he2, rfl⟩
  by_cases h1 : R1.no = 0
  · unfold ErrOf at he2
    rw [if_pos h1] at he2
    subst he2
    have hq := HQ.out
    rw [if_pos h1] at hq
    have HQ1 := Lib.hid hq
    clear hq
    have HC := Lib.hid (checkId_any (HE.out.later HI2.out.bel) place i at_ n c HN.out (HI2.out.rd HO.out HP.out) hm)
    clear HRE
    go_wp2_with fail
    refine HC.out.mono ?_
    rintro x w3 ⟨e3, rfl, he3, hb3⟩
    have hi3 := HI2.out.below hb3
    have hq := HQ1.out
    by_cases h2 : (idErr place L i).1 = 0
    · rw [if_pos h2] at hq
      unfold ErrOf at he3
      rw [if_pos h2] at he3
      subst he3
      have hbx3 := HBK.out.below hb3 HBK.out.lt
      have hzw : z.heap.size ≤ w1.heap.size := Nat.le_trans hi3.wz hbx1
      have hfl : FlIn z w3 w3 S g w1.heap.size s R1 ⟨i, 0, ⟨#[]⟩, ⟨#[]⟩⟩ := ⟨hi3.obj, hbx3, hi3.bel, Fr.refl _ _, hi3.gz, hzw⟩
      have HFA := Lib.hid (fill_any HE.out i hfl hs)
      have hR1 := hi3.obj.le
      have hea2 := ea_val i HEA.out hR1
      have HI3 := Lib.hid hi3
      obtain ⟨⟨⟨pi, pn, ps, pv⟩, R2⟩, hF⟩ : ∃ F, F = valF i s R1 := ⟨_, rfl⟩
      rw [← hF] at HFA hq hea2
      simp only at HFA hq hea2
      have HQ3 := Lib.hid hq
      have HEA2 := Lib.hid hea2
      clear hq hb3 hi3 hbx3 hfl hea2 hF HC hzw hR1
      go_wp2_with fail
      refine HFA.out.mono ?_
      rintro x w4 ⟨rfl, hf4⟩
      have hi4 := HI3.out.filled hf4 hbx1 hbx2
      have HI4 := Lib.hid hi4
      have HF4 := Lib.hid hf4.box
      have HRE4 := Lib.hid (rerr_any hi4.obj)
      clear hi4 hf4 HFA
      go_wp2_with fail
      refine HRE4.out.mono ?_
      rintro x w5 ⟨e5, rfl, he5, rfl⟩
      by_cases h3 : R2.no = 0
      · unfold ErrOf at he5
        rw [if_pos h3] at he5
        subst he5
        have hq := HQ3.out
        rw [if_pos h3] at hq
        have HQ5 := Lib.hid hq
        clear hq
        have b0 := HF4.out.cell 0
        have b1 := HF4.out.cell 1
        have b2 := HF4.out.cell 2
        have b3 := HF4.out.cell 3
        have HCN := Lib.hid (cnum_any (HE.out.later HI4.out.bel) ⟨pi, pn, ps, pv⟩ at_)
        clear HRE4
        go_wp2_with fail
        refine HCN.out.mono ?_
        rintro x w6 ⟨e6, rfl, he6, hb6⟩
        have hi6 := HI4.out.below hb6
        have hq := HQ5.out
        cases hnum : numI pi pn with
        | true =>
          rw [hnum, if_pos rfl] at he6
          rw [hnum, if_pos rfl] at hq
          unfold ErrOf at he6
          rw [if_pos rfl] at he6
          subst he6
          have hbx6 := HF4.out.below hb6 HF4.out.lt
          have g0 := hbx6.cell 0
          have g1 := hbx6.cell 1
          have g2 := hbx6.cell 2
          have g3 := hbx6.cell 3
          have HQ2 := Lib.hid hq
          have HNE : Hid (ErrOf w6 S 0 0 0 .nilIface) := Lib.hid ErrOf.none
          obtain ⟨⟨q0, q1, q2, q3, p0', p1', p2', p3'⟩, ⟨x1, y1, x2, y2, x3, y3⟩, ⟨k2, l2, k3, l3, m3, n3⟩, z0, z1, z2, z3⟩ := box4 hi6.rbox (.int .i64 pi) (.int .i64 pn) (.string ps) (.string pv)
          have HX := Lib.hid (hi6.stored HNE.out ⟨pi, pn, ps, pv⟩)
          clear hi6 hb6 hbx6 hnum hq HCN
          go_wp2_with fail
          refine bodyPost_ret (v := .tuple #[.agg #[.int .i64 pi, .int .i64 pn, .string ps, .string pv], .nilIface]) (by simp [results, Tryz.results69, go_sem, z0, z1, z2, z3]) rfl ?_
          rw [HQ2.out]
          exact ⟨_, rfl, HX.out.1.2, HX.out.1.1, HX.out.2⟩
        | false =>
          rw [hnum, if_neg (by decide)] at he6
          rw [hnum, if_neg (by decide)] at hq
          obtain ⟨t6, u6, rfl⟩ := err_iface he6 (by decide)
          have HQ2 := Lib.hid hq
          obtain ⟨⟨q0, q1, q2, q3, p0', p1', p2', p3'⟩, ⟨x1, y1, x2, y2, x3, y3⟩, ⟨k2, l2, k3, l3, m3, n3⟩, z0, z1, z2, z3⟩ := box4 hi6.rbox (.int .i64 0) (.int .i64 0) (.string ⟨#[]⟩) (.string ⟨#[]⟩)
          have HX := Lib.hid (hi6.stored he6 p0)
          clear hi6 hb6 he6 hnum hq HCN
          go_wp2_with fail
          refine bodyPost_ret (v := .tuple #[.agg #[.int .i64 0, .int .i64 0, .string ⟨#[]⟩, .string ⟨#[]⟩], .iface t6 u6]) (by simp [results, Tryz.results69, go_sem, z0, z1, z2, z3]) rfl ?_
          rw [HQ2.out]
          exact ⟨_, rfl, HX.out.1.2, HX.out.1.1, HX.out.2⟩
      · obtain ⟨t5, u5, rfl⟩ := err_iface he5 h3
        have hq := HQ3.out
        rw [if_neg h3] at hq
        have hr2 := HEA2.out h3
        have HD := Lib.hid (deeper_err (HE.out.later HI4.out.bel) he5 h3 (by omega) (b := base) (by omega))
        have HQ2 := Lib.hid hq
        clear he5 HRE4 hq
        go_wp2_with fail
        refine HD.out.mono ?_
        rintro x w6 ⟨e6, rfl, he6, hb6⟩
        have hi6 := HI4.out.below hb6
        obtain ⟨⟨q0, q1, q2, q3, p0', p1', p2', p3'⟩, ⟨x1, y1, x2, y2, x3, y3⟩, ⟨k2, l2, k3, l3, m3, n3⟩, z0, z1, z2, z3⟩ := box4 hi6.rbox (.int .i64 0) (.int .i64 0) (.string ⟨#[]⟩) (.string ⟨#[]⟩)
        have HX := Lib.hid (hi6.stored he6 p0)
        clear hi6 hb6 he6 HD
        go_wp2_with fail
        refine bodyPost_ret (v := .tuple #[.agg #[.int .i64 0, .int .i64 0, .string ⟨#[]⟩, .string ⟨#[]⟩], e6]) (by simp [results, Tryz.results69, go_sem, z0, z1, z2, z3]) rfl ?_
        rw [HQ2.out]
        exact ⟨_, rfl, HX.out.1.2, HX.out.1.1, HX.out.2⟩
    · rw [if_neg h2] at hq
      obtain ⟨t3, u3, rfl⟩ := err_iface he3 h2
      have HQ2 := Lib.hid hq
      obtain ⟨⟨q0, q1, q2, q3, p0', p1', p2', p3'⟩, ⟨x1, y1, x2, y2, x3, y3⟩, ⟨k2, l2, k3, l3, m3, n3⟩, z0, z1, z2, z3⟩ := box4 hi3.rbox (.int .i64 0) (.int .i64 0) (.string ⟨#[]⟩) (.string ⟨#[]⟩)
      have HX := Lib.hid (hi3.stored he3 p0)
      clear hi3 hb3 he3 hq HC
      go_wp2_with fail
      refine bodyPost_ret (v := .tuple #[.agg #[.int .i64 0, .int .i64 0, .string ⟨#[]⟩, .string ⟨#[]⟩], .iface t3 u3]) (by simp [results, Tryz.results69, go_sem, z0, z1, z2, z3]) rfl ?_
      rw [HQ2.out]
      exact ⟨_, rfl, HX.out.1.2, HX.out.1.1, HX.out.2⟩
  · obtain ⟨t2, u2, rfl⟩ := err_iface he2 h1
    have hq := HQ.out
    rw [if_neg h1] at hq
    have hr1 := HEA.out h1
    have HD := Lib.hid (deeper_err (HE.out.later HI2.out.bel) he2 h1 (by omega) (b := base) (by omega))
    have HQ2 := Lib.hid hq
    clear he2 HRE hq
    go_wp2_with fail
    refine HD.out.mono ?_
    rintro x w3 ⟨e3, rfl, he3, hb3⟩
    have hi3 := HI2.out.below hb3
    obtain ⟨⟨q0, q1, q2, q3, p0', p1', p2', p3'⟩, ⟨x1, y1, x2, y2, x3, y3⟩, ⟨k2, l2, k3, l3, m3, n3⟩, z0, z1, z2, z3⟩ := box4 hi3.rbox (.int .i64 0) (.int .i64 0) (.string ⟨#[]⟩) (.string ⟨#[]⟩)
    have HX := Lib.hid (hi3.stored he3 p0)
    clear hi3 hb3 he3 HD
    go_wp2_with fail
    refine bodyPost_ret (v := .tuple #[.agg #[.int .i64 0, .int .i64 0, .string ⟨#[]⟩, .string ⟨#[]⟩], e3]) (by simp [results, Tryz.results69, go_sem, z0, z1, z2, z3]) rfl ?_
    rw [HQ2.out]
    exact ⟨e3, rfl, HX.out.1.2, HX.out.1.1, HX.out.2⟩
end
end Go.Proofs.YtnolnhpmpjgnaaaGreatDoor
namespace Go.Proofs.YtnolnhpmpjgnaaaGreatDoor
set_option maxRecDepth 100000
open Go.RowKit Go.Extern.Stop Go.Stop Go.Extern
structure PNext (w w' : World) (B : Nat) (v v' : Value) (L' : PL) : Prop where
  row : PRow w' B v' L'
  grown : w.grownBy w' v.ownBlock
  own : v'.ownBlock = v.ownBlock ∨ ∃ k, v'.ownBlock = some k ∧ w.heap.size ≤ k
section
variable {w w' : World} {B : Nat} {v : Value} {L M : PL} {X : List Nat}
theorem PRow.some_form (h : PRow w B v L) : ∃ a n c, v = .slice a n c ∧ n = L.length ∧ n ≤ c := by
  rcases h.2 with ⟨rfl, h0⟩ | ⟨gr, cap, cur, rfl, _, _, hc, _⟩
  · exact ⟨none, 0, 0, rfl, h0.symm, Nat.le_refl _⟩
  · exact ⟨_, _, _, rfl, rfl, hc⟩
theorem PRow.fr (h : PRow w B v L) (hf : Fr X w w') (hn : ∀ k, v.ownBlock = some k → k ∉ X) : PRow w' B v L := by
  obtain ⟨h1, h2⟩ := h
  refine ⟨h1, ?_⟩
  rcases h2 with h2 | ⟨gr, cap, cur, rfl, hB, hh, h3⟩
  · exact .inl h2
  · exact .inr ⟨gr, cap, cur, rfl, hB, (hf.block gr (lt_of_block hh) (hn gr rfl)).trans hh, h3⟩
theorem PRow.lt (h : PRow w B v L) (k : Nat) (hk : v.ownBlock = some k) : B ≤ k ∧ k < w.heap.size ∧ ∃ cs, w.heap[k]? = some (.cells cs 98 (0, 0)) := by
  rcases h.2 with ⟨rfl, _⟩ | ⟨g, cap, cur, rfl, hb, hg, _⟩
  · cases hk
  · obtain rfl : g = k := Option.some.inj hk
    exact ⟨hb, lt_of_block hg, cur, hg⟩
theorem PRow.app {n : Nat} {xs : List Value} (h : w.ownsRow B 98 4 v n xs) (hn : n = L.length + M.length) (hx : xs = pcs L ++ pcs M) : PRow w B v (L ++ M) := by
  subst hn hx
  unfold PRow
  rw [List.length_append, pcs_app]
  exact h
theorem prow_nof (hr : PRow w B v L) : NoF w v.ownBlock.toList := NoF.of fun k hk => by
  obtain ⟨_, _, cs, hh⟩ := hr.lt k (own_list.1 hk)
  exact ⟨_, _, hh, by decide⟩
/-- append of properties that stand somewhere. -/
theorem run_props (h : PRow w B v L) (hB : B ≤ w.heap.size) (hl : L.length + M.length ≤ 1000000) (ty : TypeId) (ad : Addr) (c : Nat) (hc : ∀ (j : Nat) (u : Value), (pcs M)[j]? = some u → w.cell? (ad.add j) = some u) :
    ∃ v' w', (Builtin.append_ #[23, 23] ty #[v, .slice (some ad) M.length c]).run Tryz.prog w = .ok v' w' ∧ PNext w w' B v v' (L ++ M) := by
  obtain ⟨i0, hi0, hz0, hz1, hz2⟩ := info_parts Tryz.propInfo
  obtain ⟨v', w', hr, ho, hg, _, hat⟩ := run_append_own_at (P := Tryz.prog) w B 23 ty 98 i0 (.agg #[.int .i64 0, .int .i64 0, .string ⟨#[]⟩, .string ⟨#[]⟩]) 4 48 Tryz.underlying23 hi0 hz0 hz1 hz2 rfl (by decide) v L.length (pcs L) h ad M.length c (pcs M) (pcs_len M) hc (pcs_ones M) (by unfold maxLen; omega) (by omega) hB
  refine ⟨v', w', hr, ⟨PRow.app ho rfl rfl, hg, ?_⟩⟩
  rcases hat with e | e
  · exact .inl e
  · exact .inr ⟨_, e, Nat.le_refl _⟩
/-- append of one property that was just laid down, at a step of its own. -/
theorem append_prop {ops : Array Oper} {rest : List Oper} {o : Oper} {a : Act} {Q : Exit → Act → World → Prop} (p : PV) (hgd : o.guard = none) (s x : Operand) (ho : o.op = .call { callee := .builtin .append, args := #[s, x], argTypes := #[23, 23] })
    (ht : PRow w B v L) (hB : B ≤ w.heap.size) (hs : a.eval s = v) (k c : Nat) (hx : a.eval x = .slice (some ⟨k, 0, none⟩) 1 c) (hk : k = w.heap.size) (hl : L.length ≤ 100000)
    (h : ∀ v' w', PNext w w' B v v' (L ++ [p]) → wpList Tryz.prog ops Q rest (a.put o.dst v') w') : wpList Tryz.prog ops Q (o :: rest) a (w.alloc (.cells #[.int .i64 p.id, .int .i64 p.n, .string p.s, .string p.v] 98)) := by
  subst hk
  have hb : Below w.heap.size w (w.alloc (.cells #[.int .i64 p.id, .int .i64 p.n, .string p.s, .string p.v] 98)) := (Below.refl _ _).alloc (Nat.le_refl _) _
  obtain ⟨v', w', hr, hn⟩ := run_props (M := [p]) (ht.below hb) (Nat.le_trans hB hb.size) (by simp; omega) o.type ⟨w.heap.size, 0, none⟩ c (fun j u hj => by
    rw [Addr.add_lit, Nat.zero_add, (Blk.made w 98 _).cell j, ← Array.getElem?_toList]
    exact hj)
  refine Lib.wpList_append_run _ hgd s x 23 23 ho v _ hs hx v' w' hr (h v' w' ⟨hn.row, (World.grownBy_alloc w _ _).trans hn.grown, ?_⟩)
  rcases hn.own with e | ⟨k, e, hk⟩
  · exact .inl e
  · rw [World.size_alloc] at hk
    exact .inr ⟨k, e, by omega⟩
end
/-- What Read tells: the error's number, its reason, and where it is; the properties. -/
structure RR where
  no : Nat
  r : Int
  at_ : Nat
  L : PL
def rdLoop (place : Int) (base : Nat) (t : ByteArray) : Nat → PL → RV → RR
  | 0, L, _ => ⟨0, 0, 0, L⟩
  | f + 1, L, R => if t.size ≤ R.p then ⟨0, 0, 0, L⟩ else if (nextF place L base t R).no = 0 then rdLoop place base t f (L ++ [(nextF place L base t R).p]) (nextF place L base t R).R2 else ⟨(nextF place L base t R).no, (nextF place L base t R).r, (nextF place L base t R).at_, []⟩
def readF (place : Int) (s : ByteArray) (R : RV) : RR × RV :=
  if (rTake s (rVar s R).1 (rVar s R).2).2.no = 0 then (rdLoop place (rVar s R).2.p (rTake s (rVar s R).1 (rVar s R).2).1 ((rTake s (rVar s R).1 (rVar s R).2).1.size + 1) [] ⟨0, 0, 0⟩, (rTake s (rVar s R).1 (rVar s R).2).2)
  else (⟨(rTake s (rVar s R).1 (rVar s R).2).2.no, 129, (rTake s (rVar s R).1 (rVar s R).2).2.ea, []⟩, (rTake s (rVar s R).1 (rVar s R).2).2)
section
variable {s : ByteArray} {R : RV}
theorem vt_some6 (s : ByteArray) (f : Nat) : ∀ i n b : Nat, (vt s f i n b).2.2.1 = 0 → i < (vt s f i n b).2.1 := by
  induction f with
  | zero => exact fun _ _ _ h => absurd h (fun e => by cases e)
  | succ f ih =>
    intro i n b h
    by_cases hlt : i < s.size
    · by_cases h1 : s[i].toNat < 128
      · by_cases h0 : s[i].toNat = 0 ∧ 0 < i
        · rw [vt_zero hlt h0.1 h0.2] at h
          exact absurd h (fun e => by cases e)
        · rw [vt_last hlt h1 h0]
          exact Nat.lt_succ_self i
      · rw [vt_more hlt h1] at h ⊢
        have := ih _ _ _ h
        omega
    · rw [vt_short hlt] at h
      exact absurd h (fun e => by cases e)
theorem mono_var (hp : R.no = 0) (h : (rVar s R).2.no = 0) : R.p < (rVar s R).2.p := by
  unfold rVar at h ⊢
  rw [if_pos hp] at h ⊢
  unfold rVarOf at h ⊢
  split at h
  · rename_i hv
    rw [if_pos hv]
    have := vt_some6 (s.extract R.p s.size) 4 0 0 1 hv
    show R.p < R.p + _
    omega
  · rename_i hv
    exact absurd h hv
theorem mono_var' : R.p ≤ (rVar s R).2.p := by
  unfold rVar
  split
  · unfold rVarOf
    split
    · exact Nat.le_add_right _ _
    · exact Nat.le_refl _
  · exact Nat.le_refl _
theorem mono_take (n : Nat) : R.p ≤ (rTake s n R).2.p := by
  unfold rTake
  split
  · split
    · exact Nat.le_refl _
    · exact Nat.le_add_right _ _
  · exact Nat.le_refl _
theorem mono_bin : R.p ≤ (rBin s R).2.p := by
  unfold rBin
  simp only
  split
  · exact Nat.le_trans (mono_take 2) (mono_take _)
  · exact Nat.le_refl _
theorem mono_text : R.p ≤ (rText s R).2.p := by
  unfold rText
  split
  · exact mono_bin
  · exact Nat.le_refl _
theorem mono_val (i : Int) : R.p ≤ (valF i s R).2.p := by
  rcases typeI_vals i with ht | ht | ht | ht | ht | ht | ht | ht
  · rw [show (valF i s R).2 = R from snd_of (val_0 s R ht)]; exact Nat.le_refl _
  · rw [show (valF i s R).2 = (rNum s 1 R).2 from snd_of (val_1 s R ht)]; exact mono_take 1
  · rw [show (valF i s R).2 = (rNum s 2 R).2 from snd_of (val_2 s R ht)]; exact mono_take 2
  · rw [show (valF i s R).2 = (rNum s 4 R).2 from snd_of (val_4 s R ht)]; exact mono_take 4
  · rw [show (valF i s R).2 = (rVar s R).2 from snd_of (val_5 s R ht)]; exact mono_var'
  · rw [show (valF i s R).2 = (rText s R).2 from snd_of (val_6 s R ht)]; exact mono_text
  · rw [show (valF i s R).2 = (rBin s R).2 from snd_of (val_7 s R ht)]; exact mono_bin
  · rw [show (valF i s R).2 = (rText s (rText s R).2).2 from snd_of (val_9 s R ht)]; exact Nat.le_trans mono_text mono_text
theorem id_64 {place : Int} {L : PL} {i : Int} (h : (idErr place L i).1 = 0) : L.length < 64 := by
  unfold idErr at h
  split at h
  · cases h
  · omega
/-- A property that is read takes bytes, and there are few others. -/
theorem next_ok {place : Int} {L : PL} {base : Nat} (h : (nextF place L base s R).no = 0) (h0 : R.no = 0) : R.p < (nextF place L base s R).R2.p ∧ (nextF place L base s R).R2.no = 0 ∧ L.length < 64 := by
  unfold nextF at h ⊢
  split at h
  · rename_i h1
    rw [if_pos h1]
    split at h
    · rename_i h2
      rw [if_pos h2]
      split at h
      · rename_i h3
        rw [if_pos h3]
        split at h
        · rename_i h4
          rw [if_pos h4]
          exact ⟨Nat.lt_of_lt_of_le (mono_var h0 h1) (mono_val _), h3, id_64 h2⟩
        · cases h
      · rename_i h3; exact absurd h h3
    · rename_i h2; exact absurd h h2
  · rename_i h1; exact absurd h h1
end
set_option maxRecDepth 100000
open Go.RowKit Go.Extern.Stop Go.Stop Go.Extern
/-- What Read's loop holds. -/
structure RdIn (z w W : World) (S : Nat → Addr) (g g2 : Nat) (s : ByteArray) (R2 : RV) (t : ByteArray) (Rt : RV) (u : Value) (L : PL) : Prop where
  inn : RObj W S g2 t Rt
  out : RObj W S g s R2
  row : PRow W w.heap.size u L
  bel : Below z.heap.size z W
  fr : Fr [g] w W
  gz : z.heap.size ≤ g
  g2w : w.heap.size ≤ g2
  glt : g < w.heap.size
  zw : z.heap.size ≤ w.heap.size
section
variable {z w W W' : World} {S : Nat → Addr} {g g2 : Nat} {s t : ByteArray} {R R2 Rt Rt' : RV} {u u' : Value} {L L' : PL}
theorem RdIn.below (h : RdIn z w W S g g2 s R2 t Rt u L) (hb : Below W.heap.size W W') : RdIn z w W' S g g2 s R2 t Rt u L :=
  ⟨h.inn.below hb, h.out.below hb, h.row.below hb, h.bel.trans (hb.mono h.bel.size), h.fr.trans (Y := []) (Fr.of_below hb) (fun k hk => by cases hk), h.gz, h.g2w, h.glt, h.zw⟩
theorem RdIn.step (h : RdIn z w W S g g2 s R2 t Rt u L) (hn : RNext W W' S g2 t Rt') : RdIn z w W' S g g2 s R2 t Rt' u L := by
  refine ⟨hn.obj, h.out.fr hn.fr (fun hm => ?_) h.inn.nof, h.row.fr hn.fr fun k hk hm => ?_, hn.later (Nat.le_trans h.zw h.g2w) h.bel.size h.bel, h.fr.trans hn.fr fun k hk hlt => ?_, h.gz, h.g2w, h.glt, h.zw⟩
  · rw [List.mem_singleton] at hm
    have := h.glt
    have := h.g2w
    omega
  · rw [List.mem_singleton] at hm
    subst hm
    obtain ⟨_, _, cs, hh⟩ := h.row.lt k hk
    obtain ⟨e, hb, _⟩ := h.inn.blk
    exact hb.other hh (by decide) rfl
  · rw [List.mem_singleton] at hk
    have := h.g2w
    omega
theorem RdIn.app (h : RdIn z w W S g g2 s R2 t Rt u L) (hn : PNext W W' w.heap.size u u' L') : RdIn z w W' S g g2 s R2 t Rt u' L' := by
  have hf : Fr u.ownBlock.toList W W' := (Fr.refl _ W).grown hn.grown fun k hk => .inl (own_list.2 hk)
  have hne : ∀ {x : Nat} {sx : ByteArray} {Rx : RV}, RObj W S x sx Rx → x ∉ u.ownBlock.toList := fun ho hm => by
    obtain ⟨_, _, cs, hh⟩ := h.row.lt _ (own_list.1 hm)
    obtain ⟨e, hb, _⟩ := ho.blk
    exact hb.other hh (by decide) rfl
  refine ⟨h.inn.fr hf (hne h.inn) (prow_nof h.row), h.out.fr hf (hne h.out) (prow_nof h.row), hn.row, hf.later h.bel (fun b hm => ?_) h.bel.size, h.fr.trans hf fun k hk hlt => ?_, h.gz, h.g2w, h.glt, h.zw⟩
  · have := (h.row.lt b (own_list.1 hm)).1
    have := h.zw
    omega
  · have := (h.row.lt k (own_list.1 hk)).1
    omega
def RdSays (w : World) (S : Nat → Addr) (g : Nat) (s : ByteArray) (q : RR × RV) (x : Ending) (w' : World) : Prop :=
  ∃ v e, x = .returned (.tuple #[v, e]) ∧ PRow w' w.heap.size v q.1.L ∧ ErrOf w' S q.1.r q.1.no q.1.at_ e ∧ RNext w w' S g s q.2
set_option maxHeartbeats 4000000 in
theorem pread_any (hE : Env z S) (hz : Below z.heap.size z w) (hg : z.heap.size ≤ g) (ho : RObj w S g s R) (hs : s.size ≤ 900000) (place : Int) :
    Calls Tryz.prog 48 #[.pointer (some ⟨g, 0, none⟩), .int .i64 place] w (RdSays w S g s (readF place s R)) := by
  obtain ⟨q, hq⟩ : ∃ q, q = readF place s R := ⟨_, rfl⟩
  rw [← hq]
  unfold readF at hq
  have HV := Lib.hid (rvar_any (hE.later hz) ho hs)
  have HE := Lib.hid hE
  have HO := Lib.hid ho
  have HZ := Lib.hid hz
  obtain ⟨⟨m, R1⟩, hv⟩ : ∃ V, V = rVar s R := ⟨_, rfl⟩
  rw [← hv] at hq HV
  simp only at hq
  obtain ⟨⟨t, R2⟩, ht⟩ : ∃ T, T = rTake s m R1 := ⟨_, rfl⟩
  rw [← ht] at hq
  simp only at hq
  have HT := Lib.hid ht
  have HQ := Lib.hid hq
  have hts : t.size ≤ 900000 := by
    have h := take_small s m R1
    rw [← ht] at h
    exact Nat.le_trans h hs
  have HTS := Lib.hid hts
  have glt := ho.lt
  clear hE hz ho hq hv ht hts
  go_enter Tryz.func48, Tryz.ntmps48
  go_wp2_with fail
  refine HV.out.mono ?_
  rintro x w1 ⟨rfl, hN1⟩
  have HN1 := Lib.hid hN1
  have HZ1 := Lib.hid (hN1.later hg HZ.out.size HZ.out)
  have hp1 := hN1.obj.le
  have HAT := Lib.hid (rat_any hN1.obj)
  have HW := Lib.hid (rraw_any (HE.out.later HZ1.out) hN1.obj (by omega) m)
  rw [← HT.out] at HW
  have hb9 : R1.p ≤ 900000 := by omega
  clear hN1 hp1 HV
  obtain ⟨base, hbase⟩ : ∃ b, b = R1.p := ⟨_, rfl⟩
  rw [← hbase] at HAT HQ hb9
  clear hbase
  go_wp2_with fail
  refine HAT.out.mono ?_
  rintro x w2 ⟨rfl, rfl⟩
  go_wp2_with fail
  refine HW.out.mono ?_
  rintro x w2 ⟨rfl, hN2⟩
  have HN2 := Lib.hid (HN1.out.trans hN2)
  have hb3 : Below w2.heap.size w2 (w2.alloc (.cells #[.string t, .int .i64 0, .nilIface] 87)) := (Below.refl _ _).alloc (Nat.le_refl _) _
  have HN3 := Lib.hid (HN2.out.below hb3)
  have HIN := Lib.hid (RObj.made w2 S t)
  have HRE := Lib.hid (rerr_any HN3.out.obj)
  have HSZ := Lib.hid HN2.out.fr.size
  clear hN2 hb3 HAT HW
  go_wp2_with fail
  refine (rnew_any t w2).mono ?_
  rintro x w3 ⟨rfl, rfl⟩
  go_wp2_with fail
  refine HRE.out.mono ?_
  rintro x w3 ⟨e3, rfl, he3, rfl⟩
  by_cases h0 : R2.no = 0
  · unfold ErrOf at he3
    rw [if_pos h0] at he3
    subst he3
    have hq := HQ.out
    rw [if_pos h0] at hq
    have HQ2 := Lib.hid hq
    have hi0 : RdIn z w (w2.alloc (.cells #[.string t, .int .i64 0, .nilIface] 87)) S g w2.heap.size s R2 t ⟨0, 0, 0⟩ (.slice none 0 0) [] :=
      ⟨HIN.out, HN3.out.obj, PRow.nil _ _, HN3.out.later hg HZ.out.size HZ.out, HN3.out.fr, hg, HSZ.out, glt, HZ.out.size⟩
    have HI0 := Lib.hid hi0
    clear hq hi0 HRE HN1 HN2 HN3 HIN HQ HO HT
    go_wp2_with fail
    go_loopg [10] (t.size + 1) (fun f u wr => ∃ (L : PL) (Rt : RV), t.size - Rt.p < f ∧ Rt.no = 0 ∧ L.length ≤ 64 ∧ Hid (RdIn z w wr S g w2.heap.size s R2 t Rt u L ∧ q = (rdLoop place base t f L Rt, R2)))
    case atStart => exact ⟨[], ⟨0, 0, 0⟩, by show t.size - 0 < _; omega, rfl, Nat.zero_le _, Lib.hid ⟨HI0.out, HQ2.out⟩⟩
    case round =>
      obtain ⟨L, Rt, hf, hno, hL64, HJ⟩ := hrel
      obtain ⟨hi, hqq⟩ := HJ.out
      obtain ⟨av, nv, cv, rfl, rfl, hcap⟩ := hi.row.some_form
      have HI := Lib.hid hi
      have HL := Lib.hid (rleft_any hi.inn (by have := HTS.out; omega))
      obtain ⟨f, rfl⟩ : ∃ f, gk = f + 1 := ⟨gk - 1, by omega⟩
      obtain ⟨lf, hlf⟩ : ∃ lf, lf = t.size - Rt.p := ⟨_, rfl⟩
      rw [← hlf] at HL
      rw [rdLoop] at hqq
      by_cases hend : t.size ≤ Rt.p
      · obtain rfl : lf = 0 := by omega
        rw [if_pos hend] at hqq
        have HX := Lib.hid (fun (W : World) (hb : Below wr.heap.size wr W) => show RdSays w S g s q (.returned (.tuple #[.slice av L.length cv, .nilIface])) W from by
          have h4 := hi.below hb
          rw [hqq]
          exact ⟨_, _, rfl, h4.row, ErrOf.none, ⟨h4.out, h4.fr⟩⟩)
        clear hi hqq HJ hf HI0 HI hlf hend
        go_wp2_with fail
        refine HL.out.mono ?_
        rintro x w4 ⟨rfl, hb4⟩
        have HX4 := Lib.hid (HX.out w4 hb4)
        clear hb4 HX HL
        go_wp2_with fail
        go_ret2
        exact HX4.out
      · rw [if_neg hend] at hqq
        have HQQ := Lib.hid hqq
        have hlf0 : 0 < (lf : Int) := by omega
        have hlfn : 0 < lf := by omega
        clear hi hqq HJ HI0
        go_wp2_with fail
        refine HL.out.mono ?_
        rintro x w4 ⟨rfl, hb4⟩
        have HI4 := Lib.hid (HI.out.below hb4)
        have HX := Lib.hid (pnext_any HE.out HI4.out.bel (Nat.le_trans HI4.out.zw HI4.out.g2w) HI4.out.inn HTS.out (fun h => absurd hno h) place L.length cv base rfl HI4.out.row.pin (by omega) hb9)
        have HNX := Lib.hid (fun h => next_ok (place := place) (L := L) (base := base) (s := t) h hno)
        obtain ⟨⟨nno, nr, nat, np, nR⟩, hN⟩ : ∃ N, N = nextF place L base t Rt := ⟨_, rfl⟩
        rw [← hN] at HX HNX
        have hqq := HQQ.out
        rw [← hN] at hqq
        simp only at hqq
        have HQ3 := Lib.hid hqq
        clear hb4 HI hN hqq HL HQQ
        go_wp2_with fail
        refine HX.out.mono ?_
        rintro x w5 ⟨e5, rfl, he5, hn5⟩
        have HI5 := Lib.hid (HI4.out.step hn5)
        simp only at he5 hn5
        obtain ⟨pi, pn, ps, pv⟩ := np
        rw [show PV.agg (NR.p ⟨nno, nr, nat, ⟨pi, pn, ps, pv⟩, nR⟩) = .agg #[.int .i64 pi, .int .i64 pn, .string ps, .string pv] from rfl]
        have hb6 : Below w5.heap.size w5 (w5.alloc (.cells #[.int .i64 pi, .int .i64 pn, .string ps, .string pv] 98)) := (Below.refl _ _).alloc (Nat.le_refl _) _
        by_cases hz : nno = 0
        · subst hz
          unfold ErrOf at he5
          rw [if_pos rfl] at he5
          subst he5
          obtain ⟨hm1, hm2, hm3⟩ := HNX.out rfl
          have hqq := HQ3.out
          rw [if_pos rfl] at hqq
          have HQ4 := Lib.hid hqq
          have hbk := Blk.made w5 98 #[.int .i64 pi, .int .i64 pn, .string ps, .string pv]
          have b0 := hbk.cell 0
          have b1 := hbk.cell 1
          have b2 := hbk.cell 2
          have b3 := hbk.cell 3
          have HI6 := Lib.hid (HI5.out.below hb6)
          have HS6 := Lib.hid (show w.heap.size ≤ (w5.alloc (.cells #[.int .i64 pi, .int .i64 pn, .string ps, .string pv] 98)).heap.size from HI6.out.fr.size)
          have HDL := Lib.hid (show L.length ≤ 100000 from by omega)
          clear hqq hbk hb6 hn5 HX HI4
          go_wp2_with (at_builtin; go_must (refine append_prop ⟨pi, pn, ps, pv⟩ rfl _ _ rfl HI6.out.row HS6.out rfl (w5.heap.size + 1) 1 rfl (by simp) HDL.out ?_))
          intro v7 w7 hn7
          have HI7 := Lib.hid (HI6.out.app hn7)
          clear hn7
          go_wp2_with fail
          go_roundg f
          case rel => exact ⟨L ++ [⟨pi, pn, ps, pv⟩], nR, by omega, hm2, by rw [List.length_append, List.length_singleton]; omega, Lib.hid ⟨HI7.out, HQ4.out⟩⟩
          case measure => omega
        · obtain ⟨t5, u5', rfl⟩ := err_iface he5 hz
          have hqq := HQ3.out
          rw [if_neg hz] at hqq
          have h6 := HI5.out.below hb6
          have HX6 := Lib.hid (show RdSays w S g s q (.returned (.tuple #[.slice none 0 0, .iface t5 u5'])) (w5.alloc (.cells #[.int .i64 pi, .int .i64 pn, .string ps, .string pv] 98)) from by
            rw [hqq]
            exact ⟨_, _, rfl, PRow.nil _ _, he5.later hb6, ⟨h6.out, h6.fr⟩⟩)
          clear hqq h6 he5 hb6 hn5 HX HI4
          go_wp2_with fail
          go_ret2
          exact HX6.out
  · obtain ⟨t3, u3, rfl⟩ := err_iface he3 h0
    have hq := HQ.out
    rw [if_neg h0] at hq
    have HX := Lib.hid (show RdSays w S g s q (.returned (.tuple #[.slice none 0 0, .iface t3 u3])) (w2.alloc (.cells #[.string t, .int .i64 0, .nilIface] 87)) from by
      rw [hq]
      exact ⟨_, _, rfl, PRow.nil _ _, he3, HN3.out⟩)
    clear hq he3 HRE HN1 HN2 HN3 HIN HQ HO HT
    go_wp2_with fail
    go_ret2
    exact HX.out
end
set_option maxRecDepth 100000
open Go.RowKit Go.Extern.Stop Go.Stop Go.Extern
def woL (L : PL) (i : Int) : PL := L.filter fun p => !(p.id == i)
theorem wo_at {L : PL} {k : Nat} (i : Int) (hk : k < L.length) : woL (L.take (k + 1)) i = woL (L.take k) i ++ (if (L.getD k p0).id = i then [] else [L.getD k p0]) := by
  unfold woL
  rw [List.take_succ_eq_append_getElem hk, List.filter_append, List.getD_eq_getElem?_getD, List.getElem?_eq_getElem hk]
  simp only [Option.getD_some]
  by_cases h : L[k].id = i
  · rw [if_pos h]; simp [h]
  · rw [if_neg h]; simp [h]
/-- What Without's loop holds. -/
structure WoIn (w W : World) (B : Nat) (A : Option Addr) (L : PL) (u : Value) (M : PL) : Prop where
  row : PRow W w.heap.size u M
  bel : Below w.heap.size w W
section
variable {w W W' : World} {B : Nat} {A : Option Addr} {L M M' : PL} {u u' : Value}
theorem WoIn.below (h : WoIn w W B A L u M) (hb : Below W.heap.size W W') : WoIn w W' B A L u M := ⟨h.row.below hb, h.bel.trans (hb.mono h.bel.size)⟩
theorem WoIn.app (h : WoIn w W B A L u M) (hn : PNext W W' w.heap.size u u' M') : WoIn w W' B A L u' M' := by
  have hf : Fr u.ownBlock.toList W W' := (Fr.refl _ W).grown hn.grown fun k hk => .inl (own_list.2 hk)
  exact ⟨hn.row, hf.later h.bel (fun b hm => (h.row.lt b (own_list.1 hm)).1) h.bel.size⟩
def WoSays (w : World) (M : PL) (x : Ending) (w' : World) : Prop := ∃ a n c, x = .returned (.slice a n c) ∧ n = M.length ∧ PRow w' w.heap.size (.slice a n c) M ∧ Below w.heap.size w w'
def Few06 (n : Nat) (L : PL) (w : World) (x : Ending) (w' : World) : Prop := (∃ b : Bool, x = .returned (.bool b) ∧ (b = true → n ≤ 70 ∧ ∀ k, k < n → (L.getD k p0).s.size ≤ 200 ∧ (L.getD k p0).v.size ≤ 200)) ∧ w = w'
theorem few06_any (n c : Nat) (h : PIn w B A L) (hn : n = L.length) (hm : n ≤ 9223372036854775807) : Calls Tryz.prog 39 #[.slice A n c] w (Few06 n L w) := by
  by_cases hp : n = 0
  · subst hp
    clear h hm hn
    go_enter Tryz.func39, Tryz.ntmps39
    go_wp2_with fail
    go_loop [3] (fun i => i = .int .i64 0) (fun _ => 0)
    case atStart => rfl
    case round =>
      subst hrel
      go_wp2_with fail
      go_ret
      exact ⟨⟨true, rfl, fun _ => ⟨by omega, fun k hk => absurd hk (by omega)⟩⟩, rfl⟩
  · obtain ⟨g, off, rfl, hc, hgB⟩ := h (by omega)
    clear hgB
    have HC := Lib.hid hc
    have HN := Lib.hid hn
    clear hc h hn
    go_enter Tryz.func39, Tryz.ntmps39
    go_wp2_with fail
    go_loop [3] (fun i => ∃ k : Nat, k ≤ n ∧ k ≤ 70 ∧ i = .int .i64 k ∧ Hid (∀ j, j < k → (L.getD j p0).s.size ≤ 200 ∧ (L.getD j p0).v.size ≤ 200)) (fun i => 70 - (intOf i).toNat)
    case atStart => exact ⟨0, by omega, by omega, rfl, Lib.hid fun j hj => absurd hj (by omega)⟩
    case round =>
      obtain ⟨k, hk, hk2, rfl, HJ⟩ := hrel
      have HT := Lib.hid (fun (b : Bool) (hb : b = true → n ≤ 70 ∧ ∀ k, k < n → (L.getD k p0).s.size ≤ 200 ∧ (L.getD k p0).v.size ≤ 200) => show Few06 n L w (.returned (.bool b)) w from ⟨⟨b, rfl, hb⟩, rfl⟩)
      by_cases hlt : k < n ∧ k < 70
      · obtain ⟨hlt, hlt2⟩ := hlt
        have hcc := HC.out k (by have := HN.out; omega)
        have c1 := hcc.c2
        have c2 := hcc.c3
        clear hcc
        obtain ⟨s, hs⟩ : ∃ s, s = (L.getD k p0).s := ⟨_, rfl⟩
        obtain ⟨v, hv⟩ : ∃ v, v = (L.getD k p0).v := ⟨_, rfl⟩
        rw [← hs] at c1
        rw [← hv] at c2
        have HS := Lib.hid hs
        have HV := Lib.hid hv
        clear hs hv
        by_cases hz : 200 < s.size
        · go_wp2_with fail
          go_ret
          exact HT.out _ (fun h => by cases h)
        · have hz' : s.size ≤ 200 := by omega
          clear hz
          by_cases hz2 : 200 < v.size
          · go_wp2_with fail
            go_ret
            exact HT.out _ (fun h => by cases h)
          · have hz2' : v.size ≤ 200 := by omega
            clear hz2
            go_wp2_with fail
            go_round
            case rel => exact ⟨k + 1, by omega, by omega, by go_num, Lib.hid fun j hj => by
              rcases Nat.lt_or_eq_of_le (Nat.le_of_lt_succ hj) with h | h
              · exact HJ.out j h
              · rw [h, ← HS.out, ← HV.out]; exact ⟨hz', hz2'⟩⟩
            case measure => simp [intOf]; omega
      · by_cases hkn : k < n
        · obtain rfl : k = 70 := by omega
          go_wp2_with fail
          go_ret
          exact HT.out _ (fun h => by have := of_decide_eq_true h; omega)
        · have hk70 : n ≤ 70 := by omega
          go_wp2_with fail
          go_ret
          exact HT.out _ (fun _ => ⟨hk70, fun j hj => HJ.out j (by omega)⟩)
end
end Go.Proofs.YtnolnhpmpjgnaaaGreatDoor
