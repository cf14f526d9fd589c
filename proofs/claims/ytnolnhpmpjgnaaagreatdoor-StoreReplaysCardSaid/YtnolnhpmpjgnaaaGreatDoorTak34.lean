/- What is proved here: what a record tells (the program's Take). Conditions: few bytes. -/
import Derived.Test.YtnolnhpmpjgnaaaGreatDoorMsg34
import Derived.Test.YtnolnhpmpjgnaaaGreatDoorMay34
import Derived.Test.YtnolnhpmpjgnaaaGreatDoorRru04
namespace Go.Proofs.YtnolnhpmpjgnaaaGreatDoor
set_option maxRecDepth 100000
open Go.RowKit Go.Extern.Stop Go.Stop Go.Extern
theorem rdone34 {w : World} {S : Nat → Addr} {g : Nat} {s : ByteArray} {R : RV} (hE : Env w S) (h : RObj w S g s R) (hs : s.size ≤ 900000) :
    Calls Tryz.prog 26 #[.pointer (some ⟨g, 0, none⟩)] w fun x w' => ∃ e, x = .returned e ∧ ErrOf w' S 129 (dnR s R).1 (dnR s R).2 e ∧ Below w.heap.size w w' := by
  unfold dnR
  by_cases h0 : R.no = 0
  · rw [if_pos h0]
    by_cases h1 : R.p < s.size
    · rw [if_pos h1]
      exact rdone_left hE h h0 (by omega) h1
    · rw [if_neg h1]
      refine (rdone_end h h0 (by omega) (by have := h.le; omega)).mono ?_
      rintro x w' ⟨rfl, hb⟩
      exact ⟨_, rfl, ErrOf.none, hb⟩
  · rw [if_neg h0]
    exact rdone_err h h0
/-- What Take tells: an error, or what is recorded. -/
structure TkR where
  no : Nat
  r : Int
  at_ : Nat
  o : OV
def knK (k : Nat) : Bool := decide (k = 1 ∨ k = 2 ∨ k = 3)
def tkE (s : ByteArray) (o : OV) (k fl : Nat) (R : RV) : TkR :=
  if (dnR s R).1 = 0 then (if knK k = true ∧ fl ≤ 7 ∧ mayO o = true then ⟨0, 0, 0, o⟩ else ⟨2, 129, 0, oo0⟩) else ⟨(dnR s R).1, 129, (dnR s R).2, oo0⟩
def tkK (s : ByteArray) : Nat × RV := rNum s 1 ⟨0, 0, 0⟩
def tkG (s : ByteArray) : ByteArray × RV := rBin s (tkK s).2
def tkQ (s : ByteArray) : Nat × RV := rNum s 4 (tkG s).2
def opM (m : MV) (sq : Nat) (gr : ByteArray) : MV := ⟨m.topic, m.payload, m.qos, m.retain, m.props, m.frm, m.til, sq, gr⟩
def tkF (s : ByteArray) : TkR :=
  if (tkK s).1 = 1 then (if (msF s (tkQ s).2).e.no = 0 then tkE s ⟨((tkK s).1 : Nat), (tkG s).1, ((tkQ s).1 : Nat), opM (msF s (tkQ s).2).m (tkQ s).1 (tkG s).1⟩ (tkK s).1 (msF s (tkQ s).2).fl (msF s (tkQ s).2).R else ⟨(msF s (tkQ s).2).e.no, (msF s (tkQ s).2).e.r, (msF s (tkQ s).2).e.at_, oo0⟩)
  else tkE s ⟨((tkK s).1 : Nat), (tkG s).1, ((tkQ s).1 : Nat), m0⟩ (tkK s).1 0 (tkQ s).2
def TkSays (w : World) (S : Nat → Addr) (q : TkR) (x : Ending) (w' : World) : Prop :=
  ∃ A c e, x = .returned (.tuple #[q.o.agg A c, e]) ∧ PIn w' 0 A q.o.m.props ∧ q.o.m.props.length ≤ c ∧ ErrOf w' S q.r q.no q.at_ e ∧ Below w.heap.size w w'
theorem nil_eqF (W : World) : (binOp BinOp.eql 60 Value.nilFunc Value.nilFunc).run Tryz.prog W = .ok (.bool true) W := by rfl
theorem fn_eqF (f : Nat) (W : World) : (binOp BinOp.eql 60 (.func (.func f) #[] #[]) Value.nilFunc).run Tryz.prog W = .ok (.bool false) W := by rfl
theorem stab_true : Stab (fun _ => True) := ⟨fun _ _ _ h => h, fun _ _ _ _ _ _ _ _ _ _ h => h⟩
set_option maxHeartbeats 8000000
theorem take34_any {w : World} {S : Nat → Addr} {s : ByteArray} (hE : Env w S) (hs : s.size ≤ 900000) :
    Calls Tryz.prog 7 #[.string s] w (TkSays w S (tkF s)) := by
  obtain ⟨q, hq⟩ : ∃ q, q = tkF s := ⟨_, rfl⟩
  rw [← hq]
  unfold tkF at hq
  obtain ⟨T1, h1⟩ : ∃ T, T = tkK s := ⟨_, rfl⟩
  have f1 : T1 = rNum s 1 ⟨0, 0, 0⟩ := h1
  obtain ⟨T2, h2⟩ : ∃ T, T = tkG s := ⟨_, rfl⟩
  have f2 : T2 = rBin s T1.2 := by rw [h2, h1]; rfl
  obtain ⟨T3, h3⟩ : ∃ T, T = tkQ s := ⟨_, rfl⟩
  have f3 : T3 = rNum s 4 T2.2 := by rw [h3, h2]; rfl
  rw [← h1, ← h2, ← h3] at hq
  have F1 := Lib.hid f1
  have F2 := Lib.hid f2
  have F3 := Lib.hid f3
  have HQ := Lib.hid hq
  have HE := Lib.hid hE
  have HO := Lib.hid (Own.start [] w)
  have HG := Lib.hid True.intro
  clear hq h1 h2 h3 f1 f2 f3 hE
  go_enter Tryz.func7, Tryz.ntmps7
  go_upto_region 1 with (refine wps_alloc stab_true HG.out tyO HO.out rfl rfl ?_; clear HO HG; rintro k1 W1 hO hG; have HO := Lib.hid hO; have HG := Lib.hid hG; clear hO hG; simp only [Act.put, List.setIfInBounds_toArray, List.set_cons_zero, List.set_cons_succ])
  go_wp2_with fail
  refine (rnew_any s W1).mono ?_
  rintro x W2 ⟨rfl, rfl⟩
  have hO := HO.out.below ((Below.refl W1.heap.size W1).alloc (Nat.le_refl _) (.cells #[.string s, .int .i64 0, .nilIface] 87))
  have hG := RObj.made W1 S s
  have hge := HO.out.size
  clear HO HG
  generalize W1.alloc (.cells #[.string s, .int .i64 0, .nilIface] 87) = W2 at *
  obtain ⟨g, hg⟩ : ∃ g, g = W1.heap.size := ⟨_, rfl⟩
  rw [← hg] at hG hge ⊢
  clear hg
  have HO := Lib.hid hO
  have HG := Lib.hid hG
  have GE := Lib.hid hge
  have henv : ∀ (W : World) (L : OL), Own [] w W L → ∀ w1, Fr [g] W w1 → Env w1 S := fun W L hO w1 hf => HE.out.later (hf.later hO.bel (fun b hx => by rw [List.mem_singleton] at hx; omega) hO.size)
  have HBIN := Lib.hid (fun (W : World) (L : OL) (R' : RV) (hO : Own [] w W L) (h : RObj W S g s R') => rbin_any (henv W L hO) h hs)
  have HU8 := Lib.hid (fun (W : World) (L : OL) (R' : RV) (hO : Own [] w W L) (h : RObj W S g s R') => ru8_any (henv W L hO W (Fr.refl _ _)) h (by omega))
  have HU32 := Lib.hid (fun (W : World) (L : OL) (R' : RV) (hO : Own [] w W L) (h : RObj W S g s R') => ru32_any (henv W L hO W (Fr.refl _ _)) h (by omega))
  have HMS := Lib.hid (fun (W : World) (L : OL) (R' : RV) (hO : Own [] w W L) (h : RObj W S g s R') => message_any HE.out hO.bel hge h hs)
  have HDN := Lib.hid (fun (W : World) (L : OL) (R' : RV) (hO : Own [] w W L) (h : RObj W S g s R') => rdone34 (henv W L hO W (Fr.refl _ _)) h hs)
  have HMF := Lib.hid (fun (W : World) (L : OL) (hO : Own [] w W L) => (henv W L hO W (Fr.refl _ _)).kMalformed)
  clear hO hG henv hge
  go_wp2_with fail
  refine (HU8.out _ _ _ HO.out HG.out).mono ?_
  rintro x W3 ⟨rfl, hN⟩
  rw [← F1.out] at hN ⊢
  have hO := HO.out.rnext HG.out hN (.inr GE.out) rfl
  clear HO HG
  have HO := Lib.hid hO
  have HG := Lib.hid hN.obj
  clear hO hN
  go_wp2_with fail
  refine (HBIN.out _ _ _ HO.out HG.out).mono ?_
  rintro x W4 ⟨rfl, hN⟩
  rw [← F2.out] at hN ⊢
  have hO := HO.out.rnext HG.out hN (.inr GE.out) rfl
  clear HO HG
  have HO := Lib.hid hO
  have HG := Lib.hid hN.obj
  clear hO hN
  go_wp2_with fail
  refine (HU32.out _ _ _ HO.out HG.out).mono ?_
  rintro x W5 ⟨rfl, hN⟩
  rw [← F3.out] at hN ⊢
  have hO := HO.out.rnext HG.out hN (.inr GE.out) rfl
  clear HO HG
  have HO := Lib.hid hO
  have HG := Lib.hid hN.obj
  clear hO hN
  go_upto_region 4 with (first | (refine wpo_built (l := [(0, .int .i64 T1.1), (1, .string T2.1), (2, .int .i64 T3.1)]) (c := #[.int .i64 T1.1, .string T2.1, .int .i64 T3.1, .string ⟨#[]⟩, .string ⟨#[]⟩, .int .i64 0, .bool false, .slice none 0 0, .string ⟨#[]⟩, .int .i64 0, .int .i64 0, .string ⟨#[]⟩]) rfl rfl rfl rfl ?_) | (refine wps_alloc (stab_ro S g s _) HG.out tyO HO.out rfl rfl ?_; clear HO HG; rintro k5 W6 hO hG; have HO := Lib.hid hO; have HG := Lib.hid hG; clear hO hG; simp only [Act.put, List.setIfInBounds_toArray, List.set_cons_zero, List.set_cons_succ]) | (refine wps_store (k := k5) (stab_ro S g s _) HG.out HO.out 0 tyO rfl (by decide) (by decide) (by decide) _ _ rfl rfl rfl rfl rfl rfl rfl ?_; clear HO HG; rintro W7 hO hG; have HO := Lib.hid hO; have HG := Lib.hid hG; clear hO hG; simp only [Act.put]))
  have kd : W7.cell? ⟨k5, 0, none⟩ = some (.int .i64 T1.1) := (HO.out.get 0 rfl).cell 0
  by_cases h1 : T1.1 = 1
  case neg =>
    have e1 : ((T1.1 : Int) == 1) = false := by simp; omega
    obtain ⟨o, ho⟩ : ∃ o : OV, o = ⟨(T1.1 : Nat), T2.1, (T3.1 : Nat), m0⟩ := ⟨_, rfl⟩
    obtain ⟨fl, hfl⟩ : ∃ fl : Nat, fl = 0 := ⟨_, rfl⟩
    obtain ⟨R, hR⟩ : ∃ R, R = T3.2 := ⟨_, rfl⟩
    have HQ2 := Lib.hid (show q = tkE s o T1.1 fl R by rw [HQ.out, if_neg h1, ho, hfl, hR])
    rw [← hR] at HG
    have hG := And.intro HG.out (PIn.nil W7 0 none : PIn W7 0 none [])
    clear HG
    have HG := Lib.hid hG
    have HOV := Lib.hid ho
    have HFL := Lib.hid hfl
    have HCAP := Lib.hid (show (0 : Nat) ≤ 0 from Nat.le_refl _)
    clear hG ho hfl hR HQ
    go_upto_region 10 with (fail)
    clear kd
    go_wp2_with fail
    refine (HDN.out _ _ _ HO.out HG.out.1).mono ?_
    rintro x W10 ⟨e, rfl, he, hb⟩
    have hO := HO.out.below hb
    have hP := HG.out.2.below hb
    clear HO HG hb
    have HO := Lib.hid hO
    clear hO
    by_cases hd : (dnR s R).1 = 0
    case neg =>
      have HX := Lib.hid (show q = ⟨(dnR s R).1, 129, (dnR s R).2, oo0⟩ by rw [HQ2.out]; unfold tkE; rw [if_neg hd])
      obtain ⟨te, ue, rfl⟩ := err_iface he hd
      have HG := Lib.hid he
      clear he hd hP HQ2
      go_wp2_with (first | (refine wpo_zero tyO rfl rfl ?_) | (refine wps_store (k := k1) (stab_eo S _ _ _ _) HG.out HO.out 1 tyO rfl (by decide) (by decide) (by decide) _ _ rfl rfl rfl rfl rfl rfl rfl ?_; clear HO HG; rintro W11 hO hG; have HO := Lib.hid hO; have HG := Lib.hid hG; clear hO hG; simp only [Act.put]))
      exact bodyPost_ret (res_own10 1 HO.out tyO rfl rfl rfl rfl rfl) rfl ⟨none, 0, _, by rw [HX.out] <;> rfl, by rw [HX.out]; exact PIn.nil _ _ _, by rw [HX.out]; exact Nat.le_refl _, by rw [HX.out]; exact HG.out, HO.out.bel⟩
    case pos =>
    unfold ErrOf at he
    rw [if_pos hd] at he
    subst he
    have HQ3 := Lib.hid (show q = if knK T1.1 = true ∧ fl ≤ 7 ∧ mayO o = true then ⟨0, 0, 0, o⟩ else ⟨2, 129, 0, oo0⟩ by rw [HQ2.out]; unfold tkE; rw [if_pos hd])
    clear HQ2 hd
    have HG := Lib.hid hP
    clear hP
    have kd : W10.cell? ⟨k5, 0, none⟩ = some (.int .i64 T1.1) := (HO.out.get 0 rfl).cell 0
    go_upto_region 13 with (fail)
    go_wp2_with fail
    refine (writer_any _ W10).mono ?_
    rintro x W11 ⟨rfl, rfl⟩
    have kM := HMF.out _ _ HO.out
    by_cases hk : knK T1.1 = true
    case neg =>
      have hw : wrK (T1.1 : Int) = .nilFunc := by
        unfold knK at hk
        unfold wrK
        simp only [decide_eq_true_eq] at hk
        rw [if_neg (by omega), if_neg (by omega)]
      rw [hw]
      have hF := nil_eqF W10
      have HX := Lib.hid (show q = ⟨2, 129, 0, oo0⟩ by rw [HQ3.out, if_neg (fun h => hk h.1)])
      have hG := True.intro
      clear HG
      have HG := Lib.hid hG
      clear hG HQ3
      go_wp2_with (first | (refine wpo_zero tyO rfl rfl ?_))
      refine (new_err S 1 129 0).mono ?_
      rintro x W12 ⟨e, rfl, he, hb⟩
      have hO := HO.out.below hb
      have he2 : ErrOf W12 S 129 2 0 e := ErrOf.some (no := 2) (by decide) (by decide) he
      clear HO HG he hb kM kd
      have HO := Lib.hid hO
      have HG := Lib.hid he2
      clear hO he2
      go_wp2_with (first | (refine wps_store (k := k1) (stab_eo S _ _ _ _) HG.out HO.out 1 tyO rfl (by decide) (by decide) (by decide) _ _ rfl rfl rfl rfl rfl rfl rfl ?_; clear HO HG; rintro W13 hO hG; have HO := Lib.hid hO; have HG := Lib.hid hG; clear hO hG; simp only [Act.put]))
      exact bodyPost_ret (res_own10 1 HO.out tyO rfl rfl rfl rfl rfl) rfl ⟨none, 0, _, by rw [HX.out] <;> rfl, by rw [HX.out]; exact PIn.nil _ _ _, by rw [HX.out]; exact Nat.le_refl _, by rw [HX.out]; exact HG.out, HO.out.bel⟩
    case pos =>
    obtain ⟨f, hw⟩ : ∃ f, wrK (T1.1 : Int) = .func (.func f) #[] #[] := by
      unfold knK at hk
      unfold wrK
      simp only [decide_eq_true_eq] at hk
      by_cases h : (T1.1 : Int) = 1
      · exact ⟨_, if_pos h⟩
      · exact ⟨_, by rw [if_neg h, if_pos (by omega)]⟩
    rw [hw]
    clear hw
    have hF := fn_eqF f W10
    have h7 : fl ≤ 7 := by rw [HFL.out]; decide
    have HMY := Lib.hid (may_any o none 0 W10)
    rw [show o.agg none 0 = .agg #[.int .i64 T1.1, .string T2.1, .int .i64 T3.1, .string ⟨#[]⟩, .string ⟨#[]⟩, .int .i64 0, .bool false, .slice none 0 0, .string ⟨#[]⟩, .int .i64 0, .int .i64 0, .string ⟨#[]⟩] by rw [HOV.out]; rfl] at HMY
    have kc1 : W10.cell? ⟨k5, 1, none⟩ = some (.string T2.1) := (HO.out.get 0 rfl).cell 1
    have kc2 : W10.cell? ⟨k5, 2, none⟩ = some (.int .i64 T3.1) := (HO.out.get 0 rfl).cell 2
    have kc3 : W10.cell? ⟨k5, 3, none⟩ = some (.string ⟨#[]⟩) := (HO.out.get 0 rfl).cell 3
    have kc4 : W10.cell? ⟨k5, 4, none⟩ = some (.string ⟨#[]⟩) := (HO.out.get 0 rfl).cell 4
    have kc5 : W10.cell? ⟨k5, 5, none⟩ = some (.int .i64 0) := (HO.out.get 0 rfl).cell 5
    have kc6 : W10.cell? ⟨k5, 6, none⟩ = some (.bool false) := (HO.out.get 0 rfl).cell 6
    have kc7 : W10.cell? ⟨k5, 7, none⟩ = some (.slice none 0 0) := (HO.out.get 0 rfl).cell 7
    have kc8 : W10.cell? ⟨k5, 8, none⟩ = some (.string ⟨#[]⟩) := (HO.out.get 0 rfl).cell 8
    have kc9 : W10.cell? ⟨k5, 9, none⟩ = some (.int .i64 0) := (HO.out.get 0 rfl).cell 9
    have kc10 : W10.cell? ⟨k5, 10, none⟩ = some (.int .i64 0) := (HO.out.get 0 rfl).cell 10
    have kc11 : W10.cell? ⟨k5, 11, none⟩ = some (.string ⟨#[]⟩) := (HO.out.get 0 rfl).cell 11
    go_wp2_with fail
    refine HMY.out.mono ?_
    rintro x W14 ⟨rfl, hb⟩
    have hO := HO.out.below hb
    have hP := HG.out.below hb
    clear HO HG hb kd kM HMY hF kc1 kc2 kc3 kc4 kc5 kc6 kc7 kc8 kc9 kc10 kc11
    have HO := Lib.hid hO
    have HG := Lib.hid hP
    clear hO hP
    by_cases hm : mayO o = true
    case neg =>
      have hm0 : mayO o = false := by simpa using hm
      rw [hm0]
      have kM := HMF.out _ _ HO.out
      have kd := kM
      have HX := Lib.hid (show q = ⟨2, 129, 0, oo0⟩ by rw [HQ3.out, if_neg (fun h => hm h.2.2)])
      have hG := True.intro
      clear HG
      have HG := Lib.hid hG
      clear hG HQ3
      go_wp2_with (first | (refine wpo_zero tyO rfl rfl ?_))
      refine (new_err S 1 129 0).mono ?_
      rintro x W12 ⟨e, rfl, he, hb⟩
      have hO := HO.out.below hb
      have he2 : ErrOf W12 S 129 2 0 e := ErrOf.some (no := 2) (by decide) (by decide) he
      clear HO HG he hb kM kd
      have HO := Lib.hid hO
      have HG := Lib.hid he2
      clear hO he2
      go_wp2_with (first | (refine wps_store (k := k1) (stab_eo S _ _ _ _) HG.out HO.out 1 tyO rfl (by decide) (by decide) (by decide) _ _ rfl rfl rfl rfl rfl rfl rfl ?_; clear HO HG; rintro W13 hO hG; have HO := Lib.hid hO; have HG := Lib.hid hG; clear hO hG; simp only [Act.put]))
      exact bodyPost_ret (res_own10 1 HO.out tyO rfl rfl rfl rfl rfl) rfl ⟨none, 0, _, by rw [HX.out] <;> rfl, by rw [HX.out]; exact PIn.nil _ _ _, by rw [HX.out]; exact Nat.le_refl _, by rw [HX.out]; exact HG.out, HO.out.bel⟩
    case pos =>
    rw [hm]
    have HX := Lib.hid (show q = ⟨0, 0, 0, o⟩ by rw [HQ3.out, if_pos ⟨hk, h7, hm⟩])
    clear HQ3
    go_wp2_with (first | (refine wpo_load HO.out 0 tyO rfl rfl _ rfl rfl rfl ?_) | (refine wps_store (k := k1) (stab_pin none []) HG.out HO.out 1 tyO rfl (by decide) (by decide) (by decide) _ _ rfl rfl rfl rfl rfl rfl rfl ?_; clear HO HG; rintro W15 hO hG; have HO := Lib.hid hO; have HG := Lib.hid hG; clear hO hG; simp only [Act.put]))
    exact bodyPost_ret (res_own10 1 HO.out tyO rfl rfl rfl rfl rfl) rfl ⟨none, 0, _, by rw [HX.out, HOV.out] <;> rfl, by rw [HX.out, HOV.out]; exact HG.out, by rw [HX.out, HOV.out]; exact HCAP.out, by rw [HX.out]; exact ErrOf.none, HO.out.bel⟩
  case pos =>
    have e1 : ((T1.1 : Int) == 1) = true := by simp [h1]
    have H1 := Lib.hid h1
    clear h1
    go_upto_region 6 with (fail)
    clear kd
    go_wp2_with fail
    have hq := HQ.out
    rw [if_pos H1.out] at hq
    have HM2 := HMS.out _ _ _ HO.out HG.out
    clear HQ
    generalize msF s T3.2 = M at HM2 hq
    obtain ⟨⟨m1, m2, m3, m4, m5, m6, m7, m8, m9⟩, fl, ⟨en, er, ea, eL⟩, R⟩ := M
    refine HM2.mono ?_
    clear HM2
    rintro x W8 ⟨A, c, e, rfl, hP, hcap, he, hN⟩
    simp only [opM] at hq hP hcap he hN ⊢
    have hO := HO.out.rnext HG.out hN (.inr GE.out) rfl
    have hG : ((RObj W8 S g s R ∧ PIn W8 0 A m5) ∧ ErrOf W8 S er en ea e) := ⟨⟨hN.obj, hP⟩, he⟩
    clear HO HG hP he hN
    obtain ⟨n, hn⟩ : ∃ n, n = m5.length := ⟨_, rfl⟩
    rw [show QV.agg ⟨⟨m1, m2, m3, m4, m5, m6, m7, m8, m9⟩, A, c⟩ = .agg #[.string m1, .string m2, .int .i64 m3, .bool m4, .slice A n c, .string m6, .int .i64 m7, .int .i64 m8, .string m9] by rw [hn]; rfl]
    have HO := Lib.hid hO
    have HG := Lib.hid hG
    have HQQ := Lib.hid hq
    have HCAP := Lib.hid hcap
    have HN := Lib.hid hn
    have STB := Lib.hid (((stab_ro S g s R).and (stab_pin A m5)).and (stab_eo S er en ea e))
    clear hO hG hq hcap hn
    go_upto_region 7 with (first | (refine wps_mid (k := k5) (c := #[.string m1, .string m2, .int .i64 m3, .bool m4, .slice A n c, .string m6, .int .i64 m7, .int .i64 m8, .string m9]) STB.out HG.out HO.out 0 3 tyM.ip rfl (by decide) (by decide) (by decide) _ _ rfl rfl rfl rfl (show 3 + 9 ≤ 12 by decide) (by simp [Value.oneCell']) ?_; clear HO HG; rintro W9 hO hG; simp only [putN, List.setIfInBounds_toArray, List.set_cons_zero, List.set_cons_succ] at hO; have HO := Lib.hid hO; have HG := Lib.hid hG; clear hO hG; simp only [Act.put]))
    by_cases h0 : en = 0
    case neg =>
      have HX := Lib.hid (show q = ⟨en, er, ea, oo0⟩ by rw [HQQ.out, if_neg h0])
      obtain ⟨te, ue, rfl⟩ := err_iface HG.out.2 h0
      clear h0 HQQ
      go_wp2_with (first | (refine wpo_zero tyO rfl rfl ?_) | (refine wps_store (k := k1) STB.out HG.out HO.out 1 tyO rfl (by decide) (by decide) (by decide) _ _ rfl rfl rfl rfl rfl rfl rfl ?_; clear HO HG; rintro W11 hO hG; have HO := Lib.hid hO; have HG := Lib.hid hG; clear hO hG; simp only [Act.put]))
      exact bodyPost_ret (res_own10 1 HO.out tyO rfl rfl rfl rfl rfl) rfl ⟨none, 0, _, by rw [HX.out] <;> rfl, by rw [HX.out]; exact PIn.nil _ _ _, by rw [HX.out]; exact Nat.le_refl _, by rw [HX.out]; exact HG.out.2, HO.out.bel⟩
    case pos =>
    have hq := HQQ.out
    rw [if_pos h0] at hq
    have hG := HG.out.1
    have he := HG.out.2
    unfold ErrOf at he
    rw [if_pos h0] at he
    subst he
    clear HG STB HQQ
    have HG := Lib.hid hG
    obtain ⟨o, ho⟩ : ∃ o : OV, o = ⟨(T1.1 : Nat), T2.1, (T3.1 : Nat), ⟨m1, m2, m3, m4, m5, m6, m7, (T3.1 : Nat), T2.1⟩⟩ := ⟨_, rfl⟩
    rw [← ho] at hq
    have HQ2 := Lib.hid hq
    have HOV := Lib.hid ho
    have STB := Lib.hid ((stab_ro S g s R).and (stab_pin A m5))
    clear hG hq ho h0
    have kd1 : W9.cell? ⟨k5, 1, none⟩ = some (.string T2.1) := (HO.out.get 0 rfl).cell 1
    have kd2 : W9.cell? ⟨k5, 2, none⟩ = some (.int .i64 T3.1) := (HO.out.get 0 rfl).cell 2
    go_upto_region 10 with (first | (refine wps_cell (k := k5) STB.out HG.out HO.out 0 11 tyS.ip rfl (by decide) (by decide) (by decide) _ _ rfl rfl rfl rfl (show 11 < 12 by decide) rfl ?_; clear HO HG; rintro Wa hO hG; have HO := Lib.hid hO; have HG := Lib.hid hG; clear hO hG; simp only [Act.put]) | (refine wps_cell (k := k5) STB.out HG.out HO.out 0 10 tyI.ip rfl (by decide) (by decide) (by decide) _ _ rfl rfl rfl rfl (show 10 < 12 by decide) rfl ?_; clear HO HG; rintro Wb hO hG; have HO := Lib.hid hO; have HG := Lib.hid hG; clear hO hG; simp only [Act.put]))
    clear kd1 kd2 STB
    have hO : Own [] w Wb [(k5, 27, #[.int .i64 T1.1, .string T2.1, .int .i64 T3.1, .string m1, .string m2, .int .i64 m3, .bool m4, .slice A n c, .string m6, .int .i64 m7, .int .i64 T3.1, .string T2.1]), (k1, 27, #[.int .i64 0, .string ⟨#[]⟩, .int .i64 0, .string ⟨#[]⟩, .string ⟨#[]⟩, .int .i64 0, .bool false, .slice none 0 0, .string ⟨#[]⟩, .int .i64 0, .int .i64 0, .string ⟨#[]⟩])] := HO.out
    clear HO
    have HO := Lib.hid hO
    clear hO
    go_wp2_with fail
    refine (HDN.out _ _ _ HO.out HG.out.1).mono ?_
    rintro x W10 ⟨e, rfl, he, hb⟩
    have hO := HO.out.below hb
    have hP := HG.out.2.below hb
    clear HO HG hb
    have HO := Lib.hid hO
    clear hO
    by_cases hd : (dnR s R).1 = 0
    case neg =>
      have HX := Lib.hid (show q = ⟨(dnR s R).1, 129, (dnR s R).2, oo0⟩ by rw [HQ2.out]; unfold tkE; rw [if_neg hd])
      obtain ⟨te, ue, rfl⟩ := err_iface he hd
      have HG := Lib.hid he
      clear he hd hP HQ2
      go_wp2_with (first | (refine wpo_zero tyO rfl rfl ?_) | (refine wps_store (k := k1) (stab_eo S _ _ _ _) HG.out HO.out 1 tyO rfl (by decide) (by decide) (by decide) _ _ rfl rfl rfl rfl rfl rfl rfl ?_; clear HO HG; rintro W11 hO hG; have HO := Lib.hid hO; have HG := Lib.hid hG; clear hO hG; simp only [Act.put]))
      exact bodyPost_ret (res_own10 1 HO.out tyO rfl rfl rfl rfl rfl) rfl ⟨none, 0, _, by rw [HX.out] <;> rfl, by rw [HX.out]; exact PIn.nil _ _ _, by rw [HX.out]; exact Nat.le_refl _, by rw [HX.out]; exact HG.out, HO.out.bel⟩
    case pos =>
    unfold ErrOf at he
    rw [if_pos hd] at he
    subst he
    have HQ3 := Lib.hid (show q = if knK T1.1 = true ∧ fl ≤ 7 ∧ mayO o = true then ⟨0, 0, 0, o⟩ else ⟨2, 129, 0, oo0⟩ by rw [HQ2.out]; unfold tkE; rw [if_pos hd])
    clear HQ2 hd
    have HG := Lib.hid hP
    clear hP
    have kd : W10.cell? ⟨k5, 0, none⟩ = some (.int .i64 T1.1) := (HO.out.get 0 rfl).cell 0
    go_upto_region 13 with (fail)
    go_wp2_with fail
    refine (writer_any _ W10).mono ?_
    rintro x W11 ⟨rfl, rfl⟩
    have kM := HMF.out _ _ HO.out
    by_cases hk : knK T1.1 = true
    case neg =>
      have hw : wrK (T1.1 : Int) = .nilFunc := by
        unfold knK at hk
        unfold wrK
        simp only [decide_eq_true_eq] at hk
        rw [if_neg (by omega), if_neg (by omega)]
      rw [hw]
      have hF := nil_eqF W10
      have HX := Lib.hid (show q = ⟨2, 129, 0, oo0⟩ by rw [HQ3.out, if_neg (fun h => hk h.1)])
      have hG := True.intro
      clear HG
      have HG := Lib.hid hG
      clear hG HQ3
      go_wp2_with (first | (refine wpo_zero tyO rfl rfl ?_))
      refine (new_err S 1 129 0).mono ?_
      rintro x W12 ⟨e, rfl, he, hb⟩
      have hO := HO.out.below hb
      have he2 : ErrOf W12 S 129 2 0 e := ErrOf.some (no := 2) (by decide) (by decide) he
      clear HO HG he hb kM kd
      have HO := Lib.hid hO
      have HG := Lib.hid he2
      clear hO he2
      go_wp2_with (first | (refine wps_store (k := k1) (stab_eo S _ _ _ _) HG.out HO.out 1 tyO rfl (by decide) (by decide) (by decide) _ _ rfl rfl rfl rfl rfl rfl rfl ?_; clear HO HG; rintro W13 hO hG; have HO := Lib.hid hO; have HG := Lib.hid hG; clear hO hG; simp only [Act.put]))
      exact bodyPost_ret (res_own10 1 HO.out tyO rfl rfl rfl rfl rfl) rfl ⟨none, 0, _, by rw [HX.out] <;> rfl, by rw [HX.out]; exact PIn.nil _ _ _, by rw [HX.out]; exact Nat.le_refl _, by rw [HX.out]; exact HG.out, HO.out.bel⟩
    case pos =>
    obtain ⟨f, hw⟩ : ∃ f, wrK (T1.1 : Int) = .func (.func f) #[] #[] := by
      unfold knK at hk
      unfold wrK
      simp only [decide_eq_true_eq] at hk
      by_cases h : (T1.1 : Int) = 1
      · exact ⟨_, if_pos h⟩
      · exact ⟨_, by rw [if_neg h, if_pos (by omega)]⟩
    rw [hw]
    clear hw
    have hF := fn_eqF f W10
    by_cases h7 : fl ≤ 7
    case neg =>
      have h7' : (7 : Int) < (fl : Int) := by omega
      have HX := Lib.hid (show q = ⟨2, 129, 0, oo0⟩ by rw [HQ3.out, if_neg (fun h => h7 h.2.1)])
      have hG := True.intro
      clear HG
      have HG := Lib.hid hG
      clear hG HQ3
      go_wp2_with (first | (refine wpo_zero tyO rfl rfl ?_))
      refine (new_err S 1 129 0).mono ?_
      rintro x W12 ⟨e, rfl, he, hb⟩
      have hO := HO.out.below hb
      have he2 : ErrOf W12 S 129 2 0 e := ErrOf.some (no := 2) (by decide) (by decide) he
      clear HO HG he hb kM kd
      have HO := Lib.hid hO
      have HG := Lib.hid he2
      clear hO he2
      go_wp2_with (first | (refine wps_store (k := k1) (stab_eo S _ _ _ _) HG.out HO.out 1 tyO rfl (by decide) (by decide) (by decide) _ _ rfl rfl rfl rfl rfl rfl rfl ?_; clear HO HG; rintro W13 hO hG; have HO := Lib.hid hO; have HG := Lib.hid hG; clear hO hG; simp only [Act.put]))
      exact bodyPost_ret (res_own10 1 HO.out tyO rfl rfl rfl rfl rfl) rfl ⟨none, 0, _, by rw [HX.out] <;> rfl, by rw [HX.out]; exact PIn.nil _ _ _, by rw [HX.out]; exact Nat.le_refl _, by rw [HX.out]; exact HG.out, HO.out.bel⟩
    case pos =>
    have h7' : ¬ (7 : Int) < (fl : Int) := by omega
    have HMY := Lib.hid (may_any o A c W10)
    rw [show o.agg A c = .agg #[.int .i64 T1.1, .string T2.1, .int .i64 T3.1, .string m1, .string m2, .int .i64 m3, .bool m4, .slice A n c, .string m6, .int .i64 m7, .int .i64 T3.1, .string T2.1] by rw [HOV.out, HN.out]; rfl] at HMY
    have kc1 : W10.cell? ⟨k5, 1, none⟩ = some (.string T2.1) := (HO.out.get 0 rfl).cell 1
    have kc2 : W10.cell? ⟨k5, 2, none⟩ = some (.int .i64 T3.1) := (HO.out.get 0 rfl).cell 2
    have kc3 : W10.cell? ⟨k5, 3, none⟩ = some (.string m1) := (HO.out.get 0 rfl).cell 3
    have kc4 : W10.cell? ⟨k5, 4, none⟩ = some (.string m2) := (HO.out.get 0 rfl).cell 4
    have kc5 : W10.cell? ⟨k5, 5, none⟩ = some (.int .i64 m3) := (HO.out.get 0 rfl).cell 5
    have kc6 : W10.cell? ⟨k5, 6, none⟩ = some (.bool m4) := (HO.out.get 0 rfl).cell 6
    have kc7 : W10.cell? ⟨k5, 7, none⟩ = some (.slice A n c) := (HO.out.get 0 rfl).cell 7
    have kc8 : W10.cell? ⟨k5, 8, none⟩ = some (.string m6) := (HO.out.get 0 rfl).cell 8
    have kc9 : W10.cell? ⟨k5, 9, none⟩ = some (.int .i64 m7) := (HO.out.get 0 rfl).cell 9
    have kc10 : W10.cell? ⟨k5, 10, none⟩ = some (.int .i64 T3.1) := (HO.out.get 0 rfl).cell 10
    have kc11 : W10.cell? ⟨k5, 11, none⟩ = some (.string T2.1) := (HO.out.get 0 rfl).cell 11
    go_wp2_with fail
    refine HMY.out.mono ?_
    rintro x W14 ⟨rfl, hb⟩
    have hO := HO.out.below hb
    have hP := HG.out.below hb
    clear HO HG hb kd kM HMY hF kc1 kc2 kc3 kc4 kc5 kc6 kc7 kc8 kc9 kc10 kc11
    have HO := Lib.hid hO
    have HG := Lib.hid hP
    clear hO hP
    by_cases hm : mayO o = true
    case neg =>
      have hm0 : mayO o = false := by simpa using hm
      rw [hm0]
      have kM := HMF.out _ _ HO.out
      have kd := kM
      have HX := Lib.hid (show q = ⟨2, 129, 0, oo0⟩ by rw [HQ3.out, if_neg (fun h => hm h.2.2)])
      have hG := True.intro
      clear HG
      have HG := Lib.hid hG
      clear hG HQ3
      go_wp2_with (first | (refine wpo_zero tyO rfl rfl ?_))
      refine (new_err S 1 129 0).mono ?_
      rintro x W12 ⟨e, rfl, he, hb⟩
      have hO := HO.out.below hb
      have he2 : ErrOf W12 S 129 2 0 e := ErrOf.some (no := 2) (by decide) (by decide) he
      clear HO HG he hb kM kd
      have HO := Lib.hid hO
      have HG := Lib.hid he2
      clear hO he2
      go_wp2_with (first | (refine wps_store (k := k1) (stab_eo S _ _ _ _) HG.out HO.out 1 tyO rfl (by decide) (by decide) (by decide) _ _ rfl rfl rfl rfl rfl rfl rfl ?_; clear HO HG; rintro W13 hO hG; have HO := Lib.hid hO; have HG := Lib.hid hG; clear hO hG; simp only [Act.put]))
      exact bodyPost_ret (res_own10 1 HO.out tyO rfl rfl rfl rfl rfl) rfl ⟨none, 0, _, by rw [HX.out] <;> rfl, by rw [HX.out]; exact PIn.nil _ _ _, by rw [HX.out]; exact Nat.le_refl _, by rw [HX.out]; exact HG.out, HO.out.bel⟩
    case pos =>
    rw [hm]
    have HX := Lib.hid (show q = ⟨0, 0, 0, o⟩ by rw [HQ3.out, if_pos ⟨hk, h7, hm⟩])
    clear HQ3
    go_wp2_with (first | (refine wpo_load HO.out 0 tyO rfl rfl _ rfl rfl rfl ?_) | (refine wps_store (k := k1) (stab_pin A m5) HG.out HO.out 1 tyO rfl (by decide) (by decide) (by decide) _ _ rfl rfl rfl rfl rfl rfl rfl ?_; clear HO HG; rintro W15 hO hG; have HO := Lib.hid hO; have HG := Lib.hid hG; clear hO hG; simp only [Act.put]))
    exact bodyPost_ret (res_own10 1 HO.out tyO rfl rfl rfl rfl rfl) rfl ⟨A, c, _, by rw [HX.out, HOV.out, HN.out] <;> rfl, by rw [HX.out, HOV.out]; exact HG.out, by rw [HX.out, HOV.out]; exact HCAP.out, by rw [HX.out]; exact ErrOf.none, HO.out.bel⟩
end Go.Proofs.YtnolnhpmpjgnaaaGreatDoor
