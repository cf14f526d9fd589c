/- What is proved here: the statements of layer 43 answer true. Conditions: what the rows list of the package's variables. -/
import Derived.Test.YtaoaoobabjepnaaDoorLsa43
import Derived.Test.YtaoaoobabjepnaaDoorAwk43
import Derived.Test.YtaoaoobabjepnaaDoorRtk43
import Derived.Test.YtaoaoobabjepnaaDoorSme43
import Derived.Test.YtaoaoobabjepnaaDoorEsm43
import Derived.Test.YtaoaoobabjepnaaDoorOwg43
import Derived.Test.YtaoaoobabjepnaaDoorRaw04
import Derived.Test.YtaoaoobabjepnaaDoorRtx04
import Derived.Deep.QuietTactic
import Derived.BigQuiet
import Derived.Deep.DeepMust
import Derived.Deep.DeepCutAuto
namespace Go.Proofs.YtaoaoobabjepnaaDoor
set_option maxRecDepth 100000
open Go.ChangeShapes Go.WideShapes Go.RowKit Go.Deep Go.Extern.Stop Go.Stop Go.Extern
theorem tk_bad {s : ByteArray} (h : (tkS s).e.1 ≠ 0) : (tkS s).C = zC ∧ (tkS s).L = [] := by
  rw [tkS_eq] at h ⊢
  unfold tkB at h ⊢
  generalize esF s (bdF s).2.2 = e at *
  generalize bdF s = b at *
  by_cases h1 : b.1.1 = 0
  · rw [if_pos h1] at h ⊢
    by_cases h2 : e.1.1 = 0
    · rw [if_pos h2] at h
      exact absurd rfl h
    · rw [if_neg h2]
      exact ⟨rfl, rfl⟩
  · rw [if_neg h1]
    exact ⟨rfl, rfl⟩
theorem wE_len (W : EV) (x : ET) : (wE W x).L.length ≤ W.L.length + (8 + x.b.size) := by
  unfold wE
  have h1 := stepW_len W (numE 1 x.k)
  have h2 := stepW_len (stepW W (numE 1 x.k)) (numE 1 x.c)
  have h3 := stepW_len (stepW (stepW W (numE 1 x.k)) (numE 1 x.c)) (numE 4 x.n)
  have h4 := stepW_len (stepW (stepW (stepW W (numE 1 x.k)) (numE 1 x.c)) (numE 4 x.n)) (binE x.b)
  have n1 := numE_len 1 x.k
  have n2 := numE_len 1 x.c
  have n3 := numE_len 4 x.n
  have n4 := binE_len x.b
  omega
theorem fold_len43 (B : Nat) : ∀ (L : List ET) (W : EV), (∀ x ∈ L, x.b.size ≤ B) → (L.foldl wE W).L.length ≤ W.L.length + L.length * (8 + B)
  | [], W, _ => by simp
  | x :: L, W, h => by
    have h1 := fold_len43 B L (wE W x) (fun y hy => h y (List.mem_cons_of_mem _ hy))
    have h2 := wE_len W x
    have h3 := h x (List.mem_cons_self ..)
    rw [List.foldl_cons, List.length_cons, Nat.add_mul, Nat.one_mul]
    omega
theorem few_len43 {C : Nat → Int} {L : List ET} (hl : L.length ≤ 40) (hb : ∀ x ∈ L, x.b.size ≤ 512) (i : Nat) : ((L.take i).foldl wE (wH C L.length)).L.length ≤ 30000 := by
  have h1 := fold_len43 512 (L.take i) (wH C L.length) (fun x hx => hb x (List.mem_of_mem_take hx))
  have h2 := stepW_len (wB C 13) (numE 2 L.length)
  have h3 := wB_len C 13
  have h4 := numE_len 2 (L.length : Int)
  have h5 : (wH C L.length).L.length ≤ 59 := by unfold wH; omega
  have h6 : (L.take i).length ≤ 40 := by rw [List.length_take]; omega
  omega
theorem pt_len {C : Nat → Int} {L : List ET} (h : (wL C L.length L).L.length ≤ 30000) : (ptS C L).2.length ≤ 30000 := by
  unfold ptS
  repeat' split
  all_goals first | exact h | exact Nat.zero_le _
theorem list13 (cs : List Value) (h : cs.length = 13) : ∃ u0 u1 u2 u3 u4 u5 u6 u7 u8 u9 u10 u11 u12, cs = [u0, u1, u2, u3, u4, u5, u6, u7, u8, u9, u10, u11, u12] := by
  rcases cs with _ | ⟨u0, _ | ⟨u1, _ | ⟨u2, _ | ⟨u3, _ | ⟨u4, _ | ⟨u5, _ | ⟨u6, _ | ⟨u7, _ | ⟨u8, _ | ⟨u9, _ | ⟨u10, _ | ⟨u11, _ | ⟨u12, _ | ⟨u13, cs⟩⟩⟩⟩⟩⟩⟩⟩⟩⟩⟩⟩⟩⟩ <;> simp at h
  exact ⟨u0, u1, u2, u3, u4, u5, u6, u7, u8, u9, u10, u11, u12, rfl⟩
section
variable {H : Type} {enc : TypeId × Value → H} {w : World}
theorem cfg_open43 {r : Reach} {b0 b1 : Nat} {sp : Nat → Bool} {held : Bool} {v : Value} {d : DataW H} {ps : List MemPlace} (hval : Value.okWide Tryd.prog w r b0 24 v) (hd : DataW.Trod enc Tryd.prog w b1 sp held 24 v d ps) :
    ∃ C : Nat → Int, v = .agg (cfgC C) ∧ True := by
  obtain ⟨cs, rfl, hsz⟩ := okWide_struct Tryd.underlying24 hval
  obtain ⟨fuel, hf⟩ := hd
  obtain ⟨u0, u1, u2, u3, u4, u5, u6, u7, u8, u9, u10, u11, u12, hcs⟩ := list13 cs.toList (by rw [Array.length_toList, hsz]; kernel_rfl)
  have hf : DataW.trod enc Tryd.prog w b1 sp held fuel 24 cs.toList = some (d, ps) := hf
  rw [hcs] at hf
  obtain ⟨ys, n2, _, _, _, hyl, hfl⟩ := DataW.trod_struct Tryd.underlying24 hf
  have hy : ∀ j, j < 13 → ∃ z, ys[j]? = some z := fun j hj => ⟨_, List.getElem?_eq_getElem (by rw [hyl]; exact hj)⟩
  obtain ⟨t0, x0⟩ := hy 0 (by omega)
  obtain ⟨v0, e0, _⟩ := DataW.trod_int Tryd.underlying3 (cs := [u0]) ((hfl 0 _ rfl).trans x0)
  obtain ⟨t1, x1⟩ := hy 1 (by omega)
  obtain ⟨v1, e1, _⟩ := DataW.trod_int Tryd.underlying3 (cs := [u1]) ((hfl 1 _ rfl).trans x1)
  obtain ⟨t2, x2⟩ := hy 2 (by omega)
  obtain ⟨v2, e2, _⟩ := DataW.trod_int Tryd.underlying3 (cs := [u2]) ((hfl 2 _ rfl).trans x2)
  obtain ⟨t3, x3⟩ := hy 3 (by omega)
  obtain ⟨v3, e3, _⟩ := DataW.trod_int Tryd.underlying3 (cs := [u3]) ((hfl 3 _ rfl).trans x3)
  obtain ⟨t4, x4⟩ := hy 4 (by omega)
  obtain ⟨v4, e4, _⟩ := DataW.trod_int Tryd.underlying3 (cs := [u4]) ((hfl 4 _ rfl).trans x4)
  obtain ⟨t5, x5⟩ := hy 5 (by omega)
  obtain ⟨v5, e5, _⟩ := DataW.trod_int Tryd.underlying3 (cs := [u5]) ((hfl 5 _ rfl).trans x5)
  obtain ⟨t6, x6⟩ := hy 6 (by omega)
  obtain ⟨v6, e6, _⟩ := DataW.trod_int Tryd.underlying3 (cs := [u6]) ((hfl 6 _ rfl).trans x6)
  obtain ⟨t7, x7⟩ := hy 7 (by omega)
  obtain ⟨v7, e7, _⟩ := DataW.trod_int Tryd.underlying3 (cs := [u7]) ((hfl 7 _ rfl).trans x7)
  obtain ⟨t8, x8⟩ := hy 8 (by omega)
  obtain ⟨v8, e8, _⟩ := DataW.trod_int Tryd.underlying3 (cs := [u8]) ((hfl 8 _ rfl).trans x8)
  obtain ⟨t9, x9⟩ := hy 9 (by omega)
  obtain ⟨v9, e9, _⟩ := DataW.trod_int Tryd.underlying3 (cs := [u9]) ((hfl 9 _ rfl).trans x9)
  obtain ⟨t10, x10⟩ := hy 10 (by omega)
  obtain ⟨v10, e10, _⟩ := DataW.trod_int Tryd.underlying3 (cs := [u10]) ((hfl 10 _ rfl).trans x10)
  obtain ⟨t11, x11⟩ := hy 11 (by omega)
  obtain ⟨v11, e11, _⟩ := DataW.trod_int Tryd.underlying3 (cs := [u11]) ((hfl 11 _ rfl).trans x11)
  obtain ⟨t12, x12⟩ := hy 12 (by omega)
  obtain ⟨v12, e12, _⟩ := DataW.trod_int Tryd.underlying3 (cs := [u12]) ((hfl 12 _ rfl).trans x12)
  obtain rfl := (List.cons.inj e0).1
  obtain rfl := (List.cons.inj e1).1
  obtain rfl := (List.cons.inj e2).1
  obtain rfl := (List.cons.inj e3).1
  obtain rfl := (List.cons.inj e4).1
  obtain rfl := (List.cons.inj e5).1
  obtain rfl := (List.cons.inj e6).1
  obtain rfl := (List.cons.inj e7).1
  obtain rfl := (List.cons.inj e8).1
  obtain rfl := (List.cons.inj e9).1
  obtain rfl := (List.cons.inj e10).1
  obtain rfl := (List.cons.inj e11).1
  obtain rfl := (List.cons.inj e12).1
  refine ⟨fun i => ([v0, v1, v2, v3, v4, v5, v6, v7, v8, v9, v10, v11, v12] : List Int).getD i 0, ?_, trivial⟩
  rw [show cs = cfgC (fun i => ([v0, v1, v2, v3, v4, v5, v6, v7, v8, v9, v10, v11, v12] : List Int).getD i 0) from Array.toList_inj.mp hcs]
end
section
variable {w w' : World} {S : Nat → Addr}
set_option maxHeartbeats 32000000 in
theorem scriptBack_walk (S : Nat → Addr) (C : Nat → Int) (b : Option Addr) (bl bc : Nat) (L : List ET) (s : ByteArray) (w : World) (h : EnvN w S) (_hC : True) (wb : bl ≤ maxLen) (hL : L.length = bl ∧ ERd w b L) (wa : s.size ≤ maxLen) : Calls Tryd.prog 4 #[.agg (cfgC C), .slice b bl bc, .string s] w fun x w' => x = .returned (.bool true) ∧ Below w.heap.size w w' := by
  unfold maxLen at wa wb
  obtain ⟨rfl, hr⟩ := hL
  have HE := Lib.hid h
  have HO := Lib.hid (Own.start [] w)
  have HR := Lib.hid hr
  clear h hr
  have HFW := Lib.hid (fun W (hr : ERd W b L) => few43_any (A := b) (L := L) bc 40 hr wb (by decide))
  go_enter Tryd.func4, Tryd.ntmps4
  go_upto_region 1 with (refine wpo_box (t := 24) HO.out _ rfl rfl rfl ?_; clear HO; rintro k3 W1 hO; have HO := Lib.hid hO; clear hO; simp only [Act.put, List.setIfInBounds_toArray, List.set_cons_zero, List.set_cons_succ])
  have HFW2 := Lib.hid (HFW.out W1 (HR.out.below HO.out.bel))
  clear HFW
  go_wp2_with fail
  refine HFW2.out.mono ?_
  rintro x W2 ⟨⟨fb, rfl, hfb⟩, rfl⟩
  clear HFW2
  cases fb
  case false =>
    clear hfb
    have HA := Lib.hid (awake43 (HE.out.later HO.out.bel))
    go_wp2_with fail
    refine HA.out.mono ?_
    rintro x V1 ⟨rfl, hb⟩
    have HX := Lib.hid (HO.out.bel.trans (hb.mono HO.out.bel.size))
    clear hb HA
    go_wp2_with fail
    go_ret
    exact ⟨rfl, HX.out⟩
  case true =>
    obtain ⟨hl40, hb512⟩ := hfb rfl
    have hbm : ∀ x ∈ L, x.b.size ≤ 512 := fun x hx => by obtain ⟨k, hk, rfl⟩ := List.mem_iff_getElem.1 hx; have := hb512 k hk; rwa [List.getD_eq_getElem?_getD, List.getElem?_eq_getElem hk] at this
    have HBM := Lib.hid hbm
    have HL40 := Lib.hid hl40
    clear hfb hl40
    by_cases ha : 8192 < s.size
    case pos =>
      clear hb512 hbm
      have HA := Lib.hid (awake43 (HE.out.later HO.out.bel))
      go_wp2_with fail
      refine HA.out.mono ?_
      rintro x V1 ⟨rfl, hb⟩
      have HX := Lib.hid (HO.out.bel.trans (hb.mono HO.out.bel.size))
      clear hb HA
      go_wp2_with fail
      go_ret
      exact ⟨rfl, HX.out⟩
    case neg =>
      have HSZ := Lib.hid (show s.size ≤ 8192 by omega)
      have hai : ¬ (8192 : Int) < (s.size : Int) := by omega
      have hfl := few_len43 (C := C) HL40.out hbm
      have HPT := Lib.hid (put_any (C := C) ((HE.out.later HO.out.bel).env) bc (HR.out.below HO.out.bel) (by have := HL40.out; omega) (fun k hk => by have := hb512 k hk; omega) (fun i => by have := hfl i; omega))
      have HPL := Lib.hid (pt_len (C := C) (L := L) (by have h := hfl L.length; rw [List.take_length] at h; exact h))
      clear hb512 hbm hfl ha
      go_wp2_with (refine wpo_load HO.out 0 tyC rfl rfl _ rfl rfl rfl ?_)
      refine HPT.out.mono ?_
      rintro x V2 ⟨e, rfl, he, hb⟩
      have HB := Lib.hid (HO.out.below hb)
      clear HO hb HPT hai
      have HO := HB
      clear HB
      by_cases h0 : (ptS C L).1.1 = 0
      case neg =>
        obtain ⟨te, ue, rfl⟩ := he.isErr h0
        clear he h0 HPL
        go_upto_region 8 with fail
        have HTK := Lib.hid (tak_any (s := s) ((HE.out.later HO.out.bel).env) (by have := HSZ.out; omega))
        have HTP := Lib.hid (fun h => take_put (s := s) h)
        have HTB := Lib.hid (fun h => tk_bad (s := s) h)
        generalize tkS s = T2 at *
        obtain ⟨q2, D, M⟩ := T2
        simp only at HTP HTB
        go_wp2_with fail
        refine HTK.out.mono ?_
        rintro x V4 ⟨a2, c2, e2, rfl, hr, he, hb⟩
        have HB := Lib.hid (HO.out.below hb)
        have HG := Lib.hid (And.intro hr he)
        clear HO hb hr he HTK
        have HO := HB
        clear HB
        simp only at HG
        have ST2 := (stab_row a2 M).and (stab_er S q2 e2)
        simp only [cfgC]
        go_upto_region 9 with (first | (refine wps_alloc ST2 HG.out tyC HO.out rfl rfl ?_; clear HO HG; rintro k12 W5 hO hG; have HO := Lib.hid hO; have HG := Lib.hid hG; clear hO hG; simp only [Act.put, List.setIfInBounds_toArray, List.set_cons_zero, List.set_cons_succ]) | (refine wps_store (k := k12) (c := #[.int .i64 (D 0), .int .i64 (D 1), .int .i64 (D 2), .int .i64 (D 3), .int .i64 (D 4), .int .i64 (D 5), .int .i64 (D 6), .int .i64 (D 7), .int .i64 (D 8), .int .i64 (D 9), .int .i64 (D 10), .int .i64 (D 11), .int .i64 (D 12)]) ST2 HG.out HO.out 0 tyC rfl (by decide) (by decide) (by decide) _ _ rfl rfl rfl rfl rfl rfl rfl ?_; clear HO HG; rintro W6 hO hG; have HO := Lib.hid hO; have HG := Lib.hid hG; clear hO hG; simp only [Act.put]))
        simp only [List.set_cons_zero] at HO
        by_cases h2 : q2.1 = 0
        case neg =>
          obtain ⟨hD, hM⟩ := HTB.out h2
          subst hD hM
          obtain ⟨te2, ue2, rfl⟩ := HG.out.2.isErr h2
          clear h2 HTB HTP HG ST2
          have HA := Lib.hid (awake43 (HE.out.later HO.out.bel))
          simp only [zC] at HO
          go_wp2_with (first | (refine wpo_load HO.out 0 tyC rfl rfl _ rfl rfl rfl ?_))
          refine HA.out.mono ?_
          rintro x V7 ⟨rfl, hb⟩
          have HX := Lib.hid (HO.out.bel.trans (hb.mono HO.out.bel.size))
          clear hb HA
          go_wp2_with fail
          go_ret
          exact ⟨rfl, HX.out⟩
        case pos =>
          obtain ⟨_, hpt, hbs, hml, hln⟩ := HTP.out h2
          have hen := HG.out.2.isNil h2
          subst hen
          have HPT2 := Lib.hid (put_any (C := D) (L := M) ((HE.out.later HO.out.bel).env) c2 HG.out.1.rd (by omega) (fun k hk => by have := hbs (M.getD k et0) (by rw [List.getD_eq_getElem?_getD, List.getElem?_eq_getElem hk]; exact List.getElem_mem hk); omega) (fun i => by have h := hln i; have := HSZ.out; omega))
          rw [hpt] at HPT2
          simp only [cfgC] at HPT2
          clear h2 hpt hbs hml hln HTB HTP
          go_wp2_with (refine wpo_load HO.out 0 tyC rfl rfl _ rfl rfl rfl ?_)
          refine HPT2.out.mono ?_
          rintro x V7 ⟨e7, rfl, he, hb⟩
          have hen := he.isNil rfl
          subst hen
          have HB := Lib.hid (HO.out.below hb)
          clear HO hb he HPT2 HG ST2
          have HO := HB
          clear HB
          have hss : (⟨(er0, s.data.toList).2.toArray⟩ : ByteArray) = s := ba_eq (by simp)
          rw [hss]
          have hs2 : (s.toList == s.toList) = true := by rw [eq_text]; exact decide_eq_true rfl
          clear hss
          have HA := Lib.hid (awake43 (HE.out.later HO.out.bel))
          go_wp2_with fail
          refine HA.out.mono ?_
          rintro x V8 ⟨rfl, hb⟩
          have HX := Lib.hid (HO.out.bel.trans (hb.mono HO.out.bel.size))
          clear hb HA
          go_wp2_with fail
          go_ret
          exact ⟨rfl, HX.out⟩
      case pos =>
        have hen := he.isNil h0
        subst hen
        have hpt := fun (t : ByteArray) => put_take (C := C) (L := L) (s := t) h0 (fun x hx => by have := HBM.out x hx; omega)
        have hsz := HPL.out
        obtain ⟨sP, hsP⟩ : ∃ t : ByteArray, t = ⟨(ptS C L).2.toArray⟩ := ⟨_, rfl⟩
        rw [← hsP]
        obtain ⟨p1, p2, p3⟩ := hpt sP hsP
        have hsz2 : sP.size ≤ 30000 := by rw [hsP, bsize]; exact hsz
        have HTK := Lib.hid (tak_any (s := sP) ((HE.out.later HO.out.bel).env) (by omega))
        generalize tkS sP = T at *
        obtain ⟨Te, TC, TL⟩ := T
        simp only at p1 p2 p3
        subst p1 p3
        clear hpt hsz hsz2 hsP he h0 HPL
        have HP2 := Lib.hid p2
        clear p2
        go_wp2_with fail
        refine HTK.out.mono ?_
        rintro x V3 ⟨a1, c1, e1, rfl, hr, he, hb⟩
        have hen := he.isNil rfl
        subst hen
        have HB := Lib.hid (HO.out.below hb)
        have HG := Lib.hid hr
        clear HO hb hr he HTK
        have HO := HB
        clear HB
        simp only [HP2.out]
        simp only at HG
        clear HP2
        have HO2 := Lib.hid HO.out
        unfold cfgC at HO2
        clear HO
        have HO := HO2
        clear HO2
        unfold cfgC
        go_upto_region 6 with (first | (refine wps_alloc (stab_row a1 TL) HG.out tyC HO.out rfl rfl ?_; clear HO HG; rintro k9 W3 hO hG; have HO := Lib.hid hO; have HG := Lib.hid hG; clear hO hG; simp only [Act.put, List.setIfInBounds_toArray, List.set_cons_zero, List.set_cons_succ]) | (refine wps_store (k := k9) (c := #[.int .i64 (C 0), .int .i64 (C 1), .int .i64 (C 2), .int .i64 (C 3), .int .i64 (C 4), .int .i64 (C 5), .int .i64 (C 6), .int .i64 (C 7), .int .i64 (C 8), .int .i64 (C 9), .int .i64 (C 10), .int .i64 (C 11), .int .i64 (C 12)]) (stab_row a1 TL) HG.out HO.out 0 tyC rfl (by decide) (by decide) (by decide) _ _ rfl rfl rfl rfl rfl rfl rfl ?_; clear HO HG; rintro W4 hO hG; have HO := Lib.hid hO; have HG := Lib.hid hG; clear hO hG; simp only [Act.put]))
        simp only [List.set_cons_zero] at HO
        have HES := Lib.hid (esame_any c1 bc HG.out.rd (HR.out.below HO.out.bel) (by have := HL40.out; omega))
        go_wp2_with (first | (refine wpo_load_g HO.out 0 tyC rfl rfl _ rfl rfl rfl ?_) | (refine wpo_load_g HO.out 1 tyC rfl rfl _ rfl rfl rfl ?_))
        refine HES.out.mono ?_
        rintro x V5 ⟨rfl, d, rfl⟩
        have HB := Lib.hid (HO.out.drewN d)
        clear HO HES HG
        have HO := HB
        clear HB
        generalize W4.drewN d = W7 at *
        go_upto_region 8 with fail
        have HTK := Lib.hid (tak_any (s := s) ((HE.out.later HO.out.bel).env) (by have := HSZ.out; omega))
        have HTP := Lib.hid (fun h => take_put (s := s) h)
        have HTB := Lib.hid (fun h => tk_bad (s := s) h)
        generalize tkS s = T2 at *
        obtain ⟨q2, D, M⟩ := T2
        simp only at HTP HTB
        go_wp2_with fail
        refine HTK.out.mono ?_
        rintro x V4 ⟨a2, c2, e2, rfl, hr, he, hb⟩
        have HB := Lib.hid (HO.out.below hb)
        have HG := Lib.hid (And.intro hr he)
        clear HO hb hr he HTK
        have HO := HB
        clear HB
        simp only at HG
        have ST2 := (stab_row a2 M).and (stab_er S q2 e2)
        simp only [cfgC]
        go_upto_region 9 with (first | (refine wps_alloc ST2 HG.out tyC HO.out rfl rfl ?_; clear HO HG; rintro k12 W5 hO hG; have HO := Lib.hid hO; have HG := Lib.hid hG; clear hO hG; simp only [Act.put, List.setIfInBounds_toArray, List.set_cons_zero, List.set_cons_succ]) | (refine wps_store (k := k12) (c := #[.int .i64 (D 0), .int .i64 (D 1), .int .i64 (D 2), .int .i64 (D 3), .int .i64 (D 4), .int .i64 (D 5), .int .i64 (D 6), .int .i64 (D 7), .int .i64 (D 8), .int .i64 (D 9), .int .i64 (D 10), .int .i64 (D 11), .int .i64 (D 12)]) ST2 HG.out HO.out 0 tyC rfl (by decide) (by decide) (by decide) _ _ rfl rfl rfl rfl rfl rfl rfl ?_; clear HO HG; rintro W6 hO hG; have HO := Lib.hid hO; have HG := Lib.hid hG; clear hO hG; simp only [Act.put]))
        simp only [List.set_cons_zero] at HO
        by_cases h2 : q2.1 = 0
        case neg =>
          obtain ⟨hD, hM⟩ := HTB.out h2
          subst hD hM
          obtain ⟨te2, ue2, rfl⟩ := HG.out.2.isErr h2
          clear h2 HTB HTP HG ST2
          have HA := Lib.hid (awake43 (HE.out.later HO.out.bel))
          simp only [zC] at HO
          go_wp2_with (first | (refine wpo_load HO.out 0 tyC rfl rfl _ rfl rfl rfl ?_))
          refine HA.out.mono ?_
          rintro x V7 ⟨rfl, hb⟩
          have HX := Lib.hid (HO.out.bel.trans (hb.mono HO.out.bel.size))
          clear hb HA
          go_wp2_with fail
          go_ret
          exact ⟨rfl, HX.out⟩
        case pos =>
          obtain ⟨_, hpt, hbs, hml, hln⟩ := HTP.out h2
          have hen := HG.out.2.isNil h2
          subst hen
          have HPT2 := Lib.hid (put_any (C := D) (L := M) ((HE.out.later HO.out.bel).env) c2 HG.out.1.rd (by omega) (fun k hk => by have := hbs (M.getD k et0) (by rw [List.getD_eq_getElem?_getD, List.getElem?_eq_getElem hk]; exact List.getElem_mem hk); omega) (fun i => by have h := hln i; have := HSZ.out; omega))
          rw [hpt] at HPT2
          simp only [cfgC] at HPT2
          clear h2 hpt hbs hml hln HTB HTP
          go_wp2_with (refine wpo_load HO.out 0 tyC rfl rfl _ rfl rfl rfl ?_)
          refine HPT2.out.mono ?_
          rintro x V7 ⟨e7, rfl, he, hb⟩
          have hen := he.isNil rfl
          subst hen
          have HB := Lib.hid (HO.out.below hb)
          clear HO hb he HPT2 HG ST2
          have HO := HB
          clear HB
          have hss : (⟨(er0, s.data.toList).2.toArray⟩ : ByteArray) = s := ba_eq (by simp)
          rw [hss]
          have hs2 : (s.toList == s.toList) = true := by rw [eq_text]; exact decide_eq_true rfl
          clear hss
          have HA := Lib.hid (awake43 (HE.out.later HO.out.bel))
          go_wp2_with fail
          refine HA.out.mono ?_
          rintro x V8 ⟨rfl, hb⟩
          have HX := Lib.hid (HO.out.bel.trans (hb.mono HO.out.bel.size))
          clear hb HA
          go_wp2_with fail
          go_ret
          exact ⟨rfl, HX.out⟩
end
end Go.Proofs.YtaoaoobabjepnaaDoor
