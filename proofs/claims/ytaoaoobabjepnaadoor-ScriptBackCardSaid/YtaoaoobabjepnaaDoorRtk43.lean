/- What is proved here: what package script takes of bytes. Conditions: those that each theorem names. -/
import Derived.Test.YtaoaoobabjepnaaDoorTak43
import Derived.Test.YtaoaoobabjepnaaDoorCfg43
import Derived.Test.YtaoaoobabjepnaaDoorYti43
import Derived.Test.YtaoaoobabjepnaaDoorOwg43
import Derived.Test.YtaoaoobabjepnaaDoorRaw04
import Derived.Test.YtaoaoobabjepnaaDoorRtx04
import Derived.Deep.QuietTactic
import Derived.BigQuiet
import Derived.Deep.DeepMust
import Derived.Deep.DeepCutAuto
namespace Go.Proofs.YtaoaoobabjepnaaDoor
set_option maxRecDepth 100000
open Go.ChangeShapes Go.WideShapes Go.RowKit Go.Deep Go.Extern.Stop Go.Stop Go.Extern
/-- What the document's Take says. -/
def RtkSays (w : World) (T : TK) (x : Ending) (w' : World) : Prop := ∃ a c, x = .returned (.tuple #[.agg (cfgC T.C), .slice a T.L.length c, fltV T.e]) ∧ ERow w' a T.L ∧ Below w.heap.size w w'
theorem rdR_stuck {s : ByteArray} {R : RV} (h : R.no ≠ 0) : ∀ i, rdR s R i = R
  | 0 => rfl
  | i + 1 => by rw [show rdR s R (i + 1) = (rNum s 4 (rdR s R i)).2 from rfl, rdR_stuck h i, rNum_stuck h]
theorem ofd_err {s : ByteArray} {R : RV} (h : R.no ≠ 0) : ofR (dnR s R) = (R.no, 129, R.ea) := by unfold dnR; rw [if_neg h]; unfold ofR; rw [if_neg h]
/-- A row of events, apart from a block. -/
structure RowX (w : World) (B : Nat) (v : Value) (P : List ET) (k : Nat) : Prop where
  row : E4Row w B v P
  apart : ∀ j, v.ownBlock = some j → j ≠ k
theorem RowX.fr {w w' : World} {B : Nat} {v : Value} {P : List ET} {k : Nat} (h : RowX w B v P k) (hf : Fr [k] w w') : RowX w' B v P k := ⟨h.row.fr hf fun j hj hm => h.apart j hj (List.mem_singleton.1 hm), h.apart⟩
theorem e4_rr {w w' : World} {g B : Nat} {s : ByteArray} {R : RV} {v : Value} {P : List ET} (hr : E4Row w B v P) (ho : RRObj w g s R) (hf : Fr [g] w w') : E4Row w' B v P := hr.fr hf fun k hk hm => by
  rw [List.mem_singleton] at hm
  subst hm
  obtain ⟨_, _, cs, hh⟩ := hr.lt k hk
  exact ho.blk.other hh (by decide) rfl
theorem RowX.rr {w w' : World} {g B : Nat} {s : ByteArray} {R : RV} {v : Value} {P : List ET} {k : Nat} (h : RowX w B v P k) (ho : RRObj w g s R) (hf : Fr [g] w w') : RowX w' B v P k := ⟨e4_rr h.row ho hf, h.apart⟩
/-- Behind the head. -/
def tkT (s : ByteArray) (R1 : RV) : TK :=
  if (rdR s R1 13).no = 0 then
    if (chkV (rdC s R1)).1 = 0 then if (esF s (rdR s R1 13)).1.1 = 0 then ⟨er0, rdC s R1, (esF s (rdR s R1 13)).2⟩ else ⟨(esF s (rdR s R1 13)).1, zC, []⟩
    else ⟨chkV (rdC s R1), zC, []⟩
  else ⟨((rdR s R1 13).no, 129, (rdR s R1 13).ea), zC, []⟩
def tkB (b : ER × (Nat → Int) × RV) (e : ER × List ET) : TK := if b.1.1 = 0 then if e.1.1 = 0 then ⟨er0, b.2.1, e.2⟩ else ⟨e.1, zC, []⟩ else ⟨b.1, zC, []⟩
theorem tkS_eq (s : ByteArray) : tkS s = tkB (bdF s) (esF s (bdF s).2.2) := by unfold tkS tkB; rfl
theorem tk_head {s t : ByteArray} {R1 : RV} (h : rTake s 5 rz0 = (t, R1)) : tkS s = if R1.no = 0 ∧ t ≠ crier then ⟨(2, 129, 0), zC, []⟩ else tkT s R1 := by
  have hb : bdF s = if R1.no = 0 then if t = crier then if (rdR s R1 13).no = 0 then if (chkV (rdC s R1)).1 = 0 then (er0, rdC s R1, rdR s R1 13) else (chkV (rdC s R1), zC, rdR s R1 13) else (((rdR s R1 13).no, 129, (rdR s R1 13).ea), zC, rdR s R1 13) else ((2, 129, 0), zC, R1) else ((R1.no, 129, R1.ea), zC, R1) := by
    unfold bdF
    rw [h]
  rw [tkS_eq]
  by_cases h0 : R1.no = 0
  · rw [if_pos h0] at hb
    by_cases hc : t = crier
    · rw [if_pos hc] at hb
      rw [if_neg (show ¬ (R1.no = 0 ∧ t ≠ crier) from fun hh => hh.2 hc)]
      unfold tkT
      generalize rdR s R1 13 = R2 at *
      generalize rdC s R1 = C at *
      by_cases h2 : R2.no = 0
      · rw [if_pos h2] at hb ⊢
        by_cases h3 : (chkV C).1 = 0
        · rw [if_pos h3] at hb ⊢
          rw [hb]
          simp only
          generalize esF s R2 = e
          rfl
        · rw [if_neg h3] at hb ⊢
          rw [hb]
          exact if_neg h3
      · rw [if_neg h2] at hb ⊢
        rw [hb]
        exact if_neg h2
    · rw [if_neg hc] at hb
      rw [if_pos (show R1.no = 0 ∧ t ≠ crier from ⟨h0, hc⟩), hb]
      simp only
      generalize esF s R1 = e
      rfl
  · rw [if_neg h0] at hb
    rw [if_neg (show ¬ (R1.no = 0 ∧ t ≠ crier) from fun hh => h0 hh.1)]
    unfold tkT
    rw [rdR_stuck h0 13, if_neg h0, hb]
    exact if_neg h0
section
variable {w w' : World} {s : ByteArray}
set_option maxHeartbeats 32000000 in
theorem rtk_any (hs : s.size ≤ 900000) (w : World) : Calls Tryd.prog 7 #[.string s] w (RtkSays w (tkS s)) := by
  obtain ⟨T, hT⟩ : ∃ T, T = tkS s := ⟨_, rfl⟩
  rw [← hT]
  obtain ⟨⟨t, R1⟩, h1⟩ : ∃ V, V = rTake s 5 rz0 := ⟨_, rfl⟩
  rw [tk_head h1.symm] at hT
  have HSZ := Lib.hid hs
  have HT := Lib.hid hT
  have H1 := Lib.hid h1
  have HO := Lib.hid (Own.start [] w)
  clear hs hT h1
  go_enter Tryd.func7, Tryd.ntmps7
  go_upto_region 2 with (first | (refine wpo_alloc tyC HO.out rfl rfl ?_; clear HO; rintro k2 W1 hO; have HO := Lib.hid hO; clear hO; simp only [Act.put, List.setIfInBounds_toArray, List.set_cons_zero, List.set_cons_succ]) | (refine wpo_alloc tyX HO.out rfl rfl ?_; clear HO; rintro k4 W2 hO; have HO := Lib.hid hO; clear hO; simp only [Act.put, List.setIfInBounds_toArray, List.set_cons_zero, List.set_cons_succ]) | (refine wpo_box (t := 54) HO.out _ rfl rfl rfl ?_; clear HO; rintro kr W3 hO; have HO := Lib.hid hO; clear hO; simp only [Act.put, List.setIfInBounds_toArray, List.set_cons_zero, List.set_cons_succ]))
  have HU := Lib.hid (rrraw_any (HO.out.rd 0 rfl (R := rz0) (Nat.zero_le _)) (by have := HSZ.out; omega) 5)
  rw [← H1.out] at HU
  go_wp2_with fail
  refine HU.out.mono ?_
  rintro x V1 ⟨rfl, hn⟩
  have HL1 := Lib.hid hn.obj.le
  have HB := Lib.hid (HO.out.rstep (R' := R1) 0 rfl hn)
  clear HO hn HU
  have HO := HB
  clear HB
  simp only [List.set_cons_zero] at HO
  clear H1
  by_cases hA : R1.no = 0 ∧ t ≠ crier
  case pos =>
    have hq := HT.out
    rw [if_pos hA] at hq
    have HT2 := Lib.hid hq
    have htc : (t.toList == [67, 82, 73, 69, 82]) = false := by rw [crier_eq]; exact decide_eq_false hA.2
    have HRE := Lib.hid (HO.out.get 0 rfl)
    rw [hA.1] at HRE
    clear hq HT hA
    go_wp2_with (first | (refine wpo_ldc HRE.out tyE _ rfl rfl rfl rfl ?_) | (refine wpo_zero tyC rfl rfl ?_) | (refine wpo_store (c := cfgC zC) (k := k2) HO.out 2 tyC rfl _ _ rfl rfl rfl rfl rfl rfl rfl ?_; clear HO; rintro Wqa hO; have HO := Lib.hid hO; clear hO; simp only [Act.put]) | (refine wpo_store (k := k4) HO.out 1 tyX rfl _ _ rfl rfl rfl rfl rfl rfl rfl ?_; clear HO; rintro Wqb hO; have HO := Lib.hid hO; clear hO; simp only [Act.put]))
    exact bodyPost_ret (res_own101 2 1 HO.out tyC tyX rfl rfl rfl rfl rfl rfl rfl rfl) rfl ⟨none, 0, by rw [HT2.out] <;> rfl, by rw [HT2.out]; exact erow_nil _ _ rfl, HO.out.bel⟩
  case neg =>
    have hq := HT.out
    rw [if_neg hA] at hq
    have hor : R1.no = 0 → t = crier := fun h0 => Classical.byContradiction fun h => hA ⟨h0, h⟩
    unfold tkT at hq
    obtain ⟨R2, h2⟩ : ∃ V, V = rdR s R1 13 := ⟨_, rfl⟩
    obtain ⟨C, hC⟩ : ∃ C, C = rdC s R1 := ⟨_, rfl⟩
    rw [← h2, ← hC] at hq
    have HT2 := Lib.hid hq
    have HCF := Lib.hid (rconfig_any (HO.out.rd 0 rfl (R := R1) HL1.out) HSZ.out)
    rw [← h2, ← hC] at HCF
    clear hq HT hA h2 hC
    by_cases h0 : R1.no = 0
    case pos =>
      have htc : (t.toList == [67, 82, 73, 69, 82]) = true := by rw [crier_eq]; exact decide_eq_true (hor h0)
      have HRE := Lib.hid (HO.out.get 0 rfl)
      rw [h0] at HRE
      clear h0 hor
      go_upto_region 5 with (refine wpo_ldc HRE.out tyE _ rfl rfl rfl rfl ?_)
      clear htc HRE
      have HCC0 := Lib.hid (show (cfgC C).size = 13 from rfl)
      have HCO := Lib.hid (cfg_one C)
      have HCK := Lib.hid (fun W => rcheck_any C W)
      obtain ⟨cc, hcc⟩ : ∃ c, c = cfgC C := ⟨_, rfl⟩
      rw [← hcc] at HCF HCC0 HCO HCK
      have HCC := Lib.hid hcc
      clear hcc
      go_wp2_with fail
      refine HCF.out.mono ?_
      rintro x V5 ⟨rfl, hn⟩
      have HL2 := Lib.hid hn.obj.le
      have HB := Lib.hid (HO.out.rstep (R' := R2) 0 rfl hn)
      clear HO hn HCF
      have HO := HB
      clear HB
      simp only [List.set_cons_zero] at HO
      go_upto_region 6 with (first | (refine wpo_alloc tyC HO.out rfl rfl ?_; clear HO; rintro k7 W7 hO; have HO := Lib.hid hO; clear hO; simp only [Act.put, List.setIfInBounds_toArray, List.set_cons_zero, List.set_cons_succ]) | (refine wpo_store (k := k7) HO.out 0 tyC rfl _ _ rfl rfl rfl rfl rfl HCC0.out HCO.out ?_; clear HO; rintro W8 hO; have HO := Lib.hid hO; clear hO; simp only [Act.put]))
      simp only [List.set_cons_zero] at HO
      by_cases h0 : R2.no = 0
      case neg =>
        have hq := HT2.out
        rw [if_neg h0] at hq
        have HT3 := Lib.hid hq
        have HHO := Lib.hid (ofd_err (s := s) h0)
        have hi : ¬ (R2.no : Int) = 0 := by omega
        clear hq HT2 h0
        have HOF := Lib.hid (rof_any (HO.out.rd 1 rfl (R := R2) HL2.out))
        rw [HHO.out, show fltV (R2.no, 129, R2.ea) = .agg #[.int .i64 (R2.no : Int), .int .i64 129, .int .i64 (R2.ea : Int)] from rfl] at HOF
        go_wp2_with (first | (refine wpo_ldc (HO.out.get 1 rfl) tyE _ rfl rfl rfl rfl ?_) | (refine wpo_zero tyC rfl rfl ?_))
        refine HOF.out.mono ?_
        rintro x V6 ⟨rfl, hb⟩
        have HB := Lib.hid (HO.out.below hb)
        clear HO hb HOF
        have HO := HB
        clear HB
        go_wp2_with (first | (refine wpo_store (c := cfgC zC) (k := k2) HO.out 3 tyC rfl _ _ rfl rfl rfl rfl rfl rfl rfl ?_; clear HO; rintro Wqa hO; have HO := Lib.hid hO; clear hO; simp only [Act.put]) | (refine wpo_store (k := k4) HO.out 2 tyX rfl _ _ rfl rfl rfl rfl rfl rfl rfl ?_; clear HO; rintro Wqb hO; have HO := Lib.hid hO; clear hO; simp only [Act.put]))
        exact bodyPost_ret (res_own101 3 2 HO.out tyC tyX rfl rfl rfl rfl rfl rfl rfl rfl) rfl ⟨none, 0, by rw [HT3.out] <;> rfl, by rw [HT3.out]; exact erow_nil _ _ rfl, HO.out.bel⟩
      case pos =>
        have hq := HT2.out
        rw [if_pos h0] at hq
        have HT3 := Lib.hid hq
        have HRE := Lib.hid (HO.out.get 1 rfl)
        rw [h0] at HRE
        clear hq HT2
        have HR20 := Lib.hid h0
        clear h0
        go_upto_region 8 with (refine wpo_ldc HRE.out tyE _ rfl rfl rfl rfl ?_)
        clear HRE
        obtain ⟨⟨cn, cr, ca⟩, hck⟩ : ∃ V, V = chkV C := ⟨_, rfl⟩
        rw [← hck] at HCK
        have hq := HT3.out
        rw [← hck] at hq
        simp only at hq
        have HT4 := Lib.hid hq
        have HCK2 := Lib.hid (show ∀ W, Calls Tryd.prog 20 #[.agg cc] W fun x w' => x = .returned (.agg #[.int .i64 (cn : Int), .int .i64 cr, .int .i64 (ca : Int)]) ∧ Below W.heap.size W w' from HCK.out)
        clear hq HT3 hck HCK
        go_wp2_with (refine wpo_load HO.out 0 tyC rfl HCC0.out _ rfl rfl rfl ?_)
        refine (HCK2.out _).mono ?_
        rintro x V7 ⟨rfl, hb⟩
        have HB := Lib.hid (HO.out.below hb)
        clear HO hb HCK2
        have HO := HB
        clear HB
        go_upto_region 9 with (first | (refine wpo_alloc tyX HO.out rfl rfl ?_; clear HO; rintro k8 W9 hO; have HO := Lib.hid hO; clear hO; simp only [Act.put, List.setIfInBounds_toArray, List.set_cons_zero, List.set_cons_succ]) | (refine wpo_store (k := k8) HO.out 0 tyX rfl _ _ rfl rfl rfl rfl rfl rfl rfl ?_; clear HO; rintro W10 hO; have HO := Lib.hid hO; clear hO; simp only [Act.put]))
        simp only [List.set_cons_zero] at HO
        by_cases h0 : cn = 0
        case neg =>
          have hq := HT4.out
          rw [if_neg h0] at hq
          have HT5 := Lib.hid hq
          have hi : ¬ (cn : Int) = 0 := by omega
          clear hq HT4 h0
          go_upto_region 10 with (refine wpo_ldc (HO.out.get 0 rfl) tyE _ rfl rfl rfl rfl ?_)
          refine wpo_y2s (yA := (k2, 24, cfgC zC)) (yB := (k4, 32, #[.int .i64 (cn : Int), .int .i64 cr, .int .i64 (ca : Int)])) [(46, .agg (cfgC zC)), (47, .agg #[.int .i64 (cn : Int), .int .i64 cr, .int .i64 (ca : Int)])] 4 3 mixed (by kernel_rfl) HO.out rfl rfl (by decide) (fun _ _ _ _ _ h => h) ?_ rfl rfl rfl rfl rfl rfl ?_ ?_ ?_
          · refine ⟨⟨_, rfl, rfl, yo_zero rfl tyC rfl⟩, ?_⟩
            simp only [Act.put, List.setIfInBounds_toArray, List.set_cons_zero, List.set_cons_succ]
            refine ⟨⟨_, rfl, rfl, yo_load rfl tyX (fun _ h => h.get 0 (by decide) (by decide) rfl) rfl _ rfl rfl⟩, ?_⟩
            exact trivial
          · simp only [putD, Act.put, List.setIfInBounds_toArray, List.set_cons_zero, List.set_cons_succ]
            exact sto_row tyC _ _ rfl rfl rfl rfl rfl rfl rfl rfl
          · simp only [putD, Act.put, List.setIfInBounds_toArray, List.set_cons_zero, List.set_cons_succ]
            exact sto_row tyX _ _ rfl rfl rfl rfl rfl rfl rfl rfl
          intro Wy hO
          clear HO
          have HO := Lib.hid hO
          clear hO
          simp only [putD, Act.put, List.setIfInBounds_toArray, List.set_cons_zero, List.set_cons_succ]
          go_wp2_with fail
          exact bodyPost_ret (res_own101 4 3 HO.out tyC tyX rfl rfl rfl rfl rfl rfl rfl rfl) rfl ⟨none, 0, by rw [HT5.out] <;> rfl, by rw [HT5.out]; exact erow_nil _ _ rfl, HO.out.bel⟩
        case pos =>
          have hq := HT4.out
          rw [if_pos h0] at hq
          have HT5 := Lib.hid hq
          subst h0
          clear hq HT4
          go_upto_region 11 with (refine wpo_ldc (HO.out.get 0 rfl) tyE _ rfl rfl rfl rfl ?_)
          obtain ⟨⟨m, R3⟩, h3⟩ : ∃ V, V = rNum s 2 R2 := ⟨_, rfl⟩
          have hq := HT5.out
          rw [esF_fin, ← h3] at hq
          simp only at hq
          have HT6 := Lib.hid hq
          have H3 := Lib.hid h3
          clear hq h3 HT5
          go_upto_region 12 with (refine wpo_ldc (HO.out.get 2 rfl) tyI _ rfl rfl rfl rfl ?_)
          have HU := Lib.hid (rru16_any (HO.out.rd 2 rfl (R := R2) HL2.out) (by have := HSZ.out; omega))
          rw [← H3.out] at HU
          go_wp2_with fail
          refine HU.out.mono ?_
          rintro x V12 ⟨rfl, hn⟩
          have HL3 := Lib.hid hn.obj.le
          have HB := Lib.hid (HO.out.rstep (R' := R3) 2 rfl hn)
          clear HO hn HU
          have HO := HB
          clear HB
          simp only [List.set_cons_zero, List.set_cons_succ] at HO
          clear H3
          by_cases h0 : R3.no = 0
          case neg =>
            have hq := HT6.out
            rw [if_neg h0, if_neg (show ¬ (R3.no, (129 : Int), R3.ea).1 = 0 from h0)] at hq
            have HT7 := Lib.hid hq
            have HHO := Lib.hid (ofd_err (s := s) h0)
            have hi : ¬ (R3.no : Int) = 0 := by omega
            clear hq HT6 h0
            have HOF := Lib.hid (rof_any (HO.out.rd 2 rfl (R := R3) HL3.out))
            rw [HHO.out, show fltV (R3.no, 129, R3.ea) = .agg #[.int .i64 (R3.no : Int), .int .i64 129, .int .i64 (R3.ea : Int)] from rfl] at HOF
            go_wp2_with (first | (refine wpo_ldc (HO.out.get 2 rfl) tyE _ rfl rfl rfl rfl ?_) | (refine wpo_zero tyC rfl rfl ?_))
            refine HOF.out.mono ?_
            rintro x V14 ⟨rfl, hb⟩
            have HB := Lib.hid (HO.out.below hb)
            clear HO hb HOF
            have HO := HB
            clear HB
            go_wp2_with (first | (refine wpo_store (c := cfgC zC) (k := k2) HO.out 4 tyC rfl _ _ rfl rfl rfl rfl rfl rfl rfl ?_; clear HO; rintro Wqa hO; have HO := Lib.hid hO; clear hO; simp only [Act.put]) | (refine wpo_store (k := k4) HO.out 3 tyX rfl _ _ rfl rfl rfl rfl rfl rfl rfl ?_; clear HO; rintro Wqb hO; have HO := Lib.hid hO; clear hO; simp only [Act.put]))
            exact bodyPost_ret (res_own101 4 3 HO.out tyC tyX rfl rfl rfl rfl rfl rfl rfl rfl) rfl ⟨none, 0, by rw [HT7.out] <;> rfl, by rw [HT7.out]; exact erow_nil _ _ rfl, HO.out.bel⟩
          case pos =>
            have hq := HT6.out
            rw [if_pos h0] at hq
            have HT7 := Lib.hid hq
            have HRE := Lib.hid (HO.out.get 2 rfl)
            rw [h0] at HRE
            have HR30 := Lib.hid h0
            clear hq HT6 h0
            by_cases hm : 16384 < m
            case pos =>
              have hq := HT7.out
              rw [if_pos hm, if_neg (show ¬ ((4 : Nat), (149 : Int), R2.p).1 = 0 from by simp only; decide)] at hq
              have HT8 := Lib.hid hq
              have hmi : (16384 : Int) < (m : Int) := by omega
              clear hq HT7 hm
              go_wp2_with (first | (refine wpo_ldc HRE.out tyE _ rfl rfl rfl rfl ?_) | (refine wpo_zero tyC rfl rfl ?_) | (refine wpo_store (c := cfgC zC) (k := k2) HO.out 4 tyC rfl _ _ rfl rfl rfl rfl rfl rfl rfl ?_; clear HO; rintro Wqa hO; have HO := Lib.hid hO; clear hO; simp only [Act.put]) | (refine wpo_store (k := k4) HO.out 3 tyX rfl _ _ rfl rfl rfl rfl rfl rfl rfl ?_; clear HO; rintro Wqb hO; have HO := Lib.hid hO; clear hO; simp only [Act.put]))
              exact bodyPost_ret (res_own101 4 3 HO.out tyC tyX rfl rfl rfl rfl rfl rfl rfl rfl) rfl ⟨none, 0, by rw [HT8.out] <;> rfl, by rw [HT8.out]; exact erow_nil _ _ rfl, HO.out.bel⟩
            case neg =>
              have hq := HT7.out
              rw [if_neg hm] at hq
              have HT8 := Lib.hid (show T = if (fin43 s [] (evF s (m - 0) R3)).1.1 = 0 then ⟨er0, C, (fin43 s [] (evF s (m - 0) R3)).2⟩ else ⟨(fin43 s [] (evF s (m - 0) R3)).1, zC, []⟩ from hq)
              have hmi : ¬ (16384 : Int) < (m : Int) := by omega
              have HM := Lib.hid hm
              clear hq HT7 hm
              go_upto_region 17 with (refine wpo_ldc HRE.out tyE _ rfl rfl rfl rfl ?_)
              clear hmi HRE
              go_wp2_with fail
              go_loopg [11, 12] m (fun f u x wr => ∃ (i : Nat) (P : List ET) (Rt : RV), f = m - i ∧ i ≤ m ∧ x = .int .i64 i ∧ P.length = i ∧ Rt.p ≤ s.size ∧ Rt.no = 0 ∧ Hid (Own [] w wr [(k8, 32, #[.int .i64 ((0 : Nat) : Int), .int .i64 cr, .int .i64 (ca : Int)]), (k7, 24, cc), (kr, 54, #[.string s, .int .i64 Rt.p, .int .i64 Rt.no, .int .i64 Rt.ea]), (k4, 32, #[.int .i64 0, .int .i64 0, .int .i64 0]), (k2, 24, cfgC zC)] ∧ E4Row wr w.heap.size u P ∧ T = if (fin43 s P (evF s (m - i) Rt)).1.1 = 0 then ⟨er0, C, (fin43 s P (evF s (m - i) Rt)).2⟩ else ⟨(fin43 s P (evF s (m - i) Rt)).1, zC, []⟩))
              case atStart => exact ⟨0, [], R3, rfl, Nat.zero_le _, rfl, rfl, HL3.out, HR30.out, Lib.hid ⟨HO.out, E4Row.nil _ _, HT8.out⟩⟩
              case round =>
                obtain ⟨i, P, Rt, rfl, hi, rfl, hpl, hlt, hno, HJ⟩ := hrel
                clear HO HT8
                have HO := Lib.hid HJ.out.1
                have HROW := Lib.hid HJ.out.2.1
                have HT8 := Lib.hid HJ.out.2.2
                have HLt := Lib.hid hlt
                have HNO := Lib.hid hno
                clear HJ hlt hno
                obtain ⟨av, nv, cv, rfl, hnv, hcap⟩ := HROW.out.some_form
                rw [hpl] at hnv
                subst hnv
                have HPL := Lib.hid hpl
                clear hpl hcap
                by_cases hlm : nv < m
                case pos =>
                  have hms := HT8.out
                  rw [show m - nv = (m - (nv + 1)) + 1 by omega] at hms
                  obtain ⟨⟨a1, Ra⟩, ha⟩ : ∃ V, V = rNum s 1 Rt := ⟨_, rfl⟩
                  obtain ⟨⟨b1, Rb⟩, hb⟩ : ∃ V, V = rNum s 1 Ra := ⟨_, rfl⟩
                  obtain ⟨⟨c1, Rc⟩, hc⟩ : ∃ V, V = rNum s 4 Rb := ⟨_, rfl⟩
                  obtain ⟨⟨d1, Rd⟩, hd⟩ : ∃ V, V = rBin s Rc := ⟨_, rfl⟩
                  have hk : evK s Rt = (⟨a1, b1, c1, d1⟩, Rd) := by unfold evK; rw [← ha]; simp only; rw [← hb]; simp only; rw [← hc]; simp only; rw [← hd]
                  rw [fin_step hk] at hms
                  have HMS := Lib.hid hms
                  have HAA := Lib.hid ha
                  have HBB := Lib.hid hb
                  have HCC := Lib.hid hc
                  have HDD := Lib.hid hd
                  clear ha hb hc hd hk hms HT8
                  go_upto_region 22 with (refine wpo_ldc (HO.out.get 2 rfl) tyI _ rfl rfl rfl rfl ?_)
                  have HU := Lib.hid (rru8_any (HO.out.rd 2 rfl (R := Rt) HLt.out) (by have := HSZ.out; omega))
                  rw [← HAA.out] at HU
                  go_wp2_with fail
                  refine HU.out.mono ?_
                  rintro x Va ⟨rfl, hn⟩
                  have HLa := Lib.hid hn.obj.le
                  have HR2 := Lib.hid (e4_rr HROW.out (HO.out.rd 2 rfl (R := Rt) HLt.out) hn.fr)
                  clear HROW
                  have HROW := HR2
                  clear HR2
                  have HB := Lib.hid (HO.out.rstep (R' := Ra) 2 rfl hn)
                  clear HO hn HU
                  have HO := HB
                  clear HB
                  simp only [List.set_cons_zero, List.set_cons_succ] at HO
                  have HHS := Lib.hid (show ∃ n, n = Va.heap.size from ⟨_, rfl⟩)
                  go_upto_region 23 with fail
                  obtain ⟨W6, hW6⟩ : ∃ W, W = Va.alloc (.cells #[.int .i64 (a1 : Int), .int .i64 0, .string ⟨#[]⟩, .int .i64 0] 44) := ⟨_, rfl⟩
                  rw [← hW6]
                  have hb6 : Below Va.heap.size Va W6 := by rw [hW6]; exact (Below.refl _ _).alloc (Nat.le_refl _) _
                  have hO6 : Own [] w W6 ((Va.heap.size, 44, #[.int .i64 (a1 : Int), .int .i64 0, .string ⟨#[]⟩, .int .i64 0]) :: [(k8, 32, #[.int .i64 ((0 : Nat) : Int), .int .i64 cr, .int .i64 (ca : Int)]), (k7, 24, cc), (kr, 54, #[.string s, .int .i64 Ra.p, .int .i64 Ra.no, .int .i64 Ra.ea]), (k4, 32, #[.int .i64 0, .int .i64 0, .int .i64 0]), (k2, 24, cfgC zC)]) := by rw [hW6]; exact HO.out.alloc _ _
                  have hrx : RowX W6 w.heap.size (.slice av nv cv) P Va.heap.size := ⟨HROW.out.below hb6, fun j hj => by have := (HROW.out.lt j hj).2.1; omega⟩
                  clear HO HROW hW6 hb6 HHS
                  have HO := Lib.hid hO6
                  have HROW := Lib.hid hrx
                  clear hO6 hrx
                  generalize Va.heap.size = k9 at *
                  have HU := Lib.hid (rru8_any (HO.out.rd 3 rfl (R := Ra) HLa.out) (by have := HSZ.out; omega))
                  rw [← HBB.out] at HU
                  go_wp2_with fail
                  refine HU.out.mono ?_
                  rintro x Vb ⟨rfl, hn⟩
                  have HLb := Lib.hid hn.obj.le
                  have HR2 := Lib.hid (RowX.rr HROW.out (HO.out.rd 3 rfl (R := Ra) HLa.out) hn.fr)
                  clear HROW
                  have HROW := HR2
                  clear HR2
                  have HB := Lib.hid (HO.out.rstep (R' := Rb) 3 rfl hn)
                  clear HO hn HU
                  have HO := HB
                  clear HB
                  simp only [List.set_cons_zero, List.set_cons_succ] at HO
                  have HFX := Lib.hid (fun W (hf : Fr [k9] Vb W) => HROW.out.fr hf)
                  go_upto_region 24 with (refine wpg_cell (v := .int .i64 (b1 : Int)) HO.out 0 1 tyI.ip rfl HFX.out _ _ rfl rfl rfl rfl (by decide : (1 : Nat) < 4) rfl ?_; clear HO HROW; rintro Xb hO hG; have HO := Lib.hid hO; have HROW := Lib.hid hG; clear hO hG; simp only [Act.put])
                  clear HFX
                  simp only [List.setIfInBounds_toArray, List.set_cons_zero, List.set_cons_succ] at HO
                  have HU := Lib.hid (rru32_any (HO.out.rd 3 rfl (R := Rb) HLb.out) (by have := HSZ.out; omega))
                  rw [← HCC.out] at HU
                  go_wp2_with fail
                  refine HU.out.mono ?_
                  rintro x Vc ⟨rfl, hn⟩
                  have HLc := Lib.hid hn.obj.le
                  have HR2 := Lib.hid (RowX.rr HROW.out (HO.out.rd 3 rfl (R := Rb) HLb.out) hn.fr)
                  clear HROW
                  have HROW := HR2
                  clear HR2
                  have HB := Lib.hid (HO.out.rstep (R' := Rc) 3 rfl hn)
                  clear HO hn HU
                  have HO := HB
                  clear HB
                  simp only [List.set_cons_zero, List.set_cons_succ] at HO
                  have HFX := Lib.hid (fun W (hf : Fr [k9] Vc W) => HROW.out.fr hf)
                  go_upto_region 25 with (refine wpg_cell (v := .int .i64 (c1 : Int)) HO.out 0 3 tyI.ip rfl HFX.out _ _ rfl rfl rfl rfl (by decide : (3 : Nat) < 4) rfl ?_; clear HO HROW; rintro Xc hO hG; have HO := Lib.hid hO; have HROW := Lib.hid hG; clear hO hG; simp only [Act.put])
                  clear HFX
                  simp only [List.setIfInBounds_toArray, List.set_cons_zero, List.set_cons_succ] at HO
                  have HU := Lib.hid (rrbin_any (HO.out.rd 3 rfl (R := Rc) HLc.out) HSZ.out)
                  rw [← HDD.out] at HU
                  go_wp2_with fail
                  refine HU.out.mono ?_
                  rintro x Vd ⟨rfl, hn⟩
                  have HLd := Lib.hid hn.obj.le
                  have HR2 := Lib.hid (RowX.rr HROW.out (HO.out.rd 3 rfl (R := Rc) HLc.out) hn.fr)
                  clear HROW
                  have HROW := HR2
                  clear HR2
                  have HB := Lib.hid (HO.out.rstep (R' := Rd) 3 rfl hn)
                  clear HO hn HU
                  have HO := HB
                  clear HB
                  simp only [List.set_cons_zero, List.set_cons_succ] at HO
                  have HFX := Lib.hid (fun W (hf : Fr [k9] Vd W) => HROW.out.fr hf)
                  go_upto_region 26 with (refine wpg_cell (v := .string d1) HO.out 0 2 tyS.ip rfl HFX.out _ _ rfl rfl rfl rfl (by decide : (2 : Nat) < 4) rfl ?_; clear HO HROW; rintro Xd hO hG; have HO := Lib.hid hO; have HROW := Lib.hid hG; clear hO hG; simp only [Act.put])
                  clear HFX
                  simp only [List.setIfInBounds_toArray, List.set_cons_zero, List.set_cons_succ] at HO
                  by_cases h0 : Rd.no = 0
                  case neg =>
                    have hq := HMS.out
                    rw [if_neg h0, if_neg (show ¬ (Rd.no, (129 : Int), Rd.ea).1 = 0 from h0)] at hq
                    have HT9 := Lib.hid hq
                    have HHO := Lib.hid (ofd_err (s := s) h0)
                    have hi : ¬ (Rd.no : Int) = 0 := by omega
                    clear hq HMS h0
                    have HOF := Lib.hid (rof_any (HO.out.rd 3 rfl (R := Rd) HLd.out))
                    rw [HHO.out, show fltV (Rd.no, 129, Rd.ea) = .agg #[.int .i64 (Rd.no : Int), .int .i64 129, .int .i64 (Rd.ea : Int)] from rfl] at HOF
                    go_wp2_with (first | (refine wpo_ldc (HO.out.get 3 rfl) tyE _ rfl rfl rfl rfl ?_) | (refine wpo_zero tyC rfl rfl ?_))
                    refine HOF.out.mono ?_
                    rintro x V27 ⟨rfl, hb⟩
                    have HB := Lib.hid (HO.out.below hb)
                    clear HO hb HOF
                    have HO := HB
                    clear HB
                    go_wp2_with (first | (refine wpo_store (c := cfgC zC) (k := k2) HO.out 5 tyC rfl _ _ rfl rfl rfl rfl rfl rfl rfl ?_; clear HO; rintro Wqa hO; have HO := Lib.hid hO; clear hO; simp only [Act.put]) | (refine wpo_store (k := k4) HO.out 4 tyX rfl _ _ rfl rfl rfl rfl rfl rfl rfl ?_; clear HO; rintro Wqb hO; have HO := Lib.hid hO; clear hO; simp only [Act.put]))
                    exact bodyPost_ret (res_own101 5 4 HO.out tyC tyX rfl rfl rfl rfl rfl rfl rfl rfl) rfl ⟨none, 0, by rw [HT9.out] <;> rfl, by rw [HT9.out]; exact erow_nil _ _ rfl, HO.out.bel⟩
                  case pos =>
                    have hq := HMS.out
                    rw [if_pos h0] at hq
                    have HMS2 := Lib.hid hq
                    have HRD0 := Lib.hid h0
                    have HRE := Lib.hid (HO.out.get 3 rfl)
                    rw [h0] at HRE
                    clear hq HMS h0
                    go_upto_region 28 with (refine wpo_ldc HRE.out tyE _ rfl rfl rfl rfl ?_)
                    clear HRE
                    go_wp2_with (refine wpo_ldc (HO.out.get 0 rfl) tyI _ rfl rfl rfl rfl ?_)
                    have HSK := Lib.hid (rk_any (a1 : Int) Xd)
                    by_cases hk : kOk (a1 : Int)
                    case neg =>
                      have hq := HMS2.out
                      rw [if_neg hk, if_neg (show ¬ ((2 : Nat), (129 : Int), Rt.p).1 = 0 from by simp only; decide)] at hq
                      have HT9 := Lib.hid hq
                      rw [decide_eq_false hk] at HSK
                      clear hq HMS2 hk
                      refine HSK.out.mono ?_
                      rintro x W7 ⟨rfl, rfl⟩
                      clear HSK
                      go_wp2_with (first | (refine wpo_zero tyC rfl rfl ?_) | (refine wpo_store (c := cfgC zC) (k := k2) HO.out 5 tyC rfl _ _ rfl rfl rfl rfl rfl rfl rfl ?_; clear HO; rintro Wqa hO; have HO := Lib.hid hO; clear hO; simp only [Act.put]) | (refine wpo_store (k := k4) HO.out 4 tyX rfl _ _ rfl rfl rfl rfl rfl rfl rfl ?_; clear HO; rintro Wqb hO; have HO := Lib.hid hO; clear hO; simp only [Act.put]))
                      exact bodyPost_ret (res_own101 5 4 HO.out tyC tyX rfl rfl rfl rfl rfl rfl rfl rfl) rfl ⟨none, 0, by rw [HT9.out] <;> rfl, by rw [HT9.out]; exact erow_nil _ _ rfl, HO.out.bel⟩
                    case pos =>
                      have hq := HMS2.out
                      rw [if_pos hk] at hq
                      have HT9 := Lib.hid hq
                      rw [decide_eq_true hk] at HSK
                      clear hq HMS2 hk
                      refine HSK.out.mono ?_
                      rintro x W7 ⟨rfl, rfl⟩
                      clear HSK
                      have HDL := Lib.hid (show P.length ≤ 100000 by have := HM.out; have := HPL.out; omega)
                      have HS6 := Lib.hid HO.out.size
                      go_wp2_with (first | (refine wpo_load HO.out 0 tyEv rfl rfl _ rfl rfl rfl ?_) | (at_builtin; go_must (refine E4_append ⟨(a1 : Int), (b1 : Int), (c1 : Int), d1⟩ rfl _ _ rfl HROW.out.row HS6.out rfl Xd.heap.size 1 rfl rfl HDL.out rfl ?_)))
                      intro v7 w7 hn7
                      have HO7 := Lib.hid ((HO.out.drop 0).grown43 (te := 44) hn7.grown (fun k hk => ⟨(HROW.out.row.lt k hk).1, (HROW.out.row.lt k hk).2.2⟩) (by simp only [List.eraseIdx_cons_zero]; intro x hx; simp only [List.mem_cons, List.not_mem_nil, or_false] at hx; rcases hx with rfl | rfl | rfl | rfl | rfl <;> (simp only; decide)))
                      have HR7 := Lib.hid hn7.row
                      clear hn7
                      go_wp2_with fail
                      go_roundg (m - (nv + 1))
                      case rel => exact ⟨nv + 1, P ++ [⟨(a1 : Int), (b1 : Int), (c1 : Int), d1⟩], Rd, rfl, hlm, by go_num, by rw [List.length_append, HPL.out]; rfl, HLd.out, HRD0.out, Lib.hid ⟨HO7.out, HR7.out, HT9.out⟩⟩
                      case measure => omega
                case neg =>
                  obtain rfl : nv = m := by omega
                  have hq := HT8.out
                  rw [Nat.sub_self] at hq
                  have hfn : fin43 s P (evF s 0 Rt) = if (ofR (dnR s Rt)).1 = 0 then (er0, P ++ []) else (ofR (dnR s Rt), []) := rfl
                  rw [hfn, List.append_nil] at hq
                  have HOF := Lib.hid (rof_any (HO.out.rd 2 rfl (R := Rt) HLt.out))
                  obtain ⟨⟨dn, dr, da⟩, hd⟩ : ∃ V, V = ofR (dnR s Rt) := ⟨_, rfl⟩
                  rw [← hd] at hq HOF
                  simp only at hq
                  rw [show fltV (dn, dr, da) = .agg #[.int .i64 (dn : Int), .int .i64 dr, .int .i64 (da : Int)] from rfl] at HOF
                  have HT9 := Lib.hid hq
                  clear hq HT8 hd hfn
                  go_wp2_with fail
                  refine HOF.out.mono ?_
                  rintro x V31 ⟨rfl, hb⟩
                  have HB := Lib.hid (HO.out.below hb)
                  have HR2 := Lib.hid (HROW.out.below hb)
                  clear HO hb HOF HROW
                  have HO := HB
                  have HROW := HR2
                  clear HB HR2
                  have HRE2 := Lib.hid (And.intro HO.out HROW.out)
                  clear HROW
                  go_upto_region 32 with fail
                  obtain ⟨W9, hW9⟩ : ∃ W, W = V31.alloc (.cells #[.int .i64 (dn : Int), .int .i64 dr, .int .i64 (da : Int)] 32) := ⟨_, rfl⟩
                  rw [← hW9]
                  have hb9 : Below V31.heap.size V31 W9 := by rw [hW9]; exact (Below.refl _ _).alloc (Nat.le_refl _) _
                  have hO9 : Own [] w W9 ((V31.heap.size, 32, #[.int .i64 (dn : Int), .int .i64 dr, .int .i64 (da : Int)]) :: [(k8, 32, #[.int .i64 ((0 : Nat) : Int), .int .i64 cr, .int .i64 (ca : Int)]), (k7, 24, cc), (kr, 54, #[.string s, .int .i64 Rt.p, .int .i64 Rt.no, .int .i64 Rt.ea]), (k4, 32, #[.int .i64 0, .int .i64 0, .int .i64 0]), (k2, 24, cfgC zC)]) := by rw [hW9]; exact HRE2.out.1.alloc _ _
                  have HROW := Lib.hid (HRE2.out.2.below hb9)
                  clear HO HRE2 hW9 hb9
                  have HO := Lib.hid hO9
                  clear hO9
                  generalize V31.heap.size = k14 at *
                  by_cases h0 : dn = 0
                  case neg =>
                    have hq := HT9.out
                    rw [if_neg h0, if_neg (show ¬ ((dn, dr, da) : ER).1 = 0 from h0)] at hq
                    have HT10 := Lib.hid hq
                    have hi : ¬ (dn : Int) = 0 := by omega
                    clear hq HT9 h0 HROW
                    go_upto_region 33 with (refine wpo_ldc (HO.out.get 0 rfl) tyE _ rfl rfl rfl rfl ?_)
                    refine wpo_y2s (yA := (k2, 24, cfgC zC)) (yB := (k4, 32, #[.int .i64 (dn : Int), .int .i64 dr, .int .i64 (da : Int)])) [(112, .agg (cfgC zC)), (113, .agg #[.int .i64 (dn : Int), .int .i64 dr, .int .i64 (da : Int)])] 5 4 mixed (by kernel_rfl) HO.out rfl rfl (by decide) (fun _ _ _ _ _ h => h) ?_ rfl rfl rfl rfl rfl rfl ?_ ?_ ?_
                    · refine ⟨⟨_, rfl, rfl, yo_zero rfl tyC rfl⟩, ?_⟩
                      simp only [Act.put, List.setIfInBounds_toArray, List.set_cons_zero, List.set_cons_succ]
                      refine ⟨⟨_, rfl, rfl, yo_load rfl tyX (fun _ h => h.get 0 (by decide) (by decide) rfl) rfl _ rfl rfl⟩, ?_⟩
                      exact trivial
                    · simp only [putD, Act.put, List.setIfInBounds_toArray, List.set_cons_zero, List.set_cons_succ]
                      exact sto_row tyC _ _ rfl rfl rfl rfl rfl rfl rfl rfl
                    · simp only [putD, Act.put, List.setIfInBounds_toArray, List.set_cons_zero, List.set_cons_succ]
                      exact sto_row tyX _ _ rfl rfl rfl rfl rfl rfl rfl rfl
                    intro Wy hO
                    clear HO
                    have HO := Lib.hid hO
                    clear hO
                    simp only [putD, Act.put, List.setIfInBounds_toArray, List.set_cons_zero, List.set_cons_succ]
                    go_wp2_with fail
                    exact bodyPost_ret (res_own101 5 4 HO.out tyC tyX rfl rfl rfl rfl rfl rfl rfl rfl) rfl ⟨none, 0, by rw [HT10.out] <;> rfl, by rw [HT10.out]; exact erow_nil _ _ rfl, HO.out.bel⟩
                  case pos =>
                    have hq := HT9.out
                    rw [if_pos h0, if_pos (show er0.1 = 0 from rfl)] at hq
                    have HT10 := Lib.hid hq
                    subst h0
                    clear hq HT9
                    have HFA := Lib.hid (fun W (hf : Fr [k2] W9 W) => e4_other HROW.out (HO.out.get 5 rfl) (by decide) hf)
                    go_upto_region 34 with (refine wpo_ldc (HO.out.get 0 rfl) tyE _ rfl rfl rfl rfl ?_)
                    go_wp2_with (first | (refine wpo_load HO.out 2 tyC rfl HCC0.out _ rfl rfl rfl ?_) | (refine wpo_zero tyX rfl rfl ?_) | (refine wpg_store (k := k2) HO.out 5 tyC rfl HFA.out _ _ rfl rfl rfl rfl rfl HCC0.out HCO.out ?_; clear HO HROW; rintro W10 hO hG; have HO := Lib.hid hO; have HROW := Lib.hid hG; clear hO hG; have HFB := Lib.hid (fun W (hf : Fr [k4] W10 W) => e4_other HROW.out (HO.out.get 4 rfl) (by decide) hf); simp only [Act.put]) | (refine wpg_store (k := k4) HO.out 4 tyX rfl HFB.out _ _ rfl rfl rfl rfl rfl rfl rfl ?_; clear HO HROW; rintro W11 hO hG; have HO := Lib.hid hO; have HROW := Lib.hid hG; clear hO hG; simp only [Act.put]))
                    exact bodyPost_ret (res_own101 5 4 HO.out tyC tyX rfl rfl rfl rfl rfl rfl HCC0.out rfl) rfl ⟨av, cv, by rw [HT10.out, HCC.out, ← HPL.out] <;> rfl, by rw [HT10.out]; exact ⟨_, _, HPL.out ▸ HROW.out⟩, HO.out.bel⟩
    case neg =>
      have hi : ¬ (R1.no : Int) = 0 := by omega
      have hib : ((R1.no : Int) == 0) = false := by rw [beq_eq_false_iff_ne]; exact hi
      clear h0 hor
      go_upto_region 5 with (refine wpo_ldc (HO.out.get 0 rfl) tyE _ rfl rfl rfl rfl ?_)
      clear hi hib
      have HCC0 := Lib.hid (show (cfgC C).size = 13 from rfl)
      have HCO := Lib.hid (cfg_one C)
      have HCK := Lib.hid (fun W => rcheck_any C W)
      obtain ⟨cc, hcc⟩ : ∃ c, c = cfgC C := ⟨_, rfl⟩
      rw [← hcc] at HCF HCC0 HCO HCK
      have HCC := Lib.hid hcc
      clear hcc
      go_wp2_with fail
      refine HCF.out.mono ?_
      rintro x V5 ⟨rfl, hn⟩
      have HL2 := Lib.hid hn.obj.le
      have HB := Lib.hid (HO.out.rstep (R' := R2) 0 rfl hn)
      clear HO hn HCF
      have HO := HB
      clear HB
      simp only [List.set_cons_zero] at HO
      go_upto_region 6 with (first | (refine wpo_alloc tyC HO.out rfl rfl ?_; clear HO; rintro k7 W7 hO; have HO := Lib.hid hO; clear hO; simp only [Act.put, List.setIfInBounds_toArray, List.set_cons_zero, List.set_cons_succ]) | (refine wpo_store (k := k7) HO.out 0 tyC rfl _ _ rfl rfl rfl rfl rfl HCC0.out HCO.out ?_; clear HO; rintro W8 hO; have HO := Lib.hid hO; clear hO; simp only [Act.put]))
      simp only [List.set_cons_zero] at HO
      by_cases h0 : R2.no = 0
      case neg =>
        have hq := HT2.out
        rw [if_neg h0] at hq
        have HT3 := Lib.hid hq
        have HHO := Lib.hid (ofd_err (s := s) h0)
        have hi : ¬ (R2.no : Int) = 0 := by omega
        clear hq HT2 h0
        have HOF := Lib.hid (rof_any (HO.out.rd 1 rfl (R := R2) HL2.out))
        rw [HHO.out, show fltV (R2.no, 129, R2.ea) = .agg #[.int .i64 (R2.no : Int), .int .i64 129, .int .i64 (R2.ea : Int)] from rfl] at HOF
        go_wp2_with (first | (refine wpo_ldc (HO.out.get 1 rfl) tyE _ rfl rfl rfl rfl ?_) | (refine wpo_zero tyC rfl rfl ?_))
        refine HOF.out.mono ?_
        rintro x V6 ⟨rfl, hb⟩
        have HB := Lib.hid (HO.out.below hb)
        clear HO hb HOF
        have HO := HB
        clear HB
        go_wp2_with (first | (refine wpo_store (c := cfgC zC) (k := k2) HO.out 3 tyC rfl _ _ rfl rfl rfl rfl rfl rfl rfl ?_; clear HO; rintro Wqa hO; have HO := Lib.hid hO; clear hO; simp only [Act.put]) | (refine wpo_store (k := k4) HO.out 2 tyX rfl _ _ rfl rfl rfl rfl rfl rfl rfl ?_; clear HO; rintro Wqb hO; have HO := Lib.hid hO; clear hO; simp only [Act.put]))
        exact bodyPost_ret (res_own101 3 2 HO.out tyC tyX rfl rfl rfl rfl rfl rfl rfl rfl) rfl ⟨none, 0, by rw [HT3.out] <;> rfl, by rw [HT3.out]; exact erow_nil _ _ rfl, HO.out.bel⟩
      case pos =>
        have hq := HT2.out
        rw [if_pos h0] at hq
        have HT3 := Lib.hid hq
        have HRE := Lib.hid (HO.out.get 1 rfl)
        rw [h0] at HRE
        clear hq HT2
        have HR20 := Lib.hid h0
        clear h0
        go_upto_region 8 with (refine wpo_ldc HRE.out tyE _ rfl rfl rfl rfl ?_)
        clear HRE
        obtain ⟨⟨cn, cr, ca⟩, hck⟩ : ∃ V, V = chkV C := ⟨_, rfl⟩
        rw [← hck] at HCK
        have hq := HT3.out
        rw [← hck] at hq
        simp only at hq
        have HT4 := Lib.hid hq
        have HCK2 := Lib.hid (show ∀ W, Calls Tryd.prog 20 #[.agg cc] W fun x w' => x = .returned (.agg #[.int .i64 (cn : Int), .int .i64 cr, .int .i64 (ca : Int)]) ∧ Below W.heap.size W w' from HCK.out)
        clear hq HT3 hck HCK
        go_wp2_with (refine wpo_load HO.out 0 tyC rfl HCC0.out _ rfl rfl rfl ?_)
        refine (HCK2.out _).mono ?_
        rintro x V7 ⟨rfl, hb⟩
        have HB := Lib.hid (HO.out.below hb)
        clear HO hb HCK2
        have HO := HB
        clear HB
        go_upto_region 9 with (first | (refine wpo_alloc tyX HO.out rfl rfl ?_; clear HO; rintro k8 W9 hO; have HO := Lib.hid hO; clear hO; simp only [Act.put, List.setIfInBounds_toArray, List.set_cons_zero, List.set_cons_succ]) | (refine wpo_store (k := k8) HO.out 0 tyX rfl _ _ rfl rfl rfl rfl rfl rfl rfl ?_; clear HO; rintro W10 hO; have HO := Lib.hid hO; clear hO; simp only [Act.put]))
        simp only [List.set_cons_zero] at HO
        by_cases h0 : cn = 0
        case neg =>
          have hq := HT4.out
          rw [if_neg h0] at hq
          have HT5 := Lib.hid hq
          have hi : ¬ (cn : Int) = 0 := by omega
          clear hq HT4 h0
          go_upto_region 10 with (refine wpo_ldc (HO.out.get 0 rfl) tyE _ rfl rfl rfl rfl ?_)
          refine wpo_y2s (yA := (k2, 24, cfgC zC)) (yB := (k4, 32, #[.int .i64 (cn : Int), .int .i64 cr, .int .i64 (ca : Int)])) [(46, .agg (cfgC zC)), (47, .agg #[.int .i64 (cn : Int), .int .i64 cr, .int .i64 (ca : Int)])] 4 3 mixed (by kernel_rfl) HO.out rfl rfl (by decide) (fun _ _ _ _ _ h => h) ?_ rfl rfl rfl rfl rfl rfl ?_ ?_ ?_
          · refine ⟨⟨_, rfl, rfl, yo_zero rfl tyC rfl⟩, ?_⟩
            simp only [Act.put, List.setIfInBounds_toArray, List.set_cons_zero, List.set_cons_succ]
            refine ⟨⟨_, rfl, rfl, yo_load rfl tyX (fun _ h => h.get 0 (by decide) (by decide) rfl) rfl _ rfl rfl⟩, ?_⟩
            exact trivial
          · simp only [putD, Act.put, List.setIfInBounds_toArray, List.set_cons_zero, List.set_cons_succ]
            exact sto_row tyC _ _ rfl rfl rfl rfl rfl rfl rfl rfl
          · simp only [putD, Act.put, List.setIfInBounds_toArray, List.set_cons_zero, List.set_cons_succ]
            exact sto_row tyX _ _ rfl rfl rfl rfl rfl rfl rfl rfl
          intro Wy hO
          clear HO
          have HO := Lib.hid hO
          clear hO
          simp only [putD, Act.put, List.setIfInBounds_toArray, List.set_cons_zero, List.set_cons_succ]
          go_wp2_with fail
          exact bodyPost_ret (res_own101 4 3 HO.out tyC tyX rfl rfl rfl rfl rfl rfl rfl rfl) rfl ⟨none, 0, by rw [HT5.out] <;> rfl, by rw [HT5.out]; exact erow_nil _ _ rfl, HO.out.bel⟩
        case pos =>
          have hq := HT4.out
          rw [if_pos h0] at hq
          have HT5 := Lib.hid hq
          subst h0
          clear hq HT4
          go_upto_region 11 with (refine wpo_ldc (HO.out.get 0 rfl) tyE _ rfl rfl rfl rfl ?_)
          obtain ⟨⟨m, R3⟩, h3⟩ : ∃ V, V = rNum s 2 R2 := ⟨_, rfl⟩
          have hq := HT5.out
          rw [esF_fin, ← h3] at hq
          simp only at hq
          have HT6 := Lib.hid hq
          have H3 := Lib.hid h3
          clear hq h3 HT5
          go_upto_region 12 with (refine wpo_ldc (HO.out.get 2 rfl) tyI _ rfl rfl rfl rfl ?_)
          have HU := Lib.hid (rru16_any (HO.out.rd 2 rfl (R := R2) HL2.out) (by have := HSZ.out; omega))
          rw [← H3.out] at HU
          go_wp2_with fail
          refine HU.out.mono ?_
          rintro x V12 ⟨rfl, hn⟩
          have HL3 := Lib.hid hn.obj.le
          have HB := Lib.hid (HO.out.rstep (R' := R3) 2 rfl hn)
          clear HO hn HU
          have HO := HB
          clear HB
          simp only [List.set_cons_zero, List.set_cons_succ] at HO
          clear H3
          by_cases h0 : R3.no = 0
          case neg =>
            have hq := HT6.out
            rw [if_neg h0, if_neg (show ¬ (R3.no, (129 : Int), R3.ea).1 = 0 from h0)] at hq
            have HT7 := Lib.hid hq
            have HHO := Lib.hid (ofd_err (s := s) h0)
            have hi : ¬ (R3.no : Int) = 0 := by omega
            clear hq HT6 h0
            have HOF := Lib.hid (rof_any (HO.out.rd 2 rfl (R := R3) HL3.out))
            rw [HHO.out, show fltV (R3.no, 129, R3.ea) = .agg #[.int .i64 (R3.no : Int), .int .i64 129, .int .i64 (R3.ea : Int)] from rfl] at HOF
            go_wp2_with (first | (refine wpo_ldc (HO.out.get 2 rfl) tyE _ rfl rfl rfl rfl ?_) | (refine wpo_zero tyC rfl rfl ?_))
            refine HOF.out.mono ?_
            rintro x V14 ⟨rfl, hb⟩
            have HB := Lib.hid (HO.out.below hb)
            clear HO hb HOF
            have HO := HB
            clear HB
            go_wp2_with (first | (refine wpo_store (c := cfgC zC) (k := k2) HO.out 4 tyC rfl _ _ rfl rfl rfl rfl rfl rfl rfl ?_; clear HO; rintro Wqa hO; have HO := Lib.hid hO; clear hO; simp only [Act.put]) | (refine wpo_store (k := k4) HO.out 3 tyX rfl _ _ rfl rfl rfl rfl rfl rfl rfl ?_; clear HO; rintro Wqb hO; have HO := Lib.hid hO; clear hO; simp only [Act.put]))
            exact bodyPost_ret (res_own101 4 3 HO.out tyC tyX rfl rfl rfl rfl rfl rfl rfl rfl) rfl ⟨none, 0, by rw [HT7.out] <;> rfl, by rw [HT7.out]; exact erow_nil _ _ rfl, HO.out.bel⟩
          case pos =>
            have hq := HT6.out
            rw [if_pos h0] at hq
            have HT7 := Lib.hid hq
            have HRE := Lib.hid (HO.out.get 2 rfl)
            rw [h0] at HRE
            have HR30 := Lib.hid h0
            clear hq HT6 h0
            by_cases hm : 16384 < m
            case pos =>
              have hq := HT7.out
              rw [if_pos hm, if_neg (show ¬ ((4 : Nat), (149 : Int), R2.p).1 = 0 from by simp only; decide)] at hq
              have HT8 := Lib.hid hq
              have hmi : (16384 : Int) < (m : Int) := by omega
              clear hq HT7 hm
              go_wp2_with (first | (refine wpo_ldc HRE.out tyE _ rfl rfl rfl rfl ?_) | (refine wpo_zero tyC rfl rfl ?_) | (refine wpo_store (c := cfgC zC) (k := k2) HO.out 4 tyC rfl _ _ rfl rfl rfl rfl rfl rfl rfl ?_; clear HO; rintro Wqa hO; have HO := Lib.hid hO; clear hO; simp only [Act.put]) | (refine wpo_store (k := k4) HO.out 3 tyX rfl _ _ rfl rfl rfl rfl rfl rfl rfl ?_; clear HO; rintro Wqb hO; have HO := Lib.hid hO; clear hO; simp only [Act.put]))
              exact bodyPost_ret (res_own101 4 3 HO.out tyC tyX rfl rfl rfl rfl rfl rfl rfl rfl) rfl ⟨none, 0, by rw [HT8.out] <;> rfl, by rw [HT8.out]; exact erow_nil _ _ rfl, HO.out.bel⟩
            case neg =>
              have hq := HT7.out
              rw [if_neg hm] at hq
              have HT8 := Lib.hid (show T = if (fin43 s [] (evF s (m - 0) R3)).1.1 = 0 then ⟨er0, C, (fin43 s [] (evF s (m - 0) R3)).2⟩ else ⟨(fin43 s [] (evF s (m - 0) R3)).1, zC, []⟩ from hq)
              have hmi : ¬ (16384 : Int) < (m : Int) := by omega
              have HM := Lib.hid hm
              clear hq HT7 hm
              go_upto_region 17 with (refine wpo_ldc HRE.out tyE _ rfl rfl rfl rfl ?_)
              clear hmi HRE
              go_wp2_with fail
              go_loopg [11, 12] m (fun f u x wr => ∃ (i : Nat) (P : List ET) (Rt : RV), f = m - i ∧ i ≤ m ∧ x = .int .i64 i ∧ P.length = i ∧ Rt.p ≤ s.size ∧ Rt.no = 0 ∧ Hid (Own [] w wr [(k8, 32, #[.int .i64 ((0 : Nat) : Int), .int .i64 cr, .int .i64 (ca : Int)]), (k7, 24, cc), (kr, 54, #[.string s, .int .i64 Rt.p, .int .i64 Rt.no, .int .i64 Rt.ea]), (k4, 32, #[.int .i64 0, .int .i64 0, .int .i64 0]), (k2, 24, cfgC zC)] ∧ E4Row wr w.heap.size u P ∧ T = if (fin43 s P (evF s (m - i) Rt)).1.1 = 0 then ⟨er0, C, (fin43 s P (evF s (m - i) Rt)).2⟩ else ⟨(fin43 s P (evF s (m - i) Rt)).1, zC, []⟩))
              case atStart => exact ⟨0, [], R3, rfl, Nat.zero_le _, rfl, rfl, HL3.out, HR30.out, Lib.hid ⟨HO.out, E4Row.nil _ _, HT8.out⟩⟩
              case round =>
                obtain ⟨i, P, Rt, rfl, hi, rfl, hpl, hlt, hno, HJ⟩ := hrel
                clear HO HT8
                have HO := Lib.hid HJ.out.1
                have HROW := Lib.hid HJ.out.2.1
                have HT8 := Lib.hid HJ.out.2.2
                have HLt := Lib.hid hlt
                have HNO := Lib.hid hno
                clear HJ hlt hno
                obtain ⟨av, nv, cv, rfl, hnv, hcap⟩ := HROW.out.some_form
                rw [hpl] at hnv
                subst hnv
                have HPL := Lib.hid hpl
                clear hpl hcap
                by_cases hlm : nv < m
                case pos =>
                  have hms := HT8.out
                  rw [show m - nv = (m - (nv + 1)) + 1 by omega] at hms
                  obtain ⟨⟨a1, Ra⟩, ha⟩ : ∃ V, V = rNum s 1 Rt := ⟨_, rfl⟩
                  obtain ⟨⟨b1, Rb⟩, hb⟩ : ∃ V, V = rNum s 1 Ra := ⟨_, rfl⟩
                  obtain ⟨⟨c1, Rc⟩, hc⟩ : ∃ V, V = rNum s 4 Rb := ⟨_, rfl⟩
                  obtain ⟨⟨d1, Rd⟩, hd⟩ : ∃ V, V = rBin s Rc := ⟨_, rfl⟩
                  have hk : evK s Rt = (⟨a1, b1, c1, d1⟩, Rd) := by unfold evK; rw [← ha]; simp only; rw [← hb]; simp only; rw [← hc]; simp only; rw [← hd]
                  rw [fin_step hk] at hms
                  have HMS := Lib.hid hms
                  have HAA := Lib.hid ha
                  have HBB := Lib.hid hb
                  have HCC := Lib.hid hc
                  have HDD := Lib.hid hd
                  clear ha hb hc hd hk hms HT8
                  go_upto_region 22 with (refine wpo_ldc (HO.out.get 2 rfl) tyI _ rfl rfl rfl rfl ?_)
                  have HU := Lib.hid (rru8_any (HO.out.rd 2 rfl (R := Rt) HLt.out) (by have := HSZ.out; omega))
                  rw [← HAA.out] at HU
                  go_wp2_with fail
                  refine HU.out.mono ?_
                  rintro x Va ⟨rfl, hn⟩
                  have HLa := Lib.hid hn.obj.le
                  have HR2 := Lib.hid (e4_rr HROW.out (HO.out.rd 2 rfl (R := Rt) HLt.out) hn.fr)
                  clear HROW
                  have HROW := HR2
                  clear HR2
                  have HB := Lib.hid (HO.out.rstep (R' := Ra) 2 rfl hn)
                  clear HO hn HU
                  have HO := HB
                  clear HB
                  simp only [List.set_cons_zero, List.set_cons_succ] at HO
                  have HHS := Lib.hid (show ∃ n, n = Va.heap.size from ⟨_, rfl⟩)
                  go_upto_region 23 with fail
                  obtain ⟨W6, hW6⟩ : ∃ W, W = Va.alloc (.cells #[.int .i64 (a1 : Int), .int .i64 0, .string ⟨#[]⟩, .int .i64 0] 44) := ⟨_, rfl⟩
                  rw [← hW6]
                  have hb6 : Below Va.heap.size Va W6 := by rw [hW6]; exact (Below.refl _ _).alloc (Nat.le_refl _) _
                  have hO6 : Own [] w W6 ((Va.heap.size, 44, #[.int .i64 (a1 : Int), .int .i64 0, .string ⟨#[]⟩, .int .i64 0]) :: [(k8, 32, #[.int .i64 ((0 : Nat) : Int), .int .i64 cr, .int .i64 (ca : Int)]), (k7, 24, cc), (kr, 54, #[.string s, .int .i64 Ra.p, .int .i64 Ra.no, .int .i64 Ra.ea]), (k4, 32, #[.int .i64 0, .int .i64 0, .int .i64 0]), (k2, 24, cfgC zC)]) := by rw [hW6]; exact HO.out.alloc _ _
                  have hrx : RowX W6 w.heap.size (.slice av nv cv) P Va.heap.size := ⟨HROW.out.below hb6, fun j hj => by have := (HROW.out.lt j hj).2.1; omega⟩
                  clear HO HROW hW6 hb6 HHS
                  have HO := Lib.hid hO6
                  have HROW := Lib.hid hrx
                  clear hO6 hrx
                  generalize Va.heap.size = k9 at *
                  have HU := Lib.hid (rru8_any (HO.out.rd 3 rfl (R := Ra) HLa.out) (by have := HSZ.out; omega))
                  rw [← HBB.out] at HU
                  go_wp2_with fail
                  refine HU.out.mono ?_
                  rintro x Vb ⟨rfl, hn⟩
                  have HLb := Lib.hid hn.obj.le
                  have HR2 := Lib.hid (RowX.rr HROW.out (HO.out.rd 3 rfl (R := Ra) HLa.out) hn.fr)
                  clear HROW
                  have HROW := HR2
                  clear HR2
                  have HB := Lib.hid (HO.out.rstep (R' := Rb) 3 rfl hn)
                  clear HO hn HU
                  have HO := HB
                  clear HB
                  simp only [List.set_cons_zero, List.set_cons_succ] at HO
                  have HFX := Lib.hid (fun W (hf : Fr [k9] Vb W) => HROW.out.fr hf)
                  go_upto_region 24 with (refine wpg_cell (v := .int .i64 (b1 : Int)) HO.out 0 1 tyI.ip rfl HFX.out _ _ rfl rfl rfl rfl (by decide : (1 : Nat) < 4) rfl ?_; clear HO HROW; rintro Xb hO hG; have HO := Lib.hid hO; have HROW := Lib.hid hG; clear hO hG; simp only [Act.put])
                  clear HFX
                  simp only [List.setIfInBounds_toArray, List.set_cons_zero, List.set_cons_succ] at HO
                  have HU := Lib.hid (rru32_any (HO.out.rd 3 rfl (R := Rb) HLb.out) (by have := HSZ.out; omega))
                  rw [← HCC.out] at HU
                  go_wp2_with fail
                  refine HU.out.mono ?_
                  rintro x Vc ⟨rfl, hn⟩
                  have HLc := Lib.hid hn.obj.le
                  have HR2 := Lib.hid (RowX.rr HROW.out (HO.out.rd 3 rfl (R := Rb) HLb.out) hn.fr)
                  clear HROW
                  have HROW := HR2
                  clear HR2
                  have HB := Lib.hid (HO.out.rstep (R' := Rc) 3 rfl hn)
                  clear HO hn HU
                  have HO := HB
                  clear HB
                  simp only [List.set_cons_zero, List.set_cons_succ] at HO
                  have HFX := Lib.hid (fun W (hf : Fr [k9] Vc W) => HROW.out.fr hf)
                  go_upto_region 25 with (refine wpg_cell (v := .int .i64 (c1 : Int)) HO.out 0 3 tyI.ip rfl HFX.out _ _ rfl rfl rfl rfl (by decide : (3 : Nat) < 4) rfl ?_; clear HO HROW; rintro Xc hO hG; have HO := Lib.hid hO; have HROW := Lib.hid hG; clear hO hG; simp only [Act.put])
                  clear HFX
                  simp only [List.setIfInBounds_toArray, List.set_cons_zero, List.set_cons_succ] at HO
                  have HU := Lib.hid (rrbin_any (HO.out.rd 3 rfl (R := Rc) HLc.out) HSZ.out)
                  rw [← HDD.out] at HU
                  go_wp2_with fail
                  refine HU.out.mono ?_
                  rintro x Vd ⟨rfl, hn⟩
                  have HLd := Lib.hid hn.obj.le
                  have HR2 := Lib.hid (RowX.rr HROW.out (HO.out.rd 3 rfl (R := Rc) HLc.out) hn.fr)
                  clear HROW
                  have HROW := HR2
                  clear HR2
                  have HB := Lib.hid (HO.out.rstep (R' := Rd) 3 rfl hn)
                  clear HO hn HU
                  have HO := HB
                  clear HB
                  simp only [List.set_cons_zero, List.set_cons_succ] at HO
                  have HFX := Lib.hid (fun W (hf : Fr [k9] Vd W) => HROW.out.fr hf)
                  go_upto_region 26 with (refine wpg_cell (v := .string d1) HO.out 0 2 tyS.ip rfl HFX.out _ _ rfl rfl rfl rfl (by decide : (2 : Nat) < 4) rfl ?_; clear HO HROW; rintro Xd hO hG; have HO := Lib.hid hO; have HROW := Lib.hid hG; clear hO hG; simp only [Act.put])
                  clear HFX
                  simp only [List.setIfInBounds_toArray, List.set_cons_zero, List.set_cons_succ] at HO
                  by_cases h0 : Rd.no = 0
                  case neg =>
                    have hq := HMS.out
                    rw [if_neg h0, if_neg (show ¬ (Rd.no, (129 : Int), Rd.ea).1 = 0 from h0)] at hq
                    have HT9 := Lib.hid hq
                    have HHO := Lib.hid (ofd_err (s := s) h0)
                    have hi : ¬ (Rd.no : Int) = 0 := by omega
                    clear hq HMS h0
                    have HOF := Lib.hid (rof_any (HO.out.rd 3 rfl (R := Rd) HLd.out))
                    rw [HHO.out, show fltV (Rd.no, 129, Rd.ea) = .agg #[.int .i64 (Rd.no : Int), .int .i64 129, .int .i64 (Rd.ea : Int)] from rfl] at HOF
                    go_wp2_with (first | (refine wpo_ldc (HO.out.get 3 rfl) tyE _ rfl rfl rfl rfl ?_) | (refine wpo_zero tyC rfl rfl ?_))
                    refine HOF.out.mono ?_
                    rintro x V27 ⟨rfl, hb⟩
                    have HB := Lib.hid (HO.out.below hb)
                    clear HO hb HOF
                    have HO := HB
                    clear HB
                    go_wp2_with (first | (refine wpo_store (c := cfgC zC) (k := k2) HO.out 5 tyC rfl _ _ rfl rfl rfl rfl rfl rfl rfl ?_; clear HO; rintro Wqa hO; have HO := Lib.hid hO; clear hO; simp only [Act.put]) | (refine wpo_store (k := k4) HO.out 4 tyX rfl _ _ rfl rfl rfl rfl rfl rfl rfl ?_; clear HO; rintro Wqb hO; have HO := Lib.hid hO; clear hO; simp only [Act.put]))
                    exact bodyPost_ret (res_own101 5 4 HO.out tyC tyX rfl rfl rfl rfl rfl rfl rfl rfl) rfl ⟨none, 0, by rw [HT9.out] <;> rfl, by rw [HT9.out]; exact erow_nil _ _ rfl, HO.out.bel⟩
                  case pos =>
                    have hq := HMS.out
                    rw [if_pos h0] at hq
                    have HMS2 := Lib.hid hq
                    have HRD0 := Lib.hid h0
                    have HRE := Lib.hid (HO.out.get 3 rfl)
                    rw [h0] at HRE
                    clear hq HMS h0
                    go_upto_region 28 with (refine wpo_ldc HRE.out tyE _ rfl rfl rfl rfl ?_)
                    clear HRE
                    go_wp2_with (refine wpo_ldc (HO.out.get 0 rfl) tyI _ rfl rfl rfl rfl ?_)
                    have HSK := Lib.hid (rk_any (a1 : Int) Xd)
                    by_cases hk : kOk (a1 : Int)
                    case neg =>
                      have hq := HMS2.out
                      rw [if_neg hk, if_neg (show ¬ ((2 : Nat), (129 : Int), Rt.p).1 = 0 from by simp only; decide)] at hq
                      have HT9 := Lib.hid hq
                      rw [decide_eq_false hk] at HSK
                      clear hq HMS2 hk
                      refine HSK.out.mono ?_
                      rintro x W7 ⟨rfl, rfl⟩
                      clear HSK
                      go_wp2_with (first | (refine wpo_zero tyC rfl rfl ?_) | (refine wpo_store (c := cfgC zC) (k := k2) HO.out 5 tyC rfl _ _ rfl rfl rfl rfl rfl rfl rfl ?_; clear HO; rintro Wqa hO; have HO := Lib.hid hO; clear hO; simp only [Act.put]) | (refine wpo_store (k := k4) HO.out 4 tyX rfl _ _ rfl rfl rfl rfl rfl rfl rfl ?_; clear HO; rintro Wqb hO; have HO := Lib.hid hO; clear hO; simp only [Act.put]))
                      exact bodyPost_ret (res_own101 5 4 HO.out tyC tyX rfl rfl rfl rfl rfl rfl rfl rfl) rfl ⟨none, 0, by rw [HT9.out] <;> rfl, by rw [HT9.out]; exact erow_nil _ _ rfl, HO.out.bel⟩
                    case pos =>
                      have hq := HMS2.out
                      rw [if_pos hk] at hq
                      have HT9 := Lib.hid hq
                      rw [decide_eq_true hk] at HSK
                      clear hq HMS2 hk
                      refine HSK.out.mono ?_
                      rintro x W7 ⟨rfl, rfl⟩
                      clear HSK
                      have HDL := Lib.hid (show P.length ≤ 100000 by have := HM.out; have := HPL.out; omega)
                      have HS6 := Lib.hid HO.out.size
                      go_wp2_with (first | (refine wpo_load HO.out 0 tyEv rfl rfl _ rfl rfl rfl ?_) | (at_builtin; go_must (refine E4_append ⟨(a1 : Int), (b1 : Int), (c1 : Int), d1⟩ rfl _ _ rfl HROW.out.row HS6.out rfl Xd.heap.size 1 rfl rfl HDL.out rfl ?_)))
                      intro v7 w7 hn7
                      have HO7 := Lib.hid ((HO.out.drop 0).grown43 (te := 44) hn7.grown (fun k hk => ⟨(HROW.out.row.lt k hk).1, (HROW.out.row.lt k hk).2.2⟩) (by simp only [List.eraseIdx_cons_zero]; intro x hx; simp only [List.mem_cons, List.not_mem_nil, or_false] at hx; rcases hx with rfl | rfl | rfl | rfl | rfl <;> (simp only; decide)))
                      have HR7 := Lib.hid hn7.row
                      clear hn7
                      go_wp2_with fail
                      go_roundg (m - (nv + 1))
                      case rel => exact ⟨nv + 1, P ++ [⟨(a1 : Int), (b1 : Int), (c1 : Int), d1⟩], Rd, rfl, hlm, by go_num, by rw [List.length_append, HPL.out]; rfl, HLd.out, HRD0.out, Lib.hid ⟨HO7.out, HR7.out, HT9.out⟩⟩
                      case measure => omega
                case neg =>
                  obtain rfl : nv = m := by omega
                  have hq := HT8.out
                  rw [Nat.sub_self] at hq
                  have hfn : fin43 s P (evF s 0 Rt) = if (ofR (dnR s Rt)).1 = 0 then (er0, P ++ []) else (ofR (dnR s Rt), []) := rfl
                  rw [hfn, List.append_nil] at hq
                  have HOF := Lib.hid (rof_any (HO.out.rd 2 rfl (R := Rt) HLt.out))
                  obtain ⟨⟨dn, dr, da⟩, hd⟩ : ∃ V, V = ofR (dnR s Rt) := ⟨_, rfl⟩
                  rw [← hd] at hq HOF
                  simp only at hq
                  rw [show fltV (dn, dr, da) = .agg #[.int .i64 (dn : Int), .int .i64 dr, .int .i64 (da : Int)] from rfl] at HOF
                  have HT9 := Lib.hid hq
                  clear hq HT8 hd hfn
                  go_wp2_with fail
                  refine HOF.out.mono ?_
                  rintro x V31 ⟨rfl, hb⟩
                  have HB := Lib.hid (HO.out.below hb)
                  have HR2 := Lib.hid (HROW.out.below hb)
                  clear HO hb HOF HROW
                  have HO := HB
                  have HROW := HR2
                  clear HB HR2
                  have HRE2 := Lib.hid (And.intro HO.out HROW.out)
                  clear HROW
                  go_upto_region 32 with fail
                  obtain ⟨W9, hW9⟩ : ∃ W, W = V31.alloc (.cells #[.int .i64 (dn : Int), .int .i64 dr, .int .i64 (da : Int)] 32) := ⟨_, rfl⟩
                  rw [← hW9]
                  have hb9 : Below V31.heap.size V31 W9 := by rw [hW9]; exact (Below.refl _ _).alloc (Nat.le_refl _) _
                  have hO9 : Own [] w W9 ((V31.heap.size, 32, #[.int .i64 (dn : Int), .int .i64 dr, .int .i64 (da : Int)]) :: [(k8, 32, #[.int .i64 ((0 : Nat) : Int), .int .i64 cr, .int .i64 (ca : Int)]), (k7, 24, cc), (kr, 54, #[.string s, .int .i64 Rt.p, .int .i64 Rt.no, .int .i64 Rt.ea]), (k4, 32, #[.int .i64 0, .int .i64 0, .int .i64 0]), (k2, 24, cfgC zC)]) := by rw [hW9]; exact HRE2.out.1.alloc _ _
                  have HROW := Lib.hid (HRE2.out.2.below hb9)
                  clear HO HRE2 hW9 hb9
                  have HO := Lib.hid hO9
                  clear hO9
                  generalize V31.heap.size = k14 at *
                  by_cases h0 : dn = 0
                  case neg =>
                    have hq := HT9.out
                    rw [if_neg h0, if_neg (show ¬ ((dn, dr, da) : ER).1 = 0 from h0)] at hq
                    have HT10 := Lib.hid hq
                    have hi : ¬ (dn : Int) = 0 := by omega
                    clear hq HT9 h0 HROW
                    go_upto_region 33 with (refine wpo_ldc (HO.out.get 0 rfl) tyE _ rfl rfl rfl rfl ?_)
                    refine wpo_y2s (yA := (k2, 24, cfgC zC)) (yB := (k4, 32, #[.int .i64 (dn : Int), .int .i64 dr, .int .i64 (da : Int)])) [(112, .agg (cfgC zC)), (113, .agg #[.int .i64 (dn : Int), .int .i64 dr, .int .i64 (da : Int)])] 5 4 mixed (by kernel_rfl) HO.out rfl rfl (by decide) (fun _ _ _ _ _ h => h) ?_ rfl rfl rfl rfl rfl rfl ?_ ?_ ?_
                    · refine ⟨⟨_, rfl, rfl, yo_zero rfl tyC rfl⟩, ?_⟩
                      simp only [Act.put, List.setIfInBounds_toArray, List.set_cons_zero, List.set_cons_succ]
                      refine ⟨⟨_, rfl, rfl, yo_load rfl tyX (fun _ h => h.get 0 (by decide) (by decide) rfl) rfl _ rfl rfl⟩, ?_⟩
                      exact trivial
                    · simp only [putD, Act.put, List.setIfInBounds_toArray, List.set_cons_zero, List.set_cons_succ]
                      exact sto_row tyC _ _ rfl rfl rfl rfl rfl rfl rfl rfl
                    · simp only [putD, Act.put, List.setIfInBounds_toArray, List.set_cons_zero, List.set_cons_succ]
                      exact sto_row tyX _ _ rfl rfl rfl rfl rfl rfl rfl rfl
                    intro Wy hO
                    clear HO
                    have HO := Lib.hid hO
                    clear hO
                    simp only [putD, Act.put, List.setIfInBounds_toArray, List.set_cons_zero, List.set_cons_succ]
                    go_wp2_with fail
                    exact bodyPost_ret (res_own101 5 4 HO.out tyC tyX rfl rfl rfl rfl rfl rfl rfl rfl) rfl ⟨none, 0, by rw [HT10.out] <;> rfl, by rw [HT10.out]; exact erow_nil _ _ rfl, HO.out.bel⟩
                  case pos =>
                    have hq := HT9.out
                    rw [if_pos h0, if_pos (show er0.1 = 0 from rfl)] at hq
                    have HT10 := Lib.hid hq
                    subst h0
                    clear hq HT9
                    have HFA := Lib.hid (fun W (hf : Fr [k2] W9 W) => e4_other HROW.out (HO.out.get 5 rfl) (by decide) hf)
                    go_upto_region 34 with (refine wpo_ldc (HO.out.get 0 rfl) tyE _ rfl rfl rfl rfl ?_)
                    go_wp2_with (first | (refine wpo_load HO.out 2 tyC rfl HCC0.out _ rfl rfl rfl ?_) | (refine wpo_zero tyX rfl rfl ?_) | (refine wpg_store (k := k2) HO.out 5 tyC rfl HFA.out _ _ rfl rfl rfl rfl rfl HCC0.out HCO.out ?_; clear HO HROW; rintro W10 hO hG; have HO := Lib.hid hO; have HROW := Lib.hid hG; clear hO hG; have HFB := Lib.hid (fun W (hf : Fr [k4] W10 W) => e4_other HROW.out (HO.out.get 4 rfl) (by decide) hf); simp only [Act.put]) | (refine wpg_store (k := k4) HO.out 4 tyX rfl HFB.out _ _ rfl rfl rfl rfl rfl rfl rfl ?_; clear HO HROW; rintro W11 hO hG; have HO := Lib.hid hO; have HROW := Lib.hid hG; clear hO hG; simp only [Act.put]))
                    exact bodyPost_ret (res_own101 5 4 HO.out tyC tyX rfl rfl rfl rfl rfl rfl HCC0.out rfl) rfl ⟨av, cv, by rw [HT10.out, HCC.out, ← HPL.out] <;> rfl, by rw [HT10.out]; exact ⟨_, _, HPL.out ▸ HROW.out⟩, HO.out.bel⟩
end
end Go.Proofs.YtaoaoobabjepnaaDoor
