/- What is proved here: the statements of layer 43 answer true. Conditions: what the rows list of the package's variables. -/
import Derived.Test.YtaoaoobabjepnaaDoorAwk43
import Derived.Test.YtaoaoobabjepnaaDoorRtk43
import Derived.Test.YtaoaoobabjepnaaDoorSme43
import Derived.Test.YtaoaoobabjepnaaDoorEsm43
import Derived.Test.YtaoaoobabjepnaaDoorOwg43
import Derived.Test.YtaoaoobabjepnaaDoorRaw04
import Derived.Test.YtaoaoobabjepnaaDoorRtx04
import Derived.Deep.QuietTactic
import Derived.BigQuiet
import Derived.Deep.DeepMust
import Derived.Deep.DeepCutAuto
namespace Go.Proofs.YtaoaoobabjepnaaDoor
set_option maxRecDepth 100000
open Go.ChangeShapes Go.WideShapes Go.RowKit Go.Deep Go.Extern.Stop Go.Stop Go.Extern
theorem rNum2_lt (s : ByteArray) (R : RV) : (rNum s 2 R).1 < 65536 := by
  have h1 := bv_lt (rTake s 2 R).1.data.toList
  have h2 := take_size s 2 R
  rw [bLen] at h1
  have h3 : 256 ^ (rTake s 2 R).1.size ≤ 256 ^ 2 := Nat.pow_le_pow_right (by omega) h2
  have e : (rNum s 2 R).1 = bv (rTake s 2 R).1.data.toList := rfl
  omega
theorem evF_len (s : ByteArray) : ∀ (n : Nat) (R : RV), (evF s n R).2.1.length ≤ n
  | 0, _ => Nat.le_refl _
  | n + 1, R => by
    rw [evF_succ]
    have ih := evF_len s n (evK s R).2
    by_cases h1 : (evK s R).2.no = 0
    · rw [if_pos h1]
      by_cases h2 : kOk (evK s R).1.k
      · rw [if_pos h2]
        simp only [List.length_cons]
        omega
      · rw [if_neg h2]
        exact Nat.zero_le _
    · rw [if_neg h1]
      exact Nat.zero_le _
theorem tk_len {s : ByteArray} (_h : s.size ≤ 900000) : (tkS s).L.length ≤ 9000000 := by
  rw [tkS_eq]
  unfold tkB
  have hn := rNum2_lt s (bdF s).2.2
  have hl := evF_len s (rNum s 2 (bdF s).2.2).1 (rNum s 2 (bdF s).2.2).2
  have he : (esF s (bdF s).2.2).2.length ≤ 65536 := by
    rw [esF_fin]
    generalize rNum s 2 (bdF s).2.2 = m at *
    by_cases h1 : m.2.no = 0
    · rw [if_pos h1]
      by_cases h2 : 16384 < m.1
      · rw [if_pos h2]
        exact Nat.zero_le _
      · rw [if_neg h2]
        unfold fin43
        repeat' split
        all_goals simp only [List.nil_append, List.length_nil]
        all_goals omega
    · rw [if_neg h1]
      exact Nat.zero_le _
  generalize esF s (bdF s).2.2 = e at *
  repeat' split
  all_goals simp only [List.length_nil]
  all_goals omega
section
variable {P : Program} {X : List Nat} {w0 w : World} {L : OL} {ops : Array Oper} {rest : List Oper} {op : Oper} {a : Act} {Q : Exit → Act → World → Prop} {z c : Array Value} {k : Nat} {t : TypeId}
theorem wpo_load_g (hO : Own X w0 w L) (i : Nat) (hT : Ty P t z) (hi : L[i]? = some (k, t, c)) (hc : c.size = z.size) (x : Operand) (hw : Region.wanted op (yielded ops a.tmps) = true) (ho : op.op = .load t x)
    (hx : a.eval x = .pointer (some ⟨k, 0, none⟩)) (h : wpList P ops Q rest (a.put op.dst (.agg c)) w) : wpList P ops Q (op :: rest) a w :=
  wpList_step fun _ hK => by
    rw [if_pos hw]
    unfold Oper.wp execOp
    simp only [ho, hx, Instr.loadAt, Instr.sureAddr, Sem.run_bind, Sem.run_pure, Result.andThen_ok, run_load_own hT (hO.get i hi) hc]
    exact hK _ _ h
end
section
variable {w w' : World} {S : Nat → Addr}
set_option maxHeartbeats 16000000 in
theorem scriptTakes_walk (S : Nat → Addr) (a : ByteArray) (w : World) (h : EnvN w S) (wa : a.size ≤ maxLen) : Calls Tryd.prog 3 #[.string a] w fun x w' => x = .returned (.bool true) ∧ Below w.heap.size w w' := by
  unfold maxLen at wa
  have HE := Lib.hid h
  have HO := Lib.hid (Own.start [] w)
  clear h
  by_cases ha : 8192 < a.size
  · have HA := Lib.hid (awake43 HE.out)
    go_enter Tryd.func3, Tryd.ntmps3
    go_wp2_with fail
    refine HA.out.mono ?_
    rintro x w1 ⟨rfl, hb⟩
    have HX := Lib.hid hb
    clear hb HA
    go_wp2_with fail
    go_ret
    exact ⟨rfl, HX.out⟩
  · have HTK := Lib.hid (tak_any (s := a) HE.out.env (by omega))
    have HRT := Lib.hid (fun W => rtk_any (s := a) (by omega) W)
    have HLE := Lib.hid (tk_len (s := a) (by omega))
    generalize tkS a = T at *
    obtain ⟨⟨no, r, ea⟩, TC, TL⟩ := T
    simp only at HLE
    go_enter Tryd.func3, Tryd.ntmps3
    go_wp2_with fail
    refine HTK.out.mono ?_
    rintro x V1 ⟨a1, c1, e1, rfl, hr, he, hb⟩
    have HB := Lib.hid (HO.out.below hb)
    have HG := Lib.hid (And.intro hr he)
    clear HO hb hr he HTK
    have HO := HB
    clear HB
    simp only at HG
    have ST1 := (stab_row a1 TL).and (stab_er S (no, r, ea) e1)
    simp only [cfgC]
    go_upto_region 4 with (first | (refine wps_alloc ST1 HG.out tyC HO.out rfl rfl ?_; clear HO HG; rintro k3 W1 hO hG; have HO := Lib.hid hO; have HG := Lib.hid hG; clear hO hG; simp only [Act.put, List.setIfInBounds_toArray, List.set_cons_zero, List.set_cons_succ]) | (refine wps_store (k := k3) (c := #[.int .i64 (TC 0), .int .i64 (TC 1), .int .i64 (TC 2), .int .i64 (TC 3), .int .i64 (TC 4), .int .i64 (TC 5), .int .i64 (TC 6), .int .i64 (TC 7), .int .i64 (TC 8), .int .i64 (TC 9), .int .i64 (TC 10), .int .i64 (TC 11), .int .i64 (TC 12)]) ST1 HG.out HO.out 0 tyC rfl (by decide) (by decide) (by decide) _ _ rfl rfl rfl rfl rfl rfl rfl ?_; clear HO HG; rintro W2 hO hG; have HO := Lib.hid hO; have HG := Lib.hid hG; clear hO hG; simp only [Act.put]))
    simp only [List.set_cons_zero] at HO
    have HRT2 := Lib.hid (HRT.out W2)
    clear HRT
    go_wp2_with fail
    refine HRT2.out.mono ?_
    rintro x V2 ⟨a2, c2, rfl, hr, hb⟩
    have HB := Lib.hid (HO.out.below hb)
    have HG2 := Lib.hid (And.intro (ST1.below _ _ hb HG.out) hr)
    clear HO hb hr HG HRT2
    have HO := HB
    have HG := HG2
    clear HB HG2
    simp only at HG
    have ST2 := ST1.and (stab_row a2 TL)
    simp only [cfgC, fltV]
    go_upto_region 5 with (first | (refine wps_alloc ST2 HG.out tyC HO.out rfl rfl ?_; clear HO HG; rintro k6 W3 hO hG; have HO := Lib.hid hO; have HG := Lib.hid hG; clear hO hG; simp only [Act.put, List.setIfInBounds_toArray, List.set_cons_zero, List.set_cons_succ]) | (refine wps_alloc ST2 HG.out tyX HO.out rfl rfl ?_; clear HO HG; rintro k8 W4 hO hG; have HO := Lib.hid hO; have HG := Lib.hid hG; clear hO hG; simp only [Act.put, List.setIfInBounds_toArray, List.set_cons_zero, List.set_cons_succ]) | (refine wps_store (k := k6) (c := #[.int .i64 (TC 0), .int .i64 (TC 1), .int .i64 (TC 2), .int .i64 (TC 3), .int .i64 (TC 4), .int .i64 (TC 5), .int .i64 (TC 6), .int .i64 (TC 7), .int .i64 (TC 8), .int .i64 (TC 9), .int .i64 (TC 10), .int .i64 (TC 11), .int .i64 (TC 12)]) ST2 HG.out HO.out 1 tyC rfl (by decide) (by decide) (by decide) _ _ rfl rfl rfl rfl rfl rfl rfl ?_; clear HO HG; rintro W5 hO hG; have HO := Lib.hid hO; have HG := Lib.hid hG; clear hO hG; simp only [Act.put]) | (refine wps_store (k := k8) (c := #[.int .i64 (no : Int), .int .i64 r, .int .i64 (ea : Int)]) ST2 HG.out HO.out 0 tyX rfl (by decide) (by decide) (by decide) _ _ rfl rfl rfl rfl rfl rfl rfl ?_; clear HO HG; rintro W6 hO hG; have HO := Lib.hid hO; have HG := Lib.hid hG; clear hO hG; simp only [Act.put]))
    simp only [List.set_cons_zero, List.set_cons_succ] at HO
    have HES := Lib.hid (esame_any c1 c2 HG.out.1.1.rd HG.out.2.rd HLE.out)
    go_wp2_with (first | (refine wpo_load HO.out 2 tyC rfl rfl _ rfl rfl rfl ?_) | (refine wpo_load HO.out 1 tyC rfl rfl _ rfl rfl rfl ?_))
    refine HES.out.mono ?_
    rintro x V3 ⟨rfl, d, rfl⟩
    have HB := Lib.hid (HO.out.drewN d)
    have HER := Lib.hid (show ErrOf (W6.drewN d) S r no ea e1 from ErrT.later HG.out.1.2 (below_drewN (Below.refl _ _) d))
    clear HO HES HG ST1 ST2
    have HO := HB
    clear HB
    generalize W6.drewN d = W7 at *
    have HSM := Lib.hid (same43E S no ea r e1 W7 (HE.out.later HO.out.bel) HER.out)
    go_wp2_with (refine wpo_load_g HO.out 0 tyX rfl rfl _ rfl rfl rfl ?_)
    refine HSM.out.mono ?_
    rintro x V4 ⟨rfl, hb⟩
    have HB := Lib.hid (HO.out.below hb)
    clear HO hb HSM
    have HO := HB
    clear HB
    have HA := Lib.hid (awake43 (HE.out.later HO.out.bel))
    go_wp2_with fail
    refine HA.out.mono ?_
    rintro x V5 ⟨rfl, hb⟩
    have HX := Lib.hid (HO.out.bel.trans (hb.mono HO.out.bel.size))
    clear hb HA
    go_wp2_with fail
    go_ret
    exact ⟨rfl, HX.out⟩
end
end Go.Proofs.YtaoaoobabjepnaaDoor
