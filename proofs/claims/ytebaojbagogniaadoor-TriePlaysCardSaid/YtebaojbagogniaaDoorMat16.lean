/- What is proved here: whether a filter takes a topic, as package topic has it. Conditions: the two errors that utf.Check names are errors; few bytes. -/
import Derived.Test.YtebaojbagogniaaDoorRMat16
namespace Go.Proofs.YtebaojbagogniaaDoor
open Go.RowKit Go.Extern.Stop Go.Stop Go.Extern
section
variable {S : Nat → Addr} {w : World}
set_option maxHeartbeats 4000000 in
theorem match_any (f n : ByteArray) (hf : f.size ≤ 100000) (hn : n.size ≤ 100000) (he : EnvT w S) : Calls Tryd.prog 34 #[.string f, .string n] w fun x w' => x = .returned (.bool (matchB f n)) ∧ Below w.heap.size w w' := by
  have HF := Lib.hid (fun w' (hb : Below w.heap.size w w') => isFilter_any f (by omega) (he.later hb))
  have HN := Lib.hid (fun w' (hb : Below w.heap.size w w') => isName_any n (by omega) (he.later hb))
  have H1 := Lib.hid (fun w => levels_any (w := w) f (by omega))
  have H2 := Lib.hid (fun w => levels_any (w := w) n (by omega))
  have hp1 : 0 < (spl (ls f)).length := by rw [spl_len]; omega
  have hp2 : 0 < (spl (ls n)).length := by rw [spl_len]; omega
  have hc1 : (spl (ls f)).length ≤ 100001 := by have := count_le f; omega
  have hc2 : (spl (ls n)).length ≤ 100001 := by have := count_le n; omega
  unfold LevSays at H1 H2
  clear he
  cases h1 : filtB f with
  | false =>
    rw [match_off1 h1]
    rw [h1] at HF
    clear h1
    go_enter Tryd.func34, Tryd.ntmps34
    go_wp2_with fail
    refine (HF.out _ (Below.refl _ _)).mono ?_
    rintro x w1 ⟨rfl, hb⟩
    have HB := Lib.hid hb
    clear hb
    go_wp2_with fail
    go_ret
    exact ⟨rfl, HB.out⟩
  | true =>
    cases h2 : nameB n with
    | false =>
      rw [match_off2 h2]
      rw [h1] at HF
      rw [h2] at HN
      clear h1 h2
      go_enter Tryd.func34, Tryd.ntmps34
      go_wp2_with fail
      refine (HF.out _ (Below.refl _ _)).mono ?_
      rintro x w1 ⟨rfl, hb⟩
      have HB := Lib.hid hb
      clear hb
      go_wp2_with fail
      refine (HN.out _ HB.out).mono ?_
      rintro x w2 ⟨rfl, hb⟩
      have HB2 := Lib.hid (HB.out.trans (hb.mono HB.out.size))
      clear hb
      go_wp2_with fail
      go_ret
      exact ⟨rfl, HB2.out⟩
    | true =>
      have hfs := filt_pos h1
      have hns := name_pos h2
      have gf := (bAt_get hfs).symm
      have gn := (bAt_get hns).symm
      by_cases h3 : bAt n 0 = 36
      · by_cases h4 : bAt f 0 = 43
        · rw [match_off3 (own_on h3 (.inl h4))]
          rw [h1] at HF
          rw [h2] at HN
          rw [h3] at gn
          rw [h4] at gf
          clear h1 h2 h3 h4
          go_enter Tryd.func34, Tryd.ntmps34
          go_wp2_with fail
          refine (HF.out _ (Below.refl _ _)).mono ?_
          rintro x w1 ⟨rfl, hb⟩
          have HB := Lib.hid hb
          clear hb
          go_wp2_with fail
          refine (HN.out _ HB.out).mono ?_
          rintro x w2 ⟨rfl, hb⟩
          have HB2 := Lib.hid (HB.out.trans (hb.mono HB.out.size))
          clear hb
          go_wp2_with fail
          go_ret
          exact ⟨rfl, HB2.out⟩
        · by_cases h5 : bAt f 0 = 35
          · rw [match_off3 (own_on h3 (.inr h5))]
            rw [h1] at HF
            rw [h2] at HN
            rw [h3] at gn
            rw [h5] at gf
            clear h1 h2 h3 h4 h5
            go_enter Tryd.func34, Tryd.ntmps34
            go_wp2_with fail
            refine (HF.out _ (Below.refl _ _)).mono ?_
            rintro x w1 ⟨rfl, hb⟩
            have HB := Lib.hid hb
            clear hb
            go_wp2_with fail
            refine (HN.out _ HB.out).mono ?_
            rintro x w2 ⟨rfl, hb⟩
            have HB2 := Lib.hid (HB.out.trans (hb.mono HB.out.size))
            clear hb
            go_wp2_with fail
            go_ret
            exact ⟨rfl, HB2.out⟩
          · rw [match_on h1 h2 (own_off2 h4 h5)]
            rw [h1] at HF
            rw [h2] at HN
            rw [h3] at gn
            have b1 : (((bAt f 0 : Nat) : Int) == 43) = false := beq_eq_false_iff_ne.2 (by omega)
            have b2 : (((bAt f 0 : Nat) : Int) == 35) = false := beq_eq_false_iff_ne.2 (by omega)
            clear h1 h2 h3 h4 h5
            generalize bAt f 0 = fz at *
            generalize spl (ls f) = F at *
            generalize spl (ls n) = N at *
            go_enter Tryd.func34, Tryd.ntmps34
            go_wp2_with fail
            refine (HF.out _ (Below.refl _ _)).mono ?_
            rintro x w1 ⟨rfl, hb⟩
            have HB := Lib.hid hb
            clear hb
            go_wp2_with fail
            refine (HN.out _ HB.out).mono ?_
            rintro x w2 ⟨rfl, hb⟩
            have HB2 := Lib.hid (HB.out.trans (hb.mono HB.out.size))
            clear hb
            go_wp2_with fail
            refine (H1.out _).mono ?_
            rintro x w3 ⟨v1, rfl, ht1, hb⟩
            have HB3 := Lib.hid (HB2.out.trans (hb.mono HB2.out.size))
            have HT1 := Lib.hid ht1
            obtain ⟨a1, c1, rfl⟩ := ht1.form
            clear hb ht1
            go_wp2_with fail
            refine (H2.out _).mono ?_
            rintro x w4 ⟨v2, rfl, ht2, hb⟩
            have HB4 := Lib.hid (HB3.out.trans (hb.mono HB3.out.size))
            have ht1 := HT1.out.below hb
            obtain ⟨a2, c2, rfl⟩ := ht2.form
            obtain ⟨g1, rfl, _, hg1, hcell1⟩ := ht1.at_ hp1
            obtain ⟨g2, rfl, _, hg2, hcell2⟩ := ht2.at_ hp2
            have HC1 := Lib.hid hcell1
            have HC2 := Lib.hid hcell2
            obtain ⟨r, hr⟩ : ∃ r, matchL F N = r := ⟨_, rfl⟩
            have HR := Lib.hid hr
            clear hb ht1 ht2 hcell1 hcell2 hr
            go_wp2_with fail
            go_loopw [38] (fun kv wr => ∃ k : Nat, k ≤ F.length ∧ k ≤ N.length ∧ kv = .int .i64 k ∧ w4 = wr ∧ matchL (F.drop k) (N.drop k) = r) (fun kv _ => F.length - (intOf kv).toNat)
            case atStart => exact ⟨0, Nat.zero_le _, Nat.zero_le _, rfl, rfl, HR.out⟩
            case round =>
              obtain ⟨k, hk, hkn, rfl, rfl, hrk⟩ := hrel
              have HRK := Lib.hid hrk
              clear hrk
              by_cases hlt : k < F.length
              · have c0 := HC1.out k hlt
                have HD := Lib.hid (drop_at hlt)
                obtain ⟨x, hx⟩ : ∃ x, F.getD k [] = x := ⟨_, rfl⟩
                rw [hx] at c0 HD
                clear hx
                have HH := Lib.hid (fun w => is_hash (w := w) (bs x))
                have HP := Lib.hid (fun w => is_plus (w := w) (bs x))
                rw [ls_bs] at HH HP
                by_cases h35 : x = [35]
                · have HE := Lib.hid (show r = true by rw [← HRK.out, HD.out, match_hash h35])
                  rw [show (x == [35]) = true from beq_iff_eq.2 h35] at HH
                  clear h35
                  generalize bs x = xs at *
                  go_wp2_with fail
                  refine (HH.out _).mono ?_
                  rintro z w5 ⟨rfl, rfl⟩
                  go_wp2_with fail
                  go_ret
                  exact ⟨ret_bool (HR.out.trans HE.out).symm, HB4.out⟩
                · rw [show (x == [35]) = false from beq_eq_false_iff_ne.2 h35] at HH
                  by_cases hkl : k = N.length
                  · have HE := Lib.hid (show r = false by rw [← HRK.out, HD.out, show N.drop k = [] from List.drop_eq_nil_of_le (by omega), match_none h35])
                    have hb1 : (((k : Nat) : Int) == (N.length : Int)) = true := beq_iff_eq.2 (by omega)
                    clear h35 hkl
                    generalize bs x = xs at *
                    go_wp2_with fail
                    refine (HH.out _).mono ?_
                    rintro z w5 ⟨rfl, rfl⟩
                    go_wp2_with fail
                    go_ret
                    exact ⟨ret_bool (HR.out.trans HE.out).symm, HB4.out⟩
                  · have hkl2 : k < N.length := by omega
                    have hb1 : (((k : Nat) : Int) == (N.length : Int)) = false := beq_eq_false_iff_ne.2 (by omega)
                    have d0 := HC2.out k hkl2
                    have HDN := Lib.hid (drop_at hkl2)
                    obtain ⟨y, hy⟩ : ∃ y, N.getD k [] = y := ⟨_, rfl⟩
                    rw [hy] at d0 HDN
                    clear hy hkl
                    have HM := Lib.hid (show r = ((x == [43] || x == y) && matchL (F.drop (k + 1)) (N.drop (k + 1))) by rw [← HRK.out, HD.out, HDN.out, match_step h35])
                    have t3 : ((bs x).toList == (bs y).toList) = (x == y) := beq_bs x y
                    clear h35
                    generalize bs x = xs at *
                    generalize bs y = ys at *
                    cases hp : (x == [43]) with
                    | true =>
                      rw [hp] at HP HM
                      have HE := Lib.hid (show matchL (F.drop (k + 1)) (N.drop (k + 1)) = r by rw [HM.out]; rfl)
                      clear hp t3
                      go_wp2_with fail
                      refine (HH.out _).mono ?_
                      rintro z w5 ⟨rfl, rfl⟩
                      go_wp2_with fail
                      refine (HP.out _).mono ?_
                      rintro z w5 ⟨rfl, rfl⟩
                      go_wp2_with fail
                      go_roundw
                      case rel => exact ⟨k + 1, by omega, by omega, by go_num, trivial, HE.out⟩
                      case measure => simp [intOf]; omega
                    | false =>
                      rw [hp] at HP HM
                      cases he : (x == y) with
                      | true =>
                        rw [he] at HM t3
                        have HE := Lib.hid (show matchL (F.drop (k + 1)) (N.drop (k + 1)) = r by rw [HM.out]; rfl)
                        clear hp he
                        go_wp2_with fail
                        refine (HH.out _).mono ?_
                        rintro z w5 ⟨rfl, rfl⟩
                        go_wp2_with fail
                        refine (HP.out _).mono ?_
                        rintro z w5 ⟨rfl, rfl⟩
                        go_wp2_with fail
                        go_roundw
                        case rel => exact ⟨k + 1, by omega, by omega, by go_num, trivial, HE.out⟩
                        case measure => simp [intOf]; omega
                      | false =>
                        rw [he] at HM t3
                        have HE := Lib.hid (show r = false by rw [HM.out]; rfl)
                        clear hp he
                        go_wp2_with fail
                        refine (HH.out _).mono ?_
                        rintro z w5 ⟨rfl, rfl⟩
                        go_wp2_with fail
                        refine (HP.out _).mono ?_
                        rintro z w5 ⟨rfl, rfl⟩
                        go_wp2_with fail
                        go_ret
                        exact ⟨ret_bool (HR.out.trans HE.out).symm, HB4.out⟩
              · obtain rfl : k = F.length := by omega
                have HE := Lib.hid (show r = ((F.length : Int) == (N.length : Int)) by
                  rw [← HRK.out, List.drop_length, match_nil, List.length_drop, Bool.eq_iff_iff, beq_iff_eq, decide_eq_true_iff]; omega)
                go_wp2_with fail
                go_ret
                exact ⟨ret_bool (HR.out.trans HE.out).symm, HB4.out⟩
      · rw [match_on h1 h2 (own_off h3)]
        rw [h1] at HF
        rw [h2] at HN
        have b1 : (((bAt n 0 : Nat) : Int) == 36) = false := beq_eq_false_iff_ne.2 (by omega)
        clear h1 h2 h3
        generalize bAt n 0 = nz at *
        generalize spl (ls f) = F at *
        generalize spl (ls n) = N at *
        go_enter Tryd.func34, Tryd.ntmps34
        go_wp2_with fail
        refine (HF.out _ (Below.refl _ _)).mono ?_
        rintro x w1 ⟨rfl, hb⟩
        have HB := Lib.hid hb
        clear hb
        go_wp2_with fail
        refine (HN.out _ HB.out).mono ?_
        rintro x w2 ⟨rfl, hb⟩
        have HB2 := Lib.hid (HB.out.trans (hb.mono HB.out.size))
        clear hb
        go_wp2_with fail
        refine (H1.out _).mono ?_
        rintro x w3 ⟨v1, rfl, ht1, hb⟩
        have HB3 := Lib.hid (HB2.out.trans (hb.mono HB2.out.size))
        have HT1 := Lib.hid ht1
        obtain ⟨a1, c1, rfl⟩ := ht1.form
        clear hb ht1
        go_wp2_with fail
        refine (H2.out _).mono ?_
        rintro x w4 ⟨v2, rfl, ht2, hb⟩
        have HB4 := Lib.hid (HB3.out.trans (hb.mono HB3.out.size))
        have ht1 := HT1.out.below hb
        obtain ⟨a2, c2, rfl⟩ := ht2.form
        obtain ⟨g1, rfl, _, hg1, hcell1⟩ := ht1.at_ hp1
        obtain ⟨g2, rfl, _, hg2, hcell2⟩ := ht2.at_ hp2
        have HC1 := Lib.hid hcell1
        have HC2 := Lib.hid hcell2
        obtain ⟨r, hr⟩ : ∃ r, matchL F N = r := ⟨_, rfl⟩
        have HR := Lib.hid hr
        clear hb ht1 ht2 hcell1 hcell2 hr
        go_wp2_with fail
        go_loopw [38] (fun kv wr => ∃ k : Nat, k ≤ F.length ∧ k ≤ N.length ∧ kv = .int .i64 k ∧ w4 = wr ∧ matchL (F.drop k) (N.drop k) = r) (fun kv _ => F.length - (intOf kv).toNat)
        case atStart => exact ⟨0, Nat.zero_le _, Nat.zero_le _, rfl, rfl, HR.out⟩
        case round =>
          obtain ⟨k, hk, hkn, rfl, rfl, hrk⟩ := hrel
          have HRK := Lib.hid hrk
          clear hrk
          by_cases hlt : k < F.length
          · have c0 := HC1.out k hlt
            have HD := Lib.hid (drop_at hlt)
            obtain ⟨x, hx⟩ : ∃ x, F.getD k [] = x := ⟨_, rfl⟩
            rw [hx] at c0 HD
            clear hx
            have HH := Lib.hid (fun w => is_hash (w := w) (bs x))
            have HP := Lib.hid (fun w => is_plus (w := w) (bs x))
            rw [ls_bs] at HH HP
            by_cases h35 : x = [35]
            · have HE := Lib.hid (show r = true by rw [← HRK.out, HD.out, match_hash h35])
              rw [show (x == [35]) = true from beq_iff_eq.2 h35] at HH
              clear h35
              generalize bs x = xs at *
              go_wp2_with fail
              refine (HH.out _).mono ?_
              rintro z w5 ⟨rfl, rfl⟩
              go_wp2_with fail
              go_ret
              exact ⟨ret_bool (HR.out.trans HE.out).symm, HB4.out⟩
            · rw [show (x == [35]) = false from beq_eq_false_iff_ne.2 h35] at HH
              by_cases hkl : k = N.length
              · have HE := Lib.hid (show r = false by rw [← HRK.out, HD.out, show N.drop k = [] from List.drop_eq_nil_of_le (by omega), match_none h35])
                have hb1 : (((k : Nat) : Int) == (N.length : Int)) = true := beq_iff_eq.2 (by omega)
                clear h35 hkl
                generalize bs x = xs at *
                go_wp2_with fail
                refine (HH.out _).mono ?_
                rintro z w5 ⟨rfl, rfl⟩
                go_wp2_with fail
                go_ret
                exact ⟨ret_bool (HR.out.trans HE.out).symm, HB4.out⟩
              · have hkl2 : k < N.length := by omega
                have hb1 : (((k : Nat) : Int) == (N.length : Int)) = false := beq_eq_false_iff_ne.2 (by omega)
                have d0 := HC2.out k hkl2
                have HDN := Lib.hid (drop_at hkl2)
                obtain ⟨y, hy⟩ : ∃ y, N.getD k [] = y := ⟨_, rfl⟩
                rw [hy] at d0 HDN
                clear hy hkl
                have HM := Lib.hid (show r = ((x == [43] || x == y) && matchL (F.drop (k + 1)) (N.drop (k + 1))) by rw [← HRK.out, HD.out, HDN.out, match_step h35])
                have t3 : ((bs x).toList == (bs y).toList) = (x == y) := beq_bs x y
                clear h35
                generalize bs x = xs at *
                generalize bs y = ys at *
                cases hp : (x == [43]) with
                | true =>
                  rw [hp] at HP HM
                  have HE := Lib.hid (show matchL (F.drop (k + 1)) (N.drop (k + 1)) = r by rw [HM.out]; rfl)
                  clear hp t3
                  go_wp2_with fail
                  refine (HH.out _).mono ?_
                  rintro z w5 ⟨rfl, rfl⟩
                  go_wp2_with fail
                  refine (HP.out _).mono ?_
                  rintro z w5 ⟨rfl, rfl⟩
                  go_wp2_with fail
                  go_roundw
                  case rel => exact ⟨k + 1, by omega, by omega, by go_num, trivial, HE.out⟩
                  case measure => simp [intOf]; omega
                | false =>
                  rw [hp] at HP HM
                  cases he : (x == y) with
                  | true =>
                    rw [he] at HM t3
                    have HE := Lib.hid (show matchL (F.drop (k + 1)) (N.drop (k + 1)) = r by rw [HM.out]; rfl)
                    clear hp he
                    go_wp2_with fail
                    refine (HH.out _).mono ?_
                    rintro z w5 ⟨rfl, rfl⟩
                    go_wp2_with fail
                    refine (HP.out _).mono ?_
                    rintro z w5 ⟨rfl, rfl⟩
                    go_wp2_with fail
                    go_roundw
                    case rel => exact ⟨k + 1, by omega, by omega, by go_num, trivial, HE.out⟩
                    case measure => simp [intOf]; omega
                  | false =>
                    rw [he] at HM t3
                    have HE := Lib.hid (show r = false by rw [HM.out]; rfl)
                    clear hp he
                    go_wp2_with fail
                    refine (HH.out _).mono ?_
                    rintro z w5 ⟨rfl, rfl⟩
                    go_wp2_with fail
                    refine (HP.out _).mono ?_
                    rintro z w5 ⟨rfl, rfl⟩
                    go_wp2_with fail
                    go_ret
                    exact ⟨ret_bool (HR.out.trans HE.out).symm, HB4.out⟩
          · obtain rfl : k = F.length := by omega
            have HE := Lib.hid (show r = ((F.length : Int) == (N.length : Int)) by
              rw [← HRK.out, List.drop_length, match_nil, List.length_drop, Bool.eq_iff_iff, beq_iff_eq, decide_eq_true_iff]; omega)
            go_wp2_with fail
            go_ret
            exact ⟨ret_bool (HR.out.trans HE.out).symm, HB4.out⟩
end
end Go.Proofs.YtebaojbagogniaaDoor
