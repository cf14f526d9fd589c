/- What is proved here: whether a text may be a filter, as the document has it. Condition: few bytes. -/
import Derived.Test.YtebaojbagogniaaDoorFilt16
namespace Go.Proofs.YtebaojbagogniaaDoor
open Go.RowKit Go.Extern.Stop Go.Stop Go.Extern
section
variable {w : World}
theorem bad_rest {x : BL} {b : Bool} (h1 : (hasB x 43 && !(x == [43])) = false) (h2 : (hasB x 35 && (!(x == [35]) || !b)) = false) : badB x b = false := by rw [← bad_same, h1, h2]; rfl
theorem bad_one {x : BL} {b : Bool} (h1 : (hasB x 43 && !(x == [43])) = true) : badB x b = true := by rw [← bad_same, h1]; rfl
theorem bad_two {x : BL} {b : Bool} (h2 : (hasB x 35 && (!(x == [35]) || !b)) = true) : badB x b = true := by rw [← bad_same, h2]; simp
set_option maxHeartbeats 2000000 in
theorem rIsFilter_any (s : ByteArray) (hm : s.size ≤ 1000000) : Calls Tryd.prog 21 #[.string s] w fun x w' => x = .returned (.bool (filtB s)) ∧ Below w.heap.size w w' := by
  have HLV := Lib.hid (fun w => rlevels_any (w := w) s hm)
  have HI := Lib.hid (fun w => rf_is s w (by omega))
  have HX := Lib.hid (fun k (hk : k < (spl (ls s)).length) => spl_le (getD_mem hk))
  have hpos : 0 < (spl (ls s)).length := by rw [spl_len]; omega
  have hlen := spl_len (ls s)
  have hmax : (spl (ls s)).length ≤ 2000000 := by rw [spl_len]; have := List.count_le_length (a := (47 : UInt8)) (l := ls s); rw [ls_size] at this; omega
  rw [ls_size] at HX
  by_cases h0 : ls s = []
  · obtain rfl : s = ⟨#[]⟩ := by rw [← bs_ls s, h0]; rfl
    have e : filtB ⟨#[]⟩ = false := rfl
    rw [e]
    clear e h0 hlen HI HX
    generalize spl (ls ⟨#[]⟩) = L at *
    unfold LevSays at HLV
    go_enter Tryd.func21, Tryd.ntmps21
    go_wp2_with fail
    refine (HLV.out _).mono ?_
    rintro x w2 ⟨v, rfl, ht, hb⟩
    obtain ⟨a, c, rfl⟩ := ht.form
    have HB := Lib.hid hb
    clear hb ht
    go_wp2_with fail
    go_ret
    exact ⟨rfl, HB.out⟩
  · have e0 : s ≠ ⟨#[]⟩ := fun h => h0 (by rw [h]; rfl)
    have e1 := str_full e0
    have e2 := str_full2 e1
    have e3 : (ls s).isEmpty = false := by cases hl : ls s with | nil => exact absurd hl h0 | cons _ _ => rfl
    have e : filtB s = (isB s && decide ((spl (ls s)).length ≤ 32) && levelsOk (spl (ls s))) := by
      unfold filtB topB; rw [e3, hlen]
      have : decide ((ls s).count 47 < 32) = decide ((ls s).count 47 + 1 ≤ 32) := decide_eq_decide.2 (by omega)
      rw [this]; simp
    rw [e]
    have e4 : s.toList.isEmpty = false := by rw [toList_ls]; exact e3
    clear e e0 e3 h0 hlen
    generalize isB s = t at *
    generalize spl (ls s) = L at *
    unfold LevSays at HLV
    cases t with
    | false =>
      go_enter Tryd.func21, Tryd.ntmps21
      go_wp2_with fail
      refine (HLV.out _).mono ?_
      rintro x w2 ⟨v, rfl, ht, hb⟩
      obtain ⟨a, c, rfl⟩ := ht.form
      have HB := Lib.hid hb
      clear hb ht
      go_wp2_with fail
      refine (HI.out _).mono ?_
      rintro x w3 ⟨rfl, hb⟩
      have HB2 := Lib.hid (HB.out.trans (hb.mono HB.out.size))
      clear hb
      go_wp2_with fail
      go_ret
      exact ⟨rfl, HB2.out⟩
    | true =>
      by_cases hbig : 32 < L.length
      · have HD := Lib.hid (show decide (L.length ≤ 32) = false by simp; omega)
        go_enter Tryd.func21, Tryd.ntmps21
        go_wp2_with fail
        refine (HLV.out _).mono ?_
        rintro x w2 ⟨v, rfl, ht, hb⟩
        obtain ⟨a, c, rfl⟩ := ht.form
        have HB := Lib.hid hb
        clear hb ht
        go_wp2_with fail
        refine (HI.out _).mono ?_
        rintro x w3 ⟨rfl, hb⟩
        have HB2 := Lib.hid (HB.out.trans (hb.mono HB.out.size))
        clear hb
        go_wp2_with fail
        go_ret
        exact ⟨ret_bool (by rw [HD.out]; rfl), HB2.out⟩
      · have HD := Lib.hid (show decide (L.length ≤ 32) = true by simp; omega)
        have hsm : L.length ≤ 32 := by omega
        clear hbig
        go_enter Tryd.func21, Tryd.ntmps21
        go_wp2_with fail
        refine (HLV.out _).mono ?_
        rintro x w2 ⟨v, rfl, ht, hb⟩
        obtain ⟨a, c, rfl⟩ := ht.form
        obtain ⟨g, rfl, _, hgl, hcell⟩ := ht.at_ hpos
        have HB := Lib.hid hb
        have HC := Lib.hid hcell
        clear hb ht hcell
        go_wp2_with fail
        refine (HI.out _).mono ?_
        rintro x w3 ⟨rfl, hb⟩
        have HB2 := Lib.hid (HB.out.trans (hb.mono HB.out.size))
        have HC2 := Lib.hid (fun k (hk : k < L.length) => (hb.cell (p := ⟨g, k, none⟩) hgl).trans (HC.out k hk))
        clear hb
        go_wp2_with fail
        go_loopw [4] (fun kv wr => ∃ k : Nat, k ≤ L.length ∧ kv = .int .i64 k ∧ w3 = wr ∧ ∀ j, j < k → badB (L.getD j []) (j + 1 == L.length) = false) (fun kv _ => L.length - (intOf kv).toNat)
        case atStart => exact ⟨0, Nat.zero_le _, rfl, rfl, fun j hj => by omega⟩
        case round =>
          obtain ⟨k, hk, rfl, rfl, hno⟩ := hrel
          have HN := Lib.hid hno
          by_cases hlt : k < L.length
          · have c0 := HC2.out k hlt
            have hxl := HX.out k hlt
            have hnext : badB (L.getD k []) (k + 1 == L.length) = false → ∀ j, j < k + 1 → badB (L.getD j []) (j + 1 == L.length) = false := fun h j hj => by
              rcases (show j < k ∨ j = k by omega) with h' | rfl
              · exact HN.out j h'
              · exact h
            have HNX := Lib.hid hnext
            have HBD := Lib.hid (fun h => levels_bad (L := L) hlt h)
            clear hno hnext
            generalize L.getD k [] = x at *
            have H1 : Hid (∀ w, Calls Tryd.prog 38 #[.string (bs x), .int .u8 43] w fun z w' => z = .returned (.bool (hasB x 43)) ∧ w = w') := Lib.hid (fun w => has_any (w := w) (bs x) (by rw [bs_size]; omega) 43)
            have H2 : Hid (∀ w, Calls Tryd.prog 38 #[.string (bs x), .int .u8 35] w fun z w' => z = .returned (.bool (hasB x 35)) ∧ w = w') := Lib.hid (fun w => has_any (w := w) (bs x) (by rw [bs_size]; omega) 35)
            have t1 : ((bs x).toList == [43]) = (x == [43]) := by rw [toList_ls, ls_bs]
            have t2 : ((bs x).toList == [35]) = (x == [35]) := by rw [toList_ls, ls_bs]
            generalize bs x = xs at *
            cases ha : hasB x 43 with
            | true =>
              rw [ha] at H1
              cases hp : (x == [43]) with
              | false =>
                rw [hp] at t1
                have HE := Lib.hid (HBD.out (bad_one (by rw [ha, hp]; rfl)))
                clear ha hp t2
                go_wp2_with fail
                refine (H1.out _).mono ?_
                rintro x w4 ⟨rfl, rfl⟩
                go_wp2_with fail
                go_ret
                exact ⟨ret_bool (by rw [HE.out, HD.out]; rfl), HB2.out⟩
              | true =>
                rw [hp] at t1
                cases hb : hasB x 35 with
                | false =>
                  rw [hb] at H2
                  have HE := Lib.hid (HNX.out (bad_rest (by rw [ha, hp]; rfl) (by rw [hb]; rfl)))
                  clear ha hp hb
                  go_wp2_with fail
                  refine (H1.out _).mono ?_
                  rintro x w4 ⟨rfl, rfl⟩
                  go_wp2_with fail
                  refine (H2.out _).mono ?_
                  rintro x w5 ⟨rfl, rfl⟩
                  go_wp2_with fail
                  go_roundw
                  case rel => exact ⟨k + 1, by omega, by go_num, trivial, HE.out⟩
                  case measure => simp [intOf]; omega
                | true =>
                  rw [hb] at H2
                  cases hq : (x == [35]) with
                  | false =>
                    rw [hq] at t2
                    have HE := Lib.hid (HBD.out (bad_two (by rw [hb, hq]; rfl)))
                    clear ha hp hb hq
                    go_wp2_with fail
                    refine (H1.out _).mono ?_
                    rintro x w4 ⟨rfl, rfl⟩
                    go_wp2_with fail
                    refine (H2.out _).mono ?_
                    rintro x w5 ⟨rfl, rfl⟩
                    go_wp2_with fail
                    go_ret
                    exact ⟨ret_bool (by rw [HE.out, HD.out]; rfl), HB2.out⟩
                  | true =>
                    rw [hq] at t2
                    by_cases hl : k + 1 < L.length
                    · have HE := Lib.hid (HBD.out (bad_two (by rw [hb, hq, show (k + 1 == L.length) = false from beq_eq_false_iff_ne.2 (by omega)]; rfl)))
                      clear ha hp hb hq
                      go_wp2_with fail
                      refine (H1.out _).mono ?_
                      rintro x w4 ⟨rfl, rfl⟩
                      go_wp2_with fail
                      refine (H2.out _).mono ?_
                      rintro x w5 ⟨rfl, rfl⟩
                      go_wp2_with fail
                      go_ret
                      exact ⟨ret_bool (by rw [HE.out, HD.out]; rfl), HB2.out⟩
                    · have HE := Lib.hid (HNX.out (bad_rest (by rw [ha, hp]; rfl) (by rw [hb, hq, show (k + 1 == L.length) = true from beq_iff_eq.2 (by omega)]; rfl)))
                      clear ha hp hb hq
                      go_wp2_with fail
                      refine (H1.out _).mono ?_
                      rintro x w4 ⟨rfl, rfl⟩
                      go_wp2_with fail
                      refine (H2.out _).mono ?_
                      rintro x w5 ⟨rfl, rfl⟩
                      go_wp2_with fail
                      go_roundw
                      case rel => exact ⟨k + 1, by omega, by go_num, trivial, HE.out⟩
                      case measure => simp [intOf]; omega
            | false =>
              rw [ha] at H1
              cases hb : hasB x 35 with
              | false =>
                rw [hb] at H2
                have HE := Lib.hid (HNX.out (bad_rest (by rw [ha]; rfl) (by rw [hb]; rfl)))
                clear ha hb
                go_wp2_with fail
                refine (H1.out _).mono ?_
                rintro x w4 ⟨rfl, rfl⟩
                go_wp2_with fail
                refine (H2.out _).mono ?_
                rintro x w5 ⟨rfl, rfl⟩
                go_wp2_with fail
                go_roundw
                case rel => exact ⟨k + 1, by omega, by go_num, trivial, HE.out⟩
                case measure => simp [intOf]; omega
              | true =>
                rw [hb] at H2
                cases hq : (x == [35]) with
                | false =>
                  rw [hq] at t2
                  have HE := Lib.hid (HBD.out (bad_two (by rw [hb, hq]; rfl)))
                  clear ha hb hq
                  go_wp2_with fail
                  refine (H1.out _).mono ?_
                  rintro x w4 ⟨rfl, rfl⟩
                  go_wp2_with fail
                  refine (H2.out _).mono ?_
                  rintro x w5 ⟨rfl, rfl⟩
                  go_wp2_with fail
                  go_ret
                  exact ⟨ret_bool (by rw [HE.out, HD.out]; rfl), HB2.out⟩
                | true =>
                  rw [hq] at t2
                  by_cases hl : k + 1 < L.length
                  · have HE := Lib.hid (HBD.out (bad_two (by rw [hb, hq, show (k + 1 == L.length) = false from beq_eq_false_iff_ne.2 (by omega)]; rfl)))
                    clear ha hb hq
                    go_wp2_with fail
                    refine (H1.out _).mono ?_
                    rintro x w4 ⟨rfl, rfl⟩
                    go_wp2_with fail
                    refine (H2.out _).mono ?_
                    rintro x w5 ⟨rfl, rfl⟩
                    go_wp2_with fail
                    go_ret
                    exact ⟨ret_bool (by rw [HE.out, HD.out]; rfl), HB2.out⟩
                  · have HE := Lib.hid (HNX.out (bad_rest (by rw [ha]; rfl) (by rw [hb, hq, show (k + 1 == L.length) = true from beq_iff_eq.2 (by omega)]; rfl)))
                    clear ha hb hq
                    go_wp2_with fail
                    refine (H1.out _).mono ?_
                    rintro x w4 ⟨rfl, rfl⟩
                    go_wp2_with fail
                    refine (H2.out _).mono ?_
                    rintro x w5 ⟨rfl, rfl⟩
                    go_wp2_with fail
                    go_roundw
                    case rel => exact ⟨k + 1, by omega, by go_num, trivial, HE.out⟩
                    case measure => simp [intOf]; omega
          · obtain rfl : k = L.length := by omega
            have HE := Lib.hid (levels_good (L := L) HN.out)
            clear hno
            go_wp2_with fail
            go_ret
            exact ⟨ret_bool (by rw [HE.out, HD.out]; rfl), HB2.out⟩
end
end Go.Proofs.YtebaojbagogniaaDoor
