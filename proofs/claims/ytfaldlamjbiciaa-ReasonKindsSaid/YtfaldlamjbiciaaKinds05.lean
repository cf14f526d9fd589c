/- What is proved here: the statement ReasonKinds answers true, if the package's four functions answer what plain functions on the document's table say. Condition: that. -/
import Derived.Test.YtfaldlamjbiciaaLaw05
namespace Go.Proofs.Ytfaldlamjbiciaa
open Go.RowKit

theorem among_nil (g : List UInt8) : among [] g = false := by
  unfold among
  rw [List.any_eq_false]
  intro x _
  simp
theorem allowed_kind (j : Nat) (c : Int) (h : allowedB j c = true) : j = 2 ∨ j = 4 ∨ j = 5 ∨ j = 6 ∨ j = 7 ∨ j = 9 ∨ j = 11 ∨ j = 14 ∨ j = 15 := by
  have hne : letterOf (j : Int) ≠ [] := by
    intro e
    unfold allowedB at h
    rw [e, among_nil] at h
    cases h
  have e : letterOf (j : Int) = letters.getD j [] := by
    unfold letterOf
    rw [if_neg (by omega)]
    rfl
  rw [e] at hne
  by_cases hj : j < 16
  · have key : ∀ j, j < 16 → letters.getD j [] ≠ [] → (j = 2 ∨ j = 4 ∨ j = 5 ∨ j = 6 ∨ j = 7 ∨ j = 9 ∨ j = 11 ∨ j = 14 ∨ j = 15) := by decide
    exact key j hj hne
  · have : letters.length ≤ j := by show 16 ≤ j; omega
    rw [List.getD_eq_getElem?_getD, List.getElem?_eq_none this] at hne
    exact absurd rfl hne
theorem allowed_range (k c : Int) (h : allowedB k c = true) : 0 ≤ c ∧ c < 163 := by
  have hne : groupsOf c ≠ [] := by
    intro e
    unfold allowedB among at h
    rw [e] at h
    cases h
  by_cases hc : c < 0
  · unfold groupsOf at hne
    rw [if_pos hc] at hne
    exact absurd rfl hne
  · refine ⟨by omega, ?_⟩
    by_cases h2 : c < 163
    · exact h2
    · exact absurd (groupsOf_none c fun k hk e => by
        have hall : ∀ k ∈ codeTable.map (·.1), k < 163 := by decide
        have := hall k hk
        omega) hne
def someB (c : Int) : Nat → Bool
  | 0 => false
  | j + 1 => someB c j || allowedB j c
theorem some_range (c : Int) (j : Nat) (h : someB c j = true) : 0 ≤ c ∧ c < 163 := by
  induction j with
  | zero => cases h
  | succ j ih =>
    rw [someB, Bool.or_eq_true] at h
    rcases h with h | h
    · exact ih h
    · exact allowed_range j c h

set_option maxRecDepth 100000 in
set_option maxHeartbeats 4000000 in
theorem reasonKinds_walk (V : ReasonSays) (c : Int) (w : World) (hc : -9223372036854775808 ≤ c ∧ c ≤ 9223372036854775807) :
    Calls Try.prog 6 #[.int .i64 c] w fun x w' => x = .returned (.bool true) ∧ Below w.heap.size w w' := by
  have HV := Lib.hid (fun (k : Int) w (h1 : 0 ≤ k) (h2 : k ≤ 20) => V.allowed k c w (by omega) (by omega) hc.1 hc.2)
  have hs := some_range c 20
  have HS := Lib.hid hs
  have h45 : allowedB 5 c = allowedB 4 c := rfl
  have h67 : allowedB 7 c = allowedB 6 c := rfl
  have H45 := Lib.hid h45
  have H67 := Lib.hid h67
  clear hs h45 h67
  go_enter Try.func6, Try.ntmps6
  go_wp2
  go_loopg [3, 4] 20 (fun n s k wr => ∃ j : Nat, n = 20 - j ∧ j ≤ 20 ∧ k = .int .i64 j ∧ s = .bool (someB c j) ∧ Below w.heap.size w wr)
  case atStart => exact ⟨0, rfl, by omega, rfl, rfl, Below.refl _ _⟩
  case round =>
    obtain ⟨j, rfl, hj, rfl, rfl, hb⟩ := hrel
    have HB := Lib.hid hb
    clear hb
    by_cases hlt : j < 20
    · have HR := Lib.hid (fun w => HV.out j w (by omega) (by omega))
      have hst : someB c (j + 1) = (someB c j || allowedB j c) := rfl
      have HST := Lib.hid hst
      have HAK := Lib.hid (allowed_kind j c)
      clear hst
      generalize allowedB j c = a at *
      cases a
      · have hsp : someB c (j + 1) = someB c j := by rw [HST.out]; simp
        have HSP := Lib.hid hsp
        clear hsp
        generalize someB c j = s at *
        go_wp2_with fail
        refine (HR.out _).mono ?_
        rintro x w1 ⟨rfl, hb⟩
        have HB1 := Lib.hid (step HB.out hb)
        clear hb
        cases s
        all_goals go_wp2
        all_goals go_roundg (20 - (j + 1))
        all_goals first
          | exact ⟨j + 1, rfl, hlt, by go_num, by rw [HSP.out], HB1.out⟩
          | omega
      · have hsp : someB c (j + 1) = true := by rw [HST.out]; simp
        have HSP := Lib.hid hsp
        clear hsp
        generalize someB c j = s at *
        rcases HAK.out rfl with rfl | rfl | rfl | rfl | rfl | rfl | rfl | rfl | rfl
        all_goals go_wp2_with fail
        all_goals refine (HR.out _).mono ?_
        all_goals rintro x w1 ⟨rfl, hb⟩
        all_goals have HB1 := Lib.hid (step HB.out hb)
        all_goals clear hb
        all_goals cases s
        all_goals go_wp2
        · go_roundg (20 - (2 + 1))
          case rel => exact ⟨2 + 1, rfl, hlt, by go_num, by rw [HSP.out], HB1.out⟩
          case measure => omega
        · go_roundg (20 - (2 + 1))
          case rel => exact ⟨2 + 1, rfl, hlt, by go_num, by rw [HSP.out], HB1.out⟩
          case measure => omega
        · go_roundg (20 - (4 + 1))
          case rel => exact ⟨4 + 1, rfl, hlt, by go_num, by rw [HSP.out], HB1.out⟩
          case measure => omega
        · go_roundg (20 - (4 + 1))
          case rel => exact ⟨4 + 1, rfl, hlt, by go_num, by rw [HSP.out], HB1.out⟩
          case measure => omega
        · go_roundg (20 - (5 + 1))
          case rel => exact ⟨5 + 1, rfl, hlt, by go_num, by rw [HSP.out], HB1.out⟩
          case measure => omega
        · go_roundg (20 - (5 + 1))
          case rel => exact ⟨5 + 1, rfl, hlt, by go_num, by rw [HSP.out], HB1.out⟩
          case measure => omega
        · go_roundg (20 - (6 + 1))
          case rel => exact ⟨6 + 1, rfl, hlt, by go_num, by rw [HSP.out], HB1.out⟩
          case measure => omega
        · go_roundg (20 - (6 + 1))
          case rel => exact ⟨6 + 1, rfl, hlt, by go_num, by rw [HSP.out], HB1.out⟩
          case measure => omega
        · go_roundg (20 - (7 + 1))
          case rel => exact ⟨7 + 1, rfl, hlt, by go_num, by rw [HSP.out], HB1.out⟩
          case measure => omega
        · go_roundg (20 - (7 + 1))
          case rel => exact ⟨7 + 1, rfl, hlt, by go_num, by rw [HSP.out], HB1.out⟩
          case measure => omega
        · go_roundg (20 - (9 + 1))
          case rel => exact ⟨9 + 1, rfl, hlt, by go_num, by rw [HSP.out], HB1.out⟩
          case measure => omega
        · go_roundg (20 - (9 + 1))
          case rel => exact ⟨9 + 1, rfl, hlt, by go_num, by rw [HSP.out], HB1.out⟩
          case measure => omega
        · go_roundg (20 - (11 + 1))
          case rel => exact ⟨11 + 1, rfl, hlt, by go_num, by rw [HSP.out], HB1.out⟩
          case measure => omega
        · go_roundg (20 - (11 + 1))
          case rel => exact ⟨11 + 1, rfl, hlt, by go_num, by rw [HSP.out], HB1.out⟩
          case measure => omega
        · go_roundg (20 - (14 + 1))
          case rel => exact ⟨14 + 1, rfl, hlt, by go_num, by rw [HSP.out], HB1.out⟩
          case measure => omega
        · go_roundg (20 - (14 + 1))
          case rel => exact ⟨14 + 1, rfl, hlt, by go_num, by rw [HSP.out], HB1.out⟩
          case measure => omega
        · go_roundg (20 - (15 + 1))
          case rel => exact ⟨15 + 1, rfl, hlt, by go_num, by rw [HSP.out], HB1.out⟩
          case measure => omega
        · go_roundg (20 - (15 + 1))
          case rel => exact ⟨15 + 1, rfl, hlt, by go_num, by rw [HSP.out], HB1.out⟩
          case measure => omega
    · obtain rfl : j = 20 := by omega
      have HA4 := Lib.hid (fun w => HV.out 4 w (by omega) (by omega))
      have HA5 := Lib.hid (fun w => HV.out 5 w (by omega) (by omega))
      have HA6 := Lib.hid (fun w => HV.out 6 w (by omega) (by omega))
      have HA7 := Lib.hid (fun w => HV.out 7 w (by omega) (by omega))
      rw [H45.out] at HA5
      rw [H67.out] at HA7
      generalize allowedB 4 c = a4 at *
      generalize allowedB 6 c = a6 at *
      generalize someB c 20 = s at *
      go_wp2_with fail
      refine (HA4.out _).mono ?_
      rintro x w1 ⟨rfl, hb⟩
      have HB1 := Lib.hid (step HB.out hb)
      clear hb
      go_wp2_with fail
      refine (HA5.out _).mono ?_
      rintro x w2 ⟨rfl, hb⟩
      have HB2 := Lib.hid (step HB1.out hb)
      clear hb
      cases a4
      all_goals go_wp2_with fail
      all_goals refine (HA6.out _).mono ?_
      all_goals rintro x w3 ⟨rfl, hb⟩
      all_goals have HB3 := Lib.hid (step HB2.out hb)
      all_goals clear hb
      all_goals go_wp2_with fail
      all_goals refine (HA7.out _).mono ?_
      all_goals rintro x w4 ⟨rfl, hb⟩
      all_goals have HB4 := Lib.hid (step HB3.out hb)
      all_goals clear hb
      all_goals cases a6
      all_goals cases s
      all_goals try have hr := HS.out rfl
      all_goals go_wp2_with fail
      all_goals refine (awake05 V _).mono ?_
      all_goals rintro x w5 ⟨rfl, hb⟩
      all_goals have HB5 := Lib.hid (step HB4.out hb)
      all_goals clear hb
      all_goals go_wp2
      all_goals go_ret
      all_goals exact ⟨rfl, HB5.out⟩
end Go.Proofs.Ytfaldlamjbiciaa
