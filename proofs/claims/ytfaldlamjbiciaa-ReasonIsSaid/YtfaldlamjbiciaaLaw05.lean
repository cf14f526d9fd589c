/- What is proved here: the statements of layer 5 answer true, if the package's four functions answer what plain functions on the document's table say. Condition: that. -/
import Derived.Test.YtfaldlamjbiciaaSame05
namespace Go.Proofs.Ytfaldlamjbiciaa
open Go.RowKit

/-- What the package's four functions answer. -/
structure ReasonSays : Prop where
  allowed : ∀ (k c : Int) (w : World), -9223372036854775808 ≤ k → k ≤ 9223372036854775807 → -9223372036854775808 ≤ c → c ≤ 9223372036854775807 → Calls Try.prog 7 #[.int .i64 k, .int .i64 c] w fun x w' => x = .returned (.bool (allowedB k c)) ∧ Below w.heap.size w w'
  bad : ∀ (c : Int) (w : World), -9223372036854775808 ≤ c → c ≤ 9223372036854775807 → Calls Try.prog 9 #[.int .i64 c] w fun x w' => x = .returned (.bool (badB c)) ∧ Below w.heap.size w w'
  close : ∀ (c : Int) (w : World), -9223372036854775808 ≤ c → c ≤ 9223372036854775807 → Calls Try.prog 11 #[.int .i64 c] w fun x w' => x = .returned (.int .i64 (closeOf c)) ∧ Below w.heap.size w w'
  all : ∀ (k : Int) (w : World), -9223372036854775808 ≤ k → k ≤ 9223372036854775807 → Calls Try.prog 15 #[.int .i64 k] w fun x w' => ∃ v, x = .returned v ∧ w'.ownsRow w.heap.size 3 1 v (codesUpTo k 256).length ((codesUpTo k 256).map intV) ∧ Below w.heap.size w w'

/-- A step: behind one call more nothing older has changed. -/
theorem step {w a b : World} (h : Below w.heap.size w a) (hb : Below a.heap.size a b) : Below w.heap.size w b := h.trans (hb.mono h.size)

theorem own_len {w : World} {B e n : Nat} {v : Value} {xs : List Value} (h : w.ownsRow B e 1 v n xs) : ∃ a c, v = .slice a n c := by
  rcases h.2 with ⟨hv, h0⟩ | ⟨g, cap, cur, hv, _⟩
  · subst h0; exact ⟨none, 0, hv⟩
  · exact ⟨_, _, hv⟩

set_option maxRecDepth 100000 in
set_option maxHeartbeats 1000000 in
theorem awake05 (V : ReasonSays) (w : World) : Calls Try.prog 13 #[] w fun x w' => x = .returned (.bool true) ∧ Below w.heap.size w w' := by
  have e1 : allowedB 6 146 = true := by decide
  have e2 : allowedB 4 146 = false := by decide
  have e3 : (codesUpTo 15 256).length = 3 := by decide +kernel
  have e4 : badB 128 = true := by decide
  have e5 : badB 127 = false := by decide
  have e6 : closeOf 132 = 128 := by decide
  have e7 : closeOf 129 = 129 := by decide
  have h1 := fun w => V.allowed 6 146 w (by omega) (by omega) (by omega) (by omega)
  have h2 := fun w => V.allowed 4 146 w (by omega) (by omega) (by omega) (by omega)
  have h3 := fun w => V.all 15 w (by omega) (by omega)
  have h4 := fun w => V.bad 128 w (by omega) (by omega)
  have h5 := fun w => V.bad 127 w (by omega) (by omega)
  have h6 := fun w => V.close 132 w (by omega) (by omega)
  have h7 := fun w => V.close 129 w (by omega) (by omega)
  rw [e1] at h1
  rw [e2] at h2
  rw [e3] at h3
  rw [e4] at h4
  rw [e5] at h5
  rw [e6] at h6
  rw [e7] at h7
  generalize (codesUpTo 15 256).map intV = xs at *
  have H1 := Lib.hid h1
  have H2 := Lib.hid h2
  have H3 := Lib.hid h3
  have H4 := Lib.hid h4
  have H5 := Lib.hid h5
  have H6 := Lib.hid h6
  have H7 := Lib.hid h7
  clear h1 h2 h3 h4 h5 h6 h7 e1 e2 e3 e4 e5 e6 e7
  go_enter Try.func13, Try.ntmps13
  go_wp2_with fail
  refine (H1.out _).mono ?_
  rintro x w1 ⟨rfl, hb⟩
  have HB1 := Lib.hid hb
  clear hb
  go_wp2_with fail
  refine (H2.out _).mono ?_
  rintro x w2 ⟨rfl, hb⟩
  have HB2 := Lib.hid (step HB1.out hb)
  clear hb
  go_wp2_with fail
  refine (H3.out _).mono ?_
  rintro x w3 ⟨v, rfl, ho, hb⟩
  have HB3 := Lib.hid (step HB2.out hb)
  obtain ⟨a, c, rfl⟩ := own_len ho
  clear hb ho
  go_wp2_with fail
  refine (H4.out _).mono ?_
  rintro x w4 ⟨rfl, hb⟩
  have HB4 := Lib.hid (step HB3.out hb)
  clear hb
  go_wp2_with fail
  refine (H5.out _).mono ?_
  rintro x w5 ⟨rfl, hb⟩
  have HB5 := Lib.hid (step HB4.out hb)
  clear hb
  go_wp2_with fail
  refine (H6.out _).mono ?_
  rintro x w6 ⟨rfl, hb⟩
  have HB6 := Lib.hid (step HB5.out hb)
  clear hb
  go_wp2_with fail
  refine (H7.out _).mono ?_
  rintro x w7 ⟨rfl, hb⟩
  have HB7 := Lib.hid (step HB6.out hb)
  clear hb
  go_wp2
  go_ret
  exact ⟨rfl, HB7.out⟩

set_option maxHeartbeats 1000000 in
theorem reasonIs_walk (V : ReasonSays) (k c : Int) (w : World) (hk : -9223372036854775808 ≤ k ∧ k ≤ 9223372036854775807) (hc : -9223372036854775808 ≤ c ∧ c ≤ 9223372036854775807) :
    Calls Try.prog 3 #[.int .i64 k, .int .i64 c] w fun x w' => x = .returned (.bool true) ∧ Below w.heap.size w w' := by
  have H1 := Lib.hid (fun w => V.allowed k c w hk.1 hk.2 hc.1 hc.2)
  have H2 := Lib.hid (fun w => ref_allowed k c w)
  have H3 := Lib.hid (fun w => V.bad c w hc.1 hc.2)
  have H4 := Lib.hid (fun w => ref_bad c w)
  have H5 := Lib.hid (fun w => V.close c w hc.1 hc.2)
  have H6 := Lib.hid (fun w => ref_close c w)
  generalize allowedB k c = b1 at *
  generalize badB c = b2 at *
  generalize closeOf c = z at *
  clear hk hc
  go_enter Try.func3, Try.ntmps3
  go_wp2_with fail
  refine (H1.out _).mono ?_
  rintro x w1 ⟨rfl, hb⟩
  have HB1 := Lib.hid hb
  clear hb
  go_wp2_with fail
  refine (H2.out _).mono ?_
  rintro x w2 ⟨rfl, hb⟩
  have HB2 := Lib.hid (step HB1.out hb)
  clear hb
  go_wp2_with fail
  refine (H3.out _).mono ?_
  rintro x w3 ⟨rfl, hb⟩
  have HB3 := Lib.hid (step HB2.out hb)
  clear hb
  go_wp2_with fail
  refine (H4.out _).mono ?_
  rintro x w' ⟨rfl, rfl⟩
  go_wp2_with fail
  refine (H5.out _).mono ?_
  rintro x w5 ⟨rfl, hb⟩
  have HB5 := Lib.hid (step HB3.out hb)
  clear hb
  go_wp2_with fail
  refine (H6.out _).mono ?_
  rintro x w6 ⟨rfl, hb⟩
  have HB6 := Lib.hid (step HB5.out hb)
  clear hb
  go_wp2_with fail
  refine (awake05 V _).mono ?_
  rintro x w7 ⟨rfl, hb⟩
  have HB7 := Lib.hid (step HB6.out hb)
  clear hb
  go_wp2
  go_ret
  exact ⟨rfl, HB7.out⟩

theorem close_again (c : Int) : badB (closeOf c) = true ∧ allowedB 14 (closeOf c) = true ∧ closeOf (closeOf c) = closeOf c := by
  by_cases h : (badB c && allowedB 14 c) = true
  · have e : closeOf c = c := by unfold closeOf; rw [if_pos h]
    rw [e]
    have h' : badB c = true ∧ allowedB 14 c = true := by simpa using h
    exact ⟨h'.1, h'.2, e⟩
  · have e : closeOf c = 128 := by unfold closeOf; rw [if_neg h]
    rw [e]
    decide
theorem close_range (c : Int) (h : -9223372036854775808 ≤ c ∧ c ≤ 9223372036854775807) : -9223372036854775808 ≤ closeOf c ∧ closeOf c ≤ 9223372036854775807 := by
  unfold closeOf
  split <;> omega

set_option maxHeartbeats 1000000 in
theorem reasonCloses_walk (V : ReasonSays) (c : Int) (w : World) (hc : -9223372036854775808 ≤ c ∧ c ≤ 9223372036854775807) :
    Calls Try.prog 5 #[.int .i64 c] w fun x w' => x = .returned (.bool true) ∧ Below w.heap.size w w' := by
  obtain ⟨e1, e2, e3⟩ := close_again c
  have hr := close_range c hc
  have h1 := fun w => V.close c w hc.1 hc.2
  have h2 := fun w => V.bad (closeOf c) w hr.1 hr.2
  have h3 := fun w => V.allowed 14 (closeOf c) w (by omega) (by omega) hr.1 hr.2
  have h4 := fun w => V.close (closeOf c) w hr.1 hr.2
  rw [e1] at h2
  rw [e2] at h3
  rw [e3] at h4
  clear e1 e2 e3 hr hc
  generalize closeOf c = z at *
  have H1 := Lib.hid h1
  have H2 := Lib.hid h2
  have H3 := Lib.hid h3
  have H4 := Lib.hid h4
  clear h1 h2 h3 h4
  go_enter Try.func5, Try.ntmps5
  go_wp2_with fail
  refine (H1.out _).mono ?_
  rintro x w1 ⟨rfl, hb⟩
  have HB1 := Lib.hid hb
  clear hb
  go_wp2_with fail
  refine (H2.out _).mono ?_
  rintro x w2 ⟨rfl, hb⟩
  have HB2 := Lib.hid (step HB1.out hb)
  clear hb
  go_wp2_with fail
  refine (H3.out _).mono ?_
  rintro x w3 ⟨rfl, hb⟩
  have HB3 := Lib.hid (step HB2.out hb)
  clear hb
  go_wp2_with fail
  refine (H4.out _).mono ?_
  rintro x w4 ⟨rfl, hb⟩
  have HB4 := Lib.hid (step HB3.out hb)
  clear hb
  go_wp2_with fail
  refine (awake05 V _).mono ?_
  rintro x w5 ⟨rfl, hb⟩
  have HB5 := Lib.hid (step HB4.out hb)
  clear hb
  go_wp2
  go_ret
  exact ⟨rfl, HB5.out⟩

set_option maxRecDepth 100000 in
set_option maxHeartbeats 1000000 in
theorem reasonAll_walk (V : ReasonSays) (k : Int) (w : World) (hk : -9223372036854775808 ≤ k ∧ k ≤ 9223372036854775807) :
    Calls Try.prog 4 #[.int .i64 k] w fun x w' => x = .returned (.bool true) ∧ Below w.heap.size w w' := by
  have hl := codes_len k 256
  have H1 := Lib.hid (fun w => V.all k w hk.1 hk.2)
  have H2 := Lib.hid (fun w => ref_all k w)
  generalize codesUpTo k 256 = xs at *
  have HL := Lib.hid hl
  clear hl hk
  go_enter Try.func4, Try.ntmps4
  go_wp2_with fail
  refine (H1.out _).mono ?_
  rintro x w1 ⟨v1, rfl, ho, hb⟩
  have HO1 := Lib.hid ho
  have HB1 := Lib.hid hb
  clear hb ho
  go_wp2_with fail
  refine (H2.out _).mono ?_
  rintro x w2 ⟨v2, rfl, ho, hb⟩
  have HO2 := Lib.hid ho
  have HO12 := Lib.hid (own_below HO1.out hb)
  have HB2 := Lib.hid (step HB1.out hb)
  clear hb ho
  go_wp2_with fail
  refine (same_ints _ _ _ _ xs _ (by have := HL.out; omega) HO12.out HO2.out).mono ?_
  rintro x w3 ⟨rfl, hb⟩
  have HB3 := Lib.hid (step HB2.out hb)
  clear hb
  go_wp2_with fail
  refine (awake05 V _).mono ?_
  rintro x w5 ⟨rfl, hb⟩
  have HB5 := Lib.hid (step HB3.out hb)
  clear hb
  go_wp2
  go_ret
  exact ⟨rfl, HB5.out⟩
end Go.Proofs.Ytfaldlamjbiciaa
