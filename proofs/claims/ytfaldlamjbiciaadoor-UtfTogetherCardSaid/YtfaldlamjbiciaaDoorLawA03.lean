/- What is proved here: the statement UtfIs answers true at every argument. Condition: what the rows list of the package's variables. -/
import Derived.Test.YtfaldlamjbiciaaDoorMath03
namespace Go.Proofs.YtfaldlamjbiciaaDoor
open Go.RowKit Go.Extern.Stop Go.Stop Go.Extern

def sLet : ByteArray := ⟨#[97, 195, 169]⟩
def sBad : ByteArray := ⟨#[97, 98, 192, 128]⟩
def sCut : ByteArray := ⟨#[97, 98, 0]⟩
def sNil : ByteArray := ⟨#[]⟩
theorem sLet_is : checkOf sLet = (0, 0) ∧ lettersOf sLet = 2 := by decide +kernel
theorem sBad_is : checkOf sBad = (2, 2) := by decide +kernel
theorem sCut_is : cutOf sCut = 2 := by decide +kernel
theorem sNil_is : checkOf sNil = (0, 0) := by decide +kernel

set_option maxRecDepth 100000 in
set_option maxHeartbeats 1000000 in
theorem awake03 (S : Nat → Addr) (w : World) (h : Env w S) : Calls Tryd.prog 20 #[] w fun x w' => x = .returned (.bool true) ∧ Below w.heap.size w w' := by
  have h1 := fun w h => ut_letters S sLet w h (by decide)
  have h2 := fun w h => ut_check S sBad w h (by decide)
  have h3 := fun w => ut_cut sCut w (by decide)
  have h4 := fun w h => ut_check S sNil w h (by decide)
  rw [sLet_is.1, sLet_is.2] at h1
  rw [sBad_is] at h2
  rw [sCut_is] at h3
  rw [sNil_is] at h4
  unfold LetterSays3 at h1
  unfold Checked at h2 h4
  have H1 := Lib.hid h1
  have H2 := Lib.hid h2
  have H3 := Lib.hid h3
  have H4 := Lib.hid h4
  clear h1 h2 h3 h4
  unfold sLet at H1
  unfold sBad at H2
  unfold sCut at H3
  unfold sNil at H4
  go_enter Tryd.func20, Tryd.ntmps20
  go_wp2_with fail
  refine (H1.out _ h).mono ?_
  rintro x w1 ⟨e1, rfl, he, hb⟩
  obtain rfl : e1 = .nilIface := he
  have HE1 := Lib.hid (h.later hb)
  have HB1 := Lib.hid hb
  clear hb
  go_wp2_with fail
  refine (H2.out _ HE1.out).mono ?_
  rintro x w2 ⟨e2, rfl, he, hb⟩
  have HX2 := Lib.hid he
  have HE2 := Lib.hid (HE1.out.later hb)
  have HB2 := Lib.hid (HB1.out.trans (hb.mono HB1.out.size))
  clear hb he
  go_wp2_with fail
  refine (number_of HE2.out HX2.out).mono ?_
  rintro x w3 ⟨rfl, hb⟩
  have HX3 := Lib.hid (HX2.out.later hb)
  have HE3 := Lib.hid (HE2.out.later hb)
  have HB3 := Lib.hid (HB2.out.trans (hb.mono HB2.out.size))
  clear hb
  go_wp2_with fail
  refine (at_err HE3.out (HX3.out.is (by simp))).mono ?_
  rintro x w4 ⟨rfl, hb⟩
  have HE4 := Lib.hid (HE3.out.later hb)
  have HB4 := Lib.hid (HB3.out.trans (hb.mono HB3.out.size))
  clear hb
  go_wp2_with fail
  refine (H3.out _).mono ?_
  rintro x w5 ⟨rfl, rfl⟩
  go_wp2_with fail
  refine (H4.out _ HE4.out).mono ?_
  rintro x w6 ⟨e6, rfl, he, hb⟩
  obtain rfl : e6 = .nilIface := he
  have HB6 := Lib.hid (HB4.out.trans (hb.mono HB4.out.size))
  clear hb
  go_wp2
  go_ret
  exact ⟨rfl, HB6.out⟩

set_option maxRecDepth 100000 in
set_option maxHeartbeats 1000000 in
theorem utfIs_long (S : Nat → Addr) (s : ByteArray) (w : World) (h : Env w S) (hs : 200 < s.size) (hm : s.size ≤ 9223372036854775807) :
    Calls Tryd.prog 6 #[.string s] w fun x w' => x = .returned (.bool true) ∧ Below w.heap.size w w' := by
  go_enter Tryd.func6, Tryd.ntmps6
  go_wp2_with fail
  refine (awake03 S _ h).mono ?_
  rintro x w' ⟨rfl, hb⟩
  go_wp2
  go_ret
  exact ⟨rfl, hb⟩

set_option maxRecDepth 100000 in
set_option maxHeartbeats 1000000 in
theorem utfIs_ok (S : Nat → Addr) (s : ByteArray) (w : World) (h : Env w S) (hs : s.size ≤ 200) (hc : (checkOf s).1 = 0) :
    Calls Tryd.prog 6 #[.string s] w fun x w' => x = .returned (.bool true) ∧ Below w.heap.size w w' := by
  have h1 := fun w h => ut_check S s w h (by omega)
  have h2 := fun w => rf_check s w (by omega)
  have h3 := fun w h => ut_letters S s w h (by omega)
  have h4 := fun w => rf_letters s w (by omega)
  have h5 := fun w => ut_cut s w (by omega)
  have h6 := fun w => rf_cut s w (by omega)
  unfold LetterSays3 at h3
  unfold Checked at h1
  have hz := (check_zero hc).2.2
  rw [hz] at h1 h2 h3
  have h2' : ∀ w, Calls Tryd.prog 22 #[.string s] w (fun x w' => x = .returned (.tuple #[.int .i64 0, .int .i64 0]) ∧ Below w.heap.size w w') := h2
  have h3' : ∀ w, Env w S → Calls Tryd.prog 23 #[.string s] w (fun x w' => ∃ e, x = .returned (.tuple #[.int .i64 (lettersOf s : Nat), e]) ∧ ErrOf w' S 129 0 0 e ∧ Below w.heap.size w w') := h3
  clear h2 h3 hz hc
  have H1 := Lib.hid h1
  have H2 := Lib.hid h2'
  have H3 := Lib.hid h3'
  clear h1 h2' h3'
  have H4 := Lib.hid h4
  have H5 := Lib.hid h5
  have H6 := Lib.hid h6
  clear h4 h5 h6
  generalize cutOf s = k at *
  generalize lettersOf s = n at *
  go_enter Tryd.func6, Tryd.ntmps6
  go_wp2_with fail
  refine (H1.out _ h).mono ?_
  rintro x w1 ⟨e1, rfl, he, hb⟩
  obtain rfl : e1 = .nilIface := he
  have HE1 := Lib.hid (h.later hb)
  have HB1 := Lib.hid hb
  clear hb
  go_wp2_with fail
  refine (H2.out _).mono ?_
  rintro x w2 ⟨rfl, hb⟩
  have HE2 := Lib.hid (HE1.out.later hb)
  have HB2 := Lib.hid (HB1.out.trans (hb.mono HB1.out.size))
  clear hb
  go_wp2_with fail
  refine (H3.out _ HE2.out).mono ?_
  rintro x w3 ⟨e3, rfl, he, hb⟩
  obtain rfl : e3 = .nilIface := he
  have HE3 := Lib.hid (HE2.out.later hb)
  have HB3 := Lib.hid (HB2.out.trans (hb.mono HB2.out.size))
  clear hb
  go_wp2_with fail
  refine (H4.out _).mono ?_
  rintro x w4 ⟨rfl, hb⟩
  have HE4 := Lib.hid (HE3.out.later hb)
  have HB4 := Lib.hid (HB3.out.trans (hb.mono HB3.out.size))
  clear hb
  go_wp2_with fail
  refine (number_nil _).mono ?_
  rintro x w5 ⟨rfl, hb⟩
  have HE5 := Lib.hid (HE4.out.later hb)
  have HB5 := Lib.hid (HB4.out.trans (hb.mono HB4.out.size))
  clear hb
  go_wp2_with fail
  refine (number_nil _).mono ?_
  rintro x w6 ⟨rfl, hb⟩
  have HE6 := Lib.hid (HE5.out.later hb)
  have HB6 := Lib.hid (HB5.out.trans (hb.mono HB5.out.size))
  clear hb
  go_wp2_with fail
  refine (H5.out _).mono ?_
  rintro x w' ⟨rfl, rfl⟩
  go_wp2_with fail
  refine (H6.out _).mono ?_
  rintro x w8 ⟨rfl, hb⟩
  have HE8 := Lib.hid (HE6.out.later hb)
  have HB8 := Lib.hid (HB6.out.trans (hb.mono HB6.out.size))
  clear hb
  go_wp2_with fail
  refine (awake03 S _ HE8.out).mono ?_
  rintro x w9 ⟨rfl, hb⟩
  have HB9 := Lib.hid (HB8.out.trans (hb.mono HB8.out.size))
  clear hb
  go_wp2
  go_ret
  exact ⟨rfl, HB9.out⟩

set_option maxRecDepth 100000 in
set_option maxHeartbeats 1000000 in
theorem utfIs_bad (S : Nat → Addr) (s : ByteArray) (w : World) (h : Env w S) (hs : s.size ≤ 200) (hc : (checkOf s).1 ≠ 0) :
    Calls Tryd.prog 6 #[.string s] w fun x w' => x = .returned (.bool true) ∧ Below w.heap.size w w' := by
  have h1 := fun w h => ut_check S s w h (by omega)
  have h2 := fun w => rf_check s w (by omega)
  have h3 := fun w h => ut_letters S s w h (by omega)
  have h4 := fun w => rf_letters s w (by omega)
  have h5 := fun w => ut_cut s w (by omega)
  have h6 := fun w => rf_cut s w (by omega)
  unfold LetterSays3 at h3
  unfold Checked at h1
  obtain ⟨c, hcc⟩ : ∃ c, checkOf s = c := ⟨_, rfl⟩
  rw [hcc] at h1 h2 h3 hc
  clear hcc
  obtain ⟨c1, c2⟩ := c
  have h3' : ∀ w, Env w S → Calls Tryd.prog 23 #[.string s] w (fun x w' => ∃ e, x = .returned (.tuple #[.int .i64 0, e]) ∧ ErrOf w' S 129 c1 c2 e ∧ Below w.heap.size w w') := by
    intro w h
    have := h3 w h
    rw [if_neg hc] at this
    exact this
  have hz : ((c1 : Int) == 0) = false := beq_eq_false_iff_ne.2 (by show (c1 : Int) ≠ 0; have : c1 ≠ 0 := hc; omega)
  have HC := Lib.hid hc
  have H1 := Lib.hid h1
  have H2 := Lib.hid h2
  have H3 := Lib.hid h3'
  clear h1 h2 h3 h3' hc
  have H4 := Lib.hid h4
  have H5 := Lib.hid h5
  have H6 := Lib.hid h6
  clear h4 h5 h6
  generalize cutOf s = k at *
  generalize lettersOf s = n at *
  go_enter Tryd.func6, Tryd.ntmps6
  go_wp2_with fail
  refine (H1.out _ h).mono ?_
  rintro x w1 ⟨e1, rfl, he, hb⟩
  have HX1 := Lib.hid he
  clear he
  have HE1 := Lib.hid (h.later hb)
  have HB1 := Lib.hid hb
  clear hb
  go_wp2_with fail
  refine (H2.out _).mono ?_
  rintro x w2 ⟨rfl, hb⟩
  have HE2 := Lib.hid (HE1.out.later hb)
  have HB2 := Lib.hid (HB1.out.trans (hb.mono HB1.out.size))
  have HX2 := Lib.hid (HX1.out.later hb)
  clear hb
  go_wp2_with fail
  refine (H3.out _ HE2.out).mono ?_
  rintro x w3 ⟨e3, rfl, he, hb⟩
  have HY3 := Lib.hid he
  have HX3 := Lib.hid (HX2.out.later hb)
  clear he
  have HE3 := Lib.hid (HE2.out.later hb)
  have HB3 := Lib.hid (HB2.out.trans (hb.mono HB2.out.size))
  clear hb
  go_wp2_with fail
  refine (number_of HE3.out HX3.out).mono ?_
  rintro x w4 ⟨rfl, hb⟩
  have HE4 := Lib.hid (HE3.out.later hb)
  have HB4 := Lib.hid (HB3.out.trans (hb.mono HB3.out.size))
  have HX4 := Lib.hid (HX3.out.later hb)
  have HY4 := Lib.hid (HY3.out.later hb)
  clear hb
  go_wp2_with fail
  refine (reason_err HE4.out (HX4.out.is HC.out)).mono ?_
  rintro x w5 ⟨rfl, hb⟩
  have HE5 := Lib.hid (HE4.out.later hb)
  have HB5 := Lib.hid (HB4.out.trans (hb.mono HB4.out.size))
  have HX5 := Lib.hid (HX4.out.later hb)
  have HY5 := Lib.hid (HY4.out.later hb)
  clear hb
  go_wp2_with fail
  refine (at_err HE5.out (HX5.out.is HC.out)).mono ?_
  rintro x w6 ⟨rfl, hb⟩
  have HE6 := Lib.hid (HE5.out.later hb)
  have HB6 := Lib.hid (HB5.out.trans (hb.mono HB5.out.size))
  have HX6 := Lib.hid (HX5.out.later hb)
  have HY6 := Lib.hid (HY5.out.later hb)
  clear hb
  go_wp2_with fail
  refine (number_of HE6.out HY6.out).mono ?_
  rintro x w7 ⟨rfl, hb⟩
  have HE7 := Lib.hid (HE6.out.later hb)
  have HB7 := Lib.hid (HB6.out.trans (hb.mono HB6.out.size))
  clear hb
  go_wp2_with fail
  refine (H5.out _).mono ?_
  rintro x w' ⟨rfl, rfl⟩
  go_wp2_with fail
  refine (H6.out _).mono ?_
  rintro x w8 ⟨rfl, hb⟩
  have HE8 := Lib.hid (HE7.out.later hb)
  have HB8 := Lib.hid (HB7.out.trans (hb.mono HB7.out.size))
  clear hb
  go_wp2_with fail
  refine (awake03 S _ HE8.out).mono ?_
  rintro x w9 ⟨rfl, hb⟩
  have HB9 := Lib.hid (HB8.out.trans (hb.mono HB8.out.size))
  clear hb
  go_wp2
  go_ret
  exact ⟨rfl, HB9.out⟩

theorem utfIs_walk (S : Nat → Addr) (s : ByteArray) (w : World) (h : Env w S) (hm : s.size ≤ maxLen) :
    Calls Tryd.prog 6 #[.string s] w fun x w' => x = .returned (.bool true) ∧ Below w.heap.size w w' := by
  by_cases hs : 200 < s.size
  · exact utfIs_long S s w h hs (by unfold maxLen at hm; omega)
  · by_cases hc : (checkOf s).1 = 0
    · exact utfIs_ok S s w h (by omega) hc
    · exact utfIs_bad S s w h (by omega) hc
end Go.Proofs.YtfaldlamjbiciaaDoor
