/- What is proved here: the statement UtfTogether answers true at every argument. Condition: what the rows list of the package's variables. -/
import Derived.Test.YtfaldlamjbiciaaDoorLawA03
namespace Go.Proofs.YtfaldlamjbiciaaDoor
open Go.RowKit Go.Extern.Stop Go.Stop Go.Extern

/-- What is filled so far. -/
def fill97 (N j : Nat) : List Value := List.replicate j (.int .u8 97) ++ List.replicate (N - j) (.int .u8 0)
theorem fill_zero (N : Nat) : fill97 N 0 = List.replicate N (.int .u8 0) := by unfold fill97; simp
theorem fill_len {N j : Nat} (h : j ≤ N) : (fill97 N j).length = N := by unfold fill97; simp; omega
theorem fill_at {N j : Nat} (h : j < N) : (fill97 N j)[j]? = some (.int .u8 0) := by
  unfold fill97
  rw [List.getElem?_append_right (by simp), List.length_replicate, Nat.sub_self, List.getElem?_replicate, if_pos (by omega)]
theorem fill_set {N j : Nat} (h : j < N) : (fill97 N j).set j (.int .u8 97) = fill97 N (j + 1) := by
  unfold fill97
  have e : List.replicate (N - j) (Value.int .u8 0) = .int .u8 0 :: List.replicate (N - (j + 1)) (.int .u8 0) := by
    rw [show N - j = (N - (j + 1)) + 1 by omega, List.replicate_succ]
  rw [e, List.set_append_right _ _ (by simp)]
  simp [List.replicate_succ']
theorem fill_full (N : Nat) : fill97 N N = (List.replicate N (97 : UInt8)).map byteV := by
  unfold fill97
  simp [byteV]
theorem check_rep {N : Nat} (h : 65535 ≤ N) : checkOf (rep N) = if N = 65535 then (0, 0) else (4, 65535) := by
  unfold checkOf
  rw [rep_size, rep_cut]
  by_cases h1 : N = 65535
  · rw [if_neg (by omega), if_neg (by omega), if_pos h1]
  · rw [if_pos (by omega), if_neg h1]

theorem letters_le {s : ByteArray} : ∀ {f a n : Nat}, a ≤ s.size → n ≤ a → (walkF s f a n).2 ≤ s.size := by
  intro f
  induction f with
  | zero => intro a n h1 h2; show n ≤ s.size; omega
  | succ f ih =>
    intro a n h1 h2
    by_cases hc : a < s.size ∧ szAt s a ≠ 0
    · rw [walk_more hc.1 hc.2]
      have h3 := (sz_bd s a).2 hc.2
      have h4 : 0 < szAt s a := Nat.pos_of_ne_zero hc.2
      exact ih h3 (by omega)
    · rw [walk_end hc]; show n ≤ s.size; omega
theorem letters_few {s : ByteArray} (h : s.size ≤ 200) : lettersOf s ≤ 1000 := by
  have : lettersOf s ≤ s.size := letters_le (Nat.zero_le _) (Nat.le_refl _)
  omega
theorem own_string' {P : Program} {w : World} {B g cap : Nat} {src dst e : TypeId} {N : Nat} (hs : P.underlying src = some (.slice e)) (he : P.underlying e = some (.int .u8)) (hd : P.underlying dst = some .string)
    (h : w.ownsRow B e 1 (.slice (some ⟨g, 0, none⟩) N cap) N ((List.replicate N (97 : UInt8)).map byteV)) :
    (convert src dst (.slice (some ⟨g, 0, none⟩) N cap)).run P w = .ok (.string (rep N)) w := own_string hs he hd h

set_option maxRecDepth 100000 in
set_option maxHeartbeats 1000000 in
theorem together_long (S : Nat → Addr) (s t : ByteArray) (m : Nat) (w : World) (h : Env w S) (hs : 200 < s.size ∨ s.size ≤ 200 ∧ 200 < t.size) (hz : s.size ≤ 9223372036854775807) (hzt : t.size ≤ 9223372036854775807) :
    Calls Tryd.prog 8 #[.string s, .string t, .int .u8 m] w fun x w' => x = .returned (.bool true) ∧ Below w.heap.size w w' := by
  rcases hs with h1 | ⟨h1, h2⟩
  all_goals go_enter Tryd.func8, Tryd.ntmps8
  all_goals go_wp2_with fail
  all_goals refine (awake03 S _ h).mono ?_
  all_goals rintro x w' ⟨rfl, hb⟩
  all_goals go_wp2
  all_goals go_ret
  all_goals exact ⟨rfl, hb⟩

set_option maxRecDepth 100000 in
set_option maxHeartbeats 4000000 in
theorem together_z_sbad (S : Nat → Addr) (s t : ByteArray) (m : Nat) (w : World) (h : Env w S) (hs : s.size ≤ 200) (ht : t.size ≤ 200) (hm : m < 256) (hm0 : m = 0) (hk0 : cutOf s < s.size) :
    Calls Tryd.prog 8 #[.string s, .string t, .int .u8 m] w fun x w' => x = .returned (.bool true) ∧ Below w.heap.size w w' := by
  obtain ⟨i0, hi0, hz0, hz1, hz2⟩ := info_parts Tryd.byteInfo
  have h1 := fun w => ut_cut s w (by omega)
  have hcl := cut_le s
  have hsz : (s.extract 0 (cutOf s)).size = cutOf s := by rw [ByteArray.size_extract]; omega
  have hcp := check_ok (s := s.extract 0 (cutOf s)) (by omega) (by rw [hsz]; exact cut_prefix s)
  have h2 := fun w h => ut_check S (s.extract 0 (cutOf s)) w h (by omega)
  rw [hcp] at h2
  unfold Checked at h2
  have H1 := Lib.hid h1
  have H2 := Lib.hid h2
  have h3 := fun w => ut_cut (s.extract (cutOf s) s.size) w (by rw [size_tail]; omega)
  rw [cut_rest hk0] at h3
  have h3' : ∀ w, Calls Tryd.prog 25 #[.string (s.extract (cutOf s) s.size)] w (fun x w' => x = .returned (.int .i64 0) ∧ w = w') := h3
  have H3 := Lib.hid h3'
  clear h3 h3'
  have hcs : checkOf s = (2, cutOf s) := by unfold checkOf; rw [if_neg (by omega), if_pos hk0]
  have h4 := fun w h => ut_letters S s w h (by omega)
  have h5 := fun w h => ut_letters S t w h (by omega)
  rw [hcs] at h4
  unfold LetterSays3 at h4 h5
  have h4' : ∀ w, Env w S → Calls Tryd.prog 23 #[.string s] w (fun x w' => ∃ e, x = .returned (.tuple #[.int .i64 0, e]) ∧ ErrOf w' S 129 2 (cutOf s) e ∧ Below w.heap.size w w') := h4
  have H4 := Lib.hid h4'
  have h5' : ∀ w, Env w S → Calls Tryd.prog 23 #[.string t] w (fun x w' => ∃ (z : Int) (e : Value), x = .returned (.tuple #[.int .i64 z, e]) ∧ Below w.heap.size w w') :=
    fun w h => (h5 w h).mono fun x w' ⟨e, h1, _, h2⟩ => ⟨_, e, h1, h2⟩
  have H5 := Lib.hid h5'
  clear h4 h4' h5 h5' hcs h1 h2 hcp hsz
  obtain ⟨N, hN⟩ : ∃ N, N = 65535 + m := ⟨_, rfl⟩
  have hNi : (65535 : Int) + (m : Int) = (N : Int) := by omega
  have hN0 : N ≤ 70000 := by omega
  have h7 := fun w h => ut_check S (rep N) w h (by rw [rep_size]; omega)
  unfold Checked at h7
  rw [check_rep (by omega)] at h7
  rw [if_pos (by omega)] at h7
  subst hm0
  have H7 := Lib.hid h7
  have HN := Lib.hid hN
  have HNI := Lib.hid hNi
  clear h7 hN hNi
  generalize cutOf s = k at *
  go_enter Tryd.func8, Tryd.ntmps8
  go_wp2_with fail
  refine (H1.out _).mono ?_
  rintro x w' ⟨rfl, rfl⟩
  go_wp2_with fail
  refine (H2.out _ h).mono ?_
  rintro x w1 ⟨e1, rfl, he, hb⟩
  obtain rfl : e1 = .nilIface := he
  have HE1 := Lib.hid (h.later hb)
  have HB1 := Lib.hid hb
  clear hb
  go_wp2_with fail
  refine (H3.out _).mono ?_
  rintro x w' ⟨rfl, rfl⟩
  go_wp2_with (refine wpList_make_full _ rfl _ _ 47 rfl w.heap.size 5 i0 (.int .u8 0) 1 Tryd.underlying47 hi0 hz0 hz1 .i64 .i64 65535 65535 N rfl rfl HNI.out HNI.out (by rw [hz2]; omega) (by unfold maxLen; omega) HB1.out.size ?_)
  intro w2 hown hgrow
  have hmade : (madeCells #[Value.int .u8 0] N).toList = fill97 N 0 := by
    rw [fill_zero]
    exact toList_madeCells_one _ _
  rw [hmade] at hown
  have HO2 := Lib.hid hown
  have hb2 : Below w.heap.size w w2 := HB1.out.grown hgrow HB1.out.size (fun g hg => by cases hg)
  have hb12 : Below w1.heap.size w1 w2 := (Below.refl _ _).grown hgrow (Nat.le_refl _) (fun g hg => by cases hg)
  have HB2 := Lib.hid hb2
  have HE2 := Lib.hid (HE1.out.later hb12)
  have hgw : w.heap.size ≤ w1.heap.size := HB1.out.size
  have HB12 := Lib.hid hb12
  clear hown hgrow hb2 hb12 hmade HE2
  go_wp2
  go_loopg [9] N (fun f x wr => ∃ j : Nat, f = N - j ∧ j ≤ N ∧ x = .int .i64 j ∧ wr.ownsRow w.heap.size 5 1 (.slice (some ⟨w1.heap.size, 0, none⟩) N N) N (fill97 N j) ∧ Below w.heap.size w wr ∧ Below w1.heap.size w1 wr)
  case atStart => exact ⟨0, rfl, Nat.zero_le _, rfl, HO2.out, HB2.out, HB12.out⟩
  case round =>
    obtain ⟨j, rfl, hj, rfl, hown, hb, hb1⟩ := hrel
    have HO := Lib.hid hown
    have HB := Lib.hid hb
    have HBB := Lib.hid hb1
    clear hown hb hb1
    by_cases hlt : j < N
    · have hc := HO.out.cellAt j (by omega)
      rw [fill_at hlt] at hc
      have hf := HO.out.frozenAt j
      have hst := HO.out.stored j (.int .u8 97)
      rw [fill_set hlt] at hst
      have HS := Lib.hid hst.1
      clear hst
      go_wp2
      go_roundg (N - (j + 1))
      case rel => exact ⟨j + 1, rfl, hlt, by go_num, HS.out, HB.out.setCell hgw _, HBB.out.setCell (Nat.le_refl _) _⟩
      case measure => omega
    · obtain rfl : j = N := by omega
      have hown := HO.out
      rw [fill_full] at hown
      have hconv := own_string' (P := Tryd.prog) (src := 47) (dst := 9) (e := 5) Tryd.underlying47 Tryd.underlying5 Tryd.underlying9 hown
      have HE3 := Lib.hid (HE1.out.later HBB.out)
      clear hown
      go_wp2_with fail
      refine (H7.out _ HE3.out).mono ?_
      rintro x w4 ⟨e4, rfl, he, hb⟩
      obtain rfl : e4 = .nilIface := he
      have HE4 := Lib.hid (HE3.out.later hb)
      have HB4 := Lib.hid (HB.out.trans (hb.mono HB.out.size))
      clear hb hconv
      go_wp2_with fail
      refine (H4.out _ HE4.out).mono ?_
      rintro x w5 ⟨e5, rfl, he, hb⟩
      obtain ⟨t5, v5, rfl⟩ := (he.is (by simp)).iface
      clear he
      have HE5 := Lib.hid (HE4.out.later hb)
      have HB5 := Lib.hid (HB4.out.trans (hb.mono HB4.out.size))
      clear hb
      go_wp2_with fail
      refine (H5.out _ HE5.out).mono ?_
      rintro x w6 ⟨z6, e6, rfl, hb⟩
      have HE6 := Lib.hid (HE5.out.later hb)
      have HB6 := Lib.hid (HB5.out.trans (hb.mono HB5.out.size))
      clear hb
      go_wp2_with fail
      refine (awake03 S _ HE6.out).mono ?_
      rintro x w9 ⟨rfl, hb⟩
      have HB9 := Lib.hid (HB6.out.trans (hb.mono HB6.out.size))
      clear hb
      go_wp2
      go_ret
      exact ⟨rfl, HB9.out⟩

set_option maxRecDepth 100000 in
set_option maxHeartbeats 4000000 in
theorem together_z_tbad (S : Nat → Addr) (s t : ByteArray) (m : Nat) (w : World) (h : Env w S) (hs : s.size ≤ 200) (ht : t.size ≤ 200) (hm : m < 256) (hm0 : m = 0) (hk0 : cutOf s = s.size) (ht0 : (checkOf t).1 ≠ 0) :
    Calls Tryd.prog 8 #[.string s, .string t, .int .u8 m] w fun x w' => x = .returned (.bool true) ∧ Below w.heap.size w w' := by
  obtain ⟨i0, hi0, hz0, hz1, hz2⟩ := info_parts Tryd.byteInfo
  have h1 := fun w => ut_cut s w (by omega)
  have hcl := cut_le s
  have hsz : (s.extract 0 (cutOf s)).size = cutOf s := by rw [ByteArray.size_extract]; omega
  have hcp := check_ok (s := s.extract 0 (cutOf s)) (by omega) (by rw [hsz]; exact cut_prefix s)
  have h2 := fun w h => ut_check S (s.extract 0 (cutOf s)) w h (by omega)
  rw [hcp] at h2
  unfold Checked at h2
  have H1 := Lib.hid h1
  have H2 := Lib.hid h2
  have hcs : checkOf s = (0, 0) := check_ok (by omega) hk0
  have h4 := fun w h => ut_letters S s w h (by omega)
  have h5 := fun w h => ut_letters S t w h (by omega)
  rw [hcs] at h4
  unfold LetterSays3 at h4 h5
  have h4' : ∀ w, Env w S → Calls Tryd.prog 23 #[.string s] w (fun x w' => ∃ e, x = .returned (.tuple #[.int .i64 (lettersOf s : Nat), e]) ∧ ErrOf w' S 129 0 0 e ∧ Below w.heap.size w w') := h4
  have H4 := Lib.hid h4'
  obtain ⟨c, hcc⟩ : ∃ c, checkOf t = c := ⟨_, rfl⟩
  rw [hcc] at h5 ht0
  clear hcc
  obtain ⟨c1, c2⟩ := c
  have h5' : ∀ w, Env w S → Calls Tryd.prog 23 #[.string t] w (fun x w' => ∃ e, x = .returned (.tuple #[.int .i64 0, e]) ∧ ErrOf w' S 129 c1 c2 e ∧ Below w.heap.size w w') := by
    intro w h
    have := h5 w h
    rw [if_neg ht0] at this
    exact this
  have H5 := Lib.hid h5'
  have HT0 := Lib.hid ht0
  clear h4 h4' h5 h5' hcs h1 h2 hcp hsz ht0
  obtain ⟨N, hN⟩ : ∃ N, N = 65535 + m := ⟨_, rfl⟩
  have hNi : (65535 : Int) + (m : Int) = (N : Int) := by omega
  have hN0 : N ≤ 70000 := by omega
  have h7 := fun w h => ut_check S (rep N) w h (by rw [rep_size]; omega)
  unfold Checked at h7
  rw [check_rep (by omega)] at h7
  rw [if_pos (by omega)] at h7
  subst hm0
  have H7 := Lib.hid h7
  have HN := Lib.hid hN
  have HNI := Lib.hid hNi
  clear h7 hN hNi
  have HK := Lib.hid hk0
  have hkk : (s.size : Int) ≤ (cutOf s : Int) := by omega
  clear hk0
  generalize cutOf s = k at *
  go_enter Tryd.func8, Tryd.ntmps8
  go_wp2_with fail
  refine (H1.out _).mono ?_
  rintro x w' ⟨rfl, rfl⟩
  go_wp2_with fail
  refine (H2.out _ h).mono ?_
  rintro x w1 ⟨e1, rfl, he, hb⟩
  obtain rfl : e1 = .nilIface := he
  have HE1 := Lib.hid (h.later hb)
  have HB1 := Lib.hid hb
  clear hb
  go_wp2_with (refine wpList_make_full _ rfl _ _ 47 rfl w.heap.size 5 i0 (.int .u8 0) 1 Tryd.underlying47 hi0 hz0 hz1 .i64 .i64 65535 65535 N rfl rfl HNI.out HNI.out (by rw [hz2]; omega) (by unfold maxLen; omega) HB1.out.size ?_)
  intro w2 hown hgrow
  have hmade : (madeCells #[Value.int .u8 0] N).toList = fill97 N 0 := by
    rw [fill_zero]
    exact toList_madeCells_one _ _
  rw [hmade] at hown
  have HO2 := Lib.hid hown
  have hb2 : Below w.heap.size w w2 := HB1.out.grown hgrow HB1.out.size (fun g hg => by cases hg)
  have hb12 : Below w1.heap.size w1 w2 := (Below.refl _ _).grown hgrow (Nat.le_refl _) (fun g hg => by cases hg)
  have HB2 := Lib.hid hb2
  have HE2 := Lib.hid (HE1.out.later hb12)
  have hgw : w.heap.size ≤ w1.heap.size := HB1.out.size
  have HB12 := Lib.hid hb12
  clear hown hgrow hb2 hb12 hmade HE2
  go_wp2
  go_loopg [9] N (fun f x wr => ∃ j : Nat, f = N - j ∧ j ≤ N ∧ x = .int .i64 j ∧ wr.ownsRow w.heap.size 5 1 (.slice (some ⟨w1.heap.size, 0, none⟩) N N) N (fill97 N j) ∧ Below w.heap.size w wr ∧ Below w1.heap.size w1 wr)
  case atStart => exact ⟨0, rfl, Nat.zero_le _, rfl, HO2.out, HB2.out, HB12.out⟩
  case round =>
    obtain ⟨j, rfl, hj, rfl, hown, hb, hb1⟩ := hrel
    have HO := Lib.hid hown
    have HB := Lib.hid hb
    have HBB := Lib.hid hb1
    clear hown hb hb1
    by_cases hlt : j < N
    · have hc := HO.out.cellAt j (by omega)
      rw [fill_at hlt] at hc
      have hf := HO.out.frozenAt j
      have hst := HO.out.stored j (.int .u8 97)
      rw [fill_set hlt] at hst
      have HS := Lib.hid hst.1
      clear hst
      go_wp2
      go_roundg (N - (j + 1))
      case rel => exact ⟨j + 1, rfl, hlt, by go_num, HS.out, HB.out.setCell hgw _, HBB.out.setCell (Nat.le_refl _) _⟩
      case measure => omega
    · obtain rfl : j = N := by omega
      have hown := HO.out
      rw [fill_full] at hown
      have hconv := own_string' (P := Tryd.prog) (src := 47) (dst := 9) (e := 5) Tryd.underlying47 Tryd.underlying5 Tryd.underlying9 hown
      have HE3 := Lib.hid (HE1.out.later HBB.out)
      clear hown
      go_wp2_with fail
      refine (H7.out _ HE3.out).mono ?_
      rintro x w4 ⟨e4, rfl, he, hb⟩
      obtain rfl : e4 = .nilIface := he
      have HE4 := Lib.hid (HE3.out.later hb)
      have HB4 := Lib.hid (HB.out.trans (hb.mono HB.out.size))
      clear hb hconv
      go_wp2_with fail
      refine (H4.out _ HE4.out).mono ?_
      rintro x w5 ⟨e5, rfl, he, hb⟩
      obtain rfl : e5 = .nilIface := he
      have HE5 := Lib.hid (HE4.out.later hb)
      have HB5 := Lib.hid (HB4.out.trans (hb.mono HB4.out.size))
      clear hb
      go_wp2_with fail
      refine (H5.out _ HE5.out).mono ?_
      rintro x w6 ⟨e6, rfl, he, hb⟩
      obtain ⟨t6, v6, rfl⟩ := (he.is HT0.out).iface
      clear he
      have HE6 := Lib.hid (HE5.out.later hb)
      have HB6 := Lib.hid (HB5.out.trans (hb.mono HB5.out.size))
      clear hb
      go_wp2_with fail
      refine (awake03 S _ HE6.out).mono ?_
      rintro x w9 ⟨rfl, hb⟩
      have HB9 := Lib.hid (HB6.out.trans (hb.mono HB6.out.size))
      clear hb
      go_wp2
      go_ret
      exact ⟨rfl, HB9.out⟩

set_option maxRecDepth 100000 in
set_option maxHeartbeats 4000000 in
theorem together_z_ok (S : Nat → Addr) (s t : ByteArray) (m : Nat) (w : World) (h : Env w S) (hs : s.size ≤ 200) (ht : t.size ≤ 200) (hm : m < 256) (hm0 : m = 0) (hk0 : cutOf s = s.size) (ht0 : (checkOf t).1 = 0) :
    Calls Tryd.prog 8 #[.string s, .string t, .int .u8 m] w fun x w' => x = .returned (.bool true) ∧ Below w.heap.size w w' := by
  obtain ⟨i0, hi0, hz0, hz1, hz2⟩ := info_parts Tryd.byteInfo
  have h1 := fun w => ut_cut s w (by omega)
  have hcl := cut_le s
  have hsz : (s.extract 0 (cutOf s)).size = cutOf s := by rw [ByteArray.size_extract]; omega
  have hcp := check_ok (s := s.extract 0 (cutOf s)) (by omega) (by rw [hsz]; exact cut_prefix s)
  have h2 := fun w h => ut_check S (s.extract 0 (cutOf s)) w h (by omega)
  rw [hcp] at h2
  unfold Checked at h2
  have H1 := Lib.hid h1
  have H2 := Lib.hid h2
  have hcs : checkOf s = (0, 0) := check_ok (by omega) hk0
  have h4 := fun w h => ut_letters S s w h (by omega)
  have h5 := fun w h => ut_letters S t w h (by omega)
  rw [hcs] at h4
  unfold LetterSays3 at h4 h5
  have h4' : ∀ w, Env w S → Calls Tryd.prog 23 #[.string s] w (fun x w' => ∃ e, x = .returned (.tuple #[.int .i64 (lettersOf s : Nat), e]) ∧ ErrOf w' S 129 0 0 e ∧ Below w.heap.size w w') := h4
  have H4 := Lib.hid h4'
  obtain ⟨_, ht1, ht2⟩ := check_zero ht0
  rw [ht2] at h5
  have h5' : ∀ w, Env w S → Calls Tryd.prog 23 #[.string t] w (fun x w' => ∃ e, x = .returned (.tuple #[.int .i64 (lettersOf t : Nat), e]) ∧ ErrOf w' S 129 0 0 e ∧ Below w.heap.size w w') := h5
  have hst := walk_both hk0 ht1
  have h6 := fun w h => ut_letters S (s ++ t) w h (by rw [ByteArray.size_append]; omega)
  rw [check_ok (by rw [ByteArray.size_append]; omega) hst.1, hst.2] at h6
  unfold LetterSays3 at h6
  have h6' : ∀ w, Env w S → Calls Tryd.prog 23 #[.string (s ++ t)] w (fun x w' => ∃ e, x = .returned (.tuple #[.int .i64 (lettersOf s + lettersOf t : Nat), e]) ∧ ErrOf w' S 129 0 0 e ∧ Below w.heap.size w w') := h6
  have hl1 : lettersOf s ≤ 1000 := letters_few hs
  have hl2 : lettersOf t ≤ 1000 := letters_few ht
  have H5 := Lib.hid h5'
  have H6 := Lib.hid h6'
  clear h4 h4' h5 h5' h6 h6' hst ht0 ht1 ht2 hcs h1 h2 hcp hsz
  obtain ⟨N, hN⟩ : ∃ N, N = 65535 + m := ⟨_, rfl⟩
  have hNi : (65535 : Int) + (m : Int) = (N : Int) := by omega
  have hN0 : N ≤ 70000 := by omega
  have h7 := fun w h => ut_check S (rep N) w h (by rw [rep_size]; omega)
  unfold Checked at h7
  rw [check_rep (by omega)] at h7
  rw [if_pos (by omega)] at h7
  subst hm0
  have H7 := Lib.hid h7
  have HN := Lib.hid hN
  have HNI := Lib.hid hNi
  clear h7 hN hNi
  have HK := Lib.hid hk0
  have hkk : (s.size : Int) ≤ (cutOf s : Int) := by omega
  clear hk0
  generalize lettersOf s = la at *
  generalize lettersOf t = lb at *
  generalize cutOf s = k at *
  go_enter Tryd.func8, Tryd.ntmps8
  go_wp2_with fail
  refine (H1.out _).mono ?_
  rintro x w' ⟨rfl, rfl⟩
  go_wp2_with fail
  refine (H2.out _ h).mono ?_
  rintro x w1 ⟨e1, rfl, he, hb⟩
  obtain rfl : e1 = .nilIface := he
  have HE1 := Lib.hid (h.later hb)
  have HB1 := Lib.hid hb
  clear hb
  go_wp2_with (refine wpList_make_full _ rfl _ _ 47 rfl w.heap.size 5 i0 (.int .u8 0) 1 Tryd.underlying47 hi0 hz0 hz1 .i64 .i64 65535 65535 N rfl rfl HNI.out HNI.out (by rw [hz2]; omega) (by unfold maxLen; omega) HB1.out.size ?_)
  intro w2 hown hgrow
  have hmade : (madeCells #[Value.int .u8 0] N).toList = fill97 N 0 := by
    rw [fill_zero]
    exact toList_madeCells_one _ _
  rw [hmade] at hown
  have HO2 := Lib.hid hown
  have hb2 : Below w.heap.size w w2 := HB1.out.grown hgrow HB1.out.size (fun g hg => by cases hg)
  have hb12 : Below w1.heap.size w1 w2 := (Below.refl _ _).grown hgrow (Nat.le_refl _) (fun g hg => by cases hg)
  have HB2 := Lib.hid hb2
  have HE2 := Lib.hid (HE1.out.later hb12)
  have hgw : w.heap.size ≤ w1.heap.size := HB1.out.size
  have HB12 := Lib.hid hb12
  clear hown hgrow hb2 hb12 hmade HE2
  go_wp2
  go_loopg [9] N (fun f x wr => ∃ j : Nat, f = N - j ∧ j ≤ N ∧ x = .int .i64 j ∧ wr.ownsRow w.heap.size 5 1 (.slice (some ⟨w1.heap.size, 0, none⟩) N N) N (fill97 N j) ∧ Below w.heap.size w wr ∧ Below w1.heap.size w1 wr)
  case atStart => exact ⟨0, rfl, Nat.zero_le _, rfl, HO2.out, HB2.out, HB12.out⟩
  case round =>
    obtain ⟨j, rfl, hj, rfl, hown, hb, hb1⟩ := hrel
    have HO := Lib.hid hown
    have HB := Lib.hid hb
    have HBB := Lib.hid hb1
    clear hown hb hb1
    by_cases hlt : j < N
    · have hc := HO.out.cellAt j (by omega)
      rw [fill_at hlt] at hc
      have hf := HO.out.frozenAt j
      have hst := HO.out.stored j (.int .u8 97)
      rw [fill_set hlt] at hst
      have HS := Lib.hid hst.1
      clear hst
      go_wp2
      go_roundg (N - (j + 1))
      case rel => exact ⟨j + 1, rfl, hlt, by go_num, HS.out, HB.out.setCell hgw _, HBB.out.setCell (Nat.le_refl _) _⟩
      case measure => omega
    · obtain rfl : j = N := by omega
      have hown := HO.out
      rw [fill_full] at hown
      have hconv := own_string' (P := Tryd.prog) (src := 47) (dst := 9) (e := 5) Tryd.underlying47 Tryd.underlying5 Tryd.underlying9 hown
      have HE3 := Lib.hid (HE1.out.later HBB.out)
      clear hown
      go_wp2_with fail
      refine (H7.out _ HE3.out).mono ?_
      rintro x w4 ⟨e4, rfl, he, hb⟩
      obtain rfl : e4 = .nilIface := he
      have HE4 := Lib.hid (HE3.out.later hb)
      have HB4 := Lib.hid (HB.out.trans (hb.mono HB.out.size))
      clear hb hconv
      go_wp2_with fail
      refine (H4.out _ HE4.out).mono ?_
      rintro x w5 ⟨e5, rfl, he, hb⟩
      obtain rfl : e5 = .nilIface := he
      have HE5 := Lib.hid (HE4.out.later hb)
      have HB5 := Lib.hid (HB4.out.trans (hb.mono HB4.out.size))
      clear hb
      go_wp2_with fail
      refine (H5.out _ HE5.out).mono ?_
      rintro x w6 ⟨e6, rfl, he, hb⟩
      obtain rfl : e6 = .nilIface := he
      have HE6 := Lib.hid (HE5.out.later hb)
      have HB6 := Lib.hid (HB5.out.trans (hb.mono HB5.out.size))
      clear hb
      go_wp2_with fail
      refine (H6.out _ HE6.out).mono ?_
      rintro x w7 ⟨e7, rfl, he, hb⟩
      obtain rfl : e7 = .nilIface := he
      have HE7 := Lib.hid (HE6.out.later hb)
      have HB7 := Lib.hid (HB6.out.trans (hb.mono HB6.out.size))
      have hsum : ((la + lb : Nat) : Int) = (la : Int) + (lb : Int) := by omega
      rw [hsum]
      clear hb hsum
      go_wp2_with fail
      refine (awake03 S _ HE7.out).mono ?_
      rintro x w9 ⟨rfl, hb⟩
      have HB9 := Lib.hid (HB7.out.trans (hb.mono HB7.out.size))
      clear hb
      go_wp2
      go_ret
      exact ⟨rfl, HB9.out⟩

set_option maxRecDepth 100000 in
set_option maxHeartbeats 4000000 in
theorem together_n_sbad (S : Nat → Addr) (s t : ByteArray) (m : Nat) (w : World) (h : Env w S) (hs : s.size ≤ 200) (ht : t.size ≤ 200) (hm : m < 256) (hm0 : m ≠ 0) (hk0 : cutOf s < s.size) :
    Calls Tryd.prog 8 #[.string s, .string t, .int .u8 m] w fun x w' => x = .returned (.bool true) ∧ Below w.heap.size w w' := by
  obtain ⟨i0, hi0, hz0, hz1, hz2⟩ := info_parts Tryd.byteInfo
  have h1 := fun w => ut_cut s w (by omega)
  have hcl := cut_le s
  have hsz : (s.extract 0 (cutOf s)).size = cutOf s := by rw [ByteArray.size_extract]; omega
  have hcp := check_ok (s := s.extract 0 (cutOf s)) (by omega) (by rw [hsz]; exact cut_prefix s)
  have h2 := fun w h => ut_check S (s.extract 0 (cutOf s)) w h (by omega)
  rw [hcp] at h2
  unfold Checked at h2
  have H1 := Lib.hid h1
  have H2 := Lib.hid h2
  have h3 := fun w => ut_cut (s.extract (cutOf s) s.size) w (by rw [size_tail]; omega)
  rw [cut_rest hk0] at h3
  have h3' : ∀ w, Calls Tryd.prog 25 #[.string (s.extract (cutOf s) s.size)] w (fun x w' => x = .returned (.int .i64 0) ∧ w = w') := h3
  have H3 := Lib.hid h3'
  clear h3 h3'
  have hcs : checkOf s = (2, cutOf s) := by unfold checkOf; rw [if_neg (by omega), if_pos hk0]
  have h4 := fun w h => ut_letters S s w h (by omega)
  have h5 := fun w h => ut_letters S t w h (by omega)
  rw [hcs] at h4
  unfold LetterSays3 at h4 h5
  have h4' : ∀ w, Env w S → Calls Tryd.prog 23 #[.string s] w (fun x w' => ∃ e, x = .returned (.tuple #[.int .i64 0, e]) ∧ ErrOf w' S 129 2 (cutOf s) e ∧ Below w.heap.size w w') := h4
  have H4 := Lib.hid h4'
  have h5' : ∀ w, Env w S → Calls Tryd.prog 23 #[.string t] w (fun x w' => ∃ (z : Int) (e : Value), x = .returned (.tuple #[.int .i64 z, e]) ∧ Below w.heap.size w w') :=
    fun w h => (h5 w h).mono fun x w' ⟨e, h1, _, h2⟩ => ⟨_, e, h1, h2⟩
  have H5 := Lib.hid h5'
  clear h4 h4' h5 h5' hcs h1 h2 hcp hsz
  obtain ⟨N, hN⟩ : ∃ N, N = 65535 + m := ⟨_, rfl⟩
  have hNi : (65535 : Int) + (m : Int) = (N : Int) := by omega
  have hN0 : N ≤ 70000 := by omega
  have h7 := fun w h => ut_check S (rep N) w h (by rw [rep_size]; omega)
  unfold Checked at h7
  rw [check_rep (by omega)] at h7
  rw [if_neg (by omega)] at h7
  have hmz : ((m : Int) == 0) = false := beq_eq_false_iff_ne.2 (by omega)
  clear hm0
  have H7 := Lib.hid h7
  have HN := Lib.hid hN
  have HNI := Lib.hid hNi
  clear h7 hN hNi
  generalize cutOf s = k at *
  go_enter Tryd.func8, Tryd.ntmps8
  go_wp2_with fail
  refine (H1.out _).mono ?_
  rintro x w' ⟨rfl, rfl⟩
  go_wp2_with fail
  refine (H2.out _ h).mono ?_
  rintro x w1 ⟨e1, rfl, he, hb⟩
  obtain rfl : e1 = .nilIface := he
  have HE1 := Lib.hid (h.later hb)
  have HB1 := Lib.hid hb
  clear hb
  go_wp2_with fail
  refine (H3.out _).mono ?_
  rintro x w' ⟨rfl, rfl⟩
  go_wp2_with (refine wpList_make_full _ rfl _ _ 47 rfl w.heap.size 5 i0 (.int .u8 0) 1 Tryd.underlying47 hi0 hz0 hz1 .i64 .i64 (65535 + (m : Int)) (65535 + (m : Int)) N rfl rfl HNI.out HNI.out (by rw [hz2]; omega) (by unfold maxLen; omega) HB1.out.size ?_)
  intro w2 hown hgrow
  have hmade : (madeCells #[Value.int .u8 0] N).toList = fill97 N 0 := by
    rw [fill_zero]
    exact toList_madeCells_one _ _
  rw [hmade] at hown
  have HO2 := Lib.hid hown
  have hb2 : Below w.heap.size w w2 := HB1.out.grown hgrow HB1.out.size (fun g hg => by cases hg)
  have hb12 : Below w1.heap.size w1 w2 := (Below.refl _ _).grown hgrow (Nat.le_refl _) (fun g hg => by cases hg)
  have HB2 := Lib.hid hb2
  have HE2 := Lib.hid (HE1.out.later hb12)
  have hgw : w.heap.size ≤ w1.heap.size := HB1.out.size
  have HB12 := Lib.hid hb12
  clear hown hgrow hb2 hb12 hmade HE2
  go_wp2
  go_loopg [9] N (fun f x wr => ∃ j : Nat, f = N - j ∧ j ≤ N ∧ x = .int .i64 j ∧ wr.ownsRow w.heap.size 5 1 (.slice (some ⟨w1.heap.size, 0, none⟩) N N) N (fill97 N j) ∧ Below w.heap.size w wr ∧ Below w1.heap.size w1 wr)
  case atStart => exact ⟨0, rfl, Nat.zero_le _, rfl, HO2.out, HB2.out, HB12.out⟩
  case round =>
    obtain ⟨j, rfl, hj, rfl, hown, hb, hb1⟩ := hrel
    have HO := Lib.hid hown
    have HB := Lib.hid hb
    have HBB := Lib.hid hb1
    clear hown hb hb1
    by_cases hlt : j < N
    · have hc := HO.out.cellAt j (by omega)
      rw [fill_at hlt] at hc
      have hf := HO.out.frozenAt j
      have hst := HO.out.stored j (.int .u8 97)
      rw [fill_set hlt] at hst
      have HS := Lib.hid hst.1
      clear hst
      go_wp2
      go_roundg (N - (j + 1))
      case rel => exact ⟨j + 1, rfl, hlt, by go_num, HS.out, HB.out.setCell hgw _, HBB.out.setCell (Nat.le_refl _) _⟩
      case measure => omega
    · obtain rfl : j = N := by omega
      have hown := HO.out
      rw [fill_full] at hown
      have hconv := own_string' (P := Tryd.prog) (src := 47) (dst := 9) (e := 5) Tryd.underlying47 Tryd.underlying5 Tryd.underlying9 hown
      have HE3 := Lib.hid (HE1.out.later HBB.out)
      clear hown
      go_wp2_with fail
      refine (H7.out _ HE3.out).mono ?_
      rintro x w4 ⟨e4, rfl, he, hb⟩
      obtain ⟨t4, v4, rfl⟩ := (he.is (by simp)).iface
      clear he
      have HE4 := Lib.hid (HE3.out.later hb)
      have HB4 := Lib.hid (HB.out.trans (hb.mono HB.out.size))
      clear hb hconv
      go_wp2_with fail
      refine (H4.out _ HE4.out).mono ?_
      rintro x w5 ⟨e5, rfl, he, hb⟩
      obtain ⟨t5, v5, rfl⟩ := (he.is (by simp)).iface
      clear he
      have HE5 := Lib.hid (HE4.out.later hb)
      have HB5 := Lib.hid (HB4.out.trans (hb.mono HB4.out.size))
      clear hb
      go_wp2_with fail
      refine (H5.out _ HE5.out).mono ?_
      rintro x w6 ⟨z6, e6, rfl, hb⟩
      have HE6 := Lib.hid (HE5.out.later hb)
      have HB6 := Lib.hid (HB5.out.trans (hb.mono HB5.out.size))
      clear hb
      go_wp2_with fail
      refine (awake03 S _ HE6.out).mono ?_
      rintro x w9 ⟨rfl, hb⟩
      have HB9 := Lib.hid (HB6.out.trans (hb.mono HB6.out.size))
      clear hb
      go_wp2
      go_ret
      exact ⟨rfl, HB9.out⟩

set_option maxRecDepth 100000 in
set_option maxHeartbeats 4000000 in
theorem together_n_tbad (S : Nat → Addr) (s t : ByteArray) (m : Nat) (w : World) (h : Env w S) (hs : s.size ≤ 200) (ht : t.size ≤ 200) (hm : m < 256) (hm0 : m ≠ 0) (hk0 : cutOf s = s.size) (ht0 : (checkOf t).1 ≠ 0) :
    Calls Tryd.prog 8 #[.string s, .string t, .int .u8 m] w fun x w' => x = .returned (.bool true) ∧ Below w.heap.size w w' := by
  obtain ⟨i0, hi0, hz0, hz1, hz2⟩ := info_parts Tryd.byteInfo
  have h1 := fun w => ut_cut s w (by omega)
  have hcl := cut_le s
  have hsz : (s.extract 0 (cutOf s)).size = cutOf s := by rw [ByteArray.size_extract]; omega
  have hcp := check_ok (s := s.extract 0 (cutOf s)) (by omega) (by rw [hsz]; exact cut_prefix s)
  have h2 := fun w h => ut_check S (s.extract 0 (cutOf s)) w h (by omega)
  rw [hcp] at h2
  unfold Checked at h2
  have H1 := Lib.hid h1
  have H2 := Lib.hid h2
  have hcs : checkOf s = (0, 0) := check_ok (by omega) hk0
  have h4 := fun w h => ut_letters S s w h (by omega)
  have h5 := fun w h => ut_letters S t w h (by omega)
  rw [hcs] at h4
  unfold LetterSays3 at h4 h5
  have h4' : ∀ w, Env w S → Calls Tryd.prog 23 #[.string s] w (fun x w' => ∃ e, x = .returned (.tuple #[.int .i64 (lettersOf s : Nat), e]) ∧ ErrOf w' S 129 0 0 e ∧ Below w.heap.size w w') := h4
  have H4 := Lib.hid h4'
  obtain ⟨c, hcc⟩ : ∃ c, checkOf t = c := ⟨_, rfl⟩
  rw [hcc] at h5 ht0
  clear hcc
  obtain ⟨c1, c2⟩ := c
  have h5' : ∀ w, Env w S → Calls Tryd.prog 23 #[.string t] w (fun x w' => ∃ e, x = .returned (.tuple #[.int .i64 0, e]) ∧ ErrOf w' S 129 c1 c2 e ∧ Below w.heap.size w w') := by
    intro w h
    have := h5 w h
    rw [if_neg ht0] at this
    exact this
  have H5 := Lib.hid h5'
  have HT0 := Lib.hid ht0
  clear h4 h4' h5 h5' hcs h1 h2 hcp hsz ht0
  obtain ⟨N, hN⟩ : ∃ N, N = 65535 + m := ⟨_, rfl⟩
  have hNi : (65535 : Int) + (m : Int) = (N : Int) := by omega
  have hN0 : N ≤ 70000 := by omega
  have h7 := fun w h => ut_check S (rep N) w h (by rw [rep_size]; omega)
  unfold Checked at h7
  rw [check_rep (by omega)] at h7
  rw [if_neg (by omega)] at h7
  have hmz : ((m : Int) == 0) = false := beq_eq_false_iff_ne.2 (by omega)
  clear hm0
  have H7 := Lib.hid h7
  have HN := Lib.hid hN
  have HNI := Lib.hid hNi
  clear h7 hN hNi
  have HK := Lib.hid hk0
  have hkk : (s.size : Int) ≤ (cutOf s : Int) := by omega
  clear hk0
  generalize cutOf s = k at *
  go_enter Tryd.func8, Tryd.ntmps8
  go_wp2_with fail
  refine (H1.out _).mono ?_
  rintro x w' ⟨rfl, rfl⟩
  go_wp2_with fail
  refine (H2.out _ h).mono ?_
  rintro x w1 ⟨e1, rfl, he, hb⟩
  obtain rfl : e1 = .nilIface := he
  have HE1 := Lib.hid (h.later hb)
  have HB1 := Lib.hid hb
  clear hb
  go_wp2_with (refine wpList_make_full _ rfl _ _ 47 rfl w.heap.size 5 i0 (.int .u8 0) 1 Tryd.underlying47 hi0 hz0 hz1 .i64 .i64 (65535 + (m : Int)) (65535 + (m : Int)) N rfl rfl HNI.out HNI.out (by rw [hz2]; omega) (by unfold maxLen; omega) HB1.out.size ?_)
  intro w2 hown hgrow
  have hmade : (madeCells #[Value.int .u8 0] N).toList = fill97 N 0 := by
    rw [fill_zero]
    exact toList_madeCells_one _ _
  rw [hmade] at hown
  have HO2 := Lib.hid hown
  have hb2 : Below w.heap.size w w2 := HB1.out.grown hgrow HB1.out.size (fun g hg => by cases hg)
  have hb12 : Below w1.heap.size w1 w2 := (Below.refl _ _).grown hgrow (Nat.le_refl _) (fun g hg => by cases hg)
  have HB2 := Lib.hid hb2
  have HE2 := Lib.hid (HE1.out.later hb12)
  have hgw : w.heap.size ≤ w1.heap.size := HB1.out.size
  have HB12 := Lib.hid hb12
  clear hown hgrow hb2 hb12 hmade HE2
  go_wp2
  go_loopg [9] N (fun f x wr => ∃ j : Nat, f = N - j ∧ j ≤ N ∧ x = .int .i64 j ∧ wr.ownsRow w.heap.size 5 1 (.slice (some ⟨w1.heap.size, 0, none⟩) N N) N (fill97 N j) ∧ Below w.heap.size w wr ∧ Below w1.heap.size w1 wr)
  case atStart => exact ⟨0, rfl, Nat.zero_le _, rfl, HO2.out, HB2.out, HB12.out⟩
  case round =>
    obtain ⟨j, rfl, hj, rfl, hown, hb, hb1⟩ := hrel
    have HO := Lib.hid hown
    have HB := Lib.hid hb
    have HBB := Lib.hid hb1
    clear hown hb hb1
    by_cases hlt : j < N
    · have hc := HO.out.cellAt j (by omega)
      rw [fill_at hlt] at hc
      have hf := HO.out.frozenAt j
      have hst := HO.out.stored j (.int .u8 97)
      rw [fill_set hlt] at hst
      have HS := Lib.hid hst.1
      clear hst
      go_wp2
      go_roundg (N - (j + 1))
      case rel => exact ⟨j + 1, rfl, hlt, by go_num, HS.out, HB.out.setCell hgw _, HBB.out.setCell (Nat.le_refl _) _⟩
      case measure => omega
    · obtain rfl : j = N := by omega
      have hown := HO.out
      rw [fill_full] at hown
      have hconv := own_string' (P := Tryd.prog) (src := 47) (dst := 9) (e := 5) Tryd.underlying47 Tryd.underlying5 Tryd.underlying9 hown
      have HE3 := Lib.hid (HE1.out.later HBB.out)
      clear hown
      go_wp2_with fail
      refine (H7.out _ HE3.out).mono ?_
      rintro x w4 ⟨e4, rfl, he, hb⟩
      obtain ⟨t4, v4, rfl⟩ := (he.is (by simp)).iface
      clear he
      have HE4 := Lib.hid (HE3.out.later hb)
      have HB4 := Lib.hid (HB.out.trans (hb.mono HB.out.size))
      clear hb hconv
      go_wp2_with fail
      refine (H4.out _ HE4.out).mono ?_
      rintro x w5 ⟨e5, rfl, he, hb⟩
      obtain rfl : e5 = .nilIface := he
      have HE5 := Lib.hid (HE4.out.later hb)
      have HB5 := Lib.hid (HB4.out.trans (hb.mono HB4.out.size))
      clear hb
      go_wp2_with fail
      refine (H5.out _ HE5.out).mono ?_
      rintro x w6 ⟨e6, rfl, he, hb⟩
      obtain ⟨t6, v6, rfl⟩ := (he.is HT0.out).iface
      clear he
      have HE6 := Lib.hid (HE5.out.later hb)
      have HB6 := Lib.hid (HB5.out.trans (hb.mono HB5.out.size))
      clear hb
      go_wp2_with fail
      refine (awake03 S _ HE6.out).mono ?_
      rintro x w9 ⟨rfl, hb⟩
      have HB9 := Lib.hid (HB6.out.trans (hb.mono HB6.out.size))
      clear hb
      go_wp2
      go_ret
      exact ⟨rfl, HB9.out⟩

set_option maxRecDepth 100000 in
set_option maxHeartbeats 4000000 in
theorem together_n_ok (S : Nat → Addr) (s t : ByteArray) (m : Nat) (w : World) (h : Env w S) (hs : s.size ≤ 200) (ht : t.size ≤ 200) (hm : m < 256) (hm0 : m ≠ 0) (hk0 : cutOf s = s.size) (ht0 : (checkOf t).1 = 0) :
    Calls Tryd.prog 8 #[.string s, .string t, .int .u8 m] w fun x w' => x = .returned (.bool true) ∧ Below w.heap.size w w' := by
  obtain ⟨i0, hi0, hz0, hz1, hz2⟩ := info_parts Tryd.byteInfo
  have h1 := fun w => ut_cut s w (by omega)
  have hcl := cut_le s
  have hsz : (s.extract 0 (cutOf s)).size = cutOf s := by rw [ByteArray.size_extract]; omega
  have hcp := check_ok (s := s.extract 0 (cutOf s)) (by omega) (by rw [hsz]; exact cut_prefix s)
  have h2 := fun w h => ut_check S (s.extract 0 (cutOf s)) w h (by omega)
  rw [hcp] at h2
  unfold Checked at h2
  have H1 := Lib.hid h1
  have H2 := Lib.hid h2
  have hcs : checkOf s = (0, 0) := check_ok (by omega) hk0
  have h4 := fun w h => ut_letters S s w h (by omega)
  have h5 := fun w h => ut_letters S t w h (by omega)
  rw [hcs] at h4
  unfold LetterSays3 at h4 h5
  have h4' : ∀ w, Env w S → Calls Tryd.prog 23 #[.string s] w (fun x w' => ∃ e, x = .returned (.tuple #[.int .i64 (lettersOf s : Nat), e]) ∧ ErrOf w' S 129 0 0 e ∧ Below w.heap.size w w') := h4
  have H4 := Lib.hid h4'
  obtain ⟨_, ht1, ht2⟩ := check_zero ht0
  rw [ht2] at h5
  have h5' : ∀ w, Env w S → Calls Tryd.prog 23 #[.string t] w (fun x w' => ∃ e, x = .returned (.tuple #[.int .i64 (lettersOf t : Nat), e]) ∧ ErrOf w' S 129 0 0 e ∧ Below w.heap.size w w') := h5
  have hst := walk_both hk0 ht1
  have h6 := fun w h => ut_letters S (s ++ t) w h (by rw [ByteArray.size_append]; omega)
  rw [check_ok (by rw [ByteArray.size_append]; omega) hst.1, hst.2] at h6
  unfold LetterSays3 at h6
  have h6' : ∀ w, Env w S → Calls Tryd.prog 23 #[.string (s ++ t)] w (fun x w' => ∃ e, x = .returned (.tuple #[.int .i64 (lettersOf s + lettersOf t : Nat), e]) ∧ ErrOf w' S 129 0 0 e ∧ Below w.heap.size w w') := h6
  have hl1 : lettersOf s ≤ 1000 := letters_few hs
  have hl2 : lettersOf t ≤ 1000 := letters_few ht
  have H5 := Lib.hid h5'
  have H6 := Lib.hid h6'
  clear h4 h4' h5 h5' h6 h6' hst ht0 ht1 ht2 hcs h1 h2 hcp hsz
  obtain ⟨N, hN⟩ : ∃ N, N = 65535 + m := ⟨_, rfl⟩
  have hNi : (65535 : Int) + (m : Int) = (N : Int) := by omega
  have hN0 : N ≤ 70000 := by omega
  have h7 := fun w h => ut_check S (rep N) w h (by rw [rep_size]; omega)
  unfold Checked at h7
  rw [check_rep (by omega)] at h7
  rw [if_neg (by omega)] at h7
  have hmz : ((m : Int) == 0) = false := beq_eq_false_iff_ne.2 (by omega)
  clear hm0
  have H7 := Lib.hid h7
  have HN := Lib.hid hN
  have HNI := Lib.hid hNi
  clear h7 hN hNi
  have HK := Lib.hid hk0
  have hkk : (s.size : Int) ≤ (cutOf s : Int) := by omega
  clear hk0
  generalize lettersOf s = la at *
  generalize lettersOf t = lb at *
  generalize cutOf s = k at *
  go_enter Tryd.func8, Tryd.ntmps8
  go_wp2_with fail
  refine (H1.out _).mono ?_
  rintro x w' ⟨rfl, rfl⟩
  go_wp2_with fail
  refine (H2.out _ h).mono ?_
  rintro x w1 ⟨e1, rfl, he, hb⟩
  obtain rfl : e1 = .nilIface := he
  have HE1 := Lib.hid (h.later hb)
  have HB1 := Lib.hid hb
  clear hb
  go_wp2_with (refine wpList_make_full _ rfl _ _ 47 rfl w.heap.size 5 i0 (.int .u8 0) 1 Tryd.underlying47 hi0 hz0 hz1 .i64 .i64 (65535 + (m : Int)) (65535 + (m : Int)) N rfl rfl HNI.out HNI.out (by rw [hz2]; omega) (by unfold maxLen; omega) HB1.out.size ?_)
  intro w2 hown hgrow
  have hmade : (madeCells #[Value.int .u8 0] N).toList = fill97 N 0 := by
    rw [fill_zero]
    exact toList_madeCells_one _ _
  rw [hmade] at hown
  have HO2 := Lib.hid hown
  have hb2 : Below w.heap.size w w2 := HB1.out.grown hgrow HB1.out.size (fun g hg => by cases hg)
  have hb12 : Below w1.heap.size w1 w2 := (Below.refl _ _).grown hgrow (Nat.le_refl _) (fun g hg => by cases hg)
  have HB2 := Lib.hid hb2
  have HE2 := Lib.hid (HE1.out.later hb12)
  have hgw : w.heap.size ≤ w1.heap.size := HB1.out.size
  have HB12 := Lib.hid hb12
  clear hown hgrow hb2 hb12 hmade HE2
  go_wp2
  go_loopg [9] N (fun f x wr => ∃ j : Nat, f = N - j ∧ j ≤ N ∧ x = .int .i64 j ∧ wr.ownsRow w.heap.size 5 1 (.slice (some ⟨w1.heap.size, 0, none⟩) N N) N (fill97 N j) ∧ Below w.heap.size w wr ∧ Below w1.heap.size w1 wr)
  case atStart => exact ⟨0, rfl, Nat.zero_le _, rfl, HO2.out, HB2.out, HB12.out⟩
  case round =>
    obtain ⟨j, rfl, hj, rfl, hown, hb, hb1⟩ := hrel
    have HO := Lib.hid hown
    have HB := Lib.hid hb
    have HBB := Lib.hid hb1
    clear hown hb hb1
    by_cases hlt : j < N
    · have hc := HO.out.cellAt j (by omega)
      rw [fill_at hlt] at hc
      have hf := HO.out.frozenAt j
      have hst := HO.out.stored j (.int .u8 97)
      rw [fill_set hlt] at hst
      have HS := Lib.hid hst.1
      clear hst
      go_wp2
      go_roundg (N - (j + 1))
      case rel => exact ⟨j + 1, rfl, hlt, by go_num, HS.out, HB.out.setCell hgw _, HBB.out.setCell (Nat.le_refl _) _⟩
      case measure => omega
    · obtain rfl : j = N := by omega
      have hown := HO.out
      rw [fill_full] at hown
      have hconv := own_string' (P := Tryd.prog) (src := 47) (dst := 9) (e := 5) Tryd.underlying47 Tryd.underlying5 Tryd.underlying9 hown
      have HE3 := Lib.hid (HE1.out.later HBB.out)
      clear hown
      go_wp2_with fail
      refine (H7.out _ HE3.out).mono ?_
      rintro x w4 ⟨e4, rfl, he, hb⟩
      obtain ⟨t4, v4, rfl⟩ := (he.is (by simp)).iface
      clear he
      have HE4 := Lib.hid (HE3.out.later hb)
      have HB4 := Lib.hid (HB.out.trans (hb.mono HB.out.size))
      clear hb hconv
      go_wp2_with fail
      refine (H4.out _ HE4.out).mono ?_
      rintro x w5 ⟨e5, rfl, he, hb⟩
      obtain rfl : e5 = .nilIface := he
      have HE5 := Lib.hid (HE4.out.later hb)
      have HB5 := Lib.hid (HB4.out.trans (hb.mono HB4.out.size))
      clear hb
      go_wp2_with fail
      refine (H5.out _ HE5.out).mono ?_
      rintro x w6 ⟨e6, rfl, he, hb⟩
      obtain rfl : e6 = .nilIface := he
      have HE6 := Lib.hid (HE5.out.later hb)
      have HB6 := Lib.hid (HB5.out.trans (hb.mono HB5.out.size))
      clear hb
      go_wp2_with fail
      refine (H6.out _ HE6.out).mono ?_
      rintro x w7 ⟨e7, rfl, he, hb⟩
      obtain rfl : e7 = .nilIface := he
      have HE7 := Lib.hid (HE6.out.later hb)
      have HB7 := Lib.hid (HB6.out.trans (hb.mono HB6.out.size))
      have hsum : ((la + lb : Nat) : Int) = (la : Int) + (lb : Int) := by omega
      rw [hsum]
      clear hb hsum
      go_wp2_with fail
      refine (awake03 S _ HE7.out).mono ?_
      rintro x w9 ⟨rfl, hb⟩
      have HB9 := Lib.hid (HB7.out.trans (hb.mono HB7.out.size))
      clear hb
      go_wp2
      go_ret
      exact ⟨rfl, HB9.out⟩

theorem utfTogether_walk (S : Nat → Addr) (s t : ByteArray) (m : Int) (w : World) (h : Env w S) (hz : s.size ≤ maxLen) (hzt : t.size ≤ maxLen) (hm : (Lit.int .u8 m).wf = true) :
    Calls Tryd.prog 8 #[.string s, .string t, .int .u8 m] w fun x w' => x = .returned (.bool true) ∧ Below w.heap.size w w' := by
  have hm' : 0 ≤ m ∧ m ≤ 255 := by simpa [Lit.wf, IntKind.min, IntKind.max, IntKind.signed, IntKind.bits] using hm
  obtain ⟨k, rfl⟩ : ∃ k : Nat, m = (k : Int) := ⟨m.toNat, by omega⟩
  unfold maxLen at hz hzt
  by_cases hl : 200 < s.size ∨ s.size ≤ 200 ∧ 200 < t.size
  · exact together_long S s t k w h hl (by omega) (by omega)
  · have hs : s.size ≤ 200 := by omega
    have ht : t.size ≤ 200 := by omega
    have hk : k < 256 := by omega
    have hc := cut_le s
    by_cases h0 : k = 0
    · by_cases h1 : cutOf s < s.size
      · exact together_z_sbad S s t k w h hs ht hk h0 h1
      · by_cases h2 : (checkOf t).1 = 0
        · exact together_z_ok S s t k w h hs ht hk h0 (by omega) h2
        · exact together_z_tbad S s t k w h hs ht hk h0 (by omega) h2
    · by_cases h1 : cutOf s < s.size
      · exact together_n_sbad S s t k w h hs ht hk h0 h1
      · by_cases h2 : (checkOf t).1 = 0
        · exact together_n_ok S s t k w h hs ht hk h0 (by omega) h2
        · exact together_n_tbad S s t k w h hs ht hk h0 (by omega) h2
end Go.Proofs.YtfaldlamjbiciaaDoor
