/- What is proved here: whether a filter takes a topic, as package topic and as the document has it. Conditions: the two errors that utf.Check names are errors; few bytes. -/
import Derived.Test.YtebaojbagogniaaDoorTake16
namespace Go.Proofs.YtebaojbagogniaaDoor
open Go.RowKit Go.Extern.Stop Go.Stop Go.Extern

/-- Begin they so that no filter takes the topic by a sign? -/
def ownB (f n : ByteArray) : Bool := bAt n 0 == 36 && (bAt f 0 == 43 || bAt f 0 == 35)
/-- Does a filter take a topic? -/
def matchB (f n : ByteArray) : Bool := filtB f && nameB n && !ownB f n && matchL (spl (ls f)) (spl (ls n))
theorem top_pos {s : ByteArray} (h : topB s = true) : 0 < s.size := by
  rcases Nat.eq_zero_or_pos s.size with h0 | h0
  · have : ls s = [] := List.eq_nil_of_length_eq_zero (by rw [ls_size]; exact h0)
    unfold topB at h
    rw [this] at h
    cases h
  · exact h0
theorem filt_pos {s : ByteArray} (h : filtB s = true) : 0 < s.size := by
  unfold filtB at h
  rw [Bool.and_eq_true] at h
  exact top_pos h.1
theorem name_pos {s : ByteArray} (h : nameB s = true) : 0 < s.size := by
  unfold nameB at h
  rw [Bool.and_eq_true] at h
  exact top_pos h.1
theorem match_off1 {f n : ByteArray} (h : filtB f = false) : matchB f n = false := by unfold matchB; rw [h]; rfl
theorem match_off2 {f n : ByteArray} (h : nameB n = false) : matchB f n = false := by unfold matchB; rw [h]; simp
theorem match_off3 {f n : ByteArray} (h : ownB f n = true) : matchB f n = false := by unfold matchB; rw [h]; simp
theorem match_on {f n : ByteArray} (h1 : filtB f = true) (h2 : nameB n = true) (h3 : ownB f n = false) : matchB f n = matchL (spl (ls f)) (spl (ls n)) := by unfold matchB; rw [h1, h2, h3]; rfl
theorem own_off {f n : ByteArray} (h : bAt n 0 ≠ 36) : ownB f n = false := by
  unfold ownB
  rw [show (bAt n 0 == 36) = false from beq_eq_false_iff_ne.2 h]
  rfl
theorem own_off2 {f n : ByteArray} (h1 : bAt f 0 ≠ 43) (h2 : bAt f 0 ≠ 35) : ownB f n = false := by
  unfold ownB
  rw [show (bAt f 0 == 43) = false from beq_eq_false_iff_ne.2 h1, show (bAt f 0 == 35) = false from beq_eq_false_iff_ne.2 h2]
  simp
theorem own_on {f n : ByteArray} (h : bAt n 0 = 36) (h1 : bAt f 0 = 43 ∨ bAt f 0 = 35) : ownB f n = true := by
  unfold ownB
  rw [h]
  rcases h1 with h1 | h1 <;> rw [h1] <;> rfl
theorem count_le (s : ByteArray) : (spl (ls s)).length ≤ s.size + 1 := by
  rw [spl_len]
  have := List.count_le_length (a := (47 : UInt8)) (l := ls s)
  rw [ls_size] at this
  omega
theorem drop_at {L : List BL} {k : Nat} (h : k < L.length) : L.drop k = L.getD k [] :: L.drop (k + 1) := by
  rw [List.drop_eq_getElem_cons h, List.getD_eq_getElem?_getD, List.getElem?_eq_getElem h]
  rfl
section
variable {S : Nat → Addr} {w : World}
set_option maxHeartbeats 4000000 in
theorem rMatch_any (f n : ByteArray) (hf : f.size ≤ 100000) (hn : n.size ≤ 100000) : Calls Tryd.prog 23 #[.string f, .string n] w fun x w' => x = .returned (.bool (matchB f n)) ∧ Below w.heap.size w w' := by
  have HF := Lib.hid (fun w' (_ : Below w.heap.size w w') => rIsFilter_any (w := w') f (by omega))
  have HN := Lib.hid (fun w' (_ : Below w.heap.size w w') => rIsName_any (w := w') n (by omega))
  have H1 := Lib.hid (fun w => rlevels_any (w := w) f (by omega))
  have H2 := Lib.hid (fun w => rlevels_any (w := w) n (by omega))
  have hp1 : 0 < (spl (ls f)).length := by rw [spl_len]; omega
  have hp2 : 0 < (spl (ls n)).length := by rw [spl_len]; omega
  have hc1 : (spl (ls f)).length ≤ 100001 := by have := count_le f; omega
  have hc2 : (spl (ls n)).length ≤ 100001 := by have := count_le n; omega
  unfold LevSays at H1 H2
  cases h1 : filtB f with
  | false =>
    rw [match_off1 h1]
    rw [h1] at HF
    clear h1
    go_enter Tryd.func23, Tryd.ntmps23
    go_wp2_with fail
    refine (HF.out _ (Below.refl _ _)).mono ?_
    rintro x w1 ⟨rfl, hb⟩
    have HB := Lib.hid hb
    clear hb
    go_wp2_with fail
    go_ret
    exact ⟨rfl, HB.out⟩
  | true =>
    cases h2 : nameB n with
    | false =>
      rw [match_off2 h2]
      rw [h1] at HF
      rw [h2] at HN
      clear h1 h2
      go_enter Tryd.func23, Tryd.ntmps23
      go_wp2_with fail
      refine (HF.out _ (Below.refl _ _)).mono ?_
      rintro x w1 ⟨rfl, hb⟩
      have HB := Lib.hid hb
      clear hb
      go_wp2_with fail
      refine (HN.out _ HB.out).mono ?_
      rintro x w2 ⟨rfl, hb⟩
      have HB2 := Lib.hid (HB.out.trans (hb.mono HB.out.size))
      clear hb
      go_wp2_with fail
      go_ret
      exact ⟨rfl, HB2.out⟩
    | true =>
      have hfs := filt_pos h1
      have hns := name_pos h2
      have gf := (bAt_get hfs).symm
      have gn := (bAt_get hns).symm
      by_cases h3 : bAt n 0 = 36
      · by_cases h4 : bAt f 0 = 43
        · rw [match_off3 (own_on h3 (.inl h4))]
          rw [h1] at HF
          rw [h2] at HN
          rw [h3] at gn
          rw [h4] at gf
          clear h1 h2 h3 h4
          go_enter Tryd.func23, Tryd.ntmps23
          go_wp2_with fail
          refine (HF.out _ (Below.refl _ _)).mono ?_
          rintro x w1 ⟨rfl, hb⟩
          have HB := Lib.hid hb
          clear hb
          go_wp2_with fail
          refine (HN.out _ HB.out).mono ?_
          rintro x w2 ⟨rfl, hb⟩
          have HB2 := Lib.hid (HB.out.trans (hb.mono HB.out.size))
          clear hb
          go_wp2_with fail
          go_ret
          exact ⟨rfl, HB2.out⟩
        · by_cases h5 : bAt f 0 = 35
          · rw [match_off3 (own_on h3 (.inr h5))]
            rw [h1] at HF
            rw [h2] at HN
            rw [h3] at gn
            rw [h5] at gf
            clear h1 h2 h3 h4 h5
            go_enter Tryd.func23, Tryd.ntmps23
            go_wp2_with fail
            refine (HF.out _ (Below.refl _ _)).mono ?_
            rintro x w1 ⟨rfl, hb⟩
            have HB := Lib.hid hb
            clear hb
            go_wp2_with fail
            refine (HN.out _ HB.out).mono ?_
            rintro x w2 ⟨rfl, hb⟩
            have HB2 := Lib.hid (HB.out.trans (hb.mono HB.out.size))
            clear hb
            go_wp2_with fail
            go_ret
            exact ⟨rfl, HB2.out⟩
          · rw [match_on h1 h2 (own_off2 h4 h5)]
            rw [h1] at HF
            rw [h2] at HN
            rw [h3] at gn
            have b1 : (((bAt f 0 : Nat) : Int) == 43) = false := beq_eq_false_iff_ne.2 (by omega)
            have b2 : (((bAt f 0 : Nat) : Int) == 35) = false := beq_eq_false_iff_ne.2 (by omega)
            clear h1 h2 h3 h4 h5
            generalize bAt f 0 = fz at *
            generalize spl (ls f) = F at *
            generalize spl (ls n) = N at *
            go_enter Tryd.func23, Tryd.ntmps23
            go_wp2_with fail
            refine (HF.out _ (Below.refl _ _)).mono ?_
            rintro x w1 ⟨rfl, hb⟩
            have HB := Lib.hid hb
            clear hb
            go_wp2_with fail
            refine (HN.out _ HB.out).mono ?_
            rintro x w2 ⟨rfl, hb⟩
            have HB2 := Lib.hid (HB.out.trans (hb.mono HB.out.size))
            clear hb
            go_wp2_with fail
            refine (H1.out _).mono ?_
            rintro x w3 ⟨v1, rfl, ht1, hb⟩
            have HB3 := Lib.hid (HB2.out.trans (hb.mono HB2.out.size))
            have HT1 := Lib.hid ht1
            obtain ⟨a1, c1, rfl⟩ := ht1.form
            clear hb ht1
            go_wp2_with fail
            refine (H2.out _).mono ?_
            rintro x w4 ⟨v2, rfl, ht2, hb⟩
            have HB4 := Lib.hid (HB3.out.trans (hb.mono HB3.out.size))
            have ht1 := HT1.out.below hb
            obtain ⟨a2, c2, rfl⟩ := ht2.form
            obtain ⟨r1, q1, q2⟩ := ht1.rd
            obtain ⟨r2, q3, q4⟩ := ht2.rd
            have HT := Lib.hid (takes_all F N F.length N.length a1 a2 c1 c2 w4 rfl rfl q1 q2 q3 q4 r1 r2)
            unfold TakesSays at HT
            obtain ⟨r, hr⟩ : ∃ r, matchL F N = r := ⟨_, rfl⟩
            rw [hr] at HT
            have HR := Lib.hid hr
            clear hr
            clear hb ht1 ht2 r1 r2 q1 q2 q3 q4
            go_wp2_with fail
            refine (HT.out).mono ?_
            rintro x w5 ⟨rfl, k, rfl⟩
            go_wp2_with fail
            go_ret
            exact ⟨ret_bool HR.out.symm, (((Fr.refl [] w4).drewN k).later HB4.out (by simp) HB4.out.size)⟩
      · rw [match_on h1 h2 (own_off h3)]
        rw [h1] at HF
        rw [h2] at HN
        have b1 : (((bAt n 0 : Nat) : Int) == 36) = false := beq_eq_false_iff_ne.2 (by omega)
        clear h1 h2 h3
        generalize bAt n 0 = nz at *
        generalize spl (ls f) = F at *
        generalize spl (ls n) = N at *
        go_enter Tryd.func23, Tryd.ntmps23
        go_wp2_with fail
        refine (HF.out _ (Below.refl _ _)).mono ?_
        rintro x w1 ⟨rfl, hb⟩
        have HB := Lib.hid hb
        clear hb
        go_wp2_with fail
        refine (HN.out _ HB.out).mono ?_
        rintro x w2 ⟨rfl, hb⟩
        have HB2 := Lib.hid (HB.out.trans (hb.mono HB.out.size))
        clear hb
        go_wp2_with fail
        refine (H1.out _).mono ?_
        rintro x w3 ⟨v1, rfl, ht1, hb⟩
        have HB3 := Lib.hid (HB2.out.trans (hb.mono HB2.out.size))
        have HT1 := Lib.hid ht1
        obtain ⟨a1, c1, rfl⟩ := ht1.form
        clear hb ht1
        go_wp2_with fail
        refine (H2.out _).mono ?_
        rintro x w4 ⟨v2, rfl, ht2, hb⟩
        have HB4 := Lib.hid (HB3.out.trans (hb.mono HB3.out.size))
        have ht1 := HT1.out.below hb
        obtain ⟨a2, c2, rfl⟩ := ht2.form
        obtain ⟨r1, q1, q2⟩ := ht1.rd
        obtain ⟨r2, q3, q4⟩ := ht2.rd
        have HT := Lib.hid (takes_all F N F.length N.length a1 a2 c1 c2 w4 rfl rfl q1 q2 q3 q4 r1 r2)
        unfold TakesSays at HT
        obtain ⟨r, hr⟩ : ∃ r, matchL F N = r := ⟨_, rfl⟩
        rw [hr] at HT
        have HR := Lib.hid hr
        clear hr
        clear hb ht1 ht2 r1 r2 q1 q2 q3 q4
        go_wp2_with fail
        refine (HT.out).mono ?_
        rintro x w5 ⟨rfl, k, rfl⟩
        go_wp2_with fail
        go_ret
        exact ⟨ret_bool HR.out.symm, (((Fr.refl [] w4).drewN k).later HB4.out (by simp) HB4.out.size)⟩
end
end Go.Proofs.YtebaojbagogniaaDoor
