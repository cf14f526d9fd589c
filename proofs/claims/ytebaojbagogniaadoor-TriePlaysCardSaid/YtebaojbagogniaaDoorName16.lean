/- What is proved here: whether a text may be a topic's name, as package topic and as the document has it. Conditions: the two errors that utf.Check names are errors; few bytes. -/
import Derived.Test.YtebaojbagogniaaDoorLev16
namespace Go.Proofs.YtebaojbagogniaaDoor
open Go.RowKit Go.Extern.Stop Go.Stop Go.Extern

/-- May it be a name? -/
def nameB (s : ByteArray) : Bool := topB s && !signB (ls s)
section
variable {S : Nat → Addr} {w : World}
theorem isName_any (s : ByteArray) (hm : s.size ≤ 1000000) (he : EnvT w S) : Calls Tryd.prog 33 #[.string s] w fun x w' => x = .returned (.bool (nameB s)) ∧ Below w.heap.size w w' := by
  have HT := Lib.hid (isTopic_any s (by omega) he)
  have HS := Lib.hid (fun w => hasSign_any (w := w) s hm)
  unfold nameB
  generalize topB s = t at *
  generalize signB (ls s) = g at *
  clear he
  cases t with
  | false =>
    go_enter Tryd.func33, Tryd.ntmps33
    go_wp2_with fail
    refine (HT.out).mono ?_
    rintro x w1 ⟨rfl, hb⟩
    have HB := Lib.hid hb
    clear hb
    go_wp2_with fail
    go_ret
    exact ⟨rfl, HB.out⟩
  | true =>
    go_enter Tryd.func33, Tryd.ntmps33
    go_wp2_with fail
    refine (HT.out).mono ?_
    rintro x w1 ⟨rfl, hb⟩
    have HB := Lib.hid hb
    clear hb
    go_wp2_with fail
    refine (HS.out _).mono ?_
    rintro x w2 ⟨rfl, hb⟩
    have HB2 := Lib.hid (HB.out.trans (hb.mono HB.out.size))
    clear hb
    go_wp2_with fail
    go_ret
    exact ⟨rfl, HB2.out⟩
theorem rIsName_any (s : ByteArray) (hm : s.size ≤ 1000000) : Calls Tryd.prog 39 #[.string s] w fun x w' => x = .returned (.bool (nameB s)) ∧ Below w.heap.size w w' := by
  by_cases h0 : ls s = []
  · obtain rfl : s = ⟨#[]⟩ := by rw [← bs_ls s, h0]; rfl
    have e : nameB ⟨#[]⟩ = false := rfl
    rw [e]
    clear e h0
    go_enter Tryd.func39, Tryd.ntmps39
    go_wp2_with fail
    go_ret
    exact ⟨rfl, Below.refl _ _⟩
  · have e0 : s ≠ ⟨#[]⟩ := fun h => h0 (by rw [h]; rfl)
    have e1 := str_full e0
    have e2 := str_full2 e1
    have e3 : (ls s).isEmpty = false := by cases hl : ls s with | nil => exact absurd hl h0 | cons _ _ => rfl
    have HI := Lib.hid (fun w => rf_is s w (by omega))
    have H1 := Lib.hid (fun w => has_any (w := w) s hm 43)
    have H2 := Lib.hid (fun w => has_any (w := w) s hm 35)
    have HL := Lib.hid (fun w => rlevels_any (w := w) s hm)
    have hlen := spl_len (ls s)
    have e : nameB s = (isB s && decide ((ls s).count 47 < 32) && !(hasB (ls s) 43 || hasB (ls s) 35)) := by unfold nameB topB signB; rw [e3]; simp
    rw [e]
    clear e e0 e3 h0
    have H1' : Hid (∀ w, Calls Tryd.prog 38 #[.string s, .int .u8 43] w fun x w' => x = .returned (.bool (hasB (ls s) 43)) ∧ w = w') := Lib.hid H1.out
    have H2' : Hid (∀ w, Calls Tryd.prog 38 #[.string s, .int .u8 35] w fun x w' => x = .returned (.bool (hasB (ls s) 35)) ∧ w = w') := Lib.hid H2.out
    clear H1 H2
    generalize hasB (ls s) 43 = a at *
    generalize hasB (ls s) 35 = b at *
    generalize isB s = t at *
    unfold LevSays at HL
    generalize spl (ls s) = L at *
    generalize (ls s).count 47 = n at *
    have HN := Lib.hid hlen
    clear hlen
    cases t with
    | false =>
      go_enter Tryd.func39, Tryd.ntmps39
      go_wp2_with fail
      refine (HI.out _).mono ?_
      rintro x w1 ⟨rfl, hb⟩
      have HB := Lib.hid hb
      clear hb
      go_wp2_with fail
      go_ret
      exact ⟨rfl, HB.out⟩
    | true =>
      cases a with
      | true =>
        go_enter Tryd.func39, Tryd.ntmps39
        go_wp2_with fail
        refine (HI.out _).mono ?_
        rintro x w1 ⟨rfl, hb⟩
        have HB := Lib.hid hb
        clear hb
        go_wp2_with fail
        refine (H1'.out _).mono ?_
        rintro x w2 ⟨rfl, rfl⟩
        go_wp2_with fail
        go_ret
        exact ⟨ret_bool (by simp), HB.out⟩
      | false =>
        cases b with
        | true =>
          go_enter Tryd.func39, Tryd.ntmps39
          go_wp2_with fail
          refine (HI.out _).mono ?_
          rintro x w1 ⟨rfl, hb⟩
          have HB := Lib.hid hb
          clear hb
          go_wp2_with fail
          refine (H1'.out _).mono ?_
          rintro x w2 ⟨rfl, rfl⟩
          go_wp2_with fail
          refine (H2'.out _).mono ?_
          rintro x w2 ⟨rfl, rfl⟩
          go_wp2_with fail
          go_ret
          exact ⟨ret_bool (by simp), HB.out⟩
        | false =>
          go_enter Tryd.func39, Tryd.ntmps39
          go_wp2_with fail
          refine (HI.out _).mono ?_
          rintro x w1 ⟨rfl, hb⟩
          have HB := Lib.hid hb
          clear hb
          go_wp2_with fail
          refine (H1'.out _).mono ?_
          rintro x w2 ⟨rfl, rfl⟩
          go_wp2_with fail
          refine (H2'.out _).mono ?_
          rintro x w2 ⟨rfl, rfl⟩
          go_wp2_with fail
          refine (HL.out _).mono ?_
          rintro x w3 ⟨v, rfl, ht, hb⟩
          obtain ⟨ad, c, rfl⟩ := ht.form
          have HB2 := Lib.hid (HB.out.trans (hb.mono HB.out.size))
          clear hb ht
          go_wp2_with fail
          go_ret
          exact ⟨ret_bool (by simp; have := HN.out; omega), HB2.out⟩
end
end Go.Proofs.YtebaojbagogniaaDoor
