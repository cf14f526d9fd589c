/- What is proved here: what becomes of an acknowledgement, and that a message is taken away. Conditions: those that each theorem names. -/
import Derived.Test.YtkbinmjbbmejpaaOpa24
namespace Go.Proofs.Ytkbinmjbbmejpaa
open Go.RowKit Go.Extern.Stop Go.Stop Go.Extern Go.Maps
set_option maxRecDepth 100000
/-- The state that a packet of a kind ends. -/
def endsOf (k : Int) : Int := if k = 4 then 1 else if k = 5 then 2 else if k = 7 then 3 else 0
def badI (r : Int) : Bool := decide (128 ≤ r) && decide (r ≤ 255)
/-- What becomes of an acknowledgement. -/
def ansR (e r st : Int) (is : Bool) : Int := if e = 0 then 5 else if is = false then 0 else if st ≠ e then 5 else if st = 3 then 4 else if badI r = true then 2 else if st = 2 then 3 else 1
theorem ended_any (k : Int) (w : World) : Calls Try.prog 50 #[.int .i64 k] w fun x w' => x = .returned (.int .i64 (endsOf k)) ∧ w = w' := by
  unfold endsOf
  by_cases h1 : k = 4
  · subst h1
    go_enter Try.func50, Try.ntmps50
    go_wp2
    go_ret
    exact ⟨rfl, rfl⟩
  · rw [if_neg h1]
    by_cases h2 : k = 5
    · subst h2
      go_enter Try.func50, Try.ntmps50
      go_wp2
      go_ret
      exact ⟨rfl, rfl⟩
    · rw [if_neg h2]
      by_cases h3 : k = 7
      · subst h3
        go_enter Try.func50, Try.ntmps50
        go_wp2
        go_ret
        exact ⟨rfl, rfl⟩
      · rw [if_neg h3]
        go_enter Try.func50, Try.ntmps50
        go_wp2
        go_ret
        exact ⟨rfl, rfl⟩
theorem badp_any (r : Int) (w : World) : Calls Try.prog 51 #[.int .i64 r] w fun x w' => x = .returned (.bool (badI r)) ∧ w = w' := by
  unfold badI
  by_cases h1 : 128 ≤ r
  · by_cases h2 : r ≤ 255
    · have e1 : decide (128 ≤ r) = true := decide_eq_true h1
      have e2 : decide (r ≤ 255) = true := decide_eq_true h2
      rw [e1, e2]
      go_enter Try.func51, Try.ntmps51
      go_wp2
      go_ret
      exact ⟨rfl, rfl⟩
    · have e1 : decide (128 ≤ r) = true := decide_eq_true h1
      have e2 : decide (r ≤ 255) = false := decide_eq_false h2
      rw [e1, e2]
      go_enter Try.func51, Try.ntmps51
      go_wp2
      go_ret
      exact ⟨rfl, rfl⟩
  · have e1 : decide (128 ≤ r) = false := decide_eq_false h1
    rw [e1, Bool.false_and]
    go_enter Try.func51, Try.ntmps51
    go_wp2
    go_ret
    exact ⟨rfl, rfl⟩
theorem badr_any (r : Int) (w : World) : Calls Try.prog 38 #[.int .i64 r] w fun x w' => x = .returned (.bool (badI r)) ∧ w = w' := by
  unfold badI
  by_cases h1 : 128 ≤ r
  · by_cases h2 : r ≤ 255
    · have e1 : decide (128 ≤ r) = true := decide_eq_true h1
      have e2 : decide (r ≤ 255) = true := decide_eq_true h2
      rw [e1, e2]
      go_enter Try.func38, Try.ntmps38
      go_wp2
      go_ret
      exact ⟨rfl, rfl⟩
    · have e1 : decide (128 ≤ r) = true := decide_eq_true h1
      have e2 : decide (r ≤ 255) = false := decide_eq_false h2
      rw [e1, e2]
      go_enter Try.func38, Try.ntmps38
      go_wp2
      go_ret
      exact ⟨rfl, rfl⟩
  · have e1 : decide (128 ≤ r) = false := decide_eq_false h1
    rw [e1, Bool.false_and]
    go_enter Try.func38, Try.ntmps38
    go_wp2
    go_ret
    exact ⟨rfl, rfl⟩
def AnsSays (w : World) (n : Int) (x : Ending) (w' : World) : Prop := x = .returned (.int .i64 n) ∧ Below w.heap.size w w'
set_option maxHeartbeats 4000000 in
theorem ans_any (c : Array Value) (k r st : Int) (is : Bool) (h0 : c[0]? = some (.int .i64 k)) (h2 : c[2]? = some (.int .i64 r)) (w : World) :
    Calls Try.prog 35 #[.agg c, .int .i64 st, .bool is] w (AnsSays w (ansR (endsOf k) r st is)) := by
  have HO := Lib.hid (Own.start [] w)
  have HE := Lib.hid (fun w => ended_any k w)
  have HB := Lib.hid (fun w => badp_any r w)
  have H0 := Lib.hid h0
  have H2 := Lib.hid h2
  obtain ⟨e, he⟩ : ∃ e, e = endsOf k := ⟨_, rfl⟩
  rw [← he] at HE ⊢
  obtain ⟨bd, hbd⟩ : ∃ b, b = badI r := ⟨_, rfl⟩
  rw [← hbd] at HB
  obtain ⟨n, hn⟩ : ∃ n, n = ansR e r st is := ⟨_, rfl⟩
  unfold ansR at hn
  rw [← hbd] at hn
  have HN := Lib.hid (show ansR e r st is = n by unfold ansR; rw [← hbd, hn])
  rw [HN.out]
  clear h0 h2 he hbd HN
  by_cases q1 : e = 0
  · rw [if_pos q1] at hn
    subst q1
    go_enter Try.func35, Try.ntmps35
    go_upto_region 1 with (refine wpo_box HO.out _ rfl rfl rfl ?_; clear HO; rintro k2 W1 hO; have HO := Lib.hid hO; clear hO; simp only [Act.put, List.setIfInBounds_toArray, List.set_cons_zero, List.set_cons_succ])
    have c0 := ((HO.out.get 0 rfl).cell 0).trans H0.out
    have c2 := ((HO.out.get 0 rfl).cell 2).trans H2.out
    go_wp2_with fail
    refine (HE.out _).mono ?_
    rintro x V1 ⟨rfl, rfl⟩
    go_wp2_with fail
    go_ret
    subst hn
    exact ⟨rfl, HO.out.bel⟩
  · rw [if_neg q1] at hn
    cases is with
    | false =>
      rw [if_pos rfl] at hn
      go_enter Try.func35, Try.ntmps35
      go_upto_region 1 with (refine wpo_box HO.out _ rfl rfl rfl ?_; clear HO; rintro k2 W1 hO; have HO := Lib.hid hO; clear hO; simp only [Act.put, List.setIfInBounds_toArray, List.set_cons_zero, List.set_cons_succ])
      have c0 := ((HO.out.get 0 rfl).cell 0).trans H0.out
      have c2 := ((HO.out.get 0 rfl).cell 2).trans H2.out
      go_wp2_with fail
      refine (HE.out _).mono ?_
      rintro x V1 ⟨rfl, rfl⟩
      go_wp2_with fail
      go_ret
      subst hn
      exact ⟨rfl, HO.out.bel⟩
    | true =>
      rw [if_neg (by simp)] at hn
      by_cases q2 : st = e
      · rw [if_neg (by simpa using q2)] at hn
        subst q2
        by_cases q3 : st = 3
        · rw [if_pos q3] at hn
          subst q3
          go_enter Try.func35, Try.ntmps35
          go_upto_region 1 with (refine wpo_box HO.out _ rfl rfl rfl ?_; clear HO; rintro k2 W1 hO; have HO := Lib.hid hO; clear hO; simp only [Act.put, List.setIfInBounds_toArray, List.set_cons_zero, List.set_cons_succ])
          have c0 := ((HO.out.get 0 rfl).cell 0).trans H0.out
          have c2 := ((HO.out.get 0 rfl).cell 2).trans H2.out
          go_wp2_with fail
          refine (HE.out _).mono ?_
          rintro x V1 ⟨rfl, rfl⟩
          go_wp2_with fail
          go_ret
          subst hn
          exact ⟨rfl, HO.out.bel⟩
        · rw [if_neg q3] at hn
          cases bd with
          | true =>
            rw [if_pos rfl] at hn
            go_enter Try.func35, Try.ntmps35
            go_upto_region 1 with (refine wpo_box HO.out _ rfl rfl rfl ?_; clear HO; rintro k2 W1 hO; have HO := Lib.hid hO; clear hO; simp only [Act.put, List.setIfInBounds_toArray, List.set_cons_zero, List.set_cons_succ])
            have c0 := ((HO.out.get 0 rfl).cell 0).trans H0.out
            have c2 := ((HO.out.get 0 rfl).cell 2).trans H2.out
            go_wp2_with fail
            refine (HE.out _).mono ?_
            rintro x V1 ⟨rfl, rfl⟩
            go_wp2_with fail
            refine (HB.out _).mono ?_
            rintro x V1 ⟨rfl, rfl⟩
            go_wp2_with fail
            go_ret
            subst hn
            exact ⟨rfl, HO.out.bel⟩
          | false =>
            rw [if_neg (by simp)] at hn
            by_cases q4 : st = 2
            · rw [if_pos q4] at hn
              subst q4
              go_enter Try.func35, Try.ntmps35
              go_upto_region 1 with (refine wpo_box HO.out _ rfl rfl rfl ?_; clear HO; rintro k2 W1 hO; have HO := Lib.hid hO; clear hO; simp only [Act.put, List.setIfInBounds_toArray, List.set_cons_zero, List.set_cons_succ])
              have c0 := ((HO.out.get 0 rfl).cell 0).trans H0.out
              have c2 := ((HO.out.get 0 rfl).cell 2).trans H2.out
              go_wp2_with fail
              refine (HE.out _).mono ?_
              rintro x V1 ⟨rfl, rfl⟩
              go_wp2_with fail
              refine (HB.out _).mono ?_
              rintro x V1 ⟨rfl, rfl⟩
              go_wp2_with fail
              go_ret
              subst hn
              exact ⟨rfl, HO.out.bel⟩
            · rw [if_neg q4] at hn
              go_enter Try.func35, Try.ntmps35
              go_upto_region 1 with (refine wpo_box HO.out _ rfl rfl rfl ?_; clear HO; rintro k2 W1 hO; have HO := Lib.hid hO; clear hO; simp only [Act.put, List.setIfInBounds_toArray, List.set_cons_zero, List.set_cons_succ])
              have c0 := ((HO.out.get 0 rfl).cell 0).trans H0.out
              have c2 := ((HO.out.get 0 rfl).cell 2).trans H2.out
              go_wp2_with fail
              refine (HE.out _).mono ?_
              rintro x V1 ⟨rfl, rfl⟩
              go_wp2_with fail
              refine (HB.out _).mono ?_
              rintro x V1 ⟨rfl, rfl⟩
              go_wp2_with fail
              go_ret
              subst hn
              exact ⟨rfl, HO.out.bel⟩
      · rw [if_pos q2] at hn
        go_enter Try.func35, Try.ntmps35
        go_upto_region 1 with (refine wpo_box HO.out _ rfl rfl rfl ?_; clear HO; rintro k2 W1 hO; have HO := Lib.hid hO; clear hO; simp only [Act.put, List.setIfInBounds_toArray, List.set_cons_zero, List.set_cons_succ])
        have c0 := ((HO.out.get 0 rfl).cell 0).trans H0.out
        have c2 := ((HO.out.get 0 rfl).cell 2).trans H2.out
        go_wp2_with fail
        refine (HE.out _).mono ?_
        rintro x V1 ⟨rfl, rfl⟩
        go_wp2_with fail
        go_ret
        subst hn
        exact ⟨rfl, HO.out.bel⟩
end Go.Proofs.Ytkbinmjbbmejpaa
