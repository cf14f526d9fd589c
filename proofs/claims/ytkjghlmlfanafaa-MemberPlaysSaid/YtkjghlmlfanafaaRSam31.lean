/- What is proved here: the same members, and the same texts, are told the same; and members that nobody made are none. Conditions: they stand somewhere; few of them. -/
import Derived.Test.YtkjghlmlfanafaaLawA31
namespace Go.Proofs.Ytkjghlmlfanafaa
open Go.RowKit Go.Extern.Stop Go.Stop Go.Extern
section
variable {w w' : World} {A B : Option Addr} {L : ML} {T : List ByteArray}
theorem agg_ne (m : MV) (w : World) : (binOp .neq 37 (.agg #[.string m.client, .int .i64 m.since, .int .i64 m.qos, .bool m.on]) (.agg #[.string m.client, .int .i64 m.since, .int .i64 m.qos, .bool m.on])).run Try.prog w = .ok (.bool false) w := by
  have he := eq_text m.client m.client
  rw [decide_eq_true rfl] at he
  go_simp
theorem same_any (h1 : MRd w A L) (h2 : MRd w B L) (n c c2 : Nat) (hn : n = L.length) (hm : n ≤ 900) : Calls Try.prog 19 #[.slice A n c, .slice B n c2] w fun x w' => x = .returned (.bool true) ∧ ∃ d : Nat, w' = w.drewN d := by
  by_cases hp : 0 < n
  · obtain ⟨g1, o1, rfl, hc1⟩ := h1 (by omega)
    obtain ⟨g2, o2, rfl, hc2⟩ := h2 (by omega)
    have HC1 := Lib.hid hc1
    have HC2 := Lib.hid hc2
    have HL := Lib.hid hn
    clear h1 h2 hc1 hc2 hn
    go_enter Try.func19, Try.ntmps19
    go_wp2_with fail
    go_loopw [5] (fun i wr => ∃ k d : Nat, k ≤ n ∧ i = .int .i64 k ∧ wr = w.drewN d) (fun i _ => n - (intOf i).toNat)
    case atStart => exact ⟨0, 0, by omega, rfl, rfl⟩
    case round =>
      obtain ⟨k, d, hk, rfl, hwr⟩ := hrel
      have HW := Lib.hid hwr
      by_cases hlt : k < n
      · obtain ⟨c1, c2, c3, c4⟩ := HC1.out k (by rw [← HL.out]; exact hlt)
        have e1 : wr.cell? ⟨g1, o1 + k * 4, none⟩ = some (.string (L.getD k m0).client) := by rw [hwr]; exact c1
        have e2 : wr.cell? ⟨g1, o1 + k * 4 + 1, none⟩ = some (.int .i64 (L.getD k m0).since) := by rw [hwr]; exact c2
        have e3 : wr.cell? ⟨g1, o1 + k * 4 + 2, none⟩ = some (.int .i64 (L.getD k m0).qos) := by rw [hwr]; exact c3
        have e4 : wr.cell? ⟨g1, o1 + k * 4 + 3, none⟩ = some (.bool (L.getD k m0).on) := by rw [hwr]; exact c4
        obtain ⟨d1, d2, d3, d4⟩ := HC2.out k (by rw [← HL.out]; exact hlt)
        have f1 : wr.cell? ⟨g2, o2 + k * 4, none⟩ = some (.string (L.getD k m0).client) := by rw [hwr]; exact d1
        have f2 : wr.cell? ⟨g2, o2 + k * 4 + 1, none⟩ = some (.int .i64 (L.getD k m0).since) := by rw [hwr]; exact d2
        have f3 : wr.cell? ⟨g2, o2 + k * 4 + 2, none⟩ = some (.int .i64 (L.getD k m0).qos) := by rw [hwr]; exact d3
        have f4 : wr.cell? ⟨g2, o2 + k * 4 + 3, none⟩ = some (.bool (L.getD k m0).on) := by rw [hwr]; exact d4
        have ha := agg_ne (L.getD k m0)
        clear c1 c2 c3 c4 d1 d2 d3 d4 hwr
        generalize L.getD k m0 = m at *
        go_wp2_with fail
        go_quiet (fail)
        go_wp2_with fail
        go_roundw
        case rel => exact ⟨k + 1, _, by omega, by go_num, drew_on HW.out _⟩
        case measure => simp [intOf]; omega
      · clear hwr
        go_wp2_with fail
        go_ret
        exact ⟨rfl, _, HW.out⟩
  · obtain rfl : n = 0 := by omega
    clear h1 h2 hn hm hp
    go_enter Try.func19, Try.ntmps19
    go_wp2_with fail
    go_loop [5] (fun i => i = .int .i64 0) (fun _ => 0)
    case atStart => rfl
    case round =>
      subst hrel
      go_wp2_with fail
      go_ret
      exact ⟨rfl, 0, rfl⟩
theorem texts_any (h1 : SRd w A T) (h2 : SRd w B T) (n c c2 : Nat) (hn : n = T.length) (hm : n ≤ 900) : Calls Try.prog 21 #[.slice A n c, .slice B n c2] w fun x w' => x = .returned (.bool true) ∧ ∃ d : Nat, w' = w.drewN d := by
  by_cases hp : 0 < n
  · obtain ⟨g1, o1, rfl, hc1⟩ := h1 (by omega)
    obtain ⟨g2, o2, rfl, hc2⟩ := h2 (by omega)
    have HC1 := Lib.hid hc1
    have HC2 := Lib.hid hc2
    have HL := Lib.hid hn
    clear h1 h2 hc1 hc2 hn
    go_enter Try.func21, Try.ntmps21
    go_wp2_with fail
    go_loopw [5] (fun i wr => ∃ k d : Nat, k ≤ n ∧ i = .int .i64 k ∧ wr = w.drewN d) (fun i _ => n - (intOf i).toNat)
    case atStart => exact ⟨0, 0, by omega, rfl, rfl⟩
    case round =>
      obtain ⟨k, d, hk, rfl, hwr⟩ := hrel
      have HW := Lib.hid hwr
      by_cases hlt : k < n
      · have c1 : wr.cell? ⟨g1, o1 + k, none⟩ = some (.string (T.getD k e0)) := by rw [hwr]; exact HC1.out k (by rw [← HL.out]; exact hlt)
        have d1 : wr.cell? ⟨g2, o2 + k, none⟩ = some (.string (T.getD k e0)) := by rw [hwr]; exact HC2.out k (by rw [← HL.out]; exact hlt)
        clear hwr
        have he := eq_text (T.getD k e0) (T.getD k e0)
        rw [decide_eq_true rfl] at he
        generalize T.getD k e0 = y at *
        go_wp2_with fail
        go_quiet (fail)
        go_wp2_with fail
        go_roundw
        case rel => exact ⟨k + 1, _, by omega, by go_num, drew_on HW.out _⟩
        case measure => simp [intOf]; omega
      · clear hwr
        go_wp2_with fail
        go_ret
        exact ⟨rfl, _, HW.out⟩
  · obtain rfl : n = 0 := by omega
    clear h1 h2 hn hm hp
    go_enter Try.func21, Try.ntmps21
    go_wp2_with fail
    go_loop [5] (fun i => i = .int .i64 0) (fun _ => 0)
    case atStart => rfl
    case round =>
      subst hrel
      go_wp2_with fail
      go_ret
      exact ⟨rfl, 0, rfl⟩
/-- A pointer to nobody's members. -/
theorem no_find (w : World) (c : ByteArray) : Calls Try.prog 57 #[.pointer none, .string c] w fun x w' => x = .returned (.int .i64 (-1)) ∧ Below w.heap.size w w' := by
  have HB := Lib.hid ((Below.refl w.heap.size w).alloc (Nat.le_refl _) (.cells #[.string c] 9))
  go_enter Try.func57, Try.ntmps57
  go_wp2_with fail
  go_ret
  exact ⟨rfl, HB.out⟩
theorem no_join (w : World) (c : ByteArray) (q : Int) : Calls Try.prog 54 #[.pointer none, .string c, .int .i64 q] w fun x w' => x = .returned (.bool false) ∧ Below w.heap.size w w' := by
  go_enter Try.func54, Try.ntmps54
  go_wp2_with fail
  go_ret
  exact ⟨rfl, Below.refl _ _⟩
theorem no_leave (w : World) (c : ByteArray) : Calls Try.prog 56 #[.pointer none, .string c] w fun x w' => x = .returned (.bool false) ∧ Below w.heap.size w w' := by
  have HF := Lib.hid (no_find w c)
  go_enter Try.func56, Try.ntmps56
  go_wp2_with fail
  refine HF.out.mono ?_
  rintro x w1 ⟨rfl, hb⟩
  have HB := Lib.hid hb
  clear hb
  go_wp2_with fail
  go_ret
  exact ⟨rfl, HB.out⟩
theorem no_online (w : World) (c : ByteArray) (b : Bool) : Calls Try.prog 55 #[.pointer none, .string c, .bool b] w fun x w' => x = .returned (.bool false) ∧ Below w.heap.size w w' := by
  have HF := Lib.hid (no_find w c)
  go_enter Try.func55, Try.ntmps55
  go_wp2_with fail
  refine HF.out.mono ?_
  rintro x w1 ⟨rfl, hb⟩
  have HB := Lib.hid hb
  clear hb
  go_wp2_with fail
  go_ret
  exact ⟨rfl, HB.out⟩
theorem no_all (w : World) : Calls Try.prog 20 #[.pointer none] w fun x w' => x = .returned (.slice none 0 0) ∧ w = w' := by
  go_enter Try.func20, Try.ntmps20
  go_wp2_with fail
  go_ret
  exact ⟨rfl, rfl⟩
theorem no_here (w : World) : Calls Try.prog 22 #[.pointer none] w fun x w' => x = .returned (.slice none 0 0) ∧ w = w' := by
  have HA := Lib.hid (no_all w)
  go_enter Try.func22, Try.ntmps22
  go_wp2_with fail
  refine HA.out.mono ?_
  rintro x w1 ⟨rfl, rfl⟩
  go_wp2_with fail
  go_loop [3, 9] (fun v i => v = .slice none 0 0 ∧ i = .int .i64 0) (fun _ _ => 0)
  case atStart => exact ⟨rfl, rfl⟩
  case round =>
    obtain ⟨rfl, rfl⟩ := hrel
    go_wp2_with fail
    go_ret
    exact ⟨rfl, rfl⟩
theorem no_owner (w : World) : Calls Try.prog 24 #[.pointer none] w fun x w' => x = .returned (.string ⟨#[]⟩) ∧ w = w' := by
  have HA := Lib.hid (no_here w)
  go_enter Try.func24, Try.ntmps24
  go_wp2_with fail
  refine HA.out.mono ?_
  rintro x w1 ⟨rfl, rfl⟩
  go_wp2_with fail
  go_ret
  exact ⟨rfl, rfl⟩
theorem no_gen (w : World) : Calls Try.prog 26 #[.pointer none] w fun x w' => x = .returned (.int .i64 0) ∧ w = w' := by
  go_enter Try.func26, Try.ntmps26
  go_wp2_with fail
  go_ret
  exact ⟨rfl, rfl⟩
theorem no_do (w : World) (k : Int) (c : ByteArray) (q : Int) : Calls Try.prog 15 #[.pointer none, .agg #[.int .i64 k, .string c, .int .i64 q]] w fun x w' => x = .returned (.bool false) ∧ Below w.heap.size w w' := by
  have hb0 : Below w.heap.size w (w.alloc (.cells #[.int .i64 k, .string c, .int .i64 q] 34)) := (Below.refl _ _).alloc (Nat.le_refl _) _
  have HB := Lib.hid hb0
  have HJ := Lib.hid (no_join (w.alloc (.cells #[.int .i64 k, .string c, .int .i64 q] 34)) c q)
  have HL := Lib.hid (no_leave (w.alloc (.cells #[.int .i64 k, .string c, .int .i64 q] 34)) c)
  have HO := Lib.hid (fun b => no_online (w.alloc (.cells #[.int .i64 k, .string c, .int .i64 q] 34)) c b)
  clear hb0
  by_cases k1 : k = 1
  · subst k1
    go_enter Try.func15, Try.ntmps15
    go_wp2_with fail
    refine HJ.out.mono ?_
    rintro x w1 ⟨rfl, hx⟩
    have HX := Lib.hid (HB.out.trans (hx.mono HB.out.size))
    clear hx
    go_wp2_with fail
    go_ret
    exact ⟨rfl, HX.out⟩
  · have b1 : (k == 1) = false := beq_eq_false_iff_ne.2 k1
    by_cases k2 : k = 2
    · subst k2
      clear k1 b1
      go_enter Try.func15, Try.ntmps15
      go_wp2_with fail
      refine HL.out.mono ?_
      rintro x w1 ⟨rfl, hx⟩
      have HX := Lib.hid (HB.out.trans (hx.mono HB.out.size))
      clear hx
      go_wp2_with fail
      go_ret
      exact ⟨rfl, HX.out⟩
    · have b2 : (k == 2) = false := beq_eq_false_iff_ne.2 k2
      by_cases k3 : k = 3
      · subst k3
        clear k1 b1 k2 b2
        go_enter Try.func15, Try.ntmps15
        go_wp2_with fail
        refine (HO.out _).mono ?_
        rintro x w1 ⟨rfl, hx⟩
        have HX := Lib.hid (HB.out.trans (hx.mono HB.out.size))
        clear hx
        go_wp2_with fail
        go_ret
        exact ⟨rfl, HX.out⟩
      · have b3 : (k == 3) = false := beq_eq_false_iff_ne.2 k3
        by_cases k4 : k = 4
        · subst k4
          clear k1 b1 k2 b2 k3 b3
          go_enter Try.func15, Try.ntmps15
          go_wp2_with fail
          refine (HO.out _).mono ?_
          rintro x w1 ⟨rfl, hx⟩
          have HX := Lib.hid (HB.out.trans (hx.mono HB.out.size))
          clear hx
          go_wp2_with fail
          go_ret
          exact ⟨rfl, HX.out⟩
        · have b4 : (k == 4) = false := beq_eq_false_iff_ne.2 k4
          clear k1 k2 k3 k4
          go_enter Try.func15, Try.ntmps15
          go_wp2_with fail
          go_ret
          exact ⟨rfl, HB.out⟩
end
end Go.Proofs.Ytkjghlmlfanafaa
