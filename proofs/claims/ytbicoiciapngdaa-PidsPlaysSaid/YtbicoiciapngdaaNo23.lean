/- What is proved here: numbers that nobody made are none. No conditions. -/
import Derived.Test.YtbicoiciapngdaaPidsW23
namespace Go.Proofs.Ytbicoiciapngdaa
open Go.RowKit Go.Extern.Stop Go.Stop Go.Extern Go.Maps

/-- A pointer to numbers that nobody made: nil, or a zero object. -/
def Nobody (w : World) (pv : Value) : Prop := pv = .pointer none ∨ ∃ g, pv = .pointer (some ⟨g, 0, none⟩) ∧ Blk w g 57 #[.int .i64 0, .int .i64 0, .map none]
theorem Nobody.fr {X : List Nat} {w w' : World} {pv : Value} (h : Nobody w pv) (hf : Fr X w w') (hx : ∀ g, pv = .pointer (some ⟨g, 0, none⟩) → g ∉ X) : Nobody w' pv := by
  rcases h with h | ⟨g, rfl, hb⟩
  · exact .inl h
  · exact .inr ⟨g, rfl, hb.fr hf (hx g rfl)⟩
theorem Nobody.same {w w' : World} {pv : Value} (h : Nobody w pv) (hf : Fr [] w w') : Nobody w' pv := h.fr hf (by simp)
section
variable {w : World} {pv : Value}
theorem no_len (h : Nobody w pv) : Calls Try.prog 38 #[pv] w fun e w' => e = .returned (.int .i64 0) ∧ w = w' := by
  rcases h with rfl | ⟨g, rfl, hb⟩
  · go_enter Try.func38, Try.ntmps38
    go_wp2
    go_ret
    exact ⟨rfl, rfl⟩
  · have c := hb.cell 2
    have hl := len_nil (w := w) (P := Try.prog) Try.underlying55 3
    go_enter Try.func38, Try.ntmps38
    go_wp2
    go_ret
    exact ⟨rfl, rfl⟩
theorem no_is (h : Nobody w pv) (x : Int) (hx : (Lit.int .i64 x).wf = true) : Calls Try.prog 39 #[pv, .int .i64 x] w fun e w' => e = .returned (.bool false) ∧ Fr [] w w' := by
  rcases h with rfl | ⟨g, rfl, hb⟩
  · go_enter Try.func39, Try.ntmps39
    go_wp2
    go_ret
    exact ⟨rfl, Fr.refl _ _⟩
  · have c := hb.cell 2
    have hl := look_nil (w := w) true K3' Try.underlying55 (z89 w) (keyOf_int_mk Try.underlying3 hx)
    go_enter Try.func39, Try.ntmps39
    go_wp2
    go_ret
    exact ⟨rfl, (Fr.refl _ _).alloc _⟩
theorem no_next (h : Nobody w pv) : Calls Try.prog 41 #[pv] w fun e w' => e = .returned (.tuple #[.int .i64 0, .bool false]) ∧ Fr [] w w' := by
  rcases h with rfl | ⟨g, rfl, hb⟩
  · go_enter Try.func41, Try.ntmps41
    go_wp2
    go_ret2
    exact ⟨rfl, Fr.refl _ _⟩
  · have c := hb.cell 0
    go_enter Try.func41, Try.ntmps41
    go_wp2
    go_loop [12] (fun i => i = .int .i64 0) (fun _ => 0)
    case atStart => exact rfl
    case round =>
      subst hrel
      go_wp2
      go_ret2
      exact ⟨rfl, Fr.refl _ _⟩
theorem no_use (h : Nobody w pv) (x : Int) (_hx : (Lit.int .i64 x).wf = true) : Calls Try.prog 56 #[pv, .int .i64 x] w fun e w' => e = .returned (.bool false) ∧ Fr [] w w' := by
  rcases h with rfl | ⟨g, rfl, hb⟩
  · go_enter Try.func56, Try.ntmps56
    go_wp2_with fail
    go_ret
    exact ⟨rfl, Fr.refl _ _⟩
  · have c := hb.cell 0
    by_cases h0 : x < 1
    · go_enter Try.func56, Try.ntmps56
      go_wp2_with fail
      go_ret
      exact ⟨rfl, Fr.refl _ _⟩
    · have h1 : 0 < x := by omega
      go_enter Try.func56, Try.ntmps56
      go_wp2_with fail
      go_ret
      exact ⟨rfl, Fr.refl _ _⟩
theorem no_free (h : Nobody w pv) (x : Int) (hx : (Lit.int .i64 x).wf = true) : Calls Try.prog 42 #[pv, .int .i64 x] w fun e w' => e = .returned (.bool false) ∧ Fr [] w w' := by
  have HI := Lib.hid (no_is h x hx)
  go_enter Try.func42, Try.ntmps42
  go_wp2_with fail
  refine (HI.out).mono ?_
  rintro e w1 ⟨rfl, hf⟩
  have HF := Lib.hid hf
  clear hf
  go_wp2_with fail
  go_ret
  exact ⟨rfl, HF.out⟩
theorem no_do (h : Nobody w pv) (kind id : Int) (hid : (Lit.int .i64 id).wf = true) : Calls Try.prog 34 #[pv, .agg #[.int .i64 kind, .int .i64 id]] w fun e w' => e = .returned (.tuple #[.int .i64 0, .bool false]) ∧ Fr [] w w' := by
  have hf0 : Fr [] w (w.alloc (.cells #[.int .i64 kind, .int .i64 id] 62)) := (Fr.refl _ _).alloc _
  have h0 := h.same hf0
  have HF0 := Lib.hid hf0
  clear hf0 h
  by_cases h1 : kind = 1
  · subst h1
    have HC := Lib.hid (no_next h0)
    clear h0
    go_enter Try.func34, Try.ntmps34
    go_wp2_with fail
    refine (HC.out).mono ?_
    rintro e w1 ⟨rfl, hf⟩
    have HF := Lib.hid (HF0.out.then hf)
    clear hf
    go_wp2
    go_ret2
    exact ⟨rfl, HF.out⟩
  · have n1 : ((kind : Int) == 1) = false := beq_eq_false_iff_ne.2 h1
    by_cases h2 : kind = 2
    · subst h2
      have HC := Lib.hid (no_use h0 id hid)
      clear h0 n1 h1
      go_enter Try.func34, Try.ntmps34
      go_wp2_with fail
      refine (HC.out).mono ?_
      rintro e w1 ⟨rfl, hf⟩
      have HF := Lib.hid (HF0.out.then hf)
      clear hf
      go_wp2
      go_ret2
      exact ⟨rfl, HF.out⟩
    · have n2 : ((kind : Int) == 2) = false := beq_eq_false_iff_ne.2 h2
      by_cases h3 : kind = 3
      · subst h3
        have HC := Lib.hid (no_free h0 id hid)
        clear h0 n1 h1 n2 h2
        go_enter Try.func34, Try.ntmps34
        go_wp2_with fail
        refine (HC.out).mono ?_
        rintro e w1 ⟨rfl, hf⟩
        have HF := Lib.hid (HF0.out.then hf)
        clear hf
        go_wp2
        go_ret2
        exact ⟨rfl, HF.out⟩
      · have n3 : ((kind : Int) == 3) = false := beq_eq_false_iff_ne.2 h3
        clear h0 h1 h2 h3
        go_enter Try.func34, Try.ntmps34
        go_wp2
        go_ret2
        exact ⟨rfl, HF0.out⟩
end
end Go.Proofs.Ytbicoiciapngdaa
