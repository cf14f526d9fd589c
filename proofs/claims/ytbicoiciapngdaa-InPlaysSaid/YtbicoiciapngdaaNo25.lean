/- What is proved here: numbers that came in which nobody made are none. No conditions. -/
import Derived.Test.YtbicoiciapngdaaTake25
namespace Go.Proofs.Ytbicoiciapngdaa
open Go.RowKit Go.Extern.Stop Go.Stop Go.Extern Go.Maps

theorem del_nil {P : Program} {w : World} {k e t : TypeId} (K : Keyed P k) (ht : P.underlying t = some (.map k e)) (ty : TypeId) {key : Value} {kl : Lit} (hkey : keyOf P k key = some kl) :
    (Builtin.delete_ #[t, k] ty #[.map none, key]).run P w = .ok (.tuple #[]) w := by
  simp [Builtin.delete_, run_underlying ht, K.check w _ hkey, Result.andThen]
/-- A pointer to numbers that nobody made: nil, or a zero object. -/
def NobodyI (w : World) (pv : Value) : Prop := pv = .pointer none ∨ ∃ g, pv = .pointer (some ⟨g, 0, none⟩) ∧ Blk w g 80 #[.int .i64 0, .map none]
theorem NobodyI.same {w w' : World} {pv : Value} (h : NobodyI w pv) (hf : Fr [] w w') : NobodyI w' pv := by
  rcases h with h | ⟨g, rfl, hb⟩
  · exact .inl h
  · exact .inr ⟨g, rfl, hb.fr hf (by simp)⟩
def none25 (kind qos : Int) : Int := if kind = 1 then (if qos ≠ 1 ∧ qos ≠ 2 then 4 else 3) else 0
section
variable {w : World} {pv : Value}
theorem noi_len (h : NobodyI w pv) : Calls Try.prog 49 #[pv] w fun e w' => e = .returned (.int .i64 0) ∧ w = w' := by
  rcases h with rfl | ⟨g, rfl, hb⟩
  · go_enter Try.func49, Try.ntmps49
    go_wp2
    go_ret
    exact ⟨rfl, rfl⟩
  · have c := hb.cell 1
    have hl := len_nil (w := w) (P := Try.prog) Try.underlying78 3
    go_enter Try.func49, Try.ntmps49
    go_wp2
    go_ret
    exact ⟨rfl, rfl⟩
theorem noi_done (h : NobodyI w pv) (x : Int) (hx : (Lit.int .i64 x).wf = true) : Calls Try.prog 50 #[pv, .int .i64 x] w fun e w' => e = .returned (.bool false) ∧ Fr [] w w' := by
  rcases h with rfl | ⟨g, rfl, hb⟩
  · go_enter Try.func50, Try.ntmps50
    go_wp2
    go_ret
    exact ⟨rfl, Fr.refl _ _⟩
  · have c := hb.cell 1
    have hl := look_nil (w := w) true K3 Try.underlying78 (z3 w) (keyOf_int_mk Try.underlying3 hx)
    have hd := del_nil (w := w) K3 Try.underlying78 0 (keyOf_int_mk Try.underlying3 hx)
    go_enter Try.func50, Try.ntmps50
    go_wp2
    go_ret
    exact ⟨rfl, Fr.refl _ _⟩
theorem noi_release (h : NobodyI w pv) (x : Int) (hx : (Lit.int .i64 x).wf = true) : Calls Try.prog 52 #[pv, .int .i64 x] w fun e w' => e = .returned (.bool false) ∧ Fr [] w w' := by
  rcases h with rfl | ⟨g, rfl, hb⟩
  · go_enter Try.func52, Try.ntmps52
    go_wp2
    go_ret
    exact ⟨rfl, Fr.refl _ _⟩
  · have c := hb.cell 1
    have hl := look_nil (w := w) false K3 Try.underlying78 (z3 w) (keyOf_int_mk Try.underlying3 hx)
    go_enter Try.func52, Try.ntmps52
    go_wp2
    go_ret
    exact ⟨rfl, Fr.refl _ _⟩
theorem noi_take (h : NobodyI w pv) (x qos : Int) (hx : (Lit.int .i64 x).wf = true) : Calls Try.prog 51 #[pv, .int .i64 x, .int .i64 qos] w fun e w' => e = .returned (.int .i64 (none25 1 qos)) ∧ Fr [] w w' := by
  by_cases hq : qos ≠ 1 ∧ qos ≠ 2
  · have e : none25 1 qos = 4 := by unfold none25; rw [if_pos rfl, if_pos hq]
    rw [e]
    have q1 : (qos != 1) = true := by rw [bne_iff_ne]; exact hq.1
    have q2 : (qos != 2) = true := by rw [bne_iff_ne]; exact hq.2
    clear e hq
    go_enter Try.func51, Try.ntmps51
    go_wp2_with fail
    go_ret
    exact ⟨rfl, Fr.refl _ _⟩
  · have e : none25 1 qos = 3 := by unfold none25; rw [if_pos rfl, if_neg hq]
    rw [e]
    have hq' : qos = 1 ∨ qos = 2 := by omega
    clear hq e
    rcases h with rfl | ⟨g, rfl, hb⟩
    · rcases hq' with rfl | rfl
      all_goals
        go_enter Try.func51, Try.ntmps51
        go_wp2_with fail
        go_ret
        exact ⟨rfl, Fr.refl _ _⟩
    · have c0 := hb.cell 0
      have c := hb.cell 1
      have hl := look_nil (w := w) true K3 Try.underlying78 (z3 w) (keyOf_int_mk Try.underlying3 hx)
      have hlen : ∀ n, (Builtin.len_ #[78] 3 #[.map none]).run Try.prog (w.drewN n) = .ok (.int .i64 0) (w.drewN n) := fun n => len_nil Try.underlying78 3
      rcases hq' with rfl | rfl
      all_goals
        go_enter Try.func51, Try.ntmps51
        go_wp2_with fail
        go_quiet (fail)
        go_wp2_with fail
        go_ret
        exact ⟨rfl, (Fr.refl _ _).drewN _⟩
theorem noi_do (h : NobodyI w pv) (kind id qos : Int) (hid : (Lit.int .i64 id).wf = true) : Calls Try.prog 45 #[pv, .agg #[.int .i64 kind, .int .i64 id, .int .i64 qos]] w fun e w' => e = .returned (.tuple #[.int .i64 (none25 kind qos), .bool false]) ∧ Fr [] w w' := by
  have hf0 : Fr [] w (w.alloc (.cells #[.int .i64 kind, .int .i64 id, .int .i64 qos] 83)) := (Fr.refl _ _).alloc _
  have h0 := h.same hf0
  have HF0 := Lib.hid hf0
  clear hf0 h
  by_cases h1 : kind = 1
  · subst h1
    have HC := Lib.hid (noi_take h0 id qos hid)
    clear h0
    generalize none25 1 qos = r at *
    go_enter Try.func45, Try.ntmps45
    go_wp2_with fail
    refine (HC.out).mono ?_
    rintro e w1 ⟨rfl, hf⟩
    have HF := Lib.hid (HF0.out.then hf)
    clear hf
    go_wp2
    go_ret2
    exact ⟨rfl, HF.out⟩
  · have e : none25 kind qos = 0 := by unfold none25; rw [if_neg h1]
    rw [e]
    have n1 : ((kind : Int) == 1) = false := beq_eq_false_iff_ne.2 h1
    clear e
    by_cases h2 : kind = 2
    · subst h2
      have HC := Lib.hid (noi_done h0 id hid)
      clear h0 n1 h1
      go_enter Try.func45, Try.ntmps45
      go_wp2_with fail
      refine (HC.out).mono ?_
      rintro e w1 ⟨rfl, hf⟩
      have HF := Lib.hid (HF0.out.then hf)
      clear hf
      go_wp2
      go_ret2
      exact ⟨rfl, HF.out⟩
    · have n2 : ((kind : Int) == 2) = false := beq_eq_false_iff_ne.2 h2
      by_cases h3 : kind = 3
      · subst h3
        have HC := Lib.hid (noi_release h0 id hid)
        clear h0 n1 h1 n2 h2
        go_enter Try.func45, Try.ntmps45
        go_wp2_with fail
        refine (HC.out).mono ?_
        rintro e w1 ⟨rfl, hf⟩
        have HF := Lib.hid (HF0.out.then hf)
        clear hf
        go_wp2
        go_ret2
        exact ⟨rfl, HF.out⟩
      · have n3 : ((kind : Int) == 3) = false := beq_eq_false_iff_ne.2 h3
        clear h0 h1 h2 h3
        go_enter Try.func45, Try.ntmps45
        go_wp2
        go_ret2
        exact ⟨rfl, HF0.out⟩
end
end Go.Proofs.Ytbicoiciapngdaa
