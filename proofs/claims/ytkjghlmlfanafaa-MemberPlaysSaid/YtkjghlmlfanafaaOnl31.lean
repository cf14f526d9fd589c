/- What is proved here: coming and going of members. Conditions: the members are there; few of them. -/
import Derived.Test.YtkjghlmlfanafaaAct31
namespace Go.Proofs.Ytkjghlmlfanafaa
open Go.RowKit Go.Extern.Stop Go.Stop Go.Extern
section
variable {w w' : World} {B g : Nat} {v : Value} {L : ML} {gen : Nat}
theorem MObj.regen (h : MObj w B g v L gen) (gen' : Nat) : MObj (w.setCell ⟨g, 1, none⟩ (.int .i64 gen')) B g v L gen' := by
  refine ⟨h.low, h.blk.store 1 (.int .i64 gen'), h.row.kept (grown_set1 w g _) ?_⟩
  cases hv : v.ownBlock with
  | none => exact .inl rfl
  | some k => exact .inr (fun e => h.apart hv (Option.some.inj e).symm)
def OnlineSays (w : World) (B g : Nat) (v : Value) (L : ML) (gen : Nat) (c : ByteArray) (b : Bool) (x : Ending) (w' : World) : Prop :=
  (∃ i : Nat, idxM L c = i ∧ i < L.length ∧ (((L.getD i m0).on = b ∧ x = .returned (.bool false) ∧ MStep w w' B g v v L gen) ∨ ((L.getD i m0).on ≠ b ∧ x = .returned (.bool true) ∧ MStep w w' B g v v (L.set i (setOn (L.getD i m0) b)) (gen + 1)))) ∨
  (idxM L c = -1 ∧ x = .returned (.bool false) ∧ MStep w w' B g v v L gen)
set_option maxHeartbeats 1000000 in
theorem online_any (h : MObj w B g v L gen) (hm : L.length ≤ 900) (hg : gen ≤ 1000000) (c : ByteArray) (b : Bool) : Calls Try.prog 55 #[.pointer (some ⟨g, 0, none⟩), .string c, .bool b] w (OnlineSays w B g v L gen c b) := by
  have HF := Lib.hid (find_any h (by omega) c)
  have HM := Lib.hid h
  rcases idxM_or L c with ⟨i, hi, hil⟩ | hi
  · rw [hi] at HF
    have HI := Lib.hid hi
    clear hi h
    go_enter Try.func55, Try.ntmps55
    go_wp2_with fail
    refine HF.out.mono ?_
    rintro x w1 ⟨rfl, hb1⟩
    have hM1 := HM.out.below hb1
    have HM1 := Lib.hid hM1
    have HB1 := Lib.hid hb1
    have HST := Lib.hid (HM.out.step hb1)
    obtain ⟨a, cp, rfl⟩ := hM1.form
    have c0 : w1.cell? ⟨g, 0, none⟩ = some (.slice a L.length cp) := hM1.blk.cell 0
    obtain ⟨gr, off, rfl, hcc⟩ := row_mrd hM1.row (by omega)
    have hoff : off = 0 := by
      rcases hM1.row.2 with ⟨e, _⟩ | ⟨_, _, _, e, _⟩
      · cases e
      · injection e with e; injection e with e; injection e
    subst hoff
    obtain ⟨c1, c2, c3, c4⟩ := hcc i hil
    have c4' : w1.cell? ⟨gr, i * 4 + 3, none⟩ = some (.bool (L.getD i m0).on) := by simpa using c4
    have f4 := hM1.row.frozenAt (i * 4 + 3)
    have hne : g ≠ gr := hM1.apart rfl
    have hM2 := hM1.stored (L' := L.set i (setOn (L.getD i m0) b)) (by simp) (mcs_seton L i hil b)
    have d0 : (w1.setCell ⟨gr, i * 4 + 3, none⟩ (.bool b)).cell? ⟨g, 1, none⟩ = some (.int .i64 gen) := hM2.blk.cell 1
    have d1 : (w1.setCell ⟨gr, i * 4 + 3, none⟩ (.bool b)).frozen? ⟨g, 1, none⟩ = false := hM2.blk.frozen 1
    have HM3 := Lib.hid (hM2.regen (gen + 1))
    have HFR := Lib.hid (((Fr.of_below (X := g :: (Value.slice (some ⟨gr, 0, none⟩) L.length cp).ownBlock.toList) HB1.out).setCell (p := ⟨gr, i * 4 + 3, none⟩) (.inl (by simp [Value.ownBlock])) (.bool b)).setCell (p := ⟨g, 1, none⟩) (.inl (by simp)) (.int .i64 ((gen + 1 : Nat) : Int)))
    clear hcc hM1 hb1 HM c1 c2 c3 c4 hM2
    by_cases hon : (L.getD i m0).on = b
    · rw [hon] at c4'
      have HON := Lib.hid hon
      clear hon
      have hbb : (b == b) = true := by cases b <;> rfl
      go_wp2_with fail
      go_ret
      exact .inl ⟨i, HI.out, hil, .inl ⟨HON.out, rfl, HST.out⟩⟩
    · have HON := Lib.hid hon
      obtain ⟨bo, hbo⟩ : ∃ bo, bo = (L.getD i m0).on := ⟨_, rfl⟩
      rw [← hbo] at c4'
      have hbb : (bo == b) = false := by rw [hbo]; exact beq_eq_false_iff_ne.2 hon
      clear hon hbo
      go_wp2_with fail
      go_ret
      exact .inl ⟨i, HI.out, hil, .inr ⟨HON.out, rfl, HM3.out, HFR.out, fun k hk => .inl hk⟩⟩
  · rw [hi] at HF
    have HI := Lib.hid hi
    clear hi h
    go_enter Try.func55, Try.ntmps55
    go_wp2_with fail
    refine HF.out.mono ?_
    rintro x w1 ⟨rfl, hb1⟩
    have HST := Lib.hid (HM.out.step hb1)
    clear hb1
    go_wp2_with fail
    go_ret
    exact .inr ⟨HI.out, rfl, HST.out⟩
end
end Go.Proofs.Ytkjghlmlfanafaa
