/- What is proved here: an argument of type [2]uint16 is two numbers, each in its range; one of type []string is no longer than its capacity. No conditions. -/
import Derived.Test.YthplhdepllloaaaDoorLib
import Derived.Test.YthplhdepllloaaaDoorTexts
import Derived.WideKeyArr2
import Derived.ChangeSame
namespace Go.Proofs.YthplhdepllloaaaDoor
set_option maxRecDepth 100000
open Go.ChangeShapes Go.WideShapes Go.RowKit
section
variable {H : Type} {enc : TypeId × Value → H} {w : World}
theorem arr2_open {r : Reach} {b0 b1 : Nat} {sp : Nat → Bool} {held : Bool} {v : Value} {d : DataW H} {ps : List MemPlace} (hval : Value.okWide Tryd.prog w r b0 42 v) (hd : DataW.Trod enc Tryd.prog w b1 sp held 42 v d ps) :
    ∃ a0 a1 : Int, v = .agg #[.int .u16 a0, .int .u16 a1] ∧ (Lit.int .u16 a0).wf = true ∧ (Lit.int .u16 a1).wf = true := by
  have hu := Tryd.underlying42
  have c2 : Tryd.prog.cellsOf 42 = 2 := by kernel_rfl
  have c1 : Tryd.prog.cellsOf 41 = 1 := by kernel_rfl
  simp only [Value.okWide, hu] at hval
  obtain ⟨cs, rfl, h2, _⟩ := hval
  rw [c2] at h2
  obtain ⟨fuel, hf⟩ := hd
  cases fuel with
  | zero => simp [DataW.trod] at hf
  | succ m =>
    rw [DataW.trod_step] at hf
    unfold DataW.trodStep at hf
    simp only [hu, Value.cells] at hf
    rw [if_pos (by rw [c2]; simpa using h2)] at hf
    simp only [Option.map_eq_some_iff] at hf
    obtain ⟨ys, hy, _⟩ := hf
    rw [show List.range 2 = [0, 1] from rfl, List.mapM_cons, List.mapM_cons, c1] at hy
    simp only [bind, Option.bind_eq_some_iff] at hy
    obtain ⟨y0, h0, ys1, ⟨y1, h1, _⟩, _⟩ := hy
    obtain ⟨a0, e0, _, w0⟩ := DataW.trod_int Tryd.underlying41 h0
    obtain ⟨a1, e1, _, w1⟩ := DataW.trod_int Tryd.underlying41 h1
    refine ⟨a0, a1, ?_, w0, w1⟩
    obtain ⟨l⟩ := cs
    match l, h2, e0, e1 with
    | [u0, u1], _, e0, e1 =>
      injection e0 with e0 _
      injection e1 with e1 _
      rw [e0, e1]
theorem strs_open22 {r : Reach} {b0 b1 : Nat} {sp : Nat → Bool} {held : Bool} {v : Value} {d : DataW H} {ps : List MemPlace} (hval : Value.okWide Tryd.prog w r b0 23 v) (hd : DataW.Trod enc Tryd.prog w b1 sp held 23 v d ps) :
    ∃ a len cap xs, v = .slice a len cap ∧ len ≤ maxLen ∧ StrsOf w a len xs ∧ len ≤ cap := by
  obtain ⟨a, len, cap, xs, rfl, h1, h2⟩ := strs_open hval hd
  refine ⟨a, len, cap, xs, rfl, h1, h2, ?_⟩
  obtain ⟨fuel, hf⟩ := hd
  rcases ChangeShapes.open_strings Tryd.underlying23 Tryd.underlying9 (by kernel_rfl) hf with ⟨hcs, _⟩ | ⟨_, _, _, _, hcs, _, hl, _, _, _, _, _⟩
  · simp [Value.cells] at hcs
    obtain ⟨rfl, rfl, rfl⟩ := hcs
    exact Nat.le_refl _
  · simp [Value.cells] at hcs
    obtain ⟨rfl, rfl, rfl⟩ := hcs
    exact hl
end
end Go.Proofs.YthplhdepllloaaaDoor
