/- What is proved here: what the statements' write does to a writer, and to nobody; a Writer of package field that is nil. Conditions: the writer is there, with few bytes; what the rows list of the package's variables. -/
import Derived.Test.YtinhecggmakbnaaGreatDoorWri04
namespace Go.Proofs.YtinhecggmakbnaaGreatDoor
open Go.RowKit Go.Extern.Stop Go.Stop Go.Extern
section
variable {w w' : World} {S : Nat → Addr} {B g : Nat} {v : Value} {W : EV}
theorem nnumber (n k : Int) (w : World) : Calls Tryz.prog 118 #[.pointer none, .int .i64 n, .int .i64 k] w fun x w' => x = .returned (.tuple #[]) ∧ w = w' := by
  go_enter Tryz.func118, Tryz.ntmps118
  go_wp2_with fail
  refine (wended_nil _).mono ?_
  rintro x w1 ⟨rfl, rfl⟩
  go_wp2
  exact bodyPost_ret (v := .tuple #[]) (by simp [results, Tryz.results118, go_sem]) rfl ⟨rfl, rfl⟩
theorem nu8 (n : Int) (w : World) : Calls Tryz.prog 49 #[.pointer none, .int .i64 n] w fun x w' => x = .returned (.tuple #[]) ∧ w = w' := by
  go_enter Tryz.func49, Tryz.ntmps49
  go_wp2_with fail
  refine (nnumber n 1 _).mono ?_
  rintro x w1 ⟨rfl, rfl⟩
  go_wp2
  exact bodyPost_end (v := .tuple #[]) (by simp [results, Tryz.results49, go_sem]) rfl ⟨rfl, rfl⟩
theorem nu16 (n : Int) (w : World) : Calls Tryz.prog 51 #[.pointer none, .int .i64 n] w fun x w' => x = .returned (.tuple #[]) ∧ w = w' := by
  go_enter Tryz.func51, Tryz.ntmps51
  go_wp2_with fail
  refine (nnumber n 2 _).mono ?_
  rintro x w1 ⟨rfl, rfl⟩
  go_wp2
  exact bodyPost_end (v := .tuple #[]) (by simp [results, Tryz.results51, go_sem]) rfl ⟨rfl, rfl⟩
theorem nu32 (n : Int) (w : World) : Calls Tryz.prog 177 #[.pointer none, .int .i64 n] w fun x w' => x = .returned (.tuple #[]) ∧ w = w' := by
  go_enter Tryz.func177, Tryz.ntmps177
  go_wp2_with fail
  refine (nnumber n 4 _).mono ?_
  rintro x w1 ⟨rfl, rfl⟩
  go_wp2
  exact bodyPost_end (v := .tuple #[]) (by simp [results, Tryz.results177, go_sem]) rfl ⟨rfl, rfl⟩
theorem nvar (n : Int) (w : World) : Calls Tryz.prog 114 #[.pointer none, .int .i64 n] w fun x w' => x = .returned (.tuple #[]) ∧ w = w' := by
  go_enter Tryz.func114, Tryz.ntmps114
  go_wp2_with fail
  refine (wended_nil _).mono ?_
  rintro x w1 ⟨rfl, rfl⟩
  go_wp2
  exact bodyPost_ret (v := .tuple #[]) (by simp [results, Tryz.results114, go_sem]) rfl ⟨rfl, rfl⟩
theorem ntext (s : ByteArray) (w : World) : Calls Tryz.prog 48 #[.pointer none, .string s] w fun x w' => x = .returned (.tuple #[]) ∧ w = w' := by
  go_enter Tryz.func48, Tryz.ntmps48
  go_wp2_with fail
  refine (wended_nil _).mono ?_
  rintro x w1 ⟨rfl, rfl⟩
  go_wp2
  exact bodyPost_ret (v := .tuple #[]) (by simp [results, Tryz.results48, go_sem]) rfl ⟨rfl, rfl⟩
theorem nraw (s : ByteArray) (w : World) : Calls Tryz.prog 52 #[.pointer none, .string s] w fun x w' => x = .returned (.tuple #[]) ∧ w = w' := by
  go_enter Tryz.func52, Tryz.ntmps52
  go_wp2_with fail
  refine (wended_nil _).mono ?_
  rintro x w1 ⟨rfl, rfl⟩
  go_wp2
  exact bodyPost_end (v := .tuple #[]) (by simp [results, Tryz.results52, go_sem]) rfl ⟨rfl, rfl⟩
theorem nbin (s : ByteArray) (hs : s.size ≤ 9223372036854775807) (w : World) : Calls Tryz.prog 53 #[.pointer none, .string s] w fun x w' => x = .returned (.tuple #[]) ∧ w = w' := by
  have hz : s.size ≤ 9223372036854775807 := hs
  go_enter Tryz.func53, Tryz.ntmps53
  go_wp2_with fail
  refine (nu16 s.size _).mono ?_
  rintro x w1 ⟨rfl, rfl⟩
  go_wp2_with fail
  refine (nraw s _).mono ?_
  rintro x w2 ⟨rfl, rfl⟩
  go_wp2
  exact bodyPost_end (v := .tuple #[]) (by simp [results, Tryz.results53, go_sem]) rfl ⟨rfl, rfl⟩
theorem nbytes (w : World) : Calls Tryz.prog 113 #[.pointer none] w fun x w' => x = .returned (.tuple #[.string ⟨#[]⟩, .nilIface]) ∧ w = w' := by
  go_enter Tryz.func113, Tryz.ntmps113
  go_wp2
  go_ret2
  exact ⟨rfl, rfl⟩
/-- A field as a value. -/
def FV.agg (a : FV) : Value := .agg #[.int .i64 a.k, .int .i64 a.n, .string a.s]
theorem stepW_none (W : EV) : stepW W ⟨0, 0, []⟩ = W := by
  obtain ⟨no, a, L⟩ := W
  by_cases h0 : no = 0
  · subst h0
    rw [stepW_ok rfl rfl, List.append_nil]
  · rw [stepW_stuck h0]
theorem WSays.pre {w w1 : World} {W' : EV} {x : Ending} {w' : World} (h : WSays w1 S B g v W' x w') (hb : Below w.heap.size w w1) : WSays w S B g v W' x w' := ⟨h.1, h.2.choose, h.2.choose_spec.pre hb⟩
end
end Go.Proofs.YtinhecggmakbnaaGreatDoor
