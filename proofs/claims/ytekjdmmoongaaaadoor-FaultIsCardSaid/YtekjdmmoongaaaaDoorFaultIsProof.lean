/- What is proved here: the card of FaultIs: for every three numbers the statement answers true and its arguments read as they did. Conditions: those that the card itself prints. -/
import Derived.Test.YtekjdmmoongaaaaDoorCards
import Derived.Test.YtekjdmmoongaaaaDoorTie
import Derived.Test.YtekjdmmoongaaaaDoorEnv
import Derived.Test.YtekjdmmoongaaaaDoorFaultIs
import Derived.Lib.LaidTab
import Derived.JoinedOf
import Derived.Stop.Joined
namespace Go.Proofs.YtekjdmmoongaaaaDoor
open Go.ChangeShapes Go.WideShapes Go.ChangeAt Go.RowKit

theorem Tryd.cells5 : Tryd.prog.cellsOf 89 = 1 := by kernel_rfl
theorem Tryd.cells96 : Tryd.prog.cellsOf 96 = 20 := by kernel_rfl
theorem Tryd.gPow : Tryd.prog.globalNamed "internal/strconv.uint64pow10" = some 8 := by kernel_rfl
theorem Tryd.gPowType : (Tryd.prog.globals[8]?).map (·.type) = some 96 := by kernel_rfl
theorem env_of_is {W : World} (h : laidMetH Tryd.prog Rows.faultIsRow.laid W) : ∃ S, Env W S := by
  have h' : laidMet Tryd.prog (tablesLaid ++ sentsLaid) W ∧ handlesMet Tryd.prog handleLaid W := h
  exact env_of h'.1.tail.tail.tail h'.2
theorem tab_of_is {W : World} (h : laidMetH Tryd.prog Rows.faultIsRow.laid W) : Lib.TabIs Tryd.prog W "internal/strconv.uint64pow10" .u64 Lib.pow10Tab := by
  have h' : laidMet Tryd.prog (tablesLaid ++ sentsLaid) W ∧ handlesMet Tryd.prog handleLaid W := h
  exact Lib.tabIs_of_head (rest := sentsLaid) Tryd.gPow Tryd.gPowType Tryd.underlying96 Tryd.underlying89 Tryd.cells5 Tryd.cells96 h'.1.tail.tail
theorem door_is (os : Os) (args : Array Value) : laidMetH Tryd.prog Rows.faultIsRow.laid ((World.doorLaid Tryd.prog 164 os).forCall (fun _ _ => 0) ⟨#[], args, []⟩).memory :=
  laidMetH_of_parts3 (fuel := 8) (laidMet_of_run' 8 (by kernel_rfl) (by kernel_rfl)) (by kernel_rfl) (by kernel_rfl)
theorem i64_range {n : Int} (h : (Lit.int .i64 n).wf = true) : -9223372036854775808 ≤ n ∧ n ≤ 9223372036854775807 := by
  simpa [Lit.wf, IntKind.min, IntKind.max, IntKind.signed, IntKind.bits] using h

set_option maxRecDepth 100000 in
theorem is_lifted (os : Os) (started : os.Started) (H : Type) (enc : TypeId × Value → H) :
    ReturnsInHanded {} Tryd.checked os 3 .any (fun w args => (Rows.faultIsSpec.pre enc Tryd.prog Tryd.f3 [] false w args ∧ laidMetH Tryd.prog Rows.faultIsRow.laid w) ∧ sizedMet enc Tryd.prog Tryd.f3 (OpenSpec.ofChange Rows.faultIsSpec) false w args)
      (Rows.faultIsSpec.post enc Tryd.prog Tryd.f3 false true false false) := by
  refine returnsInHanded_of_change_and (C := Tryd.checked) (X := fun w _ => laidMetH Tryd.prog Rows.faultIsRow.laid w) (fun _ _ _ hh h => h.of_heap hh) Tryd.own started (by kernel_rfl) Tryd.func3
    (ChangeSpec.witness_shaped (enc := enc) (C := Tryd.checked) (os := os) (X := fun w _ => laidMetH Tryd.prog Rows.faultIsRow.laid w) false (World.doorLaid Tryd.prog 164 os) #[.int .i64 0, .int .i64 0, .int .i64 0] 8 rfl (World.shaped_of_RefB (by kernel_rfl) (by kernel_rfl)) (by kernel_rfl) (by kernel_rfl) (by kernel_rfl) (door_is os _)) ?_
  intro W base args ds gs before hval0 hW _ _ hL _
  have hval : ∀ (j : Nat) t v, Tryd.f3.params[j]? = some t → args[j]? = some v → Value.okWide Tryd.prog W .any base t v := hval0
  have hW' := hW
  obtain ⟨p, q, hA0, hV, rfl, hfz, hnd⟩ := hW
  have hA : DataW.TrodAll enc Tryd.prog W 0 (fun _ => true) true Tryd.f3.params.toList args.toList ds p := hA0
  rw [Tryd.params3] at hA hval
  obtain ⟨v0, v1, v2, d0, d1, d2, p0, p1, p2, rfl, rfl, rfl, h0, h1, h2⟩ := trodAll_three hA
  obtain ⟨n, rfl, rfl, rfl, wn⟩ := open_int Tryd.underlying3 (hval 0 3 v0 rfl rfl) h0
  obtain ⟨r, rfl, rfl, rfl, wr⟩ := open_int Tryd.underlying3 (hval 1 3 v1 rfl rfl) h1
  obtain ⟨a, rfl, rfl, rfl, wa⟩ := open_int Tryd.underlying3 (hval 2 3 v2 rfl rfl) h2
  obtain ⟨S, hE⟩ := env_of_is hL
  have hT := tab_of_is hL
  have walk : Calls Tryd.prog 3 #[.int .i64 n, .int .i64 r, .int .i64 a] W fun e w' => e = .returned (.bool true) ∧ Below W.heap.size W w' := by
    by_cases hn : n < 1 ∨ 7 < n
    · exact is_none n r a S W hE (kind_none n W hn)
    · obtain ⟨i, hi, hni, hk⟩ := kind_some n S W hE (by omega) (by omega)
      have b1 := i64_range wr
      have b2 := i64_range wa
      exact is_some n r a i hi hni S W hE hT hk b1.1 b1.2 b2.1 b2.2
  refine walk.mono fun e W' ⟨he, hb⟩ => ?_
  subst he
  exact ⟨_, rfl, law_post Tryd.laidOut (by kernel_rfl) rfl (by kernel_rfl) Tryd.underlying4 hW' rfl hb⟩

theorem faultIs_said : Rows.FaultIsSaid :=
  OpenClaim.holds_of_wide 3 Tryd.f3 rfl rfl rfl rfl rfl rfl rfl ⟨rfl, rfl, rfl, rfl, rfl⟩ rfl rfl rfl rfl rfl (by kernel_rfl) Tryd.func3 (by kernel_rfl)
    (of_decide_eq_true (by kernel_rfl)) (by unfold Func.isWrapper; first | (rw [if_pos (by decide +kernel)]; kernel_rfl) | (rw [if_neg (by decide +kernel)]; exact ⟨rfl, rfl⟩))
    (fun os started H enc _ => is_lifted os started H enc)

/-- No parameter wants a stand-in. -/
theorem is_plain (f : FuncId) (fn : Func) (hf : Tryd.pinned.checked.prog.funcNamed "towncrier/towncrierlaw01.FaultIs" = some f) (hfn : Tryd.pinned.checked.prog.funcs[f]? = some fn) :
    true = Tryd.pinned.checked.prog.looks [] ∧ ∀ (j : Nat) t, fn.params[j]? = some t → Tryd.pinned.checked.prog.wantsStandIn t = false := by
  obtain rfl : f = 3 := Option.some.inj ((show Tryd.prog.funcNamed "towncrier/towncrierlaw01.FaultIs" = some 3 by kernel_rfl).symm.trans hf) |>.symm
  obtain rfl : fn = Tryd.f3 := (Option.some.inj (Tryd.func3.symm.trans hfn)).symm
  refine ⟨by kernel_rfl, fun j t ht => ?_⟩
  rw [Tryd.params3] at ht
  obtain rfl : t = 3 := by simpa using Array.mem_of_getElem? ht
  exact (show Tryd.prog.wantsStandIn 3 = false by kernel_rfl)

theorem faultIs_card : Rows.FaultIsCardSaid :=
  Claim7.holds_tied_plain_at .later [] _ _ _ _ faultIs_said (fun _ h => by cases h) (by kernel_rfl) (fun _ h => by cases h) faultIs_row_tie rfl ⟨rfl, rfl⟩ (by kernel_rfl) rfl is_plain (by kernel_rfl)
#print axioms faultIs_card
end Go.Proofs.YtekjdmmoongaaaaDoor
