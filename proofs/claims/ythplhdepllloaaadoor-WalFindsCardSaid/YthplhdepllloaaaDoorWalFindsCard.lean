/- What is proved here: the card of WalFinds: for every argument the statement answers true and its arguments read as they did. Conditions: those that the card itself prints. -/
import Derived.Test.YthplhdepllloaaaDoorCards
import Derived.Test.YthplhdepllloaaaDoorTie
import Derived.Test.YthplhdepllloaaaDoorEnv
import Derived.Test.YthplhdepllloaaaDoorLwC22
import Derived.ChangeMaps5
import Derived.JoinedOf
import Derived.Stop.Joined
namespace Go.Proofs.YthplhdepllloaaaDoor
open Go.ChangeShapes Go.WideShapes Go.ChangeAt Go.RowKit

theorem walFinds_env {W : World} (h : laidMetH Tryd.prog Rows.walFindsRow.laid W) : ∃ S, EnvN W S := by
  have h' : laidMet Tryd.prog ([] ++ sentsLaid) W ∧ handlesMet Tryd.prog handleLaid W := h
  exact env_of h'.1 h'.2
theorem walFinds_door (os : Os) (args : Array Value) : laidMetH Tryd.prog Rows.walFindsRow.laid ((World.doorLaid Tryd.prog 149 os).forCall (fun _ _ => 0) ⟨#[], args, []⟩).memory :=
  laidMetH_of_parts3 (fuel := 8) (laidMet_of_run' 8 (by kernel_rfl) (by kernel_rfl)) (by kernel_rfl) (by kernel_rfl)

set_option maxRecDepth 100000 in
theorem walFinds_lifted (os : Os) (started : os.Started) (H : Type) (enc : TypeId × Value → H) :
    ReturnsInHanded {} Tryd.checked os 5 .any (fun w args => (Rows.walFindsSpec.pre enc Tryd.prog Tryd.f5 [] false w args ∧ laidMetH Tryd.prog Rows.walFindsRow.laid w) ∧ sizedMet enc Tryd.prog Tryd.f5 (OpenSpec.ofChange Rows.walFindsSpec) false w args)
      (Rows.walFindsSpec.post enc Tryd.prog Tryd.f5 false true false false) := by
  refine returnsInHanded_of_change_and (C := Tryd.checked) (X := fun w _ => laidMetH Tryd.prog Rows.walFindsRow.laid w) (fun _ _ _ hh h => h.of_heap hh) Tryd.own started (by kernel_rfl) Tryd.func5
    (ChangeSpec.witness_shaped (enc := enc) (C := Tryd.checked) (os := os) (X := fun w _ => laidMetH Tryd.prog Rows.walFindsRow.laid w) false (World.doorLaid Tryd.prog 149 os) #[.slice none 0 0, .agg #[.int .u16 0, .int .u16 0], .int .u32 0] 8 rfl (World.shaped_of_RefB (by kernel_rfl) (by kernel_rfl)) (by kernel_rfl) (by kernel_rfl) (by kernel_rfl) (walFinds_door os _)) ?_
  intro W base args ds gs before hval0 hW _ _ hL _
  have hval : ∀ (j : Nat) t v, Tryd.f5.params[j]? = some t → args[j]? = some v → Value.okWide Tryd.prog W .any base t v := hval0
  have hW' := hW
  obtain ⟨p, q, hA0, hV, rfl, hfz, hnd⟩ := hW
  have hA : DataW.TrodAll enc Tryd.prog W 0 (fun _ => true) true Tryd.f5.params.toList args.toList ds p := hA0
  rw [Tryd.params5] at hA hval
  obtain ⟨v0, vs0, d0, ds0, p0, q0, e0, rfl, rfl, h0, r0⟩ := trodAll_cons hA
  obtain ⟨v1, vs1, d1, ds1, p1, q1, e1, rfl, rfl, h1, r1⟩ := trodAll_cons r0
  obtain ⟨v2, vs2, d2, ds2, p2, q2, e2, rfl, rfl, h2, r2⟩ := trodAll_cons r1
  obtain ⟨rfl, rfl, rfl⟩ := trodAll_nil r2
  obtain rfl : args = #[v0, v1, v2] := by
    cases args
    skip
    simp_all
  obtain ⟨a, al, ac, ax, rfl, wa, xa⟩ := strs_open22 (hval 0 23 v0 rfl rfl) h0
  obtain ⟨b0, b1, rfl, wb0, wb1⟩ := arr2_open (hval 1 42 v1 rfl rfl) h1
  obtain ⟨c, rfl, rfl, rfl, wc⟩ := open_int Tryd.underlying43 (hval 2 43 v2 rfl rfl) h2
  obtain ⟨S, hE⟩ := walFinds_env hL
  refine (walFinds_walk S a al ac ax b0 b1 c W hE wa xa wb0 wb1 wc).mono fun e W' ⟨he, hb⟩ => ?_
  subst he
  exact ⟨_, rfl, law_post Tryd.laidOut (by kernel_rfl) rfl (by kernel_rfl) Tryd.underlying4 hW' rfl hb⟩

set_option maxHeartbeats 64000000 in
theorem walFinds_closed : joinedFacts Tryd.prog 5 Tryd.f5 Rows.walFindsSpec Rows.walFindsRow = true := by
  unfold joinedFacts
  simp only [Bool.and_eq_true]
  repeat' apply And.intro
  all_goals as_aux_lemma => kernel_rfl
theorem walFinds_said : Rows.WalFindsSaid :=
  OpenClaim.holds_of_wide 5 Tryd.f5 rfl rfl rfl rfl rfl rfl rfl ⟨rfl, rfl, rfl, rfl, rfl⟩ rfl rfl rfl rfl rfl (by kernel_rfl) Tryd.func5 walFinds_closed
    (of_decide_eq_true (by kernel_rfl)) (by unfold Func.isWrapper; first | (rw [if_pos (by decide +kernel)]; kernel_rfl) | (rw [if_neg (by decide +kernel)]; exact ⟨rfl, rfl⟩))
    (fun os started H enc _ => walFinds_lifted os started H enc)

/-- No parameter wants a stand-in. -/
theorem walFinds_plain (f : FuncId) (fn : Func) (hf : Tryd.pinned.checked.prog.funcNamed "towncrier/towncrierlaw22.WalFinds" = some f) (hfn : Tryd.pinned.checked.prog.funcs[f]? = some fn) :
    true = Tryd.pinned.checked.prog.looks [] ∧ ∀ (j : Nat) t, fn.params[j]? = some t → Tryd.pinned.checked.prog.wantsStandIn t = false := by
  obtain rfl : f = 5 := Option.some.inj ((show Tryd.prog.funcNamed "towncrier/towncrierlaw22.WalFinds" = some 5 by kernel_rfl).symm.trans hf) |>.symm
  obtain rfl : fn = Tryd.f5 := (Option.some.inj (Tryd.func5.symm.trans hfn)).symm
  refine ⟨by kernel_rfl, fun j t ht => ?_⟩
  rw [Tryd.params5] at ht
  exact no_stand_in (P := Tryd.prog) (l := #[23, 42, 43]) (by kernel_rfl) t (Array.mem_of_getElem? ht)

theorem walFinds_card : Rows.WalFindsCardSaid :=
  Claim7.holds_tied_plain_at .later [] _ _ _ _ walFinds_said (fun _ h => by cases h) (by kernel_rfl) (fun _ h => by cases h) walFinds_row_tie rfl ⟨rfl, rfl⟩ (by kernel_rfl) rfl walFinds_plain (by kernel_rfl)
#print axioms walFinds_card
end Go.Proofs.YthplhdepllloaaaDoor
