/- What is proved here: the card of TrieClean: for every argument the statement answers true and its arguments read as they did. Conditions: those that the card itself prints. -/
import Derived.Test.YtebaojbagogniaaDoorCards
import Derived.Test.YtebaojbagogniaaDoorTie
import Derived.Test.YtebaojbagogniaaDoorEnvT16
import Derived.Test.YtebaojbagogniaaDoorLtc18
import Derived.ChangeMaps5
import Derived.JoinedOf
import Derived.Stop.Joined
namespace Go.Proofs.YtebaojbagogniaaDoor
open Go.ChangeShapes Go.WideShapes Go.ChangeAt Go.RowKit

theorem trieClean_env {W : World} (h : laidMetH Tryd.prog Rows.trieCleanRow.laid W) : ∃ S, EnvT W S := envT_of h
theorem trieClean_door (os : Os) (args : Array Value) : laidMetH Tryd.prog Rows.trieCleanRow.laid ((World.doorLaid Tryd.prog 47 os).forCall (fun _ _ => 0) ⟨#[], args, []⟩).memory :=
  laidMet_of_run' 8 (by kernel_rfl) (by kernel_rfl)

set_option maxRecDepth 100000 in
theorem trieClean_lifted (os : Os) (started : os.Started) (H : Type) (enc : TypeId × Value → H) :
    ReturnsInHanded {} Tryd.checked os 5 .any (fun w args => (Rows.trieCleanSpec.pre enc Tryd.prog Tryd.f5 [] false w args ∧ laidMetH Tryd.prog Rows.trieCleanRow.laid w) ∧ sizedMet enc Tryd.prog Tryd.f5 (OpenSpec.ofChange Rows.trieCleanSpec) false w args)
      (Rows.trieCleanSpec.post enc Tryd.prog Tryd.f5 false true false false) := by
  refine returnsInHanded_of_change_and (C := Tryd.checked) (X := fun w _ => laidMetH Tryd.prog Rows.trieCleanRow.laid w) (fun _ _ _ hh h => h.of_heap hh) Tryd.own started (by kernel_rfl) Tryd.func5
    (ChangeSpec.witness_shaped (enc := enc) (C := Tryd.checked) (os := os) (X := fun w _ => laidMetH Tryd.prog Rows.trieCleanRow.laid w) false (World.doorLaid Tryd.prog 47 os) #[.slice none 0 0] 8 rfl (World.shaped_of_RefB (by kernel_rfl) (by kernel_rfl)) (by kernel_rfl) (by kernel_rfl) (by kernel_rfl) (trieClean_door os _)) ?_
  intro W base args ds gs before hval0 hW _ _ hL _
  have hval : ∀ (j : Nat) t v, Tryd.f5.params[j]? = some t → args[j]? = some v → Value.okWide Tryd.prog W .any base t v := hval0
  have hW' := hW
  obtain ⟨p, q, hA0, hV, rfl, hfz, hnd⟩ := hW
  have hA : DataW.TrodAll enc Tryd.prog W 0 (fun _ => true) true Tryd.f5.params.toList args.toList ds p := hA0
  rw [Tryd.params5] at hA hval
  obtain ⟨v0, vs0, d0, ds0, p0, q0, e0, rfl, rfl, h0, r0⟩ := trodAll_cons hA
  obtain ⟨rfl, rfl, rfl⟩ := trodAll_nil r0
  obtain rfl : args = #[v0] := by
    cases args
    skip
    simp_all
  obtain ⟨a, al, ac, ax, rfl, wa, xa⟩ := acts_open18 (hval 0 22 v0 rfl rfl) h0
  obtain ⟨S, hE⟩ := trieClean_env hL
  refine (trieClean_walk S a al ac ax W hE wa xa).mono fun e W' ⟨he, hb⟩ => ?_
  subst he
  exact ⟨_, rfl, law_post Tryd.laidOut (by kernel_rfl) rfl (by kernel_rfl) Tryd.underlying4 hW' rfl hb⟩

set_option maxHeartbeats 64000000 in
theorem trieClean_closed : joinedFacts Tryd.prog 5 Tryd.f5 Rows.trieCleanSpec Rows.trieCleanRow = true := by
  unfold joinedFacts
  simp only [Bool.and_eq_true]
  repeat' apply And.intro
  all_goals as_aux_lemma => kernel_rfl
theorem trieClean_said : Rows.TrieCleanSaid :=
  OpenClaim.holds_of_wide 5 Tryd.f5 rfl rfl rfl rfl rfl rfl rfl ⟨rfl, rfl, rfl, rfl, rfl⟩ rfl rfl rfl rfl rfl (by kernel_rfl) Tryd.func5 trieClean_closed
    (of_decide_eq_true (by kernel_rfl)) (by unfold Func.isWrapper; first | (rw [if_pos (by decide +kernel)]; kernel_rfl) | (rw [if_neg (by decide +kernel)]; exact ⟨rfl, rfl⟩))
    (fun os started H enc _ => trieClean_lifted os started H enc)

/-- No parameter wants a stand-in. -/
theorem trieClean_plain (f : FuncId) (fn : Func) (hf : Tryd.pinned.checked.prog.funcNamed "towncrier/towncrierlaw18.TrieClean" = some f) (hfn : Tryd.pinned.checked.prog.funcs[f]? = some fn) :
    false = Tryd.pinned.checked.prog.looks [] ∧ ∀ (j : Nat) t, fn.params[j]? = some t → Tryd.pinned.checked.prog.wantsStandIn t = false := by
  obtain rfl : f = 5 := Option.some.inj ((show Tryd.prog.funcNamed "towncrier/towncrierlaw18.TrieClean" = some 5 by kernel_rfl).symm.trans hf) |>.symm
  obtain rfl : fn = Tryd.f5 := (Option.some.inj (Tryd.func5.symm.trans hfn)).symm
  refine ⟨by kernel_rfl, fun j t ht => ?_⟩
  rw [Tryd.params5] at ht
  exact no_stand_in (P := Tryd.prog) (l := #[22]) (by kernel_rfl) t (Array.mem_of_getElem? ht)

theorem trieClean_card : Rows.TrieCleanCardSaid :=
  Claim7.holds_tied_plain_at .later [] _ _ _ _ trieClean_said (fun _ h => by cases h) (by kernel_rfl) (fun _ h => by cases h) trieClean_row_tie rfl ⟨rfl, rfl⟩ (by kernel_rfl) rfl trieClean_plain (by kernel_rfl)
#print axioms trieClean_card
end Go.Proofs.YtebaojbagogniaaDoor
