/- What is proved here: the card of StorePrefix: for every argument the statement answers true and its arguments read as they did. Conditions: those that the card itself prints. -/
import Derived.Test.YtnolnhpmpjgnaaaGreatDoorCards
import Derived.Test.YtnolnhpmpjgnaaaGreatDoorTie
import Derived.Test.YtnolnhpmpjgnaaaGreatDoorEnv
import Derived.Test.YtnolnhpmpjgnaaaGreatDoorLwb34
import Derived.ChangeMaps5
import Derived.JoinedOf
import Derived.Stop.Joined
namespace Go.Proofs.YtnolnhpmpjgnaaaGreatDoor
open Go.ChangeShapes Go.WideShapes Go.ChangeAt Go.RowKit

theorem storePrefix_env {W : World} (h : laidMetH Tryz.prog Rows.storePrefixRow.laid W) : ∃ S, Env W S := by
  have h' : laidMet Tryz.prog ([] ++ sents5Laid) W ∧ handlesMet Tryz.prog handleLaid W := h
  exact env5_of h'.1 h'.2
theorem storePrefix_door (os : Os) (args : Array Value) : laidMetH Tryz.prog Rows.storePrefixRow.laid ((World.doorLaid Tryz.prog 149 os).forCall (fun _ _ => 0) ⟨#[], args, []⟩).memory :=
  laidMetH_of_parts3 (fuel := 8) (laidMet_of_run' 8 (by kernel_rfl) (by kernel_rfl)) (by kernel_rfl) (by kernel_rfl)

set_option maxRecDepth 100000 in
theorem storePrefix_lifted (os : Os) (started : os.Started) (H : Type) (enc : TypeId × Value → H) :
    ReturnsInHanded {} Tryz.checked os 5 .any (fun w args => (Rows.storePrefixSpec.pre enc Tryz.prog Tryz.f5 [] false w args ∧ laidMetH Tryz.prog Rows.storePrefixRow.laid w) ∧ sizedMet enc Tryz.prog Tryz.f5 (OpenSpec.ofChange Rows.storePrefixSpec) false w args)
      (Rows.storePrefixSpec.post enc Tryz.prog Tryz.f5 false true false false) := by
  refine returnsInHanded_of_change_and (C := Tryz.checked) (X := fun w _ => laidMetH Tryz.prog Rows.storePrefixRow.laid w) (fun _ _ _ hh h => h.of_heap hh) Tryz.own started (by kernel_rfl) Tryz.func5
    (ChangeSpec.witness_shaped (enc := enc) (C := Tryz.checked) (os := os) (X := fun w _ => laidMetH Tryz.prog Rows.storePrefixRow.laid w) false (World.doorLaid Tryz.prog 149 os) #[.slice none 0 0, .int .u8 0] 8 rfl (World.shaped_of_RefB (by kernel_rfl) (by kernel_rfl)) (by kernel_rfl) (by kernel_rfl) (by kernel_rfl) (storePrefix_door os _)) ?_
  intro W base args ds gs before hval0 hW _ _ hL _
  have hval : ∀ (j : Nat) t v, Tryz.f5.params[j]? = some t → args[j]? = some v → Value.okWide Tryz.prog W .any base t v := hval0
  have hW' := hW
  obtain ⟨p, q, hA0, hV, rfl, hfz, hnd⟩ := hW
  have hA : DataW.TrodAll enc Tryz.prog W 0 (fun _ => true) true Tryz.f5.params.toList args.toList ds p := hA0
  rw [Tryz.params5] at hA hval
  obtain ⟨v0, vs0, d0, ds0, p0, q0, e0, rfl, rfl, h0, r0⟩ := trodAll_cons hA
  obtain ⟨v1, vs1, d1, ds1, p1, q1, e1, rfl, rfl, h1, r1⟩ := trodAll_cons r0
  obtain ⟨rfl, rfl, rfl⟩ := trodAll_nil r1
  obtain rfl : args = #[v0, v1] := by
    cases args
    skip
    simp_all
  obtain ⟨a, al, ac, ax, rfl, wa, xa⟩ := strs_openc (hval 0 40 v0 rfl rfl) h0
  obtain ⟨b, rfl, rfl, rfl, wb⟩ := open_int Tryz.underlying5 (hval 1 5 v1 rfl rfl) h1
  obtain ⟨S, hE⟩ := storePrefix_env hL
  refine (storePrefix_walk S a al ac ax b W hE wa xa wb).mono fun e W' ⟨he, hb⟩ => ?_
  subst he
  exact ⟨_, rfl, law_post Tryz.laidOut (by kernel_rfl) rfl (by kernel_rfl) Tryz.underlying4 hW' rfl hb⟩

set_option maxHeartbeats 64000000 in
theorem storePrefix_closed : joinedFacts Tryz.prog 5 Tryz.f5 Rows.storePrefixSpec Rows.storePrefixRow = true := by
  unfold joinedFacts
  simp only [Bool.and_eq_true]
  repeat' apply And.intro
  all_goals as_aux_lemma => kernel_rfl
theorem storePrefix_said : Rows.StorePrefixSaid :=
  OpenClaim.holds_of_wide 5 Tryz.f5 rfl rfl rfl rfl rfl rfl rfl ⟨rfl, rfl, rfl, rfl, rfl⟩ rfl rfl rfl rfl rfl (by kernel_rfl) Tryz.func5 storePrefix_closed
    (of_decide_eq_true (by kernel_rfl)) (by unfold Func.isWrapper; first | (rw [if_pos (by decide +kernel)]; kernel_rfl) | (rw [if_neg (by decide +kernel)]; exact ⟨rfl, rfl⟩))
    (fun os started H enc _ => storePrefix_lifted os started H enc)

/-- No parameter wants a stand-in. -/
theorem storePrefix_plain (f : FuncId) (fn : Func) (hf : Tryz.pinned.checked.prog.funcNamed "towncrier/towncrierlaw34.StorePrefix" = some f) (hfn : Tryz.pinned.checked.prog.funcs[f]? = some fn) :
    true = Tryz.pinned.checked.prog.looks [] ∧ ∀ (j : Nat) t, fn.params[j]? = some t → Tryz.pinned.checked.prog.wantsStandIn t = false := by
  obtain rfl : f = 5 := Option.some.inj ((show Tryz.prog.funcNamed "towncrier/towncrierlaw34.StorePrefix" = some 5 by kernel_rfl).symm.trans hf) |>.symm
  obtain rfl : fn = Tryz.f5 := (Option.some.inj (Tryz.func5.symm.trans hfn)).symm
  refine ⟨by kernel_rfl, fun j t ht => ?_⟩
  rw [Tryz.params5] at ht
  exact no_stand_in (P := Tryz.prog) (l := #[40, 5]) (by kernel_rfl) t (Array.mem_of_getElem? ht)

theorem storePrefix_card : Rows.StorePrefixCardSaid :=
  Claim7.holds_tied_plain_at .later [] _ _ _ _ storePrefix_said (fun _ h => by cases h) (by kernel_rfl) (fun _ h => by cases h) storePrefix_row_tie rfl ⟨rfl, rfl⟩ (by kernel_rfl) rfl storePrefix_plain (by kernel_rfl)
#print axioms storePrefix_card
end Go.Proofs.YtnolnhpmpjgnaaaGreatDoor
