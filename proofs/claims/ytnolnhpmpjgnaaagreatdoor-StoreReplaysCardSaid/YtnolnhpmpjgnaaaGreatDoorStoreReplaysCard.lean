/- What is proved here: the card of StoreReplays: for every argument the statement answers true and its arguments read as they did. Conditions: those that the card itself prints. -/
import Derived.Test.YtnolnhpmpjgnaaaGreatDoorCards
import Derived.Test.YtnolnhpmpjgnaaaGreatDoorTie
import Derived.Test.YtnolnhpmpjgnaaaGreatDoorEnv
import Derived.Test.YtnolnhpmpjgnaaaGreatDoorLwc34
import Derived.ChangeMaps5
import Derived.JoinedOf
import Derived.Stop.Joined
namespace Go.Proofs.YtnolnhpmpjgnaaaGreatDoor
open Go.ChangeShapes Go.WideShapes Go.ChangeAt Go.RowKit

theorem storeReplays_env {W : World} (h : laidMetH Tryz.prog Rows.storeReplaysRow.laid W) : ∃ S, Env W S := by
  have h' : laidMet Tryz.prog ([] ++ sents5Laid) W ∧ handlesMet Tryz.prog handleLaid W := h
  exact env5_of h'.1 h'.2
theorem storeReplays_door (os : Os) (args : Array Value) : laidMetH Tryz.prog Rows.storeReplaysRow.laid ((World.doorLaid Tryz.prog 149 os).forCall (fun _ _ => 0) ⟨#[], args, []⟩).memory :=
  laidMetH_of_parts3 (fuel := 8) (laidMet_of_run' 8 (by kernel_rfl) (by kernel_rfl)) (by kernel_rfl) (by kernel_rfl)

set_option maxRecDepth 100000 in
theorem storeReplays_lifted (os : Os) (started : os.Started) (H : Type) (enc : TypeId × Value → H) :
    ReturnsInHanded {} Tryz.checked os 4 .any (fun w args => (Rows.storeReplaysSpec.pre enc Tryz.prog Tryz.f4 [] false w args ∧ laidMetH Tryz.prog Rows.storeReplaysRow.laid w) ∧ sizedMet enc Tryz.prog Tryz.f4 (OpenSpec.ofChange Rows.storeReplaysSpec) false w args)
      (Rows.storeReplaysSpec.post enc Tryz.prog Tryz.f4 false true false false) := by
  refine returnsInHanded_of_change_and (C := Tryz.checked) (X := fun w _ => laidMetH Tryz.prog Rows.storeReplaysRow.laid w) (fun _ _ _ hh h => h.of_heap hh) Tryz.own started (by kernel_rfl) Tryz.func4
    (ChangeSpec.witness_shaped (enc := enc) (C := Tryz.checked) (os := os) (X := fun w _ => laidMetH Tryz.prog Rows.storeReplaysRow.laid w) false (World.doorLaid Tryz.prog 149 os) #[.slice none 0 0, .slice none 0 0, .int .i64 0] 8 rfl (World.shaped_of_RefB (by kernel_rfl) (by kernel_rfl)) (by kernel_rfl) (by kernel_rfl) (by kernel_rfl) (storeReplays_door os _)) ?_
  intro W base args ds gs before hval0 hW _ _ hL _
  have hval : ∀ (j : Nat) t v, Tryz.f4.params[j]? = some t → args[j]? = some v → Value.okWide Tryz.prog W .any base t v := hval0
  have hW' := hW
  obtain ⟨p, q, hA0, hV, rfl, hfz, hnd⟩ := hW
  have hA : DataW.TrodAll enc Tryz.prog W 0 (fun _ => true) true Tryz.f4.params.toList args.toList ds p := hA0
  rw [Tryz.params4] at hA hval
  obtain ⟨v0, vs0, d0, ds0, p0, q0, e0, rfl, rfl, h0, r0⟩ := trodAll_cons hA
  obtain ⟨v1, vs1, d1, ds1, p1, q1, e1, rfl, rfl, h1, r1⟩ := trodAll_cons r0
  obtain ⟨v2, vs2, d2, ds2, p2, q2, e2, rfl, rfl, h2, r2⟩ := trodAll_cons r1
  obtain ⟨rfl, rfl, rfl⟩ := trodAll_nil r2
  obtain rfl : args = #[v0, v1, v2] := by
    cases args
    skip
    simp_all
  obtain ⟨a, al, ac, ax, rfl, wa, xa⟩ := strs_open (hval 0 40 v0 rfl rfl) h0
  obtain ⟨b, bl, bc, bx, rfl, wb, xb⟩ := msgs_open34 (hval 1 41 v1 rfl rfl) h1
  obtain ⟨c, rfl, rfl, rfl, wc⟩ := open_int Tryz.underlying3 (hval 2 3 v2 rfl rfl) h2
  obtain ⟨S, hE⟩ := storeReplays_env hL
  refine (storeReplays_walk S a al ac ax b bl bc bx c W hE wa xa wb xb wc).mono fun e W' ⟨he, hb⟩ => ?_
  subst he
  exact ⟨_, rfl, law_post Tryz.laidOut (by kernel_rfl) rfl (by kernel_rfl) Tryz.underlying4 hW' rfl hb⟩

set_option maxHeartbeats 64000000 in
theorem storeReplays_closed : joinedFacts Tryz.prog 4 Tryz.f4 Rows.storeReplaysSpec Rows.storeReplaysRow = true := by
  unfold joinedFacts
  simp only [Bool.and_eq_true]
  repeat' apply And.intro
  all_goals as_aux_lemma => kernel_rfl
theorem storeReplays_said : Rows.StoreReplaysSaid :=
  OpenClaim.holds_of_wide 4 Tryz.f4 rfl rfl rfl rfl rfl rfl rfl ⟨rfl, rfl, rfl, rfl, rfl⟩ rfl rfl rfl rfl rfl (by kernel_rfl) Tryz.func4 storeReplays_closed
    (of_decide_eq_true (by kernel_rfl)) (by unfold Func.isWrapper; first | (rw [if_pos (by decide +kernel)]; kernel_rfl) | (rw [if_neg (by decide +kernel)]; exact ⟨rfl, rfl⟩))
    (fun os started H enc _ => storeReplays_lifted os started H enc)

/-- No parameter wants a stand-in. -/
theorem storeReplays_plain (f : FuncId) (fn : Func) (hf : Tryz.pinned.checked.prog.funcNamed "towncrier/towncrierlaw34.StoreReplays" = some f) (hfn : Tryz.pinned.checked.prog.funcs[f]? = some fn) :
    true = Tryz.pinned.checked.prog.looks [] ∧ ∀ (j : Nat) t, fn.params[j]? = some t → Tryz.pinned.checked.prog.wantsStandIn t = false := by
  obtain rfl : f = 4 := Option.some.inj ((show Tryz.prog.funcNamed "towncrier/towncrierlaw34.StoreReplays" = some 4 by kernel_rfl).symm.trans hf) |>.symm
  obtain rfl : fn = Tryz.f4 := (Option.some.inj (Tryz.func4.symm.trans hfn)).symm
  refine ⟨by kernel_rfl, fun j t ht => ?_⟩
  rw [Tryz.params4] at ht
  exact no_stand_in (P := Tryz.prog) (l := #[40, 41, 3]) (by kernel_rfl) t (Array.mem_of_getElem? ht)

theorem storeReplays_card : Rows.StoreReplaysCardSaid :=
  Claim7.holds_tied_plain_at .later [] _ _ _ _ storeReplays_said (fun _ h => by cases h) (by kernel_rfl) (fun _ h => by cases h) storeReplays_row_tie rfl ⟨rfl, rfl⟩ (by kernel_rfl) rfl storeReplays_plain (by kernel_rfl)
#print axioms storeReplays_card
end Go.Proofs.YtnolnhpmpjgnaaaGreatDoor
