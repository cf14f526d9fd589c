/- What is proved here: the card of FrameSplits: for every argument the statement answers true and its arguments read as they did. Conditions: those that the card itself prints. -/
import Derived.Test.YtfojoeafhdiaiaaDoorCards
import Derived.Test.YtfojoeafhdiaiaaDoorTie
import Derived.Test.YtfojoeafhdiaiaaDoorEnv
import Derived.Test.YtfojoeafhdiaiaaDoorLawB07
import Derived.ChangeMaps5
import Derived.JoinedOf
import Derived.Stop.Joined
namespace Go.Proofs.YtfojoeafhdiaiaaDoor
open Go.ChangeShapes Go.WideShapes Go.ChangeAt Go.RowKit

theorem frameSplits_env {W : World} (h : laidMetH Tryd.prog Rows.frameSplitsRow.laid W) : ∃ S, Env W S := by
  have h' : laidMet Tryd.prog ([] ++ sentsLaid) W ∧ handlesMet Tryd.prog handleLaid W := h
  exact env_of h'.1 h'.2
theorem frameSplits_door (os : Os) (args : Array Value) : laidMetH Tryd.prog Rows.frameSplitsRow.laid ((World.doorLaid Tryd.prog 149 os).forCall (fun _ _ => 0) ⟨#[], args, []⟩).memory :=
  laidMetH_of_parts3 (fuel := 8) (laidMet_of_run' 8 (by kernel_rfl) (by kernel_rfl)) (by kernel_rfl) (by kernel_rfl)

set_option maxRecDepth 100000 in
theorem frameSplits_lifted (os : Os) (started : os.Started) (H : Type) (enc : TypeId × Value → H) :
    ReturnsInHanded {} Tryd.checked os 7 .any (fun w args => (Rows.frameSplitsSpec.pre enc Tryd.prog Tryd.f7 [] false w args ∧ laidMetH Tryd.prog Rows.frameSplitsRow.laid w) ∧ sizedMet enc Tryd.prog Tryd.f7 (OpenSpec.ofChange Rows.frameSplitsSpec) false w args)
      (Rows.frameSplitsSpec.post enc Tryd.prog Tryd.f7 false true false false) := by
  refine returnsInHanded_of_change_and (C := Tryd.checked) (X := fun w _ => laidMetH Tryd.prog Rows.frameSplitsRow.laid w) (fun _ _ _ hh h => h.of_heap hh) Tryd.own started (by kernel_rfl) Tryd.func7
    (ChangeSpec.witness_shaped (enc := enc) (C := Tryd.checked) (os := os) (X := fun w _ => laidMetH Tryd.prog Rows.frameSplitsRow.laid w) false (World.doorLaid Tryd.prog 149 os) #[.slice none 0 0, .int .i64 0] 8 rfl (World.shaped_of_RefB (by kernel_rfl) (by kernel_rfl)) (by kernel_rfl) (by kernel_rfl) (by kernel_rfl) (frameSplits_door os _)) ?_
  intro W base args ds gs before hval0 hW _ _ hL _
  have hval : ∀ (j : Nat) t v, Tryd.f7.params[j]? = some t → args[j]? = some v → Value.okWide Tryd.prog W .any base t v := hval0
  have hW' := hW
  obtain ⟨p, q, hA0, hV, rfl, hfz, hnd⟩ := hW
  have hA : DataW.TrodAll enc Tryd.prog W 0 (fun _ => true) true Tryd.f7.params.toList args.toList ds p := hA0
  rw [Tryd.params7] at hA hval
  obtain ⟨v0, vs0, d0, ds0, p0, q0, e0, rfl, rfl, h0, r0⟩ := trodAll_cons hA
  obtain ⟨v1, vs1, d1, ds1, p1, q1, e1, rfl, rfl, h1, r1⟩ := trodAll_cons r0
  obtain ⟨rfl, rfl, rfl⟩ := trodAll_nil r1
  obtain rfl : args = #[v0, v1] := by
    cases args
    skip
    simp_all
  obtain ⟨a, al, ac, ax, rfl, wa, xa⟩ := strs_open (hval 0 70 v0 rfl rfl) h0
  obtain ⟨b, rfl, rfl, rfl, wb⟩ := open_int Tryd.underlying3 (hval 1 3 v1 rfl rfl) h1
  obtain ⟨S, hE⟩ := frameSplits_env hL
  refine (frameSplits_walk S a al ac ax b W hE wa xa wb).mono fun e W' ⟨he, hb⟩ => ?_
  subst he
  exact ⟨_, rfl, law_post Tryd.laidOut (by kernel_rfl) rfl (by kernel_rfl) Tryd.underlying4 hW' rfl hb⟩

theorem frameSplits_said : Rows.FrameSplitsSaid :=
  OpenClaim.holds_of_wide 7 Tryd.f7 rfl rfl rfl rfl rfl rfl rfl ⟨rfl, rfl, rfl, rfl, rfl⟩ rfl rfl rfl rfl rfl (by kernel_rfl) Tryd.func7 (by kernel_rfl)
    (of_decide_eq_true (by kernel_rfl)) (by unfold Func.isWrapper; first | (rw [if_pos (by decide +kernel)]; kernel_rfl) | (rw [if_neg (by decide +kernel)]; exact ⟨rfl, rfl⟩))
    (fun os started H enc _ => frameSplits_lifted os started H enc)

/-- No parameter wants a stand-in. -/
theorem frameSplits_plain (f : FuncId) (fn : Func) (hf : Tryd.pinned.checked.prog.funcNamed "towncrier/towncrierlaw07.FrameSplits" = some f) (hfn : Tryd.pinned.checked.prog.funcs[f]? = some fn) :
    true = Tryd.pinned.checked.prog.looks [] ∧ ∀ (j : Nat) t, fn.params[j]? = some t → Tryd.pinned.checked.prog.wantsStandIn t = false := by
  obtain rfl : f = 7 := Option.some.inj ((show Tryd.prog.funcNamed "towncrier/towncrierlaw07.FrameSplits" = some 7 by kernel_rfl).symm.trans hf) |>.symm
  obtain rfl : fn = Tryd.f7 := (Option.some.inj (Tryd.func7.symm.trans hfn)).symm
  refine ⟨by kernel_rfl, fun j t ht => ?_⟩
  rw [Tryd.params7] at ht
  exact no_stand_in (P := Tryd.prog) (l := #[70, 3]) (by kernel_rfl) t (Array.mem_of_getElem? ht)

theorem frameSplits_card : Rows.FrameSplitsCardSaid :=
  Claim7.holds_tied_plain_at .later [] _ _ _ _ frameSplits_said (fun _ h => by cases h) (by kernel_rfl) (fun _ h => by cases h) frameSplits_row_tie rfl ⟨rfl, rfl⟩ (by kernel_rfl) rfl frameSplits_plain (by kernel_rfl)
#print axioms frameSplits_card
end Go.Proofs.YtfojoeafhdiaiaaDoor
