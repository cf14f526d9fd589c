/- What is proved here: the card of ShareBack: for every argument the statement answers true and its arguments read as they did. Conditions: those that the card itself prints. -/
import Derived.Test.YtdaicjplmnpooaaDoorCards
import Derived.Test.YtdaicjplmnpooaaDoorTie
import Derived.Test.YtdaicjplmnpooaaDoorEnvT16
import Derived.Test.YtdaicjplmnpooaaDoorLawT17
import Derived.ChangeMaps5
import Derived.JoinedOf
import Derived.Stop.Joined
namespace Go.Proofs.YtdaicjplmnpooaaDoor
open Go.ChangeShapes Go.WideShapes Go.ChangeAt Go.RowKit

theorem shareBack_env {W : World} (h : laidMetH Tryd.prog Rows.shareBackRow.laid W) : ∃ S, EnvT W S := envT_of h
theorem shareBack_door (os : Os) (args : Array Value) : laidMetH Tryd.prog Rows.shareBackRow.laid ((World.doorLaid Tryd.prog 149 os).forCall (fun _ _ => 0) ⟨#[], args, []⟩).memory :=
  laidMet_of_run' 8 (by kernel_rfl) (by kernel_rfl)

set_option maxRecDepth 100000 in
theorem shareBack_lifted (os : Os) (started : os.Started) (H : Type) (enc : TypeId × Value → H) :
    ReturnsInHanded {} Tryd.checked os 10 .any (fun w args => (Rows.shareBackSpec.pre enc Tryd.prog Tryd.f10 [] false w args ∧ laidMetH Tryd.prog Rows.shareBackRow.laid w) ∧ sizedMet enc Tryd.prog Tryd.f10 (OpenSpec.ofChange Rows.shareBackSpec) false w args)
      (Rows.shareBackSpec.post enc Tryd.prog Tryd.f10 false true false false) := by
  refine returnsInHanded_of_change_and (C := Tryd.checked) (X := fun w _ => laidMetH Tryd.prog Rows.shareBackRow.laid w) (fun _ _ _ hh h => h.of_heap hh) Tryd.own started (by kernel_rfl) Tryd.func10
    (ChangeSpec.witness_shaped (enc := enc) (C := Tryd.checked) (os := os) (X := fun w _ => laidMetH Tryd.prog Rows.shareBackRow.laid w) false (World.doorLaid Tryd.prog 149 os) #[.string ⟨#[]⟩] 8 rfl (World.shaped_of_RefB (by kernel_rfl) (by kernel_rfl)) (by kernel_rfl) (by kernel_rfl) (by kernel_rfl) (shareBack_door os _)) ?_
  intro W base args ds gs before hval0 hW _ _ hL _
  have hval : ∀ (j : Nat) t v, Tryd.f10.params[j]? = some t → args[j]? = some v → Value.okWide Tryd.prog W .any base t v := hval0
  have hW' := hW
  obtain ⟨p, q, hA0, hV, rfl, hfz, hnd⟩ := hW
  have hA : DataW.TrodAll enc Tryd.prog W 0 (fun _ => true) true Tryd.f10.params.toList args.toList ds p := hA0
  rw [Tryd.params10] at hA hval
  obtain ⟨v0, vs0, d0, ds0, p0, q0, e0, rfl, rfl, h0, r0⟩ := trodAll_cons hA
  obtain ⟨rfl, rfl, rfl⟩ := trodAll_nil r0
  obtain rfl : args = #[v0] := by
    cases args
    skip
    simp_all
  obtain ⟨a, rfl, rfl, rfl, wa⟩ := ChangeMaps.open_string Tryd.underlying9 (hval 0 9 v0 rfl rfl) h0
  obtain ⟨S, hE⟩ := shareBack_env hL
  refine (shareBack_walk S a W hE wa).mono fun e W' ⟨he, hb⟩ => ?_
  subst he
  exact ⟨_, rfl, law_post Tryd.laidOut (by kernel_rfl) rfl (by kernel_rfl) Tryd.underlying4 hW' rfl hb⟩

theorem shareBack_said : Rows.ShareBackSaid :=
  OpenClaim.holds_of_wide 10 Tryd.f10 rfl rfl rfl rfl rfl rfl rfl ⟨rfl, rfl, rfl, rfl, rfl⟩ rfl rfl rfl rfl rfl (by kernel_rfl) Tryd.func10 (by kernel_rfl)
    (of_decide_eq_true (by kernel_rfl)) (by unfold Func.isWrapper; first | (rw [if_pos (by decide +kernel)]; kernel_rfl) | (rw [if_neg (by decide +kernel)]; exact ⟨rfl, rfl⟩))
    (fun os started H enc _ => shareBack_lifted os started H enc)

/-- No parameter wants a stand-in. -/
theorem shareBack_plain (f : FuncId) (fn : Func) (hf : Tryd.pinned.checked.prog.funcNamed "towncrier/towncrierlaw17.ShareBack" = some f) (hfn : Tryd.pinned.checked.prog.funcs[f]? = some fn) :
    true = Tryd.pinned.checked.prog.looks [] ∧ ∀ (j : Nat) t, fn.params[j]? = some t → Tryd.pinned.checked.prog.wantsStandIn t = false := by
  obtain rfl : f = 10 := Option.some.inj ((show Tryd.prog.funcNamed "towncrier/towncrierlaw17.ShareBack" = some 10 by kernel_rfl).symm.trans hf) |>.symm
  obtain rfl : fn = Tryd.f10 := (Option.some.inj (Tryd.func10.symm.trans hfn)).symm
  refine ⟨by kernel_rfl, fun j t ht => ?_⟩
  rw [Tryd.params10] at ht
  exact no_stand_in (P := Tryd.prog) (l := #[9]) (by kernel_rfl) t (Array.mem_of_getElem? ht)

theorem shareBack_card : Rows.ShareBackCardSaid :=
  Claim7.holds_tied_plain_at .later [] _ _ _ _ shareBack_said (fun _ h => by cases h) (by kernel_rfl) (fun _ h => by cases h) shareBack_row_tie rfl ⟨rfl, rfl⟩ (by kernel_rfl) rfl shareBack_plain (by kernel_rfl)
#print axioms shareBack_card
end Go.Proofs.YtdaicjplmnpooaaDoor
