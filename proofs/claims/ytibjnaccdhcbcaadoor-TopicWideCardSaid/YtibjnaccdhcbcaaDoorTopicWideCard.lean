/- What is proved here: the card of TopicWide: for every argument the statement answers true and its arguments read as they did. Conditions: those that the card itself prints. -/
import Derived.Test.YtibjnaccdhcbcaaDoorCards
import Derived.Test.YtibjnaccdhcbcaaDoorTie
import Derived.Test.YtibjnaccdhcbcaaDoorEnvT16
import Derived.Test.YtibjnaccdhcbcaaDoorLawX16
import Derived.ChangeMaps5
import Derived.JoinedOf
import Derived.Stop.Joined
namespace Go.Proofs.YtibjnaccdhcbcaaDoor
open Go.ChangeShapes Go.WideShapes Go.ChangeAt Go.RowKit

theorem topicWide_env {W : World} (h : laidMetH Tryd.prog Rows.topicWideRow.laid W) : ∃ S, EnvT W S := envT_of h
theorem topicWide_door (os : Os) (args : Array Value) : laidMetH Tryd.prog Rows.topicWideRow.laid ((World.doorLaid Tryd.prog 149 os).forCall (fun _ _ => 0) ⟨#[], args, []⟩).memory :=
  laidMet_of_run' 8 (by kernel_rfl) (by kernel_rfl)

set_option maxRecDepth 100000 in
theorem topicWide_lifted (os : Os) (started : os.Started) (H : Type) (enc : TypeId × Value → H) :
    ReturnsInHanded {} Tryd.checked os 7 .any (fun w args => (Rows.topicWideSpec.pre enc Tryd.prog Tryd.f7 [] false w args ∧ laidMetH Tryd.prog Rows.topicWideRow.laid w) ∧ sizedMet enc Tryd.prog Tryd.f7 (OpenSpec.ofChange Rows.topicWideSpec) false w args)
      (Rows.topicWideSpec.post enc Tryd.prog Tryd.f7 false true false false) := by
  refine returnsInHanded_of_change_and (C := Tryd.checked) (X := fun w _ => laidMetH Tryd.prog Rows.topicWideRow.laid w) (fun _ _ _ hh h => h.of_heap hh) Tryd.own started (by kernel_rfl) Tryd.func7
    (ChangeSpec.witness_shaped (enc := enc) (C := Tryd.checked) (os := os) (X := fun w _ => laidMetH Tryd.prog Rows.topicWideRow.laid w) false (World.doorLaid Tryd.prog 149 os) #[.string ⟨#[]⟩, .string ⟨#[]⟩, .int .u8 0] 8 rfl (World.shaped_of_RefB (by kernel_rfl) (by kernel_rfl)) (by kernel_rfl) (by kernel_rfl) (by kernel_rfl) (topicWide_door os _)) ?_
  intro W base args ds gs before hval0 hW _ _ hL _
  have hval : ∀ (j : Nat) t v, Tryd.f7.params[j]? = some t → args[j]? = some v → Value.okWide Tryd.prog W .any base t v := hval0
  have hW' := hW
  obtain ⟨p, q, hA0, hV, rfl, hfz, hnd⟩ := hW
  have hA : DataW.TrodAll enc Tryd.prog W 0 (fun _ => true) true Tryd.f7.params.toList args.toList ds p := hA0
  rw [Tryd.params7] at hA hval
  obtain ⟨v0, vs0, d0, ds0, p0, q0, e0, rfl, rfl, h0, r0⟩ := trodAll_cons hA
  obtain ⟨v1, vs1, d1, ds1, p1, q1, e1, rfl, rfl, h1, r1⟩ := trodAll_cons r0
  obtain ⟨v2, vs2, d2, ds2, p2, q2, e2, rfl, rfl, h2, r2⟩ := trodAll_cons r1
  obtain ⟨rfl, rfl, rfl⟩ := trodAll_nil r2
  obtain rfl : args = #[v0, v1, v2] := by
    cases args
    skip
    simp_all
  obtain ⟨a, rfl, rfl, rfl, wa⟩ := ChangeMaps.open_string Tryd.underlying9 (hval 0 9 v0 rfl rfl) h0
  obtain ⟨b, rfl, rfl, rfl, wb⟩ := ChangeMaps.open_string Tryd.underlying9 (hval 1 9 v1 rfl rfl) h1
  obtain ⟨c, rfl, rfl, rfl, wc⟩ := open_int Tryd.underlying5 (hval 2 5 v2 rfl rfl) h2
  obtain ⟨S, hE⟩ := topicWide_env hL
  refine (topicWide_walk S a b c W hE wa wb wc).mono fun e W' ⟨he, hb⟩ => ?_
  subst he
  exact ⟨_, rfl, law_post Tryd.laidOut (by kernel_rfl) rfl (by kernel_rfl) Tryd.underlying4 hW' rfl hb⟩

theorem topicWide_said : Rows.TopicWideSaid :=
  OpenClaim.holds_of_wide 7 Tryd.f7 rfl rfl rfl rfl rfl rfl rfl ⟨rfl, rfl, rfl, rfl, rfl⟩ rfl rfl rfl rfl rfl (by kernel_rfl) Tryd.func7 (by kernel_rfl)
    (of_decide_eq_true (by kernel_rfl)) (by unfold Func.isWrapper; first | (rw [if_pos (by decide +kernel)]; kernel_rfl) | (rw [if_neg (by decide +kernel)]; exact ⟨rfl, rfl⟩))
    (fun os started H enc _ => topicWide_lifted os started H enc)

/-- No parameter wants a stand-in. -/
theorem topicWide_plain (f : FuncId) (fn : Func) (hf : Tryd.pinned.checked.prog.funcNamed "towncrier/towncrierlaw16.TopicWide" = some f) (hfn : Tryd.pinned.checked.prog.funcs[f]? = some fn) :
    true = Tryd.pinned.checked.prog.looks [] ∧ ∀ (j : Nat) t, fn.params[j]? = some t → Tryd.pinned.checked.prog.wantsStandIn t = false := by
  obtain rfl : f = 7 := Option.some.inj ((show Tryd.prog.funcNamed "towncrier/towncrierlaw16.TopicWide" = some 7 by kernel_rfl).symm.trans hf) |>.symm
  obtain rfl : fn = Tryd.f7 := (Option.some.inj (Tryd.func7.symm.trans hfn)).symm
  refine ⟨by kernel_rfl, fun j t ht => ?_⟩
  rw [Tryd.params7] at ht
  exact no_stand_in (P := Tryd.prog) (l := #[9, 9, 5]) (by kernel_rfl) t (Array.mem_of_getElem? ht)

theorem topicWide_card : Rows.TopicWideCardSaid :=
  Claim7.holds_tied_plain_at .later [] _ _ _ _ topicWide_said (fun _ h => by cases h) (by kernel_rfl) (fun _ h => by cases h) topicWide_row_tie rfl ⟨rfl, rfl⟩ (by kernel_rfl) rfl topicWide_plain (by kernel_rfl)
#print axioms topicWide_card
end Go.Proofs.YtibjnaccdhcbcaaDoor
