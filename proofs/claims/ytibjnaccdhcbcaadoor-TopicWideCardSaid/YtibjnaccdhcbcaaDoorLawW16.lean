/- What is proved here: TopicWide answers true where a text is too long or the first is no name; the rest is a premise. Conditions: the two errors that utf.Check names are errors. -/
import Derived.Test.YtibjnaccdhcbcaaDoorWide16
import Derived.Test.YtibjnaccdhcbcaaDoorAwak16
import Derived.Test.YtibjnaccdhcbcaaDoorEnvT16
namespace Go.Proofs.YtibjnaccdhcbcaaDoor
open Go.RowKit Go.Extern.Stop Go.Stop Go.Extern
section
set_option maxHeartbeats 2000000 in
theorem topicWide_short (S : Nat → Addr) (a b : ByteArray) (c : Int) (w : World) (he : EnvT w S) (hs : a.size ≤ maxLen) (hs2 : b.size ≤ maxLen) (hr : a.size ≤ 300 → b.size ≤ 300 → nameB a = true → Calls Tryd.prog 7 #[.string a, .string b, .int .u8 c] w fun x w' => x = .returned (.bool true) ∧ Below w.heap.size w w') : Calls Tryd.prog 7 #[.string a, .string b, .int .u8 c] w fun x w' => x = .returned (.bool true) ∧ Below w.heap.size w w' := by
  unfold maxLen at hs hs2
  have E := Lib.hid (fun w' (hb : Below w.heap.size w w') => he.later hb)
  have C8 := Lib.hid (fun w' (hb : Below w.heap.size w w') => awake16 (E.out w' hb))
  have hcases : 300 < a.size ∨ (a.size ≤ 300 ∧ 300 < b.size) ∨ (a.size ≤ 300 ∧ b.size ≤ 300) := by omega
  rcases hcases with hb | ⟨hb, hb2⟩ | ⟨hsa, hsb⟩
  · clear he hr
    go_enter Tryd.func7, Tryd.ntmps7
    go_wp2_with fail
    refine (C8.out _ (Below.refl _ _)).mono ?_
    rintro x w1 ⟨rfl, hb⟩
    go_wp2_with fail
    go_ret
    exact ⟨rfl, hb⟩
  · clear he hr
    go_enter Tryd.func7, Tryd.ntmps7
    go_wp2_with fail
    refine (C8.out _ (Below.refl _ _)).mono ?_
    rintro x w1 ⟨rfl, hb⟩
    go_wp2_with fail
    go_ret
    exact ⟨rfl, hb⟩
  · have CN := Lib.hid (fun w' (hb : Below w.heap.size w w') => isName_any a (by omega) (E.out w' hb))
    have CM := Lib.hid (fun (f : ByteArray) (hf : f.size ≤ 100000) w' (hb : Below w.heap.size w w') => match_any f a (by omega) (by omega) (E.out w' hb))
    cases hn : nameB a with
    | false =>
      have CM1 := Lib.hid (CM.out ⟨#[35]⟩ (by decide))
      rw [none_takes hn] at CM1
      rw [hn] at CN
      clear he hn CM hr
      go_enter Tryd.func7, Tryd.ntmps7
      go_wp2_with fail
      refine (CN.out _ (Below.refl _ _)).mono ?_
      rintro x w1 ⟨rfl, hb⟩
      have B1 := Lib.hid hb
      clear hb
      go_wp2_with fail
      refine (CM1.out _ B1.out).mono ?_
      rintro x w2 ⟨rfl, hb⟩
      have B2 := Lib.hid (B1.out.trans (hb.mono B1.out.size))
      clear hb
      go_wp2_with fail
      refine (C8.out _ B2.out).mono ?_
      rintro x w3 ⟨rfl, hb⟩
      have B3 := Lib.hid (B2.out.trans (hb.mono B2.out.size))
      clear hb
      go_wp2_with fail
      go_ret
      exact ⟨rfl, B3.out⟩
    | true => exact hr hsa hsb hn
end
end Go.Proofs.YtibjnaccdhcbcaaDoor
