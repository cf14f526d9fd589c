/- What is proved here: TopicIs and TopicMatch answer true for every text. Conditions: the two errors that utf.Check names are errors. -/
import Derived.Test.YtibjnaccdhcbcaaDoorAwak16
namespace Go.Proofs.YtibjnaccdhcbcaaDoor
open Go.RowKit Go.Extern.Stop Go.Stop Go.Extern
section
set_option maxHeartbeats 1000000 in
theorem topicIs_walk (S : Nat → Addr) (s : ByteArray) (w : World) (he : EnvT w S) (hs : s.size ≤ maxLen) : Calls Tryd.prog 5 #[.string s] w fun x w' => x = .returned (.bool true) ∧ Below w.heap.size w w' := by
  unfold maxLen at hs
  by_cases hb : 300 < s.size
  · have HA := Lib.hid (awake16 he)
    clear he
    go_enter Tryd.func5, Tryd.ntmps5
    go_wp2_with fail
    refine (HA.out).mono ?_
    rintro x w1 ⟨rfl, hb⟩
    go_wp2_with fail
    go_ret
    exact ⟨rfl, hb⟩
  · have hsm : s.size ≤ 300 := by omega
    have E := Lib.hid (fun w' (hb : Below w.heap.size w w') => he.later hb)
    have C1 := Lib.hid (fun w' (hb : Below w.heap.size w w') => isName_any s (by omega) (E.out w' hb))
    have C2 := Lib.hid (fun w' => rIsName_any (w := w') s (by omega))
    have C3 := Lib.hid (fun w' (hb : Below w.heap.size w w') => isFilter_any s (by omega) (E.out w' hb))
    have C4 := Lib.hid (fun w' => rIsFilter_any (w := w') s (by omega))
    have C5 := Lib.hid (fun w' => levels_any (w := w') s (by omega))
    have C6 := Lib.hid (fun w' => rlevels_any (w := w') s (by omega))
    have C8 := Lib.hid (fun w' (hb : Below w.heap.size w w') => awake16 (E.out w' hb))
    have hmax := count_le s
    unfold LevSays at C5 C6
    clear hb he
    generalize nameB s = a at *
    generalize filtB s = b at *
    generalize spl (ls s) = L at *
    go_enter Tryd.func5, Tryd.ntmps5
    go_wp2_with fail
    refine (C1.out _ (Below.refl _ _)).mono ?_
    rintro x w1 ⟨rfl, hb⟩
    have B1 := Lib.hid hb
    clear hb
    go_wp2_with fail
    refine (C2.out _).mono ?_
    rintro x w2 ⟨rfl, hb⟩
    have B2 := Lib.hid (B1.out.trans (hb.mono B1.out.size))
    clear hb
    go_wp2_with fail
    refine (C3.out _ B2.out).mono ?_
    rintro x w3 ⟨rfl, hb⟩
    have B3 := Lib.hid (B2.out.trans (hb.mono B2.out.size))
    clear hb
    go_wp2_with fail
    refine (C4.out _).mono ?_
    rintro x w4 ⟨rfl, hb⟩
    have B4 := Lib.hid (B3.out.trans (hb.mono B3.out.size))
    clear hb
    go_wp2_with fail
    refine (C5.out _).mono ?_
    rintro x w5 ⟨v1, rfl, ht1, hb⟩
    have B5 := Lib.hid (B4.out.trans (hb.mono B4.out.size))
    have T1 := Lib.hid ht1
    obtain ⟨a1, c1, rfl⟩ := ht1.form
    clear hb ht1
    go_wp2_with fail
    refine (C6.out _).mono ?_
    rintro x w6 ⟨v2, rfl, ht2, hb⟩
    have B6 := Lib.hid (B5.out.trans (hb.mono B5.out.size))
    obtain ⟨a2, c2, rfl⟩ := ht2.form
    have HS := Lib.hid (same_any (T1.out.below hb) ht2 (by omega))
    clear hb ht2
    go_wp2_with fail
    refine (HS.out).mono ?_
    rintro x w7 ⟨rfl, hf⟩
    have B7 := Lib.hid (hf.later B6.out (by simp) B6.out.size)
    clear hf
    go_wp2_with fail
    refine (C8.out _ B7.out).mono ?_
    rintro x w8 ⟨rfl, hb⟩
    have B8 := Lib.hid (B7.out.trans (hb.mono B7.out.size))
    clear hb
    go_wp2_with fail
    go_ret
    exact ⟨rfl, B8.out⟩
set_option maxHeartbeats 1000000 in
theorem topicMatch_walk (S : Nat → Addr) (f n : ByteArray) (w : World) (he : EnvT w S) (hs : f.size ≤ maxLen) (hs2 : n.size ≤ maxLen) : Calls Tryd.prog 6 #[.string f, .string n] w fun x w' => x = .returned (.bool true) ∧ Below w.heap.size w w' := by
  unfold maxLen at hs hs2
  have HA := Lib.hid (awake16 he)
  by_cases hb : 300 < f.size
  · clear he
    go_enter Tryd.func6, Tryd.ntmps6
    go_wp2_with fail
    refine (HA.out).mono ?_
    rintro x w1 ⟨rfl, hb⟩
    go_wp2_with fail
    go_ret
    exact ⟨rfl, hb⟩
  · have hf3 : f.size ≤ 300 := by omega
    by_cases hb2 : 300 < n.size
    · clear he hb
      go_enter Tryd.func6, Tryd.ntmps6
      go_wp2_with fail
      refine (HA.out).mono ?_
      rintro x w1 ⟨rfl, hb⟩
      go_wp2_with fail
      go_ret
      exact ⟨rfl, hb⟩
    · have hn3 : n.size ≤ 300 := by omega
      have E := Lib.hid (fun w' (hb : Below w.heap.size w w') => he.later hb)
      have C1 := Lib.hid (match_any f n (by omega) (by omega) he)
      have C2 := Lib.hid (fun w' => rMatch_any (w := w') f n (by omega) (by omega))
      have C8 := Lib.hid (fun w' (hb : Below w.heap.size w w') => awake16 (E.out w' hb))
      clear hb hb2 he HA
      generalize matchB f n = a at *
      go_enter Tryd.func6, Tryd.ntmps6
      go_wp2_with fail
      refine (C1.out).mono ?_
      rintro x w1 ⟨rfl, hb⟩
      have B1 := Lib.hid hb
      clear hb
      go_wp2_with fail
      refine (C2.out _).mono ?_
      rintro x w2 ⟨rfl, hb⟩
      have B2 := Lib.hid (B1.out.trans (hb.mono B1.out.size))
      clear hb
      go_wp2_with fail
      refine (C8.out _ B2.out).mono ?_
      rintro x w8 ⟨rfl, hb⟩
      have B8 := Lib.hid (B2.out.trans (hb.mono B2.out.size))
      clear hb
      go_wp2_with fail
      go_ret
      exact ⟨rfl, B8.out⟩
end
end Go.Proofs.YtibjnaccdhcbcaaDoor
