/- What is proved here: ShareStrategy answers true for every two texts. Conditions: the two errors that utf.Check names are errors. -/
import Derived.Test.YtdaicjplmnpooaaDoorAwak17
namespace Go.Proofs.YtdaicjplmnpooaaDoor
open Go.RowKit Go.Extern.Stop Go.Stop Go.Extern
section
set_option maxHeartbeats 1000000 in
theorem shareStrategy_walk (S : Nat → Addr) (a b : ByteArray) (w : World) (he : EnvT w S) (hs : a.size ≤ maxLen) (hs2 : b.size ≤ maxLen) : Calls Tryd.prog 12 #[.string a, .string b] w fun x w' => x = .returned (.bool true) ∧ Below w.heap.size w w' := by
  unfold maxLen at hs hs2
  have HA := Lib.hid (awake17 he)
  clear he
  by_cases hb : 200 < a.size
  · go_enter Tryd.func12, Tryd.ntmps12
    go_wp2_with fail
    refine (HA.out).mono ?_
    rintro x w1 ⟨rfl, hb⟩
    go_wp2_with fail
    go_ret
    exact ⟨rfl, hb⟩
  · have ha3 : a.size ≤ 200 := by omega
    by_cases hb2 : 200 < b.size
    · clear hb
      go_enter Tryd.func12, Tryd.ntmps12
      go_wp2_with fail
      refine (HA.out).mono ?_
      rintro x w1 ⟨rfl, hb⟩
      go_wp2_with fail
      go_ret
      exact ⟨rfl, hb⟩
    · have hb3 : b.size ≤ 200 := by omega
      have C1 := Lib.hid (fun w => strategy_any (w := w) a)
      have hbd := strat_bd (ls a)
      by_cases h2 : 2 ≤ a.size
      · have C2 := Lib.hid (fun w => strategy_any (w := w) (a.extract 0 2 ++ b))
        have e : strat (ls (a.extract 0 2 ++ b)) = strat (ls a) := by
          rw [ls_app, ext_head, ls_bs]
          exact strat_two (by rw [ls_size]; exact h2) _
        rw [e] at C2
        clear e hb hb2
        generalize strat (ls a) = n at *
        have he2 : (a.extract 0 2).size = 2 := by rw [← ls_size, ext_head, ls_bs, List.length_take, ls_size]; omega
        obtain ⟨h5, h6⟩ := hbd
        go_enter Tryd.func12, Tryd.ntmps12
        go_wp2_with fail
        refine (C1.out _).mono ?_
        rintro x w1 ⟨rfl, rfl⟩
        go_wp2_with fail
        refine (C2.out _).mono ?_
        rintro x w1 ⟨rfl, rfl⟩
        go_wp2_with fail
        refine (HA.out).mono ?_
        rintro x w1 ⟨rfl, hb⟩
        go_wp2_with fail
        go_ret
        exact ⟨rfl, hb⟩
      · have h1 : a.size ≤ 1 := by omega
        rw [strat_one (by rw [ls_size]; exact h1)] at C1
        clear hb hb2 hbd h2
        go_enter Tryd.func12, Tryd.ntmps12
        go_wp2_with fail
        refine (C1.out _).mono ?_
        rintro x w1 ⟨rfl, rfl⟩
        go_wp2_with fail
        refine (HA.out).mono ?_
        rintro x w1 ⟨rfl, hb⟩
        go_wp2_with fail
        go_ret
        exact ⟨rfl, hb⟩
end
end Go.Proofs.YtdaicjplmnpooaaDoor
