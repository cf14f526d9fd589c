/- What is proved here: whether a text has a sign of filters. Condition: few bytes. -/
import Derived.Test.YtebaojbagogniaaDoorTopA16
namespace Go.Proofs.YtebaojbagogniaaDoor
open Go.RowKit Go.Extern.Stop Go.Stop Go.Extern
section
variable {w : World}
theorem below_iter (w : World) (s : ByteArray) (p : Nat) : Below w.heap.size w (w.iter s p) := (Below.refl _ _).alloc (Nat.le_refl _) _
set_option maxHeartbeats 1000000 in
theorem hasSign_any (s : ByteArray) (hm : s.size ≤ 1000000) : Calls Tryd.prog 46 #[.string s] w fun x w' => x = .returned (.bool (signB (ls s))) ∧ Below w.heap.size w w' := by
  go_enter Tryd.func46, Tryd.ntmps46
  go_wp2_with fail
  go_loopw [4] (fun _ wr => ∃ p : Nat, p ≤ s.size ∧ wr = w.iter s p ∧ ∀ j, j < p → bAt s j ≠ 43 ∧ bAt s j ≠ 35) (fun _ wr => s.size - wr.iterPos w.heap.size)
  case atStart => exact ⟨0, Nat.zero_le _, rfl, fun j hj => by omega⟩
  case round =>
    obtain ⟨p, hp, rfl, hno⟩ := hrel
    have HNO := Lib.hid hno
    clear hno
    by_cases hlt : p < s.size
    · by_cases ha : bAt s p < 128
      · have hn := fun ty => run_next_ascii (P := Tryd.prog) w s p ty hlt (by rw [← bAt_get hlt]; exact ha)
        rw [← bAt_get hlt] at hn
        by_cases h1 : bAt s p = 43
        · rw [h1] at hn
          have HE := Lib.hid (sign_at hlt (.inl h1))
          clear h1 ha
          go_wp2_with fail
          go_ret
          exact ⟨ret_bool HE.out.symm, below_iter _ _ _⟩
        · by_cases h2 : bAt s p = 35
          · rw [h2] at hn
            have HE := Lib.hid (sign_at hlt (.inr h2))
            clear h1 ha h2
            go_wp2_with fail
            go_ret
            exact ⟨ret_bool HE.out.symm, below_iter _ _ _⟩
          · have b1 : (((bAt s p : Nat) : Int) == 43) = false := beq_eq_false_iff_ne.2 (by omega)
            have b2 : (((bAt s p : Nat) : Int) == 35) = false := beq_eq_false_iff_ne.2 (by omega)
            have HE := Lib.hid (show ∀ j, j < p + 1 → bAt s j ≠ 43 ∧ bAt s j ≠ 35 from fun j hj => by
              rcases (show j < p ∨ j = p by omega) with h | rfl
              · exact HNO.out j h
              · exact ⟨h1, h2⟩)
            have hlt' := hlt
            clear h1 h2
            generalize bAt s p = b at *
            go_wp2_with fail
            go_roundw
            case rel => exact ⟨p + 1, by omega, rfl, HE.out⟩
            case measure => simp; omega
      · have hn := fun ty => run_next_any (P := Tryd.prog) w s p ty hlt
        have hh := decode_high s p hlt (by rw [← bAt_get hlt]; omega)
        have hsk := decode_skip hlt (by omega)
        have HE := Lib.hid (show ∀ j, j < p + (Utf8.decode s p).2 → bAt s j ≠ 43 ∧ bAt s j ≠ 35 from fun j hj => by
          by_cases h : j < p
          · exact HNO.out j h
          · have := hsk j (by omega) hj
            omega)
        have hle : p + (Utf8.decode s p).2 ≤ s.size := by
          have := hsk (p + (Utf8.decode s p).2 - 1) (by omega) (by omega)
          omega
        have hr := hh.1
        have hw := hh.2
        clear hsk hh ha
        generalize (Utf8.decode s p).1 = r at *
        generalize (Utf8.decode s p).2 = n at *
        have b1 : (((r : Nat) : Int) == 43) = false := beq_eq_false_iff_ne.2 (by omega)
        have b2 : (((r : Nat) : Int) == 35) = false := beq_eq_false_iff_ne.2 (by omega)
        go_wp2_with fail
        go_roundw
        case rel => exact ⟨p + n, by omega, rfl, HE.out⟩
        case measure => simp; omega
    · obtain rfl : p = s.size := by omega
      have hn := fun ty => run_next_end (P := Tryd.prog) w s s.size ty (by omega)
      have HE := Lib.hid (sign_none HNO.out)
      go_wp2_with fail
      go_ret
      exact ⟨ret_bool HE.out.symm, below_iter _ _ _⟩
end
end Go.Proofs.YtebaojbagogniaaDoor
