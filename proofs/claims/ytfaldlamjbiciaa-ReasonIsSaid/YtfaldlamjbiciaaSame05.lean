/- What is proved here: two lists of the same integers are found the same by the document's own comparison. Conditions: that the lists lie in memory of the call's own, and are no longer than a million. -/
import Derived.Test.YtfaldlamjbiciaaAll05
namespace Go.Proofs.Ytfaldlamjbiciaa
open Go.RowKit

set_option maxRecDepth 100000 in
set_option maxHeartbeats 1000000 in
theorem same_full (g h n ca cb : Nat) (xs : List Int) (w : World) (hl : n ≤ 1000000)
    (ha : ∀ j, j < n → w.cell? ⟨g, j, none⟩ = some (.int .i64 (xs.getD j 0))) (hb : ∀ j, j < n → w.cell? ⟨h, j, none⟩ = some (.int .i64 (xs.getD j 0))) :
    Calls Try.prog 14 #[.slice (some ⟨g, 0, none⟩) n ca, .slice (some ⟨h, 0, none⟩) n cb] w fun x w' => x = .returned (.bool true) ∧ Below w.heap.size w w' := by
  have HA := Lib.hid ha
  have HB := Lib.hid hb
  clear ha hb
  have hm : n ≤ 9223372036854775807 := by omega
  go_enter Try.func14, Try.ntmps14
  go_wp2
  go_loopg [5] n (fun m i wr => ∃ j : Nat, m = n - j ∧ j ≤ n ∧ i = .int .i64 j ∧ Below w.heap.size w wr)
  case atStart => exact ⟨0, rfl, Nat.zero_le _, rfl, Below.refl _ _⟩
  case round =>
    obtain ⟨j, rfl, hj, rfl, hb⟩ := hrel
    have HW := Lib.hid hb
    by_cases hlt : j < n
    · have h1 := HA.out j hlt
      have h2 := HB.out j hlt
      have c1 : wr.cell? ⟨g, j, none⟩ = some (.int .i64 (xs.getD j 0)) := by
        rw [hb.cell (p := ⟨g, j, none⟩) (lt_of_cell' h1)]; exact h1
      have c2 : wr.cell? ⟨h, j, none⟩ = some (.int .i64 (xs.getD j 0)) := by
        rw [hb.cell (p := ⟨h, j, none⟩) (lt_of_cell' h2)]; exact h2
      have hi : (0 : Int) ≤ (j : Int) := by omega
      have hi2 : (j : Int) < (n : Int) := by omega
      clear h1 h2 hb
      generalize xs.getD j 0 = z at *
      go_wp2
      go_quiet (fail)
      go_wp2
      go_roundg (n - (j + 1))
      case rel => exact ⟨j + 1, rfl, hlt, by go_num, below_drewN HW.out nq⟩
      case measure => omega
    · obtain rfl : j = n := by omega
      clear hb
      go_wp2
      go_ret
      exact ⟨rfl, HW.out⟩

set_option maxRecDepth 100000 in
theorem same_empty (a b : Option Addr) (ca cb : Nat) (w : World) : Calls Try.prog 14 #[.slice a 0 ca, .slice b 0 cb] w fun x w' => x = .returned (.bool true) ∧ Below w.heap.size w w' := by
  go_enter Try.func14, Try.ntmps14
  go_wp2
  refine wp_loop_rounds 1 ?_
  rw [rounds_succ]
  go_wp2
  go_ret
  exact ⟨rfl, Below.refl _ _⟩

/-- Two rows of the call's own that hold the same integers. -/
theorem same_ints (BA BB : Nat) (va vb : Value) (xs : List Int) (w : World) (hl : xs.length ≤ 1000000) (ha : w.ownsRow BA 3 1 va xs.length (xs.map intV)) (hb : w.ownsRow BB 3 1 vb xs.length (xs.map intV)) :
    Calls Try.prog 14 #[va, vb] w fun x w' => x = .returned (.bool true) ∧ Below w.heap.size w w' := by
  have cells : ∀ {B : Nat} {g cap : Nat}, w.ownsRow B 3 1 (.slice (some ⟨g, 0, none⟩) xs.length cap) xs.length (xs.map intV) → ∀ j, j < xs.length → w.cell? ⟨g, j, none⟩ = some (.int .i64 (xs.getD j 0)) := by
    intro B g cap h j hj
    rw [h.cellAt j (by omega)]
    simp [hj, intV]
  rcases Nat.eq_zero_or_pos xs.length with h0 | h0
  · have za : ∃ a c, va = .slice a 0 c := by
      rcases ha.2 with ⟨h, _⟩ | ⟨g, cap, cur, h, _⟩
      · exact ⟨_, _, h⟩
      · rw [h0] at h; exact ⟨_, _, h⟩
    have zb : ∃ a c, vb = .slice a 0 c := by
      rcases hb.2 with ⟨h, _⟩ | ⟨g, cap, cur, h, _⟩
      · exact ⟨_, _, h⟩
      · rw [h0] at h; exact ⟨_, _, h⟩
    obtain ⟨a, c, rfl⟩ := za
    obtain ⟨b, d, rfl⟩ := zb
    exact same_empty a b c d w
  · obtain ⟨g, ca, rfl, _⟩ := ha.form h0
    obtain ⟨h, cb, rfl, _⟩ := hb.form h0
    exact same_full g h _ ca cb xs w hl (cells ha) (cells hb)
end Go.Proofs.Ytfaldlamjbiciaa
