/- What is proved here: the document's own list of a kind's codes, and that two equal lists of integers are found equal. Conditions: that the lists lie in memory of the call's own. -/
import Derived.Test.YtfaldlamjbiciaaAllowed05
import Derived.Laws.AppendOwn
import Derived.Laws.OwnMore
import Derived.OwnWalk
import Derived.Maps.AppendAt
import Derived.Deep.AppendLies
import Derived.Deep.QuietTactic
import Derived.BigQuiet
namespace Go.Proofs.Ytfaldlamjbiciaa
open Go.RowKit

def intV (n : Int) : Value := .int .i64 n
/-- The codes below m that a kind may have, in their order. -/
def codesUpTo (k : Int) : Nat → List Int
  | 0 => []
  | m + 1 => if allowedB k m then codesUpTo k m ++ [(m : Int)] else codesUpTo k m
theorem codes_len (k : Int) (m : Nat) : (codesUpTo k m).length ≤ m := by
  induction m with
  | zero => simp [codesUpTo]
  | succ m ih =>
    rw [codesUpTo]
    split
    · simp; omega
    · omega
theorem Try.intInfo : (Try.prog.info? 3).map (fun i => (i.zero, i.size, i.bytes)) = some (some (.int .i64 0), 1, 8) := by kernel_rfl

set_option maxRecDepth 100000 in
set_option maxHeartbeats 1000000 in
theorem ref_all (k : Int) (w : World) : Calls Try.prog 16 #[.int .i64 k] w fun x w' => ∃ v, x = .returned v ∧ w'.ownsRow w.heap.size 3 1 v (codesUpTo k 256).length ((codesUpTo k 256).map intV) ∧ Below w.heap.size w w' := by
  obtain ⟨i0, hi0, hz0, hz1, hz2⟩ := info_parts Try.intInfo
  go_enter Try.func16, Try.ntmps16
  go_wp2
  go_loopg [3, 4] 256 (fun n v i wr => ∃ j : Nat, n = 256 - j ∧ j ≤ 256 ∧ i = .int .i64 j ∧ wr.ownsRow w.heap.size 3 1 v (codesUpTo k j).length ((codesUpTo k j).map intV) ∧ Below w.heap.size w wr)
  case atStart => exact ⟨0, rfl, by omega, rfl, ⟨rfl, .inl ⟨rfl, rfl⟩⟩, Below.refl _ _⟩
  case round =>
    obtain ⟨j, rfl, hj, rfl, hown, hb⟩ := hrel
    have HO := Lib.hid hown
    have HB := Lib.hid hb
    clear hown hb
    by_cases hlt : j < 256
    · have hlen := codes_len k j
      have HA := Lib.hid (fun w => ref_allowed k j w)
      have hstep : codesUpTo k (j + 1) = if allowedB k j then codesUpTo k j ++ [(j : Int)] else codesUpTo k j := rfl
      have HS := Lib.hid hstep
      clear hstep
      generalize allowedB k j = a at *
      cases a
      · go_wp2_with fail
        refine (HA.out _).mono ?_
        rintro x w1 ⟨rfl, hb⟩
        have HO1 : Hid (w1.ownsRow w.heap.size 3 1 u3 (codesUpTo k (j + 1)).length ((codesUpTo k (j + 1)).map intV)) := by
          rw [HS.out]
          exact own_below HO.out hb
        have HB1 := Lib.hid (HB.out.trans (hb.mono HB.out.size))
        clear hb
        go_wp2
        go_roundg (256 - (j + 1))
        case rel => exact ⟨j + 1, rfl, hlt, by go_num, HO1.out, HB1.out⟩
        case measure => omega
      · go_wp2_with fail
        refine (HA.out _).mono ?_
        rintro x w1 ⟨rfl, hb⟩
        have HO1 := Lib.hid (own_below HO.out hb)
        have HB1 := Lib.hid (HB.out.trans (hb.mono HB.out.size))
        clear hb
        go_wp2_with (at_builtin; refine wpList_append_own _ rfl _ _ 27 rfl w.heap.size 3 i0 (.int .i64 0) 1 8 Try.underlying27 hi0 hz0 hz1 hz2 rfl (by decide) _ _ _ rfl (HO1.out.alloc _) ⟨w1.heap.size, 0, none⟩ 1 1 [.int .i64 (j : Int)] rfl rfl ?c1 ?c2 ?c3 ?c4 ?c5 ?_)
        case c1 => exact cell_one_new _ _ _
        case c2 => simp [Value.oneCell']
        case c3 => unfold maxLen; omega
        case c4 => omega
        case c5 => have := HB1.out.size; simp; omega
        intro v' w2 hown2 hgrow _
        have HO2 : Hid (w2.ownsRow w.heap.size 3 1 v' (codesUpTo k (j + 1)).length ((codesUpTo k (j + 1)).map intV)) := by
          rw [HS.out]
          simp only [if_true, List.map_append, List.length_append]
          exact hown2
        have hsz : w.heap.size ≤ w1.heap.size := HB1.out.size
        have HB2 : Hid (Below w.heap.size w w2) := (HB1.out.alloc hsz _).grown hgrow (by rw [World.size_alloc]; omega) (fun g hg => (HO1.out.lt g hg).1)
        clear hown2 hgrow
        go_wp2
        go_roundg (256 - (j + 1))
        case rel => exact ⟨j + 1, rfl, hlt, by go_num, HO2.out, HB2.out⟩
        case measure => omega
    · obtain rfl : j = 256 := by omega
      go_wp2
      go_ret
      exact ⟨_, rfl, HO.out, HB.out⟩
end Go.Proofs.Ytfaldlamjbiciaa
