/- What is proved here: whether a message has few bytes, and that its topic is then short. Conditions: those that each theorem names. -/
import Derived.Test.YtfmkeapbddhndaaDoorMsgF
namespace Go.Proofs.YtfmkeapbddhndaaDoor
open Go.RowKit Go.Extern.Stop Go.Stop Go.Extern
set_option maxRecDepth 100000
def Small19B (q : QV) (w : World) (x : Ending) (w' : World) : Prop := ∃ b : Bool, x = .returned (.bool b) ∧ (b = true → q.m.props.length ≤ 70 ∧ q.m.topic.size ≤ 200) ∧ Below w.heap.size w w'
section
variable {w w' : World} {B : Nat}
set_option maxHeartbeats 4000000 in
theorem small19_any (q : QV) (h : PIn w B q.pa q.m.props) (hm : q.m.props.length ≤ 9223372036854775807) : Calls Tryd.prog 37 #[q.agg] w (Small19B q w) := by
  have HB0 := Lib.hid ((Below.refl w.heap.size w).alloc (Nat.le_refl _) (.cells q.cells.toArray 57))
  have HP := Lib.hid (pfew_any _ q.pc (h.below ((Below.refl w.heap.size w).alloc (Nat.le_refl _) (.cells q.cells.toArray 57))) rfl hm)
  have HF := Lib.hid (show ∀ w' : World, Below w.heap.size w w' → Small19B q w (.returned (.bool false)) w' from fun _ hb => ⟨false, rfl, (fun h => by cases h), hb⟩)
  have HS := Lib.hid (show ∀ (b : Bool) (w' : World), (b = true → q.m.props.length ≤ 70 ∧ q.m.topic.size ≤ 200) → Below w.heap.size w w' → Small19B q w (.returned (.bool b)) w' from fun b _ h hb => ⟨b, rfl, h, hb⟩)
  clear h hm
  unfold QV.agg
  unfold QV.cells at *
  obtain ⟨⟨m1, m2, m3, m4, ml, m6, m7, m8, m9⟩, pa, pc⟩ := q
  dsimp only at *
  generalize ml.length = n at *
  by_cases h1 : m1.size ≤ 200
  · have HT := Lib.hid h1
    by_cases h2 : m2.size ≤ 200
    · by_cases h3 : m6.size ≤ 100
      · by_cases h4 : m9.size ≤ 200
        · go_enter Tryd.func37, Tryd.ntmps37
          go_wp2_with fail
          refine HP.out.mono ?_
          rintro x w1 ⟨⟨b, rfl, hb⟩, rfl⟩
          have HBB := Lib.hid hb
          clear hb
          go_wp2_with fail
          go_ret
          exact HS.out _ _ (fun h => ⟨HBB.out h, HT.out⟩) HB0.out
        · go_enter Tryd.func37, Tryd.ntmps37
          go_wp2_with fail
          go_ret
          exact HF.out _ HB0.out
      · go_enter Tryd.func37, Tryd.ntmps37
        go_wp2_with fail
        go_ret
        exact HF.out _ HB0.out
    · go_enter Tryd.func37, Tryd.ntmps37
      go_wp2_with fail
      go_ret
      exact HF.out _ HB0.out
  · go_enter Tryd.func37, Tryd.ntmps37
    go_wp2_with fail
    go_ret
    exact HF.out _ HB0.out
end
end Go.Proofs.YtfmkeapbddhndaaDoor
