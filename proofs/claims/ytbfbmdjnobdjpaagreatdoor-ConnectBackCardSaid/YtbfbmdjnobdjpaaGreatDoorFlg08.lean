/- What is proved here: the flags that package connect writes are what a plain function says. Conditions: a will's QoS has two bits. -/
import Derived.Test.YtbfbmdjnobdjpaaGreatDoorPlc08
import Derived.Test.YtbfbmdjnobdjpaaGreatDoorDcj08
namespace Go.Proofs.YtbfbmdjnobdjpaaGreatDoor
set_option maxRecDepth 100000
open Go.ChangeShapes Go.WideShapes Go.RowKit Go.Deep Go.Extern.Stop Go.Stop Go.Extern
set_option maxHeartbeats 32000000 in
theorem flg08 (A : PkA) (p : Pk) (hp : p.wHas = true → 0 ≤ p.wQos ∧ p.wQos ≤ 3) (w : World) : Calls Tryz.prog 55 #[p.agg A] w fun x w' => x = .returned (.int .i64 (flK p : Nat)) ∧ Below w.heap.size w w' := by
  obtain ⟨c, hc⟩ : ∃ c, c = p.cells A := ⟨_, rfl⟩
  rw [show p.agg A = .agg c from by rw [hc]; rfl]
  have HCS := Lib.hid (show c.size = 26 by rw [hc]; rfl)
  have hc4 : c[4]? = some (.bool p.clean) := by rw [hc]; rfl
  have hc7 : c[7]? = some (.bool p.wHas) := by rw [hc]; rfl
  have hc10 : c[10]? = some (.int .i64 p.wQos) := by rw [hc]; rfl
  have hc11 : c[11]? = some (.bool p.wRetain) := by rw [hc]; rfl
  have hc13 : c[13]? = some (.bool p.hasUser) := by rw [hc]; rfl
  have hc15 : c[15]? = some (.bool p.hasPass) := by rw [hc]; rfl
  unfold flK
  obtain ⟨W2, hW2⟩ : ∃ W, W = w.alloc (.cells c 29) := ⟨_, rfl⟩
  have hb2 : Below w.heap.size w W2 := by rw [hW2]; exact (Below.refl _ _).alloc (Nat.le_refl _) _
  have r0 : Blk W2 w.heap.size 29 c := by rw [hW2]; exact Blk.made w _ c
  have k4 := (r0.cell 4).trans hc4
  have k7 := (r0.cell 7).trans hc7
  have k10 := (r0.cell 10).trans hc10
  have k11 := (r0.cell 11).trans hc11
  have k13 := (r0.cell 13).trans hc13
  have k15 := (r0.cell 15).trans hc15
  generalize p.clean = cl at *
  generalize p.wHas = hs at *
  generalize p.wQos = q at *
  generalize p.wRetain = rt at *
  generalize p.hasUser = us at *
  generalize p.hasPass = ps at *
  have HB2 := Lib.hid hb2
  rw [hW2] at k4 k7 k10 k11 k13 k15 HB2
  clear hc hc4 hc7 hc10 hc11 hc13 hc15 hb2 r0 hW2
  cases hs
  · have e : fgK cl false q.toNat rt ps us = (if cl then 2 else 0) + 0 + (if ps then 64 else 0) + (if us then 128 else 0) := rfl
    rw [e]
    clear hp e
    cases cl <;> cases ps <;> cases us
    all_goals
      go_enter Tryz.func55, Tryz.ntmps55
      go_wp2_with (refine wpk_box HCS.out _ rfl rfl rfl ?_)
      go_ret
      exact ⟨rfl, HB2.out⟩
  · have hq := hp rfl
    obtain rfl | rfl | rfl | rfl : q = 0 ∨ q = 1 ∨ q = 2 ∨ q = 3 := by omega
    all_goals
      clear hp hq
      cases rt <;> cases cl <;> cases ps <;> cases us
      all_goals
        go_enter Tryz.func55, Tryz.ntmps55
        go_wp2_with (refine wpk_box HCS.out _ rfl rfl rfl ?_)
        go_ret
        exact ⟨rfl, HB2.out⟩
end Go.Proofs.YtbfbmdjnobdjpaaGreatDoor
