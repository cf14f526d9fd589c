/- What is proved here: queues that are nil. No conditions. -/
import Derived.Test.YtcfbfnlbdkgfkaaAll27
namespace Go.Proofs.Ytcfbfnlbdkgfkaa
open Go.RowKit Go.Extern.Stop Go.Stop Go.Extern
set_option maxRecDepth 100000
section
variable {w w' : World}
theorem nil_len (w : World) : Calls Try.prog 44 #[.pointer none] w fun x w' => x = .returned (.int .i64 0) ∧ w = w' := by
  go_enter Try.func44, Try.ntmps44
  go_wp2_with fail
  go_ret
  exact ⟨rfl, rfl⟩
theorem nil_all (w : World) : Calls Try.prog 45 #[.pointer none] w fun x w' => x = .returned (.slice none 0 0) ∧ w = w' := by
  go_enter Try.func45, Try.ntmps45
  go_wp2_with fail
  go_ret
  exact ⟨rfl, rfl⟩
theorem nil_expire (now : Int) (w : World) : Calls Try.prog 42 #[.pointer none, .int .i64 now] w fun x w' => x = .returned (.int .i64 0) ∧ Below w.heap.size w w' := by
  have HB := Lib.hid ((Below.refl w.heap.size w).alloc (Nat.le_refl _) (.cells #[.int .i64 now] 3))
  go_enter Try.func42, Try.ntmps42
  go_wp2_with fail
  go_ret
  exact ⟨rfl, HB.out⟩
theorem nil_push (q : QV) (w : World) : Calls Try.prog 36 #[.pointer none, q.agg] w fun x w' => x = .returned (.bool false) ∧ Below w.heap.size w w' := by
  have HB := Lib.hid (fun d => below_drewN ((Below.refl w.heap.size w).alloc (Nat.le_refl _) (.cells q.cells.toArray 36)) d)
  unfold QV.agg
  unfold QV.cells at HB
  go_enter Try.func36, Try.ntmps36
  go_wp2_with fail
  go_quiet (fail)
  go_wp2_with fail
  go_ret
  exact ⟨rfl, HB.out _⟩
theorem nil_first (now : Int) (w : World) : Calls Try.prog 40 #[.pointer none, .int .i64 now] w fun x w' => x = .returned (.tuple #[q0.agg, .bool false]) ∧ Below w.heap.size w w' := by
  have HB := Lib.hid ((Below.refl w.heap.size w).alloc (Nat.le_refl _) (.cells zq 36))
  unfold zq at HB
  go_enter Try.func40, Try.ntmps40
  go_wp2_with fail
  exact bodyPost_ret (v := .tuple #[q0.agg, .bool false]) (by unfold q0 m0 QV.agg e0; simp [results, Try.results40, go_sem]) rfl ⟨rfl, HB.out⟩
theorem nil_pop (now : Int) (w : World) : Calls Try.prog 38 #[.pointer none, .int .i64 now] w fun x w' => x = .returned (.tuple #[q0.agg, .bool false]) ∧ Below w.heap.size w w' := by
  have hb0 : Below w.heap.size w (w.alloc (.cells zq 36)) := (Below.refl w.heap.size w).alloc (Nat.le_refl _) (.cells zq 36)
  have HF := Lib.hid (nil_first now (w.alloc (.cells zq 36)))
  have HBZ := Lib.hid (Blk.made w 36 zq)
  have HB0 := Lib.hid hb0
  clear hb0
  unfold zq at HF HB0
  go_enter Try.func38, Try.ntmps38
  go_wp2_with fail
  refine HF.out.mono ?_
  rintro x w5 ⟨rfl, hb5⟩
  have hz5 := HBZ.out.below hb5 HBZ.out.lt
  have hb6 : Below w5.heap.size w5 (w5.alloc (.cells zq 36)) := (Below.refl _ _).alloc (Nat.le_refl _) _
  have hz6 := hz5.below hb6 hz5.lt
  have HB6 := Lib.hid ((HB0.out.trans (hb5.mono HB0.out.size)).trans (hb6.mono (Nat.le_trans HB0.out.size hb5.size)))
  have HBF := Lib.hid (put9_below HB6.out (Nat.le_refl _) (.string ⟨#[]⟩) (.string ⟨#[]⟩) (.int .i64 0) (.bool false) (.slice none 0 0) (.string ⟨#[]⟩) (.int .i64 0) (.int .i64 0) (.string ⟨#[]⟩))
  have HY := Lib.hid (blk9_cells (put9_blk hz6 (.string ⟨#[]⟩) (.string ⟨#[]⟩) (.int .i64 0) (.bool false) (.slice none 0 0) (.string ⟨#[]⟩) (.int .i64 0) (.int .i64 0) (.string ⟨#[]⟩)))
  obtain ⟨⟨z0, z1, z2, z3, z4, z5, z6, z7, z8⟩, zf⟩ := zq_cells hz6
  clear hz6 hb6 hb5 hz5 HF
  unfold zq at z0 z1 z2 z3 z4 z5 z6 z7 z8 zf HBF HY
  unfold QV.agg q0 m0 e0
  go_wp2_with fail
  change bodyPost _ _ _ _ _ (put9 (w5.alloc (.cells #[.string ⟨#[]⟩, .string ⟨#[]⟩, .int .i64 0, .bool false, .slice none 0 0, .string ⟨#[]⟩, .int .i64 0, .int .i64 0, .string ⟨#[]⟩] 36)) w.heap.size (.string ⟨#[]⟩) (.string ⟨#[]⟩) (.int .i64 0) (.bool false) (.slice none 0 0) (.string ⟨#[]⟩) (.int .i64 0) (.int .i64 0) (.string ⟨#[]⟩))
  obtain ⟨y0, y1, y2, y3, y4, y5, y6, y7, y8⟩ := HY.out
  generalize put9 (w5.alloc _) w.heap.size _ _ _ _ _ _ _ _ _ = W at *
  exact bodyPost_ret (v := .tuple #[q0.agg, .bool false]) (by unfold q0 m0 QV.agg e0; simp [results, Try.results38, go_sem, y0, y1, y2, y3, y4, y5, y6, y7, y8]) rfl ⟨rfl, HBF.out⟩
end
end Go.Proofs.Ytcfbfnlbdkgfkaa
