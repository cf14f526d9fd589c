/- What is proved here: QueueLeft answers true for every message and time. Conditions: the message is one that came in. -/
import Derived.Test.YtcfbfnlbdkgfkaaAwk27
import Derived.Test.YtcfbfnlbdkgfkaaOpen27
namespace Go.Proofs.Ytcfbfnlbdkgfkaa
open Go.RowKit Go.Extern.Stop Go.Stop Go.Extern
set_option maxRecDepth 100000
/-- Two answers of Left that agree. -/
theorem left_len2 (q : QV) (now : Int) (h : q.m.props.length ≤ 70) : (leftV q.m now).props.length ≤ 1000 := by
  unfold leftV
  split
  · have := others_len q.m.props 2
    simp
    omega
  · omega
def leftR (m : MV) (now : Int) : MV := if exB m.til now then m0 else leftV m now
theorem leftR_len (q : QV) (now : Int) (h : q.m.props.length ≤ 70) : (leftR q.m now).props.length ≤ 1000 := by
  unfold leftR
  split
  · simp [m0]
  · exact left_len2 q now h
def LeftForm (w : World) (B : Nat) (q : QV) (now : Int) (x : Ending) (w' : World) : Prop := ∃ a : QV, x = .returned (.tuple #[a.agg, .bool (!exB q.m.til now)]) ∧ a.m = leftR q.m now ∧ PIn w' B a.pa a.m.props ∧ Below w.heap.size w w'
theorem left_form {w w' : World} {B : Nat} {q : QV} {now : Int} {x : Ending} (h : LeftSays w B q now x w') : LeftForm w B q now x w' := by
  obtain ⟨hb, h⟩ := h
  rcases h with ⟨e, rfl⟩ | ⟨e, pa, pc, rfl, hp⟩
  · exact ⟨q0, by rw [e]; rfl, by unfold leftR; rw [e]; rfl, PIn.nil _ _ _, hb⟩
  · exact ⟨⟨leftV q.m now, pa, pc⟩, by rw [e]; rfl, by unfold leftR; rw [e]; rfl, hp, hb⟩
theorem MsgOf.below {w w' : World} {q : QV} (h : MsgOf w q) (hb : Below w.heap.size w w') : PIn w' w.heap.size q.pa q.m.props := h.1.below hb
set_option maxHeartbeats 2000000 in
theorem quLeft_core (q : QV) (now : Int) (w : World) (h : MsgOf w q) : Calls Try.prog 7 #[q.agg, .int .i64 now] w fun x w' => x = .returned (.bool true) ∧ Below w.heap.size w w' := by
  have hb0 : Below w.heap.size w (w.alloc (.cells q.cells.toArray 36)) := (Below.refl _ _).alloc (Nat.le_refl _) _
  have HSM := Lib.hid (small_any q (h.below hb0) h.2.1)
  have HP := Lib.hid (fun W (hb : Below w.heap.size w W) => h.below hb)
  have HT := Lib.hid h.2.2
  have HBX := Lib.hid (Blk.made w 36 q.cells.toArray)
  have HAW := Lib.hid (fun W (hb : Below w.heap.size w W) => (awake27 W).mono fun x w' hx => show x = .returned (.bool true) ∧ Below w.heap.size w w' from ⟨hx.1, hb.trans (hx.2.mono hb.size)⟩)
  have HL := Lib.hid (fun W (hb : Below w.heap.size w W) hm => (left_any (w := W) (B := w.heap.size) (B2 := w.heap.size) q now (h.below hb) hm h.2.2).mono fun x w' hx => left_form hx)
  have HR := Lib.hid (fun W (hb : Below w.heap.size w W) hm => (rleft_any (w := W) (B := w.heap.size) q now (h.below hb) hb.size hm h.2.2).mono fun x w' hx => left_form hx)
  clear h
  unfold QV.agg at *
  unfold QV.cells at hb0
  have HB0 := Lib.hid hb0
  clear hb0
  go_enter Try.func7, Try.ntmps7
  go_wp2_with fail
  refine HSM.out.mono ?_
  rintro x w2 ⟨b, rfl, hb, hb2⟩
  have hbx2 := HBX.out.below hb2 HBX.out.lt
  have HBX2 := Lib.hid hbx2
  have HB2 := Lib.hid (HB0.out.trans (hb2.mono HB0.out.size))
  clear hb2 HSM HB0 HBX
  cases b with
  | false =>
    clear hb hbx2
    go_wp2_with fail
    refine (HAW.out _ HB2.out).mono ?_
    rintro x w3 ⟨rfl, hb3⟩
    have HB3 := Lib.hid hb3
    clear hb3
    go_wp2_with fail
    go_ret
    exact ⟨rfl, HB3.out⟩
  | true =>
    have hm := hb rfl
    obtain ⟨k0, k1, k2, k3, k4, k5, k6, k7, k8⟩ := box_cells hbx2
    clear hb hbx2
    generalize hok : (!exB q.m.til now) = ok at *
    go_wp2_with fail
    refine (HL.out _ HB2.out (by omega)).mono ?_
    rintro x w3 ⟨a, rfl, ham, hpa, hb3⟩
    rw [hok]
    have hbx : Below w3.heap.size w3 (w3.alloc (.cells a.cells.toArray 36)) := (Below.refl _ _).alloc (Nat.le_refl _) _
    have HB3 := Lib.hid ((HB2.out.trans (hb3.mono HB2.out.size)).trans (hbx.mono (Nat.le_trans HB2.out.size hb3.size)))
    have HPA := Lib.hid (hpa.below hbx)
    have HAM := Lib.hid ham
    have HA := Lib.hid (Blk.made w3 36 a.cells.toArray)
    have hq3 := (HBX2.out.below hb3 HBX2.out.lt).below hbx (HBX2.out.below hb3 HBX2.out.lt).lt
    have HQ3 := Lib.hid hq3
    clear k0 k1 k2 k3 k4 k5 k6 k7 k8
    obtain ⟨k0, k1, k2, k3, k4, k5, k6, k7, k8⟩ := box_cells hq3
    unfold QV.cells at hbx
    clear hpa hb3 ham hq3 HL
    unfold QV.agg
    unfold QV.cells at k0 k1 k2 k3 k4 k5 k6 k7 k8
    go_wp2_with fail
    refine (HR.out _ HB3.out (by omega)).mono ?_
    rintro x w4 ⟨b, rfl, hbm, hpb, hb4⟩
    rw [hok]
    have hby : Below w4.heap.size w4 (w4.alloc (.cells b.cells.toArray 36)) := (Below.refl _ _).alloc (Nat.le_refl _) _
    have HB4 := Lib.hid ((HB3.out.trans (hb4.mono HB3.out.size)).trans (hby.mono (Nat.le_trans HB3.out.size hb4.size)))
    have hlen : a.m.props.length ≤ 1000 := by rw [HAM.out]; exact leftR_len q now hm
    have HSA := Lib.hid (samemsg_any (w := w4.alloc (.cells b.cells.toArray 36)) a b (HAM.out.trans hbm.symm) ((HPA.out.below hb4).below hby) (hpb.below hby) hlen)
    have ha4 := (HA.out.below hb4 HA.out.lt).below hby (HA.out.below hb4 HA.out.lt).lt
    clear k0 k1 k2 k3 k4 k5 k6 k7 k8
    obtain ⟨k0, k1, k2, k3, k4, k5, k6, k7, k8⟩ := box_cells ha4
    clear hpb hb4 hbm ha4 HR HAM hlen hby
    unfold QV.agg at HSA ⊢
    unfold QV.cells at k0 k1 k2 k3 k4 k5 k6 k7 k8
    have hkk : (ok == ok) = true := by simp
    go_wp2_with fail
    refine HSA.out.mono ?_
    rintro x w5 ⟨rfl, hb5⟩
    have HB5 := Lib.hid (HB4.out.trans (hb5.mono HB4.out.size))
    clear hb5 k0 k1 k2 k3 k4 k5 k6 k7 k8
    go_wp2_with fail
    refine (HAW.out _ HB5.out).mono ?_
    rintro x w6 ⟨rfl, hb6⟩
    have HB6 := Lib.hid hb6
    clear hb6
    go_wp2_with fail
    go_ret
    exact ⟨rfl, HB6.out⟩
theorem queueLeft_walk (q : QV) (now : Int) (w : World) (h : MsgOf w q) (_ : -9223372036854775808 ≤ now ∧ now ≤ 9223372036854775807) : Calls Try.prog 7 #[q.agg, .int .i64 now] w fun x w' => x = .returned (.bool true) ∧ Below w.heap.size w w' := quLeft_core q now w h
end Go.Proofs.Ytcfbfnlbdkgfkaa
