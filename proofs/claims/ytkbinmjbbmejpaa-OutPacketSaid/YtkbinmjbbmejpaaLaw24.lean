/- What is proved here: OutPacket answers true for every message, numbers and mark. Conditions: the message is one that came in. -/
import Derived.Test.YtkbinmjbbmejpaaAwk24
import Derived.Test.YtkbinmjbbmejpaaRpc24
import Derived.Test.YtkbinmjbbmejpaaOpn24
import Derived.Test.YtkbinmjbbmejpaaSmm08
import Derived.Test.YtkbinmjbbmejpaaMsgF
namespace Go.Proofs.Ytkbinmjbbmejpaa
open Go.RowKit Go.Extern.Stop Go.Stop Go.Extern Go.Maps Go.Deep
set_option maxRecDepth 100000
theorem tyA2 : Ty Try.prog 67 #[.int .i64 0, .int .i64 0] := ty_mk (n := 2) (by kernel_rfl) rfl Try.underlying67 rfl (by kernel_rfl) rfl
/-- The message and the numbers stand in variables of the law's own. -/
structure OpI (w W : World) (k3 k4 : Nat) (q : QV) (a0 a1 : Int) : Prop where
  b3 : Blk W k3 36 #[.string q.m.topic, .string q.m.payload, .int .i64 q.m.qos, .bool q.m.retain, .slice q.pa q.m.props.length q.pc, .string q.m.frm, .int .i64 q.m.til, .int .i64 q.m.seq, .string q.m.grp]
  b4 : Blk W k4 67 #[.int .i64 a0, .int .i64 a1]
  bel : Below w.heap.size w W
section
variable {w W W' : World} {k3 k4 : Nat} {q : QV} {a0 a1 : Int} {dup : Bool} {v1 : Value}
theorem OpI.below (h : OpI w W k3 k4 q a0 a1) (hb : Below W.heap.size W W') : OpI w W' k3 k4 q a0 a1 := ⟨h.b3.below hb h.b3.lt, h.b4.below hb h.b4.lt, h.bel.trans (hb.mono h.bel.size)⟩
/-- A packet of the program's. -/
def G1 (q : QV) (a0 a1 : Int) (dup : Bool) (v1 : Value) (W : World) : Prop := ∃ a c, v1 = (pkP q.m a0 a1 dup).agg (paR a c) ∧ PIn W 0 a q.m.props
structure OpJ (w W : World) (k3 k4 : Nat) (q : QV) (a0 a1 : Int) (dup : Bool) (v1 : Value) : Prop where
  op : OpI w W k3 k4 q a0 a1
  g1 : G1 q a0 a1 dup v1 W
theorem OpJ.below (h : OpJ w W k3 k4 q a0 a1 dup v1) (hb : Below W.heap.size W W') : OpJ w W' k3 k4 q a0 a1 dup v1 := by
  obtain ⟨a, c, e, hp⟩ := h.g1
  exact ⟨h.op.below hb, a, c, e, hp.below hb⟩
theorem pkin_of {B : Nat} {a : Option Addr} {c : Nat} (h : PIn W B a q.m.props) : PkI W B (paR a c) (pkP q.m a0 a1 dup) := ⟨h, PIn.nil _ _ _, CIn.nil _ _ _ _, CIn.nil _ _ _ _⟩
theorem OpI.drew (h : OpI w W k3 k4 q a0 a1) : OpI w (W.drewN 1) k3 k4 q a0 a1 := ⟨h.b3, h.b4, ⟨h.bel.os, h.bel.tape, h.bel.output, h.bel.size, h.bel.block⟩⟩
theorem OpJ.drew (h : OpJ w W k3 k4 q a0 a1 dup v1) : OpJ w (W.drewN 1) k3 k4 q a0 a1 dup v1 := by
  obtain ⟨a, c, e, hp⟩ := h.g1
  exact ⟨h.op.drew, a, c, e, hp.drewN 1⟩
end
set_option maxHeartbeats 8000000 in
theorem outPacket_walk (q : QV) (a0 a1 : Int) (dup : Bool) (w : World) (h : MsgOf w q) (_ : (Lit.int .i64 a0).wf = true) (_ : (Lit.int .i64 a1).wf = true) :
    Calls Try.prog 5 #[q.agg, .agg #[.int .i64 a0, .int .i64 a1], .bool dup] w fun x w' => x = .returned (.bool true) ∧ Below w.heap.size w w' := by
  have HP := Lib.hid (fun W (hb : Below w.heap.size w W) => h.1.below hb)
  have HSM := Lib.hid (fun W (hb : Below w.heap.size w W) => small_any q (h.1.below hb) h.2.1)
  have HAW := Lib.hid (fun W (hb : Below w.heap.size w W) => (awake24 W).mono fun x w' hx => show x = .returned (.bool true) ∧ Below w.heap.size w w' from ⟨hx.1, hb.trans (hx.2.mono hb.size)⟩)
  have HO := Lib.hid (Own.start [] w)
  clear h
  unfold QV.agg at *
  go_enter Try.func5, Try.ntmps5
  go_upto_region 1 with (first
    | (refine wpo_box (t := 36) HO.out _ rfl rfl rfl ?_; clear HO; rintro k3 W1 hO; have HO := Lib.hid hO; clear hO; simp only [Act.put, List.setIfInBounds_toArray, List.set_cons_zero, List.set_cons_succ])
    | (refine wpo_box (t := 67) HO.out _ rfl rfl rfl ?_; clear HO; rintro k4 W2 hO; have HO := Lib.hid hO; clear hO; simp only [Act.put, List.setIfInBounds_toArray, List.set_cons_zero, List.set_cons_succ]))
  have hi : OpI w W2 k3 k4 q a0 a1 := ⟨HO.out.get 1 rfl, HO.out.get 0 rfl, HO.out.bel⟩
  have HI := Lib.hid hi
  have HS2 := Lib.hid (HSM.out _ hi.bel)
  clear hi HSM
  go_wp2_with (refine wpo_load HO.out 1 tyMs rfl rfl _ rfl rfl rfl ?_; simp only [Act.put, List.setIfInBounds_toArray, List.set_cons_zero, List.set_cons_succ])
  refine HS2.out.mono ?_
  rintro x W3 ⟨b, rfl, hb, hb3⟩
  have HI3 := Lib.hid (HI.out.below hb3)
  clear hb3 HS2 HO HI
  cases b with
  | false =>
    have HA3 := Lib.hid (HAW.out _ HI3.out.bel)
    clear hb
    go_wp2_with fail
    refine HA3.out.mono ?_
    rintro x W4 ⟨rfl, hb4⟩
    have HB4 := Lib.hid hb4
    clear hb4
    go_wp2_with fail
    go_ret
    exact ⟨rfl, HB4.out⟩
  | true =>
    have HL := Lib.hid (hb rfl)
    clear hb
    have DP := Lib.hid (fun (W : World) (h : OpI w W k3 k4 q a0 a1) => (packet_any (w := W) q (HP.out _ h.bel) (by have := HL.out; omega) a0 a1 dup).mono fun x w' ⟨a, c, hx, hp, hb⟩ =>
      show ∃ v1, x = Ending.returned v1 ∧ OpJ w w' k3 k4 q a0 a1 dup v1 from ⟨_, hx, h.below hb, a, c, rfl, hp⟩)
    have DR := Lib.hid (fun (W : World) v1 (h : OpJ w W k3 k4 q a0 a1 dup v1) => (rpacket_any (w := W) q a0 a1 dup).mono fun x w' ⟨hx, hb⟩ =>
      show x = Ending.returned ((pkP q.m a0 a1 dup).agg (paR q.pa q.pc)) ∧ OpJ w w' k3 k4 q a0 a1 dup v1 from ⟨hx, h.below hb⟩)
    have DS := Lib.hid (fun (W : World) v1 (h : OpJ w W k3 k4 q a0 a1 dup v1) => show Calls Try.prog 26 #[v1, (pkP q.m a0 a1 dup).agg (paR q.pa q.pc)] W fun x w' => x = Ending.returned (.bool true) ∧ OpI w w' k3 k4 q a0 a1 from by
      obtain ⟨a, c, rfl, hp⟩ := h.g1
      exact (same08 (pkin_of hp) (pkin_of (HP.out _ h.op.bel)) rfl (by have := HL.out; show q.m.props.length ≤ 1000; omega) (Nat.zero_le _) (Nat.zero_le _) (Nat.zero_le _)).mono fun _ _ ⟨hx, hb⟩ => ⟨hx, h.op.below hb⟩)
    have DA := Lib.hid (fun (W : World) (h : OpI w W k3 k4 q a0 a1) => (awake24 W).mono fun x w' hx => show x = Ending.returned (.bool true) ∧ OpI w w' k3 k4 q a0 a1 from ⟨hx.1, h.below hx.2⟩)
    have KT := Lib.hid (fun (W : World) (h : OpI w W k3 k4 q a0 a1) => show (fun W => W.cell? ⟨k3, 0, none⟩ = some (.string q.m.topic) ∧ W.cell? ⟨k3, 1, none⟩ = some (.string q.m.payload) ∧ W.cell? ⟨k3, 2, none⟩ = some (.int .i64 q.m.qos) ∧ W.cell? ⟨k3, 3, none⟩ = some (.bool q.m.retain) ∧ W.cell? ⟨k3, 4, none⟩ = some (.slice q.pa q.m.props.length q.pc) ∧ W.cell? ⟨k3, 5, none⟩ = some (.string q.m.frm) ∧ W.cell? ⟨k3, 6, none⟩ = some (.int .i64 q.m.til) ∧ W.cell? ⟨k3, 7, none⟩ = some (.int .i64 q.m.seq) ∧ W.cell? ⟨k3, 8, none⟩ = some (.string q.m.grp) ∧ W.cell? ⟨k4, 0, none⟩ = some (.int .i64 a0) ∧ W.cell? ⟨k4, 1, none⟩ = some (.int .i64 a1)) W from ⟨h.b3.cell 0, h.b3.cell 1, h.b3.cell 2, h.b3.cell 3, h.b3.cell 4, h.b3.cell 5, h.b3.cell 6, h.b3.cell 7, h.b3.cell 8, h.b4.cell 0, h.b4.cell 1⟩)
    clear HP HAW
    unfold QV.agg at *
    generalize (pkP q.m a0 a1 dup).agg (paR q.pa q.pc) = vr at *
    have hi3 := HI3.out
    clear HI3
    obtain ⟨t0, t1, t2, t3, t4, t5, t6, t7, t8, t9, t10⟩ := KT.out _ hi3
    go_wp2_with fail
    go_region_held3 (fun W => W.cell? ⟨k3, 0, none⟩ = some (.string q.m.topic) ∧ W.cell? ⟨k3, 1, none⟩ = some (.string q.m.payload) ∧ W.cell? ⟨k3, 2, none⟩ = some (.int .i64 q.m.qos) ∧ W.cell? ⟨k3, 3, none⟩ = some (.bool q.m.retain) ∧ W.cell? ⟨k3, 4, none⟩ = some (.slice q.pa q.m.props.length q.pc) ∧ W.cell? ⟨k3, 5, none⟩ = some (.string q.m.frm) ∧ W.cell? ⟨k3, 6, none⟩ = some (.int .i64 q.m.til) ∧ W.cell? ⟨k3, 7, none⟩ = some (.int .i64 q.m.seq) ∧ W.cell? ⟨k3, 8, none⟩ = some (.string q.m.grp) ∧ W.cell? ⟨k4, 0, none⟩ = some (.int .i64 a0) ∧ W.cell? ⟨k4, 1, none⟩ = some (.int .i64 a1))
      (first | assumption | (exact KT.out _ (by assumption)) | (exact KT.out _ (OpI.drew (by assumption))) | (exact KT.out _ (OpJ.op (by assumption))))
      (first
        | (go_at_call 27; (with_reducible refine (DP.out _ ?_).mono ?_); (first | assumption | exact OpI.drew (by assumption)); rintro x w6 ⟨v1, rfl, hj6⟩)
        | (go_at_call 28; (with_reducible refine (DR.out _ v1 ?_).mono ?_); (first | assumption | exact OpJ.drew (by assumption)); rintro x w7 ⟨rfl, hj7⟩)
        | (go_at_call 26; (with_reducible refine (DS.out _ v1 ?_).mono ?_); (first | assumption | exact OpJ.drew (by assumption)); rintro x w8 ⟨rfl, hj8⟩)
        | (go_at_call 7; (with_reducible refine (DA.out _ ?_).mono ?_); (first | assumption | exact OpI.drew (by assumption)); rintro x w9 ⟨rfl, hj9⟩))
    go_wp2_with fail
    go_ret
    exact ⟨rfl, hj9.bel⟩
end Go.Proofs.Ytkbinmjbbmejpaa
