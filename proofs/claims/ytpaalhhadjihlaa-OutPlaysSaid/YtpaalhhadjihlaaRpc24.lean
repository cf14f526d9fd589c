/- What is proved here: a message as a Publish, by the document. Conditions: none. -/
import Derived.Test.YtpaalhhadjihlaaPac24
namespace Go.Proofs.Ytpaalhhadjihlaa
open Go.RowKit Go.Extern.Stop Go.Stop Go.Extern Go.Maps Go.Deep
set_option maxRecDepth 100000
/-- A packet of the document: its properties are those of the message. -/
def PkRef (w : World) (p : Pk) (A : PkA) (x : Ending) (w' : World) : Prop := x = .returned (p.agg A) ∧ Below w.heap.size w w'
set_option maxHeartbeats 4000000 in
theorem rpacket_any {w : World} (q : QV) (qos id : Int) (dup : Bool) :
    Calls Try.prog 39 #[q.agg, .int .i64 qos, .int .i64 id, .bool dup] w (PkRef w (pkP q.m qos id dup) (paR q.pa q.pc)) := by
  have HO := Lib.hid (Own.start [] w)
  have HB := Lib.hid (builtR q.m qos id dup q.pa _ q.pc rfl)
  have HS : Hid (((pkP q.m qos id dup).cells (paR q.pa q.pc)).size = 26 ∧ ((pkP q.m qos id dup).cells (paR q.pa q.pc)).toList.all (·.oneCell') = true) := Lib.hid ⟨rfl, rfl⟩
  have HR := Lib.hid (show (pkP q.m qos id dup).agg (paR q.pa q.pc) = .agg ((pkP q.m qos id dup).cells (paR q.pa q.pc)) from rfl)
  unfold PkRef
  rw [HR.out, show q.agg = .agg q.cells.toArray from rfl]
  clear HR
  generalize (pkP q.m qos id dup).cells (paR q.pa q.pc) = pc at *
  have HQC := Lib.hid (show q.cells.toArray[0]? = some (.string q.m.topic) ∧ q.cells.toArray[1]? = some (.string q.m.payload) ∧ q.cells.toArray[3]? = some (.bool q.m.retain) ∧ q.cells.toArray[4]? = some (.slice q.pa q.m.props.length q.pc) from ⟨rfl, rfl, rfl, rfl⟩)
  generalize q.cells.toArray = qc at *
  go_enter Try.func39, Try.ntmps39
  go_wp2_with (first
    | (refine wpo_box HO.out _ rfl rfl rfl ?_; clear HO; rintro k4 W1 hO; have HO := Lib.hid hO; clear hO; simp only [Act.put, List.setIfInBounds_toArray, List.set_cons_zero, List.set_cons_succ])
    | (refine wpo_alloc tyPk HO.out rfl rfl ?_; clear HO; rintro k8 W2 hO; have c0 := ((hO.get 1 rfl).cell 0).trans HQC.out.1; have c1 := ((hO.get 1 rfl).cell 1).trans HQC.out.2.1; have c3 := ((hO.get 1 rfl).cell 3).trans HQC.out.2.2.1; have c4 := ((hO.get 1 rfl).cell 4).trans HQC.out.2.2.2; have HO := Lib.hid hO; clear hO; simp only [Act.put, List.setIfInBounds_toArray, List.set_cons_zero, List.set_cons_succ])
    | (refine wpo_built HB.out rfl rfl rfl ?_)
    | (refine wpo_store HO.out 0 tyPk rfl _ _ rfl rfl rfl rfl rfl HS.out.1 HS.out.2 ?_; clear HO c0 c1 c3 c4; rintro W3 hO; have HO := Lib.hid hO; clear hO))
  exact bodyPost_ret (v := .agg pc) (res_own1 0 HO.out tyPk rfl rfl rfl HS.out.1) rfl (And.intro rfl HO.out.bel)
end Go.Proofs.Ytpaalhhadjihlaa
