/- What is proved here: a message as a Publish, by the program and by the document. Conditions: few properties. -/
import Derived.Test.YtpaalhhadjihlaaOpg24
import Derived.Test.YtpaalhhadjihlaaRegT
namespace Go.Proofs.Ytpaalhhadjihlaa
open Go.RowKit Go.Extern.Stop Go.Stop Go.Extern Go.Maps Go.Deep
set_option maxRecDepth 100000
set_option linter.unusedSimpArgs false
/-- A message as a Publish. -/
def pkP (m : MV) (qos id : Int) (dup : Bool) : Pk := ⟨3, id, 0, m.props, false, 0, ⟨#[]⟩, false, ⟨#[]⟩, ⟨#[]⟩, 0, false, [], false, ⟨#[]⟩, false, ⟨#[]⟩, false, m.topic, m.payload, qos, m.retain, dup, [], [], []⟩
set_option maxHeartbeats 4000000 in
theorem chain8 (id qos : Int) (t p : ByteArray) (r d : Bool) (a : Option Addr) (n c : Nat) : Try.prog.built 49 [(0, .int .i64 3), (1, .int .i64 id), (13, .string t), (14, .string p), (3, .slice a n c), (15, .int .i64 qos), (16, .bool r), (17, .bool d)] = some (((((((((pk0.cells pa0).setIfInBounds 0 (.int .i64 3)).setIfInBounds 1 (.int .i64 id)).setIfInBounds 18 (.string t)).setIfInBounds 19 (.string p)).setIfInBounds 3 (.slice a n c)).setIfInBounds 20 (.int .i64 qos)).setIfInBounds 21 (.bool r)).setIfInBounds 22 (.bool d)) := by kernel_rfl
theorem built8 (m : MV) (qos id : Int) (dup : Bool) (a : Option Addr) (n c : Nat) (hn : n = m.props.length) : Try.prog.built 49 [(0, .int .i64 3), (1, .int .i64 id), (13, .string m.topic), (14, .string m.payload), (3, .slice a n c), (15, .int .i64 qos), (16, .bool m.retain), (17, .bool dup)] = some ((pkP m qos id dup).cells (paR a c)) := by
  subst hn
  exact (chain8 id qos m.topic m.payload m.retain dup a _ c).trans (congrArg some (by rfl))
set_option maxHeartbeats 4000000 in
theorem chainR (id qos : Int) (t p : ByteArray) (r d : Bool) (a : Option Addr) (n c : Nat) : Try.prog.built 49 [(0, .int .i64 3), (1, .int .i64 id), (15, .int .i64 qos), (17, .bool d), (13, .string t), (14, .string p), (16, .bool r), (3, .slice a n c)] = some (((((((((pk0.cells pa0).setIfInBounds 0 (.int .i64 3)).setIfInBounds 1 (.int .i64 id)).setIfInBounds 20 (.int .i64 qos)).setIfInBounds 22 (.bool d)).setIfInBounds 18 (.string t)).setIfInBounds 19 (.string p)).setIfInBounds 21 (.bool r)).setIfInBounds 3 (.slice a n c)) := by kernel_rfl
theorem builtR (m : MV) (qos id : Int) (dup : Bool) (a : Option Addr) (n c : Nat) (hn : n = m.props.length) : Try.prog.built 49 [(0, .int .i64 3), (1, .int .i64 id), (15, .int .i64 qos), (17, .bool dup), (13, .string m.topic), (14, .string m.payload), (16, .bool m.retain), (3, .slice a n c)] = some ((pkP m qos id dup).cells (paR a c)) := by
  subst hn
  exact (chainR id qos m.topic m.payload m.retain dup a _ c).trans (congrArg some (by rfl))
/-- What stands while it is made. -/
structure PcIn (w W : World) (k4 k8 B : Nat) (q : QV) : Prop where
  own : Own [] w W [(k8, 49, pk0.cells pa0), (k4, 36, q.cells.toArray)]
  pin : PIn W B q.pa q.m.props
theorem PcIn.below {w W W' : World} {k4 k8 B : Nat} {q : QV} (h : PcIn w W k4 k8 B q) (hb : Below W.heap.size W W') : PcIn w W' k4 k8 B q := ⟨h.own.below hb, h.pin.below hb⟩
theorem PcIn.drew {w W : World} {k4 k8 B : Nat} {q : QV} (h : PcIn w W k4 k8 B q) : PcIn w W.drew k4 k8 B q := ⟨h.own.drew, h.pin.drewN 1⟩
/-- A packet of a call's own. -/
def PkSays (w : World) (p : Pk) (x : Ending) (w' : World) : Prop := ∃ a c, x = .returned (.agg (p.cells (paR a c))) ∧ PIn w' 0 a p.props ∧ Below w.heap.size w w'
set_option maxHeartbeats 4000000 in
theorem packet_any {w : World} {B : Nat} (q : QV) (h : PIn w B q.pa q.m.props) (hl : q.m.props.length ≤ 1000) (qos id : Int) (dup : Bool) :
    Calls Try.prog 38 #[q.agg, .int .i64 qos, .int .i64 id, .bool dup] w (PkSays w (pkP q.m qos id dup)) := by
  have HO := Lib.hid (Own.start [] w)
  have HP := Lib.hid h
  have HC := Lib.hid (fun W k4 k8 (hS : PcIn w W k4 k8 B q) => clone_props (cp := q.pc) hS.pin hl)
  have HQA := Lib.hid (show q.agg = .agg q.cells.toArray from rfl)
  rw [HQA.out]
  clear h hl
  go_enter Try.func38, Try.ntmps38
  go_upto_region 1 with (first
    | (refine wpo_box HO.out _ rfl rfl rfl ?_; clear HO; rintro k4 W1 hO; have HO := Lib.hid hO; clear hO; simp only [Act.put, List.setIfInBounds_toArray, List.set_cons_zero, List.set_cons_succ])
    | (refine wpo_alloc tyPk HO.out rfl rfl ?_; clear HO; rintro k8 W1 hO; have HO := Lib.hid hO; clear hO; simp only [Act.put, List.setIfInBounds_toArray, List.set_cons_zero, List.set_cons_succ]))
  have hi0 : PcIn w W1 k4 k8 B q := ⟨HO.out, HP.out.below HO.out.bel⟩
  clear HO HP
  have KS := Lib.hid (fun W (hS : PcIn w W k4 k8 B q) => show W.cell? ⟨k4, 0, none⟩ = some (.string q.m.topic) ∧ W.cell? ⟨k4, 1, none⟩ = some (.string q.m.payload) ∧ W.cell? ⟨k4, 3, none⟩ = some (.bool q.m.retain) ∧ W.cell? ⟨k4, 4, none⟩ = some (.slice q.pa q.m.props.length q.pc) from
    ⟨(hS.own.get 1 rfl).cell 0, (hS.own.get 1 rfl).cell 1, (hS.own.get 1 rfl).cell 3, (hS.own.get 1 rfl).cell 4⟩)
  have hs0 := KS.out _ hi0.drew
  generalize hqc : q.cells.toArray = qc at *
  refine wp_region_T (fun W => W.cell? ⟨k4, 0, none⟩ = some (.string q.m.topic) ∧ W.cell? ⟨k4, 1, none⟩ = some (.string q.m.payload) ∧ W.cell? ⟨k4, 3, none⟩ = some (.bool q.m.retain) ∧ W.cell? ⟨k4, 4, none⟩ = some (.slice q.pa q.m.props.length q.pc)) 13 (by kernel_rfl) ?_ (fun hHeld => ?_)
  · exact hs0
  refine wpAnyT_take (i := 0) (oi := _) (v := ?_) rfl (by kernel_rfl) (by kernel_rfl) (by kernel_rfl) (by kernel_rfl) (fun _ _ _ h => h) (Or.inl ⟨by rfl, ?_⟩) (by assumption) ?_
  rotate_left
  · (intro w hSw; (try dsimp only at hSw); go_simp; (try with_reducible rfl))
  (try simp only [Act.put, List.setIfInBounds_toArray, List.set_cons_zero, List.set_cons_succ])
  refine wpAnyT_take (i := 1) (oi := _) (v := ?_) rfl (by kernel_rfl) (by kernel_rfl) (by kernel_rfl) (by kernel_rfl) (fun _ _ _ h => h) (Or.inl ⟨by rfl, ?_⟩) (by assumption) ?_
  rotate_left
  · (intro w hSw; (try dsimp only at hSw); go_simp; (try with_reducible rfl))
  (try simp only [Act.put, List.setIfInBounds_toArray, List.set_cons_zero, List.set_cons_succ])
  refine wpAnyT_take (i := 2) (oi := _) (v := ?_) rfl (by kernel_rfl) (by kernel_rfl) (by kernel_rfl) (by kernel_rfl) (fun _ _ _ h => h) (Or.inl ⟨by rfl, ?_⟩) (by assumption) ?_
  rotate_left
  · (intro w hSw; (try dsimp only at hSw); go_simp; (try with_reducible rfl))
  (try simp only [Act.put, List.setIfInBounds_toArray, List.set_cons_zero, List.set_cons_succ])
  refine wpAnyT_take (i := 3) (oi := _) (v := ?_) rfl (by kernel_rfl) (by kernel_rfl) (by kernel_rfl) (by kernel_rfl) (fun _ _ _ h => h) (Or.inl ⟨by rfl, ?_⟩) (by assumption) ?_
  rotate_left
  · (intro w hSw; (try dsimp only at hSw); go_simp; (try with_reducible rfl))
  (try simp only [Act.put, List.setIfInBounds_toArray, List.set_cons_zero, List.set_cons_succ])
  refine wpAnyT_take (i := 4) (oi := _) (v := ?_) rfl (by kernel_rfl) (by kernel_rfl) (by kernel_rfl) (by kernel_rfl) (fun _ _ _ h => h) (Or.inl ⟨by rfl, ?_⟩) (by assumption) ?_
  rotate_left
  · (intro w hSw; (try dsimp only at hSw); go_simp; (try with_reducible rfl))
  (try simp only [Act.put, List.setIfInBounds_toArray, List.set_cons_zero, List.set_cons_succ])
  refine wpAnyT_take (i := 5) (oi := _) (v := ?_) rfl (by kernel_rfl) (by kernel_rfl) (by kernel_rfl) (by kernel_rfl) (fun _ _ _ h => h) (Or.inl ⟨by rfl, ?_⟩) (by assumption) ?_
  rotate_left
  · (intro w hSw; (try dsimp only at hSw); go_simp; (try with_reducible rfl))
  (try simp only [Act.put, List.setIfInBounds_toArray, List.set_cons_zero, List.set_cons_succ])
  refine wpAnyT_take (i := 6) (oi := _) (v := ?_) rfl (by kernel_rfl) (by kernel_rfl) (by kernel_rfl) (by kernel_rfl) (fun _ _ _ h => h) (Or.inl ⟨by rfl, ?_⟩) (by assumption) ?_
  rotate_left
  · (intro w hSw; (try dsimp only at hSw); go_simp; (try with_reducible rfl))
  (try simp only [Act.put, List.setIfInBounds_toArray, List.set_cons_zero, List.set_cons_succ])
  refine wpAnyT_take (i := 8) (oi := _) (v := ?_) rfl (by kernel_rfl) (by kernel_rfl) (by kernel_rfl) (by kernel_rfl) (fun _ _ _ h => h) (Or.inl ⟨by rfl, ?_⟩) (by assumption) ?_
  rotate_left
  · (intro w hSw; (try dsimp only at hSw); go_simp; (try with_reducible rfl))
  (try simp only [Act.put, List.setIfInBounds_toArray, List.set_cons_zero, List.set_cons_succ])
  refine wpAnyT_take (i := 9) (oi := _) (v := ?_) rfl (by kernel_rfl) (by kernel_rfl) (by kernel_rfl) (by kernel_rfl) (fun _ _ _ h => h) (Or.inl ⟨by rfl, ?_⟩) (by assumption) ?_
  rotate_left
  · (intro w hSw; (try dsimp only at hSw); go_simp; (try with_reducible rfl))
  (try simp only [Act.put, List.setIfInBounds_toArray, List.set_cons_zero, List.set_cons_succ])
  refine wpAnyT_take (i := 10) (oi := _) (v := ?_) rfl (by kernel_rfl) (by kernel_rfl) (by kernel_rfl) (by kernel_rfl) (fun _ _ _ h => h) (Or.inl ⟨by rfl, ?_⟩) (by assumption) ?_
  rotate_left
  · (intro w hSw; (try dsimp only at hSw); go_simp; (try with_reducible rfl))
  (try simp only [Act.put, List.setIfInBounds_toArray, List.set_cons_zero, List.set_cons_succ])
  refine wpAnyT_take (i := 11) (oi := _) (v := ?_) rfl (by kernel_rfl) (by kernel_rfl) (by kernel_rfl) (by kernel_rfl) (fun _ _ _ h => h) (Or.inl ⟨by rfl, ?_⟩) (by assumption) ?_
  rotate_left
  · (intro w hSw; (try dsimp only at hSw); go_simp; (try with_reducible rfl))
  (try simp only [Act.put, List.setIfInBounds_toArray, List.set_cons_zero, List.set_cons_succ])
  refine wpAnyT_one (i := 7) (o := _) (by kernel_rfl) rfl (fun K hK => ?_)
  go_simp
  refine (HC.out _ k4 k8 hi0.drew).mono ?_
  rintro x w6 ⟨v6, rfl, hp6, hb6⟩
  obtain ⟨a6, c6, rfl⟩ := hp6.form
  have hi6 := hi0.drew.below hb6
  have hs6 := KS.out _ hi6
  have hp6' := hp6.pin (B' := 0)
  have HP6 := Lib.hid hp6'
  clear hp6 hp6' hb6
  go_wp2_with fail
  refine hK.out _ _ (fun _ => ?_) (fun hH1 => ?_)
  · exact hs6
  have hHeld1 := hH1 (by decide)
  clear hK K hH1
  (try simp only [Act.put, List.setIfInBounds_toArray, List.set_cons_zero, List.set_cons_succ])
  refine wpAnyT_take (i := 12) (oi := _) (v := .agg ((pkP q.m qos id dup).cells (paR a6 c6))) rfl (by kernel_rfl) (by kernel_rfl) (by kernel_rfl) (by kernel_rfl) (fun _ _ _ h => h) ?_ (by assumption) ?_
  · exact yo_built (l := [(0, .int .i64 3), (1, .int .i64 id), (13, .string q.m.topic), (14, .string q.m.payload), (3, .slice a6 q.m.props.length c6), (15, .int .i64 qos), (16, .bool q.m.retain), (17, .bool dup)]) (by rfl) (built8 q.m qos id dup a6 _ c6 rfl) rfl rfl
  (try simp only [Act.put, List.setIfInBounds_toArray, List.set_cons_zero, List.set_cons_succ])
  simp only [List.getElem_toArray, List.getElem_cons_succ, List.getElem_cons_zero, List.set_cons_zero, List.set_cons_succ]
  have HPC : Hid (((pkP q.m qos id dup).cells (paR a6 c6)).size = 26 ∧ ((pkP q.m qos id dup).cells (paR a6 c6)).toList.all (·.oneCell') = true) := Lib.hid ⟨rfl, rfl⟩
  have HPE := Lib.hid (show ∀ W, PIn W 0 a6 q.m.props → Below w.heap.size w W → PkSays w (pkP q.m qos id dup) (.returned (.agg ((pkP q.m qos id dup).cells (paR a6 c6)))) W from fun W h1 h2 => ⟨a6, c6, rfl, h1, h2⟩)
  generalize PkSays w (pkP q.m qos id dup) = PS at *
  generalize (pkP q.m qos id dup).cells (paR a6 c6) = pc at *
  refine wpAnyT_one (i := 13) (o := _) (by kernel_rfl) rfl (fun K hK => ?_)
  rw [if_pos (by rfl)]
  refine wpo_op_store (k := k8) 0 tyPk rfl hi6.own rfl HPC.out.1 HPC.out.2 _ _ rfl rfl rfl rfl ?_
  have HO := Lib.hid (hi6.own.row 0 rfl pc)
  have HPI := Lib.hid (HP6.out.row (hi6.own.get 0 rfl) (Nat.zero_le _) pc)
  clear HP6 hi6 hi0 hs0 hs6 hHeld hHeld1 KS HC
  generalize World.setRow _ _ _ = W9 at *
  refine hK.out _ _ (fun h => absurd rfl h) (fun _ => ?_)
  clear hK K
  (try simp only [Act.put, List.setIfInBounds_toArray, List.set_cons_zero, List.set_cons_succ])
  refine wpAnyT_done (by kernel_rfl) ?_ _
  go_wp2_with fail
  exact bodyPost_ret (v := .agg pc) (res_own1 0 HO.out tyPk rfl rfl rfl HPC.out.1) rfl (HPE.out _ HPI.out HO.out.bel)
end Go.Proofs.Ytpaalhhadjihlaa
