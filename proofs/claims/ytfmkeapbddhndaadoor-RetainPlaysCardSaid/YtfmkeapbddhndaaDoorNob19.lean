/- What is proved here: what a store answers that nobody made. Conditions: those that each theorem names. -/
import Derived.Test.YtfmkeapbddhndaaDoorExp19
import Derived.MapKept
namespace Go.Proofs.YtfmkeapbddhndaaDoor
open Go.RowKit Go.Extern.Stop Go.Stop Go.Extern Go.Maps Go.Shelf Go.Lib Go.Sort Go.Deep
set_option maxRecDepth 100000
/-- Block g is a store that nobody made. -/
def ZSt (w : World) (g : Nat) : Prop := Blk w g 72 #[.int .i64 0, .map none]
theorem ZSt.below {w w' : World} {g : Nat} (h : ZSt w g) (hb : Below w.heap.size w w') : ZSt w' g := Blk.below h hb (Blk.lt h)
def NoS (w : World) (o : Value) : Prop := o = .pointer none ∨ ∃ g, o = .pointer (some ⟨g, 0, none⟩) ∧ ZSt w g
theorem NoS.below {w w' : World} {o : Value} (h : NoS w o) (hb : Below w.heap.size w w') : NoS w' o := by
  rcases h with h | ⟨z, h1, h2⟩
  · exact .inl h
  · exact .inr ⟨z, h1, h2.below hb⟩
section
variable {P : Program} {w : World} {ops : Array Oper} {rest : List Oper} {o : Oper} {a : Act} {Q : Exit → Act → World → Prop}
/-- A range over no map at all, and what it hands out. -/
theorem wpa_range_nil (hg : o.guard = none) (m : Operand) (t : TypeId) (hop : o.op = Op.range t m) (k e : TypeId) (ht : P.underlying t = some (.map k e))
    (hm : a.eval m = .map none) (hK : wpList P ops Q rest (a.put o.dst (.pointer (some ⟨w.heap.size, 0, none⟩))) (w.alloc (.mapIter none 0 #[] 0))) :
    wpList P ops Q (o :: rest) a w := by
  refine wpList_plain hg fun K' hK' => ?_
  have hrun : (Instr.range t (.map none)).run P w = .ok (.pointer (some ⟨w.heap.size, 0, none⟩)) (w.alloc (.mapIter none 0 #[] 0)) := by
    have hu := run_underlying ht w
    simp [Instr.range, hu]
  unfold Oper.wp
  simp [execOp, hop, hm, hrun, Result.andThen]
  exact hK' _ _ hK
theorem wpa_next_nil (hg : o.guard = none) (it : Operand) (hop : o.op = Op.next it false) (r : Nat)
    (hit : a.eval it = .pointer (some ⟨r, 0, none⟩)) (h : w.heap[r]? = some (.mapIter none 0 #[] 0))
    (hK : wpList P ops Q rest (a.put o.dst (.tuple #[.bool false])) w) :
    wpList P ops Q (o :: rest) a w := by
  refine wpList_plain hg fun K' hK' => ?_
  have hrun : (Instr.next (.pointer (some ⟨r, 0, none⟩)) false o.type).run P w = .ok (.tuple #[.bool false]) w := by
    have hgo : (getObj r).run P w = .ok (.mapIter none 0 #[] 0) w := by simp [getObj, Sem.run, h]
    simp [Instr.next, hgo]
  unfold Oper.wp
  simp [execOp, hop, hit, hrun, Result.andThen]
  exact hK' _ _ hK
end
theorem look_nil19 (s : ByteArray) (W : World) : (Instr.lookup 70 (.map none) (.string s) true).run Tryd.prog W = .ok (.tuple #[q0.agg, .bool false]) W := by
  have hz := Tryd.zmsg19 W
  have hu := run_underlying Tryd.underlying70 W
  have hck : (Instr.checkKey true 10000 9 (.string s)).run Tryd.prog W = .ok () W := MapKept.run_checkKey Tryd.underlying9 (by first | rfl | trivial | simp [MapKept.IsKey]) true 9999
  have hf : (Instr.findKey 9 (.string s) []).run Tryd.prog W = .ok Option.none W := rfl
  simp [Instr.lookup, hu, hck, hf, hz]
section
variable {w : World} {g : Nat} {S : Nat → Addr} {o : Value}
theorem nos_len (h : NoS w o) : Calls Tryd.prog 36 #[o] w fun x w' => x = .returned (.int .i64 0) ∧ Below w.heap.size w w' := by
  have HB := Lib.hid (Below.refl w.heap.size w)
  rcases h with rfl | ⟨g, rfl, hz⟩
  · go_enter Tryd.func36, Tryd.ntmps36
    go_wp2
    go_ret
    exact ⟨rfl, HB.out⟩
  · have c1 := Blk.cell hz 1
    clear hz
    go_enter Tryd.func36, Tryd.ntmps36
    go_wp2
    go_ret
    exact ⟨rfl, HB.out⟩
theorem nos_match (h : NoS w o) (f : ByteArray) : Calls Tryd.prog 34 #[o, .string f] w fun x w' => x = .returned (.slice none 0 0) ∧ Below w.heap.size w w' := by
  rcases h with rfl | ⟨g, rfl, hz⟩
  · have HB := Lib.hid (Below.refl w.heap.size w)
    go_enter Tryd.func34, Tryd.ntmps34
    go_wp2
    go_ret
    exact ⟨rfl, HB.out⟩
  · have c1 := Blk.cell hz 1
    have HB := Lib.hid ((Below.refl w.heap.size w).alloc (Nat.le_refl _) (.mapIter none 0 #[] 0))
    have HR := Lib.hid (World.alloc_heap_new w (.mapIter none 0 #[] 0))
    have HN := Lib.hid (fun w => show Calls Tryd.prog 60 #[.slice none 0 0, .func (.func 61) #[] #[]] w _ from AnyF.slices_SortFunc_none Tryd.sortFl none 0 _ w)
    clear hz
    go_enter Tryd.func34, Tryd.ntmps34
    go_wp2_with (refine wpa_range_nil rfl _ 70 rfl 9 57 Tryd.underlying70 rfl ?_)
    go_frame
    generalize w.alloc (.mapIter none 0 #[] 0) = W1 at *
    clear c1
    go_loopw [5] (fun v wr => v = .slice none 0 0 ∧ wr = W1) (fun _ _ => 0)
    case atStart => exact ⟨rfl, rfl⟩
    case round =>
      obtain ⟨rfl, rfl⟩ := hrel
      go_wp2_with (refine wpa_next_nil rfl _ rfl w.heap.size rfl HR.out ?_)
      go_wp2_with fail
      refine (HN.out _).mono ?_
      rintro e W2 ⟨rfl, rfl⟩
      go_wp2_with fail
      go_ret
      exact ⟨rfl, HB.out⟩
theorem nos_exp (h : NoS w o) (now : Int) : Calls Tryd.prog 28 #[o, .int .i64 now] w fun x w' => x = .returned (.int .i64 0) ∧ Below w.heap.size w w' := by
  rcases h with rfl | ⟨g, rfl, hz⟩
  · have HB := Lib.hid (Below.refl w.heap.size w)
    go_enter Tryd.func28, Tryd.ntmps28
    go_wp2
    go_ret
    exact ⟨rfl, HB.out⟩
  · have c1 := Blk.cell hz 1
    have hb := (Below.refl w.heap.size w).alloc (Nat.le_refl _) (.mapIter none 0 #[] 0)
    have HB := Lib.hid hb
    have d1 := Blk.cell (hz.below hb) 1
    have HR := Lib.hid (World.alloc_heap_new w (.mapIter none 0 #[] 0))
    clear hz hb
    go_enter Tryd.func28, Tryd.ntmps28
    go_wp2_with (refine wpa_range_nil rfl _ 70 rfl 9 57 Tryd.underlying70 rfl ?_)
    go_frame
    generalize w.alloc (.mapIter none 0 #[] 0) = W1 at *
    clear c1
    go_loopw [6] (fun _ wr => wr = W1) (fun _ _ => 0)
    case atStart => rfl
    case round =>
      subst hrel
      go_wp2_with (refine wpa_next_nil rfl _ rfl w.heap.size rfl HR.out ?_)
      go_wp2_with fail
      go_ret
      exact ⟨rfl, HB.out⟩
set_option maxHeartbeats 4000000 in
theorem nos_get (h : NoS w o) (s : ByteArray) : Calls Tryd.prog 30 #[o, .string s] w fun x w' => (∃ pa pc, x = .returned (.tuple #[QV.agg ⟨m0, pa, pc⟩, .bool false])) ∧ Below w.heap.size w w' := by
  have HO := Lib.hid (Own.start [] w)
  have HZQ := Lib.hid (show q0.agg = .agg zq from rfl)
  have HZS := Lib.hid (show zq.size = zq.size ∧ zq.toList.all (·.oneCell') = true from ⟨rfl, by simp [zq, Value.oneCell']⟩)
  rcases h with rfl | ⟨g, rfl, hz⟩
  · go_enter Tryd.func30, Tryd.ntmps30
    go_wp2_with (first
      | (refine wpo_alloc tyMs HO.out rfl rfl ?_; clear HO; rintro k4 W1 hO; have HO := Lib.hid hO; clear hO; simp only [Act.put, List.setIfInBounds_toArray, List.set_cons_zero, List.set_cons_succ])
      | (refine wpo_zero tyMs rfl rfl ?_)
      | (refine wpo_store (k := k4) HO.out 0 tyMs rfl _ _ rfl rfl rfl rfl rfl HZS.out.1 HZS.out.2 ?_; clear HO; rintro W2 hO; have HO := Lib.hid hO; clear hO; simp only [Act.put]))
    exact bodyPost_ret (v := .tuple #[.agg zq, .bool false]) (res_own10 0 HO.out tyMs rfl rfl rfl rfl rfl) rfl ⟨⟨none, 0, rfl⟩, HO.out.bel⟩
  · have HZ := Lib.hid hz
    have HC : Hid (∀ W, Calls Tryd.prog 56 #[.agg zq] W fun e W' => ∃ (vc : Array Value), e = .returned (.agg vc) ∧ (vc.size = zq.size ∧ vc.toList.all (·.oneCell') = true) ∧ (∃ pa pc, Value.agg vc = QV.agg ⟨m0, pa, pc⟩) ∧ Below W.heap.size W W') := Lib.hid fun W =>
      (copy_any (B := 0) q0 (PIn.nil _ _ _) (Nat.zero_le _)).mono fun e W' ⟨pa, pc, h1, _, h3⟩ => ⟨(QV.cells ⟨q0.m, pa, pc⟩).toArray, h1, hone19 _, ⟨pa, pc, rfl⟩, h3⟩
    clear hz
    have hr := look_nil19 s
    rw [HZQ.out] at hr
    go_enter Tryd.func30, Tryd.ntmps30
    go_upto_region 1 with (refine wpo_alloc tyMs HO.out rfl rfl ?_; clear HO; rintro k4 W1 hO; have HO := Lib.hid hO; clear hO; simp only [Act.put, List.setIfInBounds_toArray, List.set_cons_zero, List.set_cons_succ])
    have c1 := Blk.cell (HZ.out.below HO.out.bel) 1
    clear HZQ
    have HZ2 := HZS
    generalize hzc : zq = zc at hr HC HZS
    have HZZ := Lib.hid hzc
    clear hzc
    go_upto_region 4 with (first
      | (refine wpo_alloc tyMs HO.out rfl rfl ?_; clear HO; rintro k6 W2 hO; have HO := Lib.hid hO; clear hO; simp only [Act.put, List.setIfInBounds_toArray, List.set_cons_zero, List.set_cons_succ])
      | (refine wpo_store (k := k6) HO.out 0 tyMs rfl _ _ rfl rfl rfl rfl rfl (by rw [HZZ.out]) HZS.out.2 ?_; clear HO; rintro W3 hO; have HO := Lib.hid hO; clear hO; simp only [Act.put]))
    have HC2 := Lib.hid (HC.out W3)
    clear c1 hr
    go_wp2_with (refine wpo_load (k := k6) HO.out 0 tyMs rfl (by rw [HZZ.out]) _ rfl rfl rfl ?_; simp only [Act.put, List.setIfInBounds_toArray, List.set_cons_zero, List.set_cons_succ])
    refine HC2.out.mono ?_
    rintro e W4 ⟨vc, rfl, hvs, hva, hb⟩
    have HVA := Lib.hid hva
    have HB := Lib.hid (HO.out.below hb)
    have HVS := Lib.hid (show vc.size = zq.size ∧ vc.toList.all (·.oneCell') = true by rw [HZZ.out]; exact hvs)
    clear HO hb HC2 hvs hva
    have HO := HB
    clear HB
    go_wp2_with (refine wpo_store (k := k4) HO.out 1 tyMs rfl _ _ rfl rfl rfl rfl rfl HVS.out.1 HVS.out.2 ?_; clear HO; rintro W5 hO; have HO := Lib.hid hO; clear hO; simp only [Act.put])
    obtain ⟨pa, pc, e1⟩ := HVA.out
    exact bodyPost_ret (v := .tuple #[.agg vc, .bool false]) (res_own10 1 HO.out tyMs rfl rfl rfl rfl HVS.out.1) rfl ⟨⟨pa, pc, by rw [e1]⟩, HO.out.bel⟩
end
end Go.Proofs.YtfmkeapbddhndaaDoor
