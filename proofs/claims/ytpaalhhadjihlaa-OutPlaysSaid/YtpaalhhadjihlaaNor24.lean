/- What is proved here: an Out that nobody made has no messages under way, whatever its methods are asked for. Conditions: the block is one. -/
import Derived.Test.YtpaalhhadjihlaaNzg24
import Derived.Test.YtpaalhhadjihlaaOrd24
namespace Go.Proofs.Ytpaalhhadjihlaa
open Go.RowKit Go.Extern.Stop Go.Stop Go.Extern Go.Maps Go.Shelf Go.Lib Go.Sort Go.WideShapes
set_option maxRecDepth 100000
attribute [local go_sem] Oper.semAt_some
section
variable {F : Fence} {n : Nat} {P : Program} {w : World} {ops : Array Oper} {rest : List Oper} {o : Oper} {a : Act} {Q : Exit → Act → World → Prop}
/-- A range over no map at all, and what it hands out. -/
theorem wpai_range_nil (hg : o.guard = none) (m : Operand) (t : TypeId) (hop : o.op = Op.range t m) (k e : TypeId) (ht : P.underlying t = some (.map k e))
    (hm : a.eval m = .map none) (hK : wpListIn F n P ops Q rest (a.put o.dst (.pointer (some ⟨w.heap.size, 0, none⟩))) (w.alloc (.mapIter none 0 #[] 0))) :
    wpListIn F n P ops Q (o :: rest) a w := by
  refine wpListIn_plain hg fun K' hK' => ?_
  have hrun : (Instr.range t (.map none)).run P w = .ok (.pointer (some ⟨w.heap.size, 0, none⟩)) (w.alloc (.mapIter none 0 #[] 0)) := by
    have hu := run_underlying ht w
    simp [Instr.range, hu]
  unfold Oper.wpIn
  refine ⟨by simp [Oper.about, hop], ?_⟩
  rw [Oper.semAt_plain F _ _ (by rw [hop]; intro c hc'; cases hc')]
  simp [execOp, hop, hm, hrun, Result.andThen]
  exact hK' _ _ hK
theorem wpai_next_nil (hg : o.guard = none) (it : Operand) (hop : o.op = Op.next it false) (r : Nat)
    (hit : a.eval it = .pointer (some ⟨r, 0, none⟩)) (h : w.heap[r]? = some (.mapIter none 0 #[] 0))
    (hK : wpListIn F n P ops Q rest (a.put o.dst (.tuple #[.bool false])) w) :
    wpListIn F n P ops Q (o :: rest) a w := by
  refine wpListIn_plain hg fun K' hK' => ?_
  have hrun : (Instr.next (.pointer (some ⟨r, 0, none⟩)) false o.type).run P w = .ok (.tuple #[.bool false]) w := by
    have hgo : (getObj r).run P w = .ok (.mapIter none 0 #[] 0) w := by simp [getObj, Sem.run, h]
    simp [Instr.next, hgo]
  unfold Oper.wpIn
  refine ⟨by simp [Oper.about, hop], ?_⟩
  rw [Oper.semAt_plain F _ _ (by rw [hop]; intro c hc'; cases hc')]
  simp [execOp, hop, hit, hrun, Result.andThen]
  exact hK' _ _ hK
end
set_option maxHeartbeats 4000000 in
theorem values0_in (F : Fence) (n : Nat) (h60 : F.fn 58) (hro : F.round = none) (_ : 1 ≤ n) (l Bm : Nat) (J Jx : FL → World → Prop)
    (W : World) (hJ : AbidesFrom W.heap.size J) (hm : W.cell? ⟨Bm, 0, none⟩ = some (.map none)) (h0 : J [] W) :
    CallsIn F n Try.prog 58 #[.func (.yield l) #[] #[], .pointer (some ⟨Bm, 0, none⟩)] W fun e W' => (∃ v, e = .returned v) ∧ ((∃ ss, ss.Perm ([] : FL) ∧ J ss W') ∨ (∃ pre, True ∧ Jx pre W')) := by
  refine callsIn_of_wp Try.func58 rfl h60 ?_ hro
  have hJ0 : J [] (W.alloc (.mapIter none 0 #[] 0)) := hJ [] W _ none h0 (World.grownBy_alloc W _ none) (fun r e => by cases e)
  have hr : (W.alloc (.mapIter none 0 #[] 0)).heap[W.heap.size]? = some (.mapIter none 0 #[] 0) := World.alloc_heap_new W _
  obtain ⟨W1, hW1⟩ : ∃ W1, W.alloc (.mapIter none 0 #[] 0) = W1 := ⟨_, rfl⟩
  simp only [Try.ntmps58, List.size_toArray, List.length_cons, List.length_nil, Nat.reduceAdd, Nat.reduceSub, Array.replicate_succ, Array.replicate_zero, List.push_toArray, List.append_toArray, List.nil_append, List.cons_append]
  gi_wp2_with (first
    | (gi_at_range; refine wpai_range_nil rfl _ 30 rfl 3 73 Try.underlying30 rfl ?_)
    | gi_in)
  rw [hW1] at hJ0 hr ⊢
  go_frame
  gi_loopw [4] (fun _ wr => wr = W1) (fun _ _ => 0)
  case atStart => rfl
  case round =>
    subst hrel
    gi_wp2_with (first
      | (gi_at_next; refine wpai_next_nil rfl _ rfl W.heap.size rfl hr ?_)
      | gi_in)
    gi_wp2
    go_end0
    exact ⟨⟨_, rfl⟩, .inl ⟨[], List.Perm.refl _, hJ0⟩⟩
theorem values0_stops (F : Fence) (n : Nat) (h60 : F.fn 58) (hro : F.round = none) (hn : 1 ≤ n) (Bm : Nat) (w : World) (hBm : Bm < w.heap.size)
    (hm : w.cell? ⟨Bm, 0, none⟩ = some (.map none)) : Stops24 F n Bm [] w :=
  fun l J Jx W hW hJ _ _ h0 => values0_in F n h60 hro hn l Bm J Jx W hJ ((hW.cell (p := ⟨Bm, 0, none⟩) hBm).trans hm) h0
theorem collect0_any {w : World} {Bm : Nat} (hBm : Bm < w.heap.size) (hm : w.cell? ⟨Bm, 0, none⟩ = some (.map none)) :
    Calls Try.prog 56 #[.func (.func 58) #[] #[.pointer (some ⟨Bm, 0, none⟩)]] w fun e W' =>
      e = .returned (.slice none 0 0) ∧ Below w.heap.size w W' := by
  refine Calls.mono ((callsIn_wide (n := 6)).1 (collect_in _ 6 trivial trivial trivial rfl (by omega) Bm [] (by simp) w fun W hW => ?_)) ?_
  · exact values0_stops _ _ trivial rfl (by omega) Bm W (Nat.lt_of_lt_of_le hBm hW.size) ((hW.cell (p := ⟨Bm, 0, none⟩) hBm).trans hm)
  · rintro e W' ⟨v, ss, rfl, hp, _, hni, hb⟩
    obtain rfl : ss = [] := List.Perm.eq_nil hp
    rw [hni.2 rfl]
    exact ⟨rfl, hb⟩
set_option maxHeartbeats 2000000 in
theorem sorted0_any {w : World} {Bm : Nat} (hBm : Bm < w.heap.size) (hm : w.cell? ⟨Bm, 0, none⟩ = some (.map none)) :
    Calls Try.prog 47 #[.func (.func 58) #[] #[.pointer (some ⟨Bm, 0, none⟩)], .func (.func 49) #[] #[]] w fun e W' =>
      e = .returned (.slice none 0 0) ∧ Below w.heap.size w W' := by
  have HC := Lib.hid (collect0_any hBm hm)
  clear hBm hm
  go_enter Try.func47, Try.ntmps47
  go_wp2_with fail
  refine HC.out.mono ?_
  rintro e W1 ⟨rfl, hb⟩
  have HN := Lib.hid (fun w => show Calls Try.prog 57 #[.slice none 0 0, .func (.func 49) #[] #[]] w _ from AnyF.slices_SortFunc_none Try.sortFl none 0 _ w)
  have HR := Lib.hid hb
  clear hb
  go_wp2_with fail
  refine (HN.out _).mono ?_
  rintro e W2 ⟨rfl, rfl⟩
  go_wp2_with fail
  go_ret
  exact ⟨rfl, HR.out⟩
theorem mapsValues0_any (w : World) : Calls Try.prog 48 #[.map none] w fun e w' => e = .returned (.func (.func 58) #[] #[.pointer (some ⟨w.heap.size, 0, none⟩)]) ∧ w' = w.alloc (.cells #[.map none] 30) := by
  go_enter Try.func48, Try.ntmps48
  go_wp2
  go_ret
  exact ⟨rfl, rfl⟩
set_option maxHeartbeats 2000000 in
theorem zero_order {w : World} {g : Nat} (h : ZOut w g) :
    Calls Try.prog 35 #[.pointer (some ⟨g, 0, none⟩)] w fun e W' => e = .returned (.slice none 0 0) ∧ Below w.heap.size w W' := by
  have c2 := Blk.cell h 2
  have hb := (Below.refl w.heap.size w).alloc (Nat.le_refl _) (.cells #[.map none] 30)
  have HS := Lib.hid (sorted0_any (w := w.alloc (.cells #[.map none] 30)) (Bm := w.heap.size) (by simp) (by simp))
  have HV := Lib.hid (mapsValues0_any w)
  have HB := Lib.hid hb
  clear h hb
  go_enter Try.func35, Try.ntmps35
  go_wp2_with (first
    | (go_at_call 48; refine HV.out.mono ?_; rintro e w' ⟨rfl, rfl⟩)
    | (go_at_call 47; refine HS.out.mono ?_; rintro e W2 ⟨rfl, hb⟩; have HR := Lib.hid hb; clear hb))
  go_ret
  exact ⟨rfl, HB.out.trans (HR.out.mono HB.out.size)⟩
theorem zero_group {w : World} {g : Nat} (h : ZOut w g) : Calls Try.prog 15 #[.pointer (some ⟨g, 0, none⟩)] w fun e w' => e = .returned (.slice none 0 0) ∧ Below w.heap.size w w' := by
  have HI := Lib.hid (zero_order h)
  clear h
  go_enter Try.func15, Try.ntmps15
  go_wp2_with fail
  refine HI.out.mono ?_
  rintro e w1 ⟨rfl, hb⟩
  go_wp2_with fail
  go_loop [3, 9] (fun o i => o = .slice none 0 0 ∧ i = .int .i64 0) (fun _ _ => 0)
  case atStart => exact ⟨rfl, rfl⟩
  case round =>
    obtain ⟨rfl, rfl⟩ := hrel
    go_wp2_with fail
    go_ret
    exact ⟨rfl, hb⟩
theorem zero_all {w : World} {g : Nat} (h : ZOut w g) : Calls Try.prog 18 #[.pointer (some ⟨g, 0, none⟩)] w fun e w' => e = .returned (.slice none 0 0) ∧ Below w.heap.size w w' := by
  have HI := Lib.hid (zero_order h)
  clear h
  go_enter Try.func18, Try.ntmps18
  go_wp2_with fail
  refine HI.out.mono ?_
  rintro e w1 ⟨rfl, hb⟩
  go_wp2_with fail
  go_loop [3, 9] (fun o i => o = .slice none 0 0 ∧ i = .int .i64 0) (fun _ _ => 0)
  case atStart => exact ⟨rfl, rfl⟩
  case round =>
    obtain ⟨rfl, rfl⟩ := hrel
    go_wp2_with fail
    go_ret
    exact ⟨rfl, hb⟩
theorem zero_again {w : World} {g : Nat} (h : ZOut w g) : Calls Try.prog 21 #[.pointer (some ⟨g, 0, none⟩)] w fun e w' => e = .returned (.slice none 0 0) ∧ Below w.heap.size w w' := by
  have HI := Lib.hid (zero_order h)
  clear h
  go_enter Try.func21, Try.ntmps21
  go_wp2_with fail
  refine HI.out.mono ?_
  rintro e w1 ⟨rfl, hb⟩
  go_wp2_with fail
  go_loop [3, 9] (fun o i => o = .slice none 0 0 ∧ i = .int .i64 0) (fun _ _ => 0)
  case atStart => exact ⟨rfl, rfl⟩
  case round =>
    obtain ⟨rfl, rfl⟩ := hrel
    go_wp2_with fail
    go_ret
    exact ⟨rfl, hb⟩
end Go.Proofs.Ytpaalhhadjihlaa
