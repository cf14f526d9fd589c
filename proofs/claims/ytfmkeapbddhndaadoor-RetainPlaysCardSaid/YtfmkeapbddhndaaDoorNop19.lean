/- What is proved here: what Put does to a store that nobody made. Conditions: those that each theorem names. -/
import Derived.Test.YtfmkeapbddhndaaDoorNob19
namespace Go.Proofs.YtfmkeapbddhndaaDoor
open Go.RowKit Go.Extern.Stop Go.Stop Go.Extern Go.Maps Go.Deep
set_option maxRecDepth 100000
theorem del_nil19 (s : ByteArray) (W : World) : (Builtin.delete_ #[70, 9] 0 #[.map none, .string s]).run Tryd.prog W = .ok (.tuple #[]) W := by
  have hu := run_underlying Tryd.underlying70 W
  have hck : (Instr.checkKey true 10000 9 (.string s)).run Tryd.prog W = .ok () W := MapKept.run_checkKey Tryd.underlying9 (by first | rfl | trivial | simp [MapKept.IsKey]) true 9999
  simp [Builtin.delete_, hu, hck]
theorem text_dec19 (s : ByteArray) : s.toList.isEmpty = decide (s = ⟨#[]⟩) := by
  by_cases h : s = ⟨#[]⟩
  · subst h
    rw [decide_eq_true (rfl : (⟨#[]⟩ : ByteArray) = ⟨#[]⟩), ByteArray.toList_eq]
    rfl
  · rw [(text_ne19 h).1, decide_eq_false h]
section
variable {w : World} {S : Nat → Addr}
set_option maxHeartbeats 8000000 in
theorem nil_put (q : QV) (hs : q.m.topic.size ≤ 1000) (he : EnvT w S) : Calls Tryd.prog 26 #[.pointer none, q.agg] w fun x w' => x = .returned (.bool (nameB q.m.topic && decide (q.m.payload = ⟨#[]⟩))) ∧ Below w.heap.size w w' := by
  cases hn : nameB q.m.topic with
  | false => exact sput_no _ (.inl rfl) q hs he hn
  | true =>
    rw [Bool.true_and]
    have HO := Lib.hid (Own.start [] w)
    have HN := Lib.hid (putHead hs he hn)
    have HQ := Lib.hid (show q.agg = .agg q.cells.toArray from rfl)
    have HC := Lib.hid (show q.cells.toArray[0]? = some (.string q.m.topic) ∧ q.cells.toArray[1]? = some (.string q.m.payload) from ⟨rfl, rfl⟩)
    have hpl := text_dec19 q.m.payload
    rw [HQ.out]
    clear hs he hn HQ
    unfold PutHead at HN
    generalize q.m.topic = tp at *
    generalize q.m.payload = pl at *
    generalize decide (pl = ⟨#[]⟩) = pb at *
    generalize q.cells.toArray = qc at *
    go_enter Tryd.func26, Tryd.ntmps26
    go_upto_region 3 with (first
    | (refine wpo_box (t := 57) HO.out _ rfl rfl rfl ?_; clear HO; rintro k3 W1 hO; have HO := Lib.hid hO; clear hO; simp only [Act.put, List.setIfInBounds_toArray, List.set_cons_zero, List.set_cons_succ])
    | (refine wpo_zero tySt rfl rfl ?_)
    | (refine wpo_box (t := 72) HO.out _ rfl rfl rfl ?_; clear HO; rintro k10 W2 hO; have HO := Lib.hid hO; clear hO; simp only [Act.put, List.setIfInBounds_toArray, List.set_cons_zero, List.set_cons_succ]))
    have c0 := ((HO.out.get 1 rfl).cell 0).trans HC.out.1
    have HN2 := Lib.hid (HN.out _ HO.out.bel)
    go_wp2_with fail
    refine HN2.out.mono ?_
    rintro x W3 ⟨rfl, hb⟩
    have HB := Lib.hid (HO.out.below hb)
    clear hb c0 HN2 HO HN
    have HZ3 : Hid (ZSt W3 k10) := Lib.hid (HB.out.get 0 rfl)
    have HK3 := Lib.hid (HB.out.get 1 rfl)
    have KN := Lib.hid (fun W (hb : Below W3.heap.size W3 W) => show W.cell? ⟨k10, 1, none⟩ = some (.map none) ∧ W.cell? ⟨k3, 0, none⟩ = some (.string tp) from ⟨Blk.cell (HZ3.out.below hb) 1, ((HK3.out.below hb HK3.out.lt).cell 0).trans HC.out.1⟩)
    have c1 := (HK3.out.cell 1).trans HC.out.2
    have hb0 : Below W3.heap.size W3 W3 := Below.refl _ _
    cases pb with
    | true =>
      go_upto_region 6 with fail
      have hrun := del_nil19 tp W3.drew
      obtain ⟨p, t0⟩ := KN.out _ hb0
      clear c1
      go_region_held3 (fun W => W.cell? ⟨k10, 1, none⟩ = some (.map none) ∧ W.cell? ⟨k3, 0, none⟩ = some (.string tp))
        (first | with_reducible assumption | ((refine KN.out _ ?_); (repeat (first | with_reducible assumption | (with_reducible refine bvs ?_ ?_ _) | (with_reducible refine bva ?_ _) | (with_reducible refine bvd ?_) | (with_reducible refine bvn ?_ _) | (with_reducible exact Below.size (by assumption)) | (refine bva ?_ _) | (refine bvd ?_) | exact Below.refl _ _ | exact Below.size (by assumption) | exact Nat.le_refl _))))
        (fail)
      go_wp2_with fail
      go_ret
      exact ⟨rfl, HB.out.bel.trans ((drew_bel W3).mono HB.out.bel.size)⟩
    | false =>
      go_upto_region 8 with fail
      go_cut [6] (fun v6 wx => v6 = .bool false ∧ Below W3.heap.size W3 wx)
      case first =>
        obtain ⟨p, t0⟩ := KN.out _ hb0
        have e1 := look_nil19 tp W3.drew
        have e2 := look_nil19 tp (W3.alloc (.cells zq 57)).drew
        unfold QV.agg at e1 e2
        unfold zq at e2
        clear c1
        go_region_held3 (fun W => W.cell? ⟨k10, 1, none⟩ = some (.map none) ∧ W.cell? ⟨k3, 0, none⟩ = some (.string tp))
          (first | with_reducible assumption | ((refine KN.out _ ?_); (repeat (first | with_reducible assumption | (with_reducible refine bvs ?_ ?_ _) | (with_reducible refine bva ?_ _) | (with_reducible refine bvd ?_) | (with_reducible refine bvn ?_ _) | (with_reducible exact Below.size (by assumption)) | (refine bva ?_ _) | (refine bvd ?_) | exact Below.refl _ _ | exact Below.size (by assumption) | exact Nat.le_refl _))))
          (fail)
        all_goals
          go_wp2_with fail
          go_meet
          case rel => exact ⟨rfl, by (repeat (first | with_reducible assumption | (with_reducible refine bvs ?_ ?_ _) | (with_reducible refine bva ?_ _) | (with_reducible refine bvd ?_) | (with_reducible refine bvn ?_ _) | (with_reducible exact Below.size (by assumption)) | (refine bva ?_ _) | (refine bvd ?_) | exact Below.refl _ _ | exact Below.size (by assumption) | exact Nat.le_refl _))⟩
      case rest =>
        obtain ⟨rfl, hb9⟩ := hcut
        have q1 := (KN.out _ hb9).1
        have q0' := Blk.cell (HZ3.out.below hb9) 0
        clear c1
        go_upto_region 9 with fail
        go_cut [47] (fun v wx => v = .bool true ∧ Below W3.heap.size W3 wx)
        case first =>
          clear KN
          go_quiet (fail)
          go_wp2_with fail
          go_meet
          case rel => exact ⟨rfl, by (repeat (first | with_reducible assumption | (with_reducible refine bvs ?_ ?_ _) | (with_reducible refine bva ?_ _) | (with_reducible refine bvd ?_) | (with_reducible refine bvn ?_ _) | (with_reducible exact Below.size (by assumption)) | (refine bva ?_ _) | (refine bvd ?_) | exact Below.refl _ _ | exact Below.size (by assumption) | exact Nat.le_refl _))⟩
        case rest =>
          obtain ⟨rfl, hb10⟩ := hcut
          have HB10 := Lib.hid (HB.out.bel.trans (hb10.mono HB.out.bel.size))
          clear hb9 hb10 hb0 q0' q1 KN
          go_wp2_with fail
          go_ret
          exact ⟨rfl, HB10.out⟩
set_option maxHeartbeats 8000000 in
theorem zero_put {g : Nat} (hz : ZSt w g) (q : QV) (hs : q.m.topic.size ≤ 1000) (he : EnvT w S) : Calls Tryd.prog 26 #[.pointer (some ⟨g, 0, none⟩), q.agg] w fun x w' => x = .returned (.bool (nameB q.m.topic && decide (q.m.payload = ⟨#[]⟩))) ∧ Below w.heap.size w w' := by
  cases hn : nameB q.m.topic with
  | false => exact sput_no _ (.inr ⟨g, rfl⟩) q hs he hn
  | true =>
    rw [Bool.true_and]
    have HO := Lib.hid (Own.start [] w)
    have HZ := Lib.hid hz
    clear hz
    have HN := Lib.hid (putHead hs he hn)
    have HQ := Lib.hid (show q.agg = .agg q.cells.toArray from rfl)
    have HC := Lib.hid (show q.cells.toArray[0]? = some (.string q.m.topic) ∧ q.cells.toArray[1]? = some (.string q.m.payload) from ⟨rfl, rfl⟩)
    have hpl := text_dec19 q.m.payload
    rw [HQ.out]
    clear hs he hn HQ
    unfold PutHead at HN
    generalize q.m.topic = tp at *
    generalize q.m.payload = pl at *
    generalize decide (pl = ⟨#[]⟩) = pb at *
    generalize q.cells.toArray = qc at *
    go_enter Tryd.func26, Tryd.ntmps26
    go_upto_region 3 with (refine wpo_box (t := 57) HO.out _ rfl rfl rfl ?_; clear HO; rintro k3 W1 hO; have HO := Lib.hid hO; clear hO; simp only [Act.put, List.setIfInBounds_toArray, List.set_cons_zero, List.set_cons_succ])
    have c0 := ((HO.out.get 0 rfl).cell 0).trans HC.out.1
    have HN2 := Lib.hid (HN.out _ HO.out.bel)
    go_wp2_with fail
    refine HN2.out.mono ?_
    rintro x W3 ⟨rfl, hb⟩
    have HB := Lib.hid (HO.out.below hb)
    clear hb c0 HN2 HO HN
    have HZ3 : Hid (ZSt W3 g) := Lib.hid (HZ.out.below HB.out.bel)
    have HK3 := Lib.hid (HB.out.get 0 rfl)
    have KN := Lib.hid (fun W (hb : Below W3.heap.size W3 W) => show W.cell? ⟨g, 1, none⟩ = some (.map none) ∧ W.cell? ⟨k3, 0, none⟩ = some (.string tp) from ⟨Blk.cell (HZ3.out.below hb) 1, ((HK3.out.below hb HK3.out.lt).cell 0).trans HC.out.1⟩)
    have c1 := (HK3.out.cell 1).trans HC.out.2
    have hb0 : Below W3.heap.size W3 W3 := Below.refl _ _
    cases pb with
    | true =>
      go_upto_region 6 with fail
      have hrun := del_nil19 tp W3.drew
      obtain ⟨p, t0⟩ := KN.out _ hb0
      clear c1
      go_region_held3 (fun W => W.cell? ⟨g, 1, none⟩ = some (.map none) ∧ W.cell? ⟨k3, 0, none⟩ = some (.string tp))
        (first | with_reducible assumption | ((refine KN.out _ ?_); (repeat (first | with_reducible assumption | (with_reducible refine bvs ?_ ?_ _) | (with_reducible refine bva ?_ _) | (with_reducible refine bvd ?_) | (with_reducible refine bvn ?_ _) | (with_reducible exact Below.size (by assumption)) | (refine bva ?_ _) | (refine bvd ?_) | exact Below.refl _ _ | exact Below.size (by assumption) | exact Nat.le_refl _))))
        (fail)
      go_wp2_with fail
      go_ret
      exact ⟨rfl, HB.out.bel.trans ((drew_bel W3).mono HB.out.bel.size)⟩
    | false =>
      go_upto_region 8 with fail
      go_cut [6] (fun v6 wx => v6 = .bool false ∧ Below W3.heap.size W3 wx)
      case first =>
        obtain ⟨p, t0⟩ := KN.out _ hb0
        have e1 := look_nil19 tp W3.drew
        have e2 := look_nil19 tp (W3.alloc (.cells zq 57)).drew
        unfold QV.agg at e1 e2
        unfold zq at e2
        clear c1
        go_region_held3 (fun W => W.cell? ⟨g, 1, none⟩ = some (.map none) ∧ W.cell? ⟨k3, 0, none⟩ = some (.string tp))
          (first | with_reducible assumption | ((refine KN.out _ ?_); (repeat (first | with_reducible assumption | (with_reducible refine bvs ?_ ?_ _) | (with_reducible refine bva ?_ _) | (with_reducible refine bvd ?_) | (with_reducible refine bvn ?_ _) | (with_reducible exact Below.size (by assumption)) | (refine bva ?_ _) | (refine bvd ?_) | exact Below.refl _ _ | exact Below.size (by assumption) | exact Nat.le_refl _))))
          (fail)
        all_goals
          go_wp2_with fail
          go_meet
          case rel => exact ⟨rfl, by (repeat (first | with_reducible assumption | (with_reducible refine bvs ?_ ?_ _) | (with_reducible refine bva ?_ _) | (with_reducible refine bvd ?_) | (with_reducible refine bvn ?_ _) | (with_reducible exact Below.size (by assumption)) | (refine bva ?_ _) | (refine bvd ?_) | exact Below.refl _ _ | exact Below.size (by assumption) | exact Nat.le_refl _))⟩
      case rest =>
        obtain ⟨rfl, hb9⟩ := hcut
        have q1 := (KN.out _ hb9).1
        have q0' := Blk.cell (HZ3.out.below hb9) 0
        clear c1
        go_upto_region 9 with fail
        go_cut [47] (fun v wx => v = .bool true ∧ Below W3.heap.size W3 wx)
        case first =>
          clear KN
          go_quiet (fail)
          go_wp2_with fail
          go_meet
          case rel => exact ⟨rfl, by (repeat (first | with_reducible assumption | (with_reducible refine bvs ?_ ?_ _) | (with_reducible refine bva ?_ _) | (with_reducible refine bvd ?_) | (with_reducible refine bvn ?_ _) | (with_reducible exact Below.size (by assumption)) | (refine bva ?_ _) | (refine bvd ?_) | exact Below.refl _ _ | exact Below.size (by assumption) | exact Nat.le_refl _))⟩
        case rest =>
          obtain ⟨rfl, hb10⟩ := hcut
          have HB10 := Lib.hid (HB.out.bel.trans (hb10.mono HB.out.bel.size))
          clear hb9 hb10 hb0 q0' q1 KN
          go_wp2_with fail
          go_ret
          exact ⟨rfl, HB10.out⟩
theorem nos_put {o : Value} (h : NoS w o) (q : QV) (hs : q.m.topic.size ≤ 1000) (he : EnvT w S) : Calls Tryd.prog 26 #[o, q.agg] w fun x w' => x = .returned (.bool (nameB q.m.topic && decide (q.m.payload = ⟨#[]⟩))) ∧ Below w.heap.size w w' := by
  rcases h with rfl | ⟨g, rfl, hz⟩
  · exact nil_put q hs he
  · exact zero_put hz q hs he
end
end Go.Proofs.YtfmkeapbddhndaaDoor
