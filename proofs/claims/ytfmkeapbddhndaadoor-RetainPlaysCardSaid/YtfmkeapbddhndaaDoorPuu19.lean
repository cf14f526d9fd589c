/- What is proved here: what Put does to retained messages, of a message with a name. Conditions: those that each theorem names. -/
import Derived.Test.YtfmkeapbddhndaaDoorPut19
namespace Go.Proofs.YtfmkeapbddhndaaDoor
open Go.RowKit Go.Extern.Stop Go.Stop Go.Extern Go.Maps Go.Deep
set_option maxRecDepth 100000
section
variable {w W : World} {g bm : Nat} {most : Int} {L : QL} {S : Nat → Addr}
theorem St2.on {V : World} (h : St2 V g bm most L W) (hb : Below w.heap.size w V) : St2 w g bm most L W := ⟨h.1, (Fr.of_below (X := [bm]) hb).trans h.2 fun _ hb _ => hb⟩
/-- The name and the payload, told ahead: a message's first walk. -/
def PutHead (w : World) (q : QV) : Prop := ∀ W, Below w.heap.size w W → Calls Tryd.prog 52 #[.string q.m.topic] W fun x w' => x = .returned (.bool true) ∧ Below W.heap.size W w'
theorem putHead {q : QV} (hs : q.m.topic.size ≤ 1000) (he : EnvT w S) (hn : nameB q.m.topic = true) : PutHead w q := fun W hb => by
  have := isName_any q.m.topic (by omega) (he.later hb)
  rw [hn] at this
  exact this
theorem drew_bel (W : World) : Below W.heap.size W W.drew := (Below.refl _ _).drew
set_option maxHeartbeats 4000000 in
/-- No payload: that of its topic is taken away. -/
theorem sput_del (h : StI w g bm most L) (q : QV) (hs : q.m.topic.size ≤ 1000) (he : EnvT w S) (hn : nameB q.m.topic = true) (hp : q.m.payload = ⟨#[]⟩) :
    Calls Tryd.prog 26 #[.pointer (some ⟨g, 0, none⟩), q.agg] w fun x w' => x = .returned (.bool true) ∧ St2 w g bm most (woT q.m.topic L) w' := by
  have HO := Lib.hid (Own.start [] w)
  have HH := Lib.hid h
  have HN := Lib.hid (putHead hs he hn)
  have HQ := Lib.hid (show q.agg = .agg q.cells.toArray from rfl)
  have HC := Lib.hid (show q.cells.toArray[0]? = some (.string q.m.topic) ∧ q.cells.toArray[1]? = some (.string ⟨#[]⟩) from ⟨rfl, by rw [← hp]; rfl⟩)
  have HZ := Lib.hid (show q.m.topic.size ≤ maxLen by unfold maxLen; omega)
  rw [HQ.out]
  clear h hs he hn HQ hp
  unfold PutHead at HN
  generalize q.m.topic = tp at *
  generalize q.cells.toArray = qc at *
  go_enter Tryd.func26, Tryd.ntmps26
  go_upto_region 3 with (refine wpo_box (t := 57) HO.out _ rfl rfl rfl ?_; clear HO; rintro k3 W1 hO; have HO := Lib.hid hO; clear hO; simp only [Act.put, List.setIfInBounds_toArray, List.set_cons_zero, List.set_cons_succ])
  have c0 := ((HO.out.get 0 rfl).cell 0).trans HC.out.1
  have HN2 := Lib.hid (HN.out _ HO.out.bel)
  go_wp2_with fail
  refine HN2.out.mono ?_
  rintro x W3 ⟨rfl, hb⟩
  have HB := Lib.hid (HO.out.below hb)
  clear hb c0 HN2 HO
  have c0 := ((HB.out.get 0 rfl).cell 0).trans HC.out.1
  have c1 := ((HB.out.get 0 rfl).cell 1).trans HC.out.2
  go_upto_region 6 with fail
  have HS := Lib.hid (HH.out.below (HB.out.bel.trans ((drew_bel W3).mono HB.out.bel.size)))
  obtain ⟨w4, hrun, hst⟩ := HS.out.del HZ.out 0
  have d1 := (HH.out.below HB.out.bel).blk.cell 1
  have e1 := hst.1.blk.cell 1
  have e0 := (((HB.out.drew).get 0 rfl).fr hst.2 (by
    intro hm
    rw [List.mem_singleton] at hm
    have h1 := HH.out.map.lt
    have h2 := (HB.out.new _ (List.mem_of_getElem? (i := 0) rfl)).resolve_left (fun h => by cases h)
    simp only at h2
    omega)).cell 0 |>.trans HC.out.1
  have HST := Lib.hid hst
  clear c1 hst HN
  go_region_held3 (fun W => W.cell? ⟨g, 1, none⟩ = some (.map (some bm)) ∧ W.cell? ⟨k3, 0, none⟩ = some (.string tp))
    (first | exact ⟨d1, c0⟩ | exact ⟨e1, e0⟩)
    (fail)
  go_wp2_with fail
  go_ret
  exact ⟨rfl, HST.out.on (HB.out.bel.trans ((drew_bel W3).mono HB.out.bel.size))⟩
theorem text_ne19 {s : ByteArray} (h : ¬ s = ⟨#[]⟩) : s.toList.isEmpty = false ∧ ¬ s.toList = [] := by
  have h1 : ¬ s.toList = [] := fun e => h (ByteArray.ext (Array.toList_inj.mp (by rw [← ByteArray.toList_eq, e])))
  exact ⟨by rw [List.isEmpty_eq_false_iff]; exact h1, h1⟩
theorem bva {V W : World} (h : Below V.heap.size V W) (o : Obj) : Below V.heap.size V (W.alloc o) := h.alloc h.size o
theorem bvd {V W : World} (h : Below V.heap.size V W) : Below V.heap.size V W.drew := h.drew
theorem bvn {V W : World} (h : Below V.heap.size V W) (d : Nat) : Below V.heap.size V (W.drewN d) := ⟨h.os, h.tape, h.output, h.size, h.block⟩
theorem bvs {V W : World} (h : Below V.heap.size V W) {p : Addr} (hp : V.heap.size ≤ p.block) (u : Value) : Below V.heap.size V (W.setCell p u) := h.setCell hp u
theorem blk9 {W : World} {b : Nat} {q : QV} (h : Blk W b 57 q.cells.toArray) : W.cell? ⟨b, 0, none⟩ = some (.string q.m.topic) ∧ W.cell? ⟨b, 1, none⟩ = some (.string q.m.payload) ∧ W.cell? ⟨b, 2, none⟩ = some (.int .i64 q.m.qos) ∧ W.cell? ⟨b, 3, none⟩ = some (.bool q.m.retain) ∧ W.cell? ⟨b, 4, none⟩ = some (.slice q.pa q.m.props.length q.pc) ∧ W.cell? ⟨b, 5, none⟩ = some (.string q.m.frm) ∧ W.cell? ⟨b, 6, none⟩ = some (.int .i64 q.m.til) ∧ W.cell? ⟨b, 7, none⟩ = some (.int .i64 q.m.seq) ∧ W.cell? ⟨b, 8, none⟩ = some (.string q.m.grp) :=
  ⟨h.cell 0, h.cell 1, h.cell 2, h.cell 3, h.cell 4, h.cell 5, h.cell 6, h.cell 7, h.cell 8⟩
theorem blk9z {W : World} {b : Nat} (h : Blk W b 57 #[.string ⟨#[]⟩, .string ⟨#[]⟩, .int .i64 0, .bool false, .slice none 0 0, .string ⟨#[]⟩, .int .i64 0, .int .i64 0, .string ⟨#[]⟩]) : W.cell? ⟨b, 0, none⟩ = some (.string ⟨#[]⟩) ∧ W.cell? ⟨b, 1, none⟩ = some (.string ⟨#[]⟩) ∧ W.cell? ⟨b, 2, none⟩ = some (.int .i64 0) ∧ W.cell? ⟨b, 3, none⟩ = some (.bool false) ∧ W.cell? ⟨b, 4, none⟩ = some (.slice none 0 0) ∧ W.cell? ⟨b, 5, none⟩ = some (.string ⟨#[]⟩) ∧ W.cell? ⟨b, 6, none⟩ = some (.int .i64 0) ∧ W.cell? ⟨b, 7, none⟩ = some (.int .i64 0) ∧ W.cell? ⟨b, 8, none⟩ = some (.string ⟨#[]⟩) :=
  ⟨h.cell 0, h.cell 1, h.cell 2, h.cell 3, h.cell 4, h.cell 5, h.cell 6, h.cell 7, h.cell 8⟩
def PutSays (w : World) (g bm : Nat) (most : Int) (L : QL) (q : QV) (b : Bool) (x : Ending) (w' : World) : Prop :=
  (x = .returned (.bool false) ∧ (b = false ∧ most ≤ L.length) ∧ Below w.heap.size w w') ∨ (x = .returned (.bool true) ∧ (b = true ∨ ¬ most ≤ L.length) ∧ ∃ pa pc, St2 w g bm most (⟨q.m, pa, pc⟩ :: woT q.m.topic L) w')
set_option maxHeartbeats 8000000 in
/-- A message is put, if there is room. -/
theorem sput_more (h : StI w g bm most L) (q : QV) {B : Nat} (hq : PIn w B q.pa q.m.props) (hl : q.m.props.length ≤ 1000) (hs : q.m.topic.size ≤ 1000) (he : EnvT w S) (hn : nameB q.m.topic = true) (hp : ¬ q.m.payload = ⟨#[]⟩) {q1 : QV} {b : Bool} (hv : At L q.m.topic q1 b) (hL : L.length < 900) :
    Calls Tryd.prog 26 #[.pointer (some ⟨g, 0, none⟩), q.agg] w (PutSays w g bm most L q b) := by
  have HO := Lib.hid (Own.start [] w)
  have HH := Lib.hid h
  have HN := Lib.hid (putHead hs he hn)
  have HQ := Lib.hid (show q.agg = .agg q.cells.toArray from rfl)
  have HZ := Lib.hid (show q.m.topic.size ≤ maxLen by unfold maxLen; omega)
  have HP := Lib.hid (And.intro hq hl)
  have HV := Lib.hid hv
  have HL := Lib.hid hL
  have hpe := text_ne19 hp
  obtain ⟨hpe1, hpe2⟩ := hpe
  rw [HQ.out]
  clear h hs he hn HQ hp hv hL hq hl
  unfold PutHead at HN
  go_enter Tryd.func26, Tryd.ntmps26
  go_upto_region 3 with (refine wpo_box (t := 57) HO.out _ rfl rfl rfl ?_; clear HO; rintro k3 W1 hO; have HO := Lib.hid hO; clear hO; simp only [Act.put, List.setIfInBounds_toArray, List.set_cons_zero, List.set_cons_succ])
  have c0 : W1.cell? ⟨k3, 0, none⟩ = some (.string q.m.topic) := (HO.out.get 0 rfl).cell 0
  have HN2 := Lib.hid (HN.out _ HO.out.bel)
  go_wp2_with fail
  refine HN2.out.mono ?_
  rintro x W3 ⟨rfl, hb⟩
  have HB := Lib.hid (HO.out.below hb)
  clear hb c0 HN2 HO HN
  have HS3 := Lib.hid (HH.out.below HB.out.bel)
  have c1 : W3.cell? ⟨k3, 1, none⟩ = some (.string q.m.payload) := (HB.out.get 0 rfl).cell 1
  have KN := Lib.hid (fun W (hb : Below W3.heap.size W3 W) => show W.cell? ⟨g, 1, none⟩ = some (.map (some bm)) ∧ W.cell? ⟨k3, 0, none⟩ = some (.string q.m.topic) ∧ W.cell? ⟨k3, 1, none⟩ = some (.string q.m.payload) ∧ W.cell? ⟨k3, 2, none⟩ = some (.int .i64 q.m.qos) ∧ W.cell? ⟨k3, 3, none⟩ = some (.bool q.m.retain) ∧ W.cell? ⟨k3, 4, none⟩ = some (.slice q.pa q.m.props.length q.pc) ∧ W.cell? ⟨k3, 5, none⟩ = some (.string q.m.frm) ∧ W.cell? ⟨k3, 6, none⟩ = some (.int .i64 q.m.til) ∧ W.cell? ⟨k3, 7, none⟩ = some (.int .i64 q.m.seq) ∧ W.cell? ⟨k3, 8, none⟩ = some (.string q.m.grp) from And.intro ((HS3.out.below hb).blk.cell 1) (blk9 ((HB.out.get 0 rfl).below hb (HB.out.get 0 rfl).lt)))
  have KM := Lib.hid (fun W (hb : Below W3.heap.size W3 W) => (HS3.out.below hb).blk.cell 0)
  have KL := Lib.hid (fun W (hb : Below W3.heap.size W3 W) => look19 (HS3.out.below hb) HZ.out HV.out)
  have hb0 : Below W3.heap.size W3 W3 := Below.refl _ _
  go_upto_region 8 with fail
  go_cut [6] (fun v6 wx => v6 = .bool b ∧ Below W3.heap.size W3 wx)
  case first =>
    have KN2 := Lib.hid (fun W (hb : Below W3.heap.size W3 W) => show W.cell? ⟨g, 1, none⟩ = some (.map (some bm)) ∧ W.cell? ⟨k3, 0, none⟩ = some (.string q.m.topic) from ⟨(KN.out W hb).1, (KN.out W hb).2.1⟩)
    obtain ⟨p, t0⟩ := KN2.out _ hb0
    have e1 := KL.out W3.drew (bvd hb0)
    have e2 := KL.out (W3.alloc (.cells zq 57)).drew (bvd (bva hb0 _))
    unfold QV.agg at e1 e2
    unfold zq at e2
    clear KL KN KM c1 HP
    go_region_held3 (fun W => W.cell? ⟨g, 1, none⟩ = some (.map (some bm)) ∧ W.cell? ⟨k3, 0, none⟩ = some (.string q.m.topic))
      (first | with_reducible assumption | ((refine KN2.out _ ?_); (repeat (first | with_reducible assumption | (with_reducible refine bvs ?_ ?_ _) | (with_reducible refine bva ?_ _) | (with_reducible refine bvd ?_) | (with_reducible refine bvn ?_ _) | (with_reducible exact Below.size (by assumption)) | (refine bva ?_ _) | (refine bvd ?_) | exact Below.refl _ _ | exact Below.size (by assumption) | exact Nat.le_refl _))))
      (fail)
    all_goals
      go_wp2_with fail
      go_meet
      case rel => exact ⟨rfl, by (repeat (first | with_reducible assumption | (with_reducible refine bvs ?_ ?_ _) | (with_reducible refine bva ?_ _) | (with_reducible refine bvd ?_) | (with_reducible refine bvn ?_ _) | (with_reducible exact Below.size (by assumption)) | (refine bva ?_ _) | (refine bvd ?_) | exact Below.refl _ _ | exact Below.size (by assumption) | exact Nat.le_refl _))⟩
  case rest =>
    obtain ⟨rfl, hb9⟩ := hcut
    have HLN := Lib.hid (fun W (hb : Below W3.heap.size W3 W) => (HS3.out.below hb).map.len Tryd.underlying70 3)
    rw [show (L.map entQ).length = L.length from List.length_map ..] at HLN
    have HC : Hid (∀ W, Below W3.heap.size W3 W → Calls Tryd.prog 56 #[q.agg] W fun e W' => ∃ pa pc, e = .returned (.agg #[.string q.m.topic, .string q.m.payload, .int .i64 q.m.qos, .bool q.m.retain, .slice pa q.m.props.length pc, .string q.m.frm, .int .i64 q.m.til, .int .i64 q.m.seq, .string q.m.grp]) ∧ Below W3.heap.size W3 W' ∧ PIn W' 0 pa q.m.props) := Lib.hid fun W hb =>
      (copy_any q ((HP.out.1.below HB.out.bel).below hb) HP.out.2).mono fun e W' ⟨pa, pc, h1, h2, h3⟩ => ⟨pa, pc, h1, hb.trans (h3.mono hb.size), h2⟩
    have HU : Hid (∀ W pa pc, Below W3.heap.size W3 W → PIn W 0 pa q.m.props → ∃ w8, (Instr.mapUpdate 70 (.map (some bm)) (.string q.m.topic) (.agg #[.string q.m.topic, .string q.m.payload, .int .i64 q.m.qos, .bool q.m.retain, .slice pa q.m.props.length pc, .string q.m.frm, .int .i64 q.m.til, .int .i64 q.m.seq, .string q.m.grp])).run Tryd.prog W = .ok () w8 ∧ St2 w g bm most (⟨q.m, pa, pc⟩ :: woT q.m.topic L) w8 ∧ (w8.cell? ⟨g, 1, none⟩ = some (.map (some bm)) ∧ w8.cell? ⟨k3, 0, none⟩ = some (.string q.m.topic) ∧ w8.cell? ⟨k3, 1, none⟩ = some (.string q.m.payload) ∧ w8.cell? ⟨k3, 2, none⟩ = some (.int .i64 q.m.qos) ∧ w8.cell? ⟨k3, 3, none⟩ = some (.bool q.m.retain) ∧ w8.cell? ⟨k3, 4, none⟩ = some (.slice q.pa q.m.props.length q.pc) ∧ w8.cell? ⟨k3, 5, none⟩ = some (.string q.m.frm) ∧ w8.cell? ⟨k3, 6, none⟩ = some (.int .i64 q.m.til) ∧ w8.cell? ⟨k3, 7, none⟩ = some (.int .i64 q.m.seq) ∧ w8.cell? ⟨k3, 8, none⟩ = some (.string q.m.grp))) := Lib.hid fun W pa pc hb hp => by
      obtain ⟨w8, hr, hst⟩ := (HS3.out.below hb).put (q := q) (pc := pc) HZ.out HL.out hp HP.out.2
      refine ⟨w8, hr, hst.on (HB.out.bel.trans (hb.mono HB.out.bel.size)), hst.1.blk.cell 1, blk9 (((HB.out.get 0 rfl).below hb (HB.out.get 0 rfl).lt).fr hst.2 ?_)⟩
      intro hm
      rw [List.mem_singleton] at hm
      have h1 := HH.out.map.lt
      have h2 := (HB.out.new _ (List.mem_of_getElem? (i := 0) rfl)).resolve_left (fun h => by cases h)
      simp only at h2
      omega
    have HQA := Lib.hid (show q.agg = .agg q.cells.toArray from rfl)
    unfold QV.agg at HC
    have q1 := (KN.out _ hb9).1
    have q0 := KM.out _ hb9
    clear c1 KL HP
    go_upto_region 9 with fail
    rcases hbc : b with _ | _
    · by_cases hm : most ≤ (L.length : Int)
      · have hm2 : decide ((L.length : Int) ≥ most) = true := decide_eq_true hm
        have hm3 : decide (most ≤ (L.length : Int)) = true := decide_eq_true hm
        have hln := fun d => HLN.out (wc.drewN d) (bvn hb9 d)
        go_cut [47] (fun v wx => v = .bool true ∧ Below W3.heap.size W3 wx)
        case first =>
          clear HC HU KN KM
          go_quiet (fail)
          go_wp2_with fail
          go_meet
          case rel => exact ⟨rfl, by (repeat (first | with_reducible assumption | (with_reducible refine bvs ?_ ?_ _) | (with_reducible refine bva ?_ _) | (with_reducible refine bvd ?_) | (with_reducible refine bvn ?_ _) | (with_reducible exact Below.size (by assumption)) | (refine bva ?_ _) | (refine bvd ?_) | exact Below.refl _ _ | exact Below.size (by assumption) | exact Nat.le_refl _))⟩
        case rest =>
          obtain ⟨rfl, hb10⟩ := hcut
          have HB10 := Lib.hid (HB.out.bel.trans (hb10.mono HB.out.bel.size))
          have HM := Lib.hid hm
          clear hb9 hb10 hb0 q0 q1 hm hm2 hm3 hln HC HU KN KM
          go_wp2_with fail
          go_ret
          exact .inl ⟨rfl, ⟨hbc, HM.out⟩, HB10.out⟩
      · have hm2 : decide ((L.length : Int) ≥ most) = false := decide_eq_false hm
        have hm3 : decide (most ≤ (L.length : Int)) = false := decide_eq_false hm
        have hln := fun d => HLN.out (wc.drewN d) (bvn hb9 d)
        go_cut [47] (fun v wx => v = .bool false ∧ Below W3.heap.size W3 wx)
        case first =>
          clear HC HU KN KM
          go_quiet (fail)
          go_wp2_with fail
          go_meet
          case rel => exact ⟨rfl, by (repeat (first | with_reducible assumption | (with_reducible refine bvs ?_ ?_ _) | (with_reducible refine bva ?_ _) | (with_reducible refine bvd ?_) | (with_reducible refine bvn ?_ _) | (with_reducible exact Below.size (by assumption)) | (refine bva ?_ _) | (refine bvd ?_) | exact Below.refl _ _ | exact Below.size (by assumption) | exact Nat.le_refl _))⟩
        case rest =>
          obtain ⟨rfl, hb10⟩ := hcut
          have HM := Lib.hid hm
          clear hm hm2 hm3 hln
          clear q0 q1 KM
          go_upto_region 11 with fail
          obtain ⟨p, t0, t1, t2, t3, t4, t5, t6, t7, t8⟩ := KN.out _ hb10
          go_region_held3 (fun W => W.cell? ⟨g, 1, none⟩ = some (.map (some bm)) ∧ W.cell? ⟨k3, 0, none⟩ = some (.string q.m.topic) ∧ W.cell? ⟨k3, 1, none⟩ = some (.string q.m.payload) ∧ W.cell? ⟨k3, 2, none⟩ = some (.int .i64 q.m.qos) ∧ W.cell? ⟨k3, 3, none⟩ = some (.bool q.m.retain) ∧ W.cell? ⟨k3, 4, none⟩ = some (.slice q.pa q.m.props.length q.pc) ∧ W.cell? ⟨k3, 5, none⟩ = some (.string q.m.frm) ∧ W.cell? ⟨k3, 6, none⟩ = some (.int .i64 q.m.til) ∧ W.cell? ⟨k3, 7, none⟩ = some (.int .i64 q.m.seq) ∧ W.cell? ⟨k3, 8, none⟩ = some (.string q.m.grp))
            (first | with_reducible assumption | exact hk8 | ((refine KN.out _ ?_); (repeat (first | with_reducible assumption | (with_reducible refine bvs ?_ ?_ _) | (with_reducible refine bva ?_ _) | (with_reducible refine bvd ?_) | (with_reducible refine bvn ?_ _) | (with_reducible exact Below.size (by assumption)) | (refine bva ?_ _) | (refine bvd ?_) | exact Below.refl _ _ | exact Below.size (by assumption) | exact Nat.le_refl _))))
            (first
              | (go_at_call 56; (with_reducible refine (HC.out _ ?_).mono ?_); (first | with_reducible assumption | exact bvn (by assumption) 1); rintro e w7 ⟨pa, pc, rfl, hb7, hp7⟩; obtain ⟨w8, hrun8, ho8, hk8⟩ := HU.out w7 pa pc hb7 hp7))
          have HST := Lib.hid ho8
          clear p t0 t1 t2 t3 t4 t5 t6 t7 t8 hb9 hb10 hb0 hb7 hp7 hrun8 ho8 hk8 HU HC KN
          go_wp2_with fail
          go_ret
          exact .inr ⟨rfl, .inr (by have := HM.out; omega), pa, pc, HST.out⟩
    · go_cut [47] (fun v wx => v = .bool false ∧ Below W3.heap.size W3 wx)
      case first =>
        clear HC HU KN KM
        go_quiet (fail)
        go_wp2_with fail
        go_meet
        case rel => exact ⟨rfl, by (repeat (first | with_reducible assumption | (with_reducible refine bvs ?_ ?_ _) | (with_reducible refine bva ?_ _) | (with_reducible refine bvd ?_) | (with_reducible refine bvn ?_ _) | (with_reducible exact Below.size (by assumption)) | (refine bva ?_ _) | (refine bvd ?_) | exact Below.refl _ _ | exact Below.size (by assumption) | exact Nat.le_refl _))⟩
      case rest =>
        obtain ⟨rfl, hb10⟩ := hcut
        clear q0 q1 KM
        go_upto_region 11 with fail
        obtain ⟨p, t0, t1, t2, t3, t4, t5, t6, t7, t8⟩ := KN.out _ hb10
        go_region_held3 (fun W => W.cell? ⟨g, 1, none⟩ = some (.map (some bm)) ∧ W.cell? ⟨k3, 0, none⟩ = some (.string q.m.topic) ∧ W.cell? ⟨k3, 1, none⟩ = some (.string q.m.payload) ∧ W.cell? ⟨k3, 2, none⟩ = some (.int .i64 q.m.qos) ∧ W.cell? ⟨k3, 3, none⟩ = some (.bool q.m.retain) ∧ W.cell? ⟨k3, 4, none⟩ = some (.slice q.pa q.m.props.length q.pc) ∧ W.cell? ⟨k3, 5, none⟩ = some (.string q.m.frm) ∧ W.cell? ⟨k3, 6, none⟩ = some (.int .i64 q.m.til) ∧ W.cell? ⟨k3, 7, none⟩ = some (.int .i64 q.m.seq) ∧ W.cell? ⟨k3, 8, none⟩ = some (.string q.m.grp))
          (first | with_reducible assumption | exact hk8 | ((refine KN.out _ ?_); (repeat (first | with_reducible assumption | (with_reducible refine bvs ?_ ?_ _) | (with_reducible refine bva ?_ _) | (with_reducible refine bvd ?_) | (with_reducible refine bvn ?_ _) | (with_reducible exact Below.size (by assumption)) | (refine bva ?_ _) | (refine bvd ?_) | exact Below.refl _ _ | exact Below.size (by assumption) | exact Nat.le_refl _))))
          (first
            | (go_at_call 56; (with_reducible refine (HC.out _ ?_).mono ?_); (first | with_reducible assumption | exact bvn (by assumption) 1); rintro e w7 ⟨pa, pc, rfl, hb7, hp7⟩; obtain ⟨w8, hrun8, ho8, hk8⟩ := HU.out w7 pa pc hb7 hp7))
        have HST := Lib.hid ho8
        clear p t0 t1 t2 t3 t4 t5 t6 t7 t8 hb9 hb10 hb0 hb7 hp7 hrun8 ho8 hk8 HU HC KN
        go_wp2_with fail
        go_ret
        exact .inr ⟨rfl, .inl hbc, pa, pc, HST.out⟩
end
end Go.Proofs.YtfmkeapbddhndaaDoor
