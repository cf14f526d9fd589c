/- What is proved here: QueueOrder answers true for every messages and time. Conditions: the messages are some that came in. -/
import Derived.Test.YtcfbfnlbdkgfkaaLawA27
namespace Go.Proofs.Ytcfbfnlbdkgfkaa
open Go.RowKit Go.Extern.Stop Go.Stop Go.Extern
set_option maxRecDepth 100000
def leftM (now : Int) (M : List MV) : List MV := M.dropWhile fun m => exB m.til now
theorem left_map (now : Int) (L : QL) : (leftQ now L).map QV.m = leftM now (L.map QV.m) := by
  unfold leftQ leftM
  induction L with
  | nil => rfl
  | cons q L ih =>
    rw [List.dropWhile_cons, List.map_cons, List.dropWhile_cons]
    show List.map QV.m (if exB q.m.til now = true then _ else _) = _
    cases exB q.m.til now
    · rfl
    · exact ih
theorem leftM_cons_true {now : Int} {m : MV} {M : List MV} (h : exB m.til now = true) : leftM now (m :: M) = leftM now M := by unfold leftM; rw [List.dropWhile_cons, h]; rfl
theorem leftM_cons_false {now : Int} {m : MV} {M : List MV} (h : exB m.til now = false) : leftM now (m :: M) = m :: M := by unfold leftM; rw [List.dropWhile_cons, h]; rfl
theorem drop_at {L : QL} {k : Nat} (h : k < L.length) : (L.map QV.m).drop k = (L.getD k q0).m :: (L.map QV.m).drop (k + 1) := by
  rw [List.drop_eq_getElem_cons (by simpa using h)]
  congr 1
  rw [List.getElem_map, List.getD_eq_getElem?_getD, List.getElem?_eq_getElem h]
  rfl
theorem take_at {L : QL} {k : Nat} (h : k < L.length) : (L.map QV.m).take (k + 1) = (L.map QV.m).take k ++ [(L.getD k q0).m] := by
  rw [List.take_succ_eq_append_getElem (by simpa using h)]
  congr 2
  rw [List.getElem_map, List.getD_eq_getElem?_getD, List.getElem?_eq_getElem h]
  rfl
/-- Few properties each. -/
def FewP (L : QL) : Prop := ∀ q ∈ L, q.m.props.length ≤ 70
theorem few_of {L L' : QL} {k : Nat} (h : L'.map QV.m = (L.map QV.m).take k) (hf : FewP L') (hk : k = L.length) : ∀ j, j < L.length → (L.getD j q0).m.props.length ≤ 1000 := by
  intro j hj
  rw [List.take_of_length_le (by rw [List.length_map]; omega)] at h
  have hm : (L.getD j q0).m ∈ L.map QV.m := by
    rw [List.getD_eq_getElem?_getD, List.getElem?_eq_getElem hj]
    exact List.mem_map_of_mem (List.getElem_mem hj)
  rw [← h] at hm
  obtain ⟨y, hy, e⟩ := List.mem_map.1 hm
  have := hf y hy
  rw [← e]
  omega
/-- The world while two messages are held against each other: the queue, and what was popped, in a block of its own. -/
structure OrInv (w W : World) (g : Nat) (v : Value) (L : QL) (bx : Nat) (y : QV) : Prop where
  obj : QObj W w.heap.size g 40 v L
  box : Blk W bx 36 y.cells.toArray
  pin : PIn W 0 y.pa y.m.props
  bel : Below w.heap.size w W
theorem OrInv.below {w W W' : World} {g : Nat} {v : Value} {L : QL} {bx : Nat} {y : QV} (h : OrInv w W g v L bx y) (hb : Below W.heap.size W W') : OrInv w W' g v L bx y :=
  ⟨h.obj.below hb, h.box.below hb h.box.lt, h.pin.below hb, h.bel.trans (hb.mono h.bel.size)⟩
theorem OrInv.drewN {w W : World} {g : Nat} {v : Value} {L : QL} {bx : Nat} {y : QV} (h : OrInv w W g v L bx y) (d : Nat) : OrInv w (W.drewN d) g v L bx y := h.below (below_drewN (Below.refl _ _) d)
set_option maxHeartbeats 4000000 in
theorem queueOrder_walk (A : Option Addr) (n c : Nat) (L : QL) (now : Int) (w : World) (hnz : n ≤ maxLen) (ha : MsgsN w A n L) (_ : -9223372036854775808 ≤ now ∧ now ≤ 9223372036854775807) : Calls Try.prog 8 #[.slice A n c, .int .i64 now] w fun x w' => x = .returned (.bool true) ∧ Below w.heap.size w w' := by
  unfold maxLen at hnz
  obtain ⟨hn, hrd, hms⟩ := ha
  have HAW := Lib.hid (fun W (hb : Below w.heap.size w W) => (awake27 W).mono fun x w' hx => show x = .returned (.bool true) ∧ Below w.heap.size w w' from ⟨hx.1, hb.trans (hx.2.mono hb.size)⟩)
  have HN := Lib.hid hn
  have HRD := Lib.hid (fun (hp : 0 < n) => hrd (by omega))
  have HMS := Lib.hid hms
  have HNEW := Lib.hid (qnew_any 40 w)
  clear hn hrd hms
  by_cases h40 : 40 < n
  · go_enter Try.func8, Try.ntmps8
    go_wp2_with fail
    refine (HAW.out _ (Below.refl _ _)).mono ?_
    rintro x w1 ⟨rfl, hb⟩
    have HB := Lib.hid hb
    clear hb
    go_wp2_with fail
    go_ret
    exact ⟨rfl, HB.out⟩
  have h40' : n ≤ 40 := by omega
  clear h40
  go_enter Try.func8, Try.ntmps8
  go_wp2_with fail
  refine HNEW.out.mono ?_
  rintro x w1 ⟨rfl, rfl⟩
  have HQ0 := Lib.hid (QObj.made (B := w.heap.size) w 40 (Nat.le_refl _))
  have HB0 := Lib.hid ((Below.refl w.heap.size w).alloc (Nat.le_refl _) (.cells #[.int .i64 40, .slice none 0 0] 80))
  clear HNEW
  go_wp2_with fail
  generalize w.alloc (.cells #[.int .i64 40, .slice none 0 0] 80) = w1 at *
  obtain ⟨g, hg⟩ : ∃ g, g = w.heap.size := ⟨_, rfl⟩
  have HQ0' := Lib.hid (show QObj w1 w.heap.size g 40 (.slice none 0 0) [] from by rw [hg]; exact HQ0.out)
  rw [← hg]
  clear hg HQ0
  go_loopw [6] (fun i wr => ∃ (k : Nat) (v : Value) (L' : QL), k ≤ n ∧ i = .int .i64 k ∧ QObj wr w.heap.size g 40 v L' ∧ Hid (L'.map QV.m = (L.map QV.m).take k) ∧ Hid (FewP L') ∧ L'.length = k ∧ Below w.heap.size w wr) (fun i _ => n - (intOf i).toNat)
  case atStart => exact ⟨0, _, [], by omega, rfl, HQ0'.out, Lib.hid rfl, Lib.hid (fun q hq => by cases hq), rfl, HB0.out⟩
  case round =>
    obtain ⟨k, v, L', hk, rfl, hq, HM, HF, hlk, hbe⟩ := hrel
    have HQ := Lib.hid hq
    have HBE := Lib.hid hbe
    by_cases hlt : k < n
    · have hkL : k < L.length := by have := HN.out; omega
      obtain ⟨g1, off, rfl, hcc⟩ := HRD.out (by omega)
      have HCC := Lib.hid (fun W (hb : Below w.heap.size w W) => (hcc k hkL).at (hb.block g1 (lt_of_cell' (hcc k hkL).c0)))
      have hmk := HMS.out k hkL
      have HTK := Lib.hid (take_at hkL)
      obtain ⟨q, hq'⟩ : ∃ q, q = L.getD k q0 := ⟨_, rfl⟩
      rw [← hq'] at HCC hmk HTK
      have HSM := Lib.hid (small_any q (hmk.1.below hbe) hmk.2.1)
      have HMK := Lib.hid hmk
      obtain ⟨d0, d1, d2, d3, d4, d5, d6, d7, d8⟩ := HCC.out _ hbe
      clear hq hbe hcc hkL hmk hq'
      unfold QV.agg at HSM
      go_wp2_with fail
      refine HSM.out.mono ?_
      rintro x w2 ⟨b, rfl, hb, hb2⟩
      have HB2 := Lib.hid (HBE.out.trans (hb2.mono HBE.out.size))
      have HQ2 := Lib.hid (HQ.out.below hb2)
      clear d0 d1 d2 d3 d4 d5 d6 d7 d8 hb2 HSM
      cases b with
      | false =>
        clear hb
        go_wp2_with fail
        refine (HAW.out _ HB2.out).mono ?_
        rintro x w3 ⟨rfl, hb3⟩
        have HB3 := Lib.hid hb3
        clear hb3
        go_wp2_with fail
        go_ret
        exact ⟨rfl, HB3.out⟩
      | true =>
        have hm := hb rfl
        have HPU := Lib.hid (push_room HQ2.out q (HMK.out.1.below HB2.out) (by omega) (by omega) (by omega))
        obtain ⟨d0, d1, d2, d3, d4, d5, d6, d7, d8⟩ := HCC.out _ HB2.out
        clear hb
        unfold QV.agg at HPU
        go_wp2_with fail
        refine HPU.out.mono ?_
        rintro x w3 ⟨rfl, pa, pc, v3, hn3⟩
        have HN3 := Lib.hid hn3.obj
        have HB3 := Lib.hid (hn3.later rfl (fun j hj => (HQ2.out.row.lt j hj).1) HB2.out)
        have HM3 := Lib.hid (show (L' ++ [QV.mk q.m pa pc]).map QV.m = (L.map QV.m).take (k + 1) from by rw [HTK.out, List.map_append, HM.out]; rfl)
        have HF3 := Lib.hid (show FewP (L' ++ [QV.mk q.m pa pc]) from fun y hy => by
          rcases List.mem_append.1 hy with e | e
          · exact HF.out y e
          · rw [List.mem_singleton] at e
            subst e
            exact hm)
        clear hn3 d0 d1 d2 d3 d4 d5 d6 d7 d8 HPU
        go_wp2_with fail
        go_roundw
        case rel => exact ⟨k + 1, v3, _, by omega, by go_num, HN3.out, HM3, HF3, by simp [hlk], HB3.out⟩
        case measure => simp [intOf]; omega
    · obtain rfl : k = n := by omega
      have HM2 := Lib.hid (show leftM now (L'.map QV.m) = leftM now ((L.map QV.m).drop 0) from by
        rw [HM.out, List.take_of_length_le (by rw [List.length_map]; have := HN.out; omega), List.drop_zero])
      have hl40 : L'.length ≤ 40 := by omega
      have HSZ0 := Lib.hid (few_of HM.out HF.out HN.out)
      clear hq hbe hlt
      go_wp2_with fail
      obtain ⟨wz, rfl⟩ : ∃ wz : World, wz = wr := ⟨_, rfl⟩
      go_loopw [7] (fun i wr2 => ∃ (j : Nat) (v2 : Value) (L2 : QL), j ≤ k ∧ i = .int .i64 j ∧ QObj wr2 w.heap.size g 40 v2 L2 ∧ Hid (leftM now (L2.map QV.m) = leftM now ((L.map QV.m).drop j)) ∧ Hid (FewP L2) ∧ L2.length ≤ 40 ∧ Below w.heap.size w wr2) (fun i _ => k - (intOf i).toNat)
      case atStart => exact ⟨0, v, L', by omega, rfl, HQ.out, HM2, HF, hl40, HBE.out⟩
      case round =>
        obtain ⟨j, v2, L2, hj, rfl, hq2, HJ, HF2, hl2, hb2⟩ := hrel
        have HQ2 := Lib.hid hq2
        have HB2 := Lib.hid hb2
        by_cases hlt : j < k
        · have hkL : j < L.length := by have := HN.out; omega
          obtain ⟨g1, off, rfl, hcc⟩ := HRD.out (by omega)
          have HCC := Lib.hid (fun W (hb : Below w.heap.size w W) => (hcc j hkL).at (hb.block g1 (lt_of_cell' (hcc j hkL).c0)))
          have hmk := HMS.out j hkL
          have HDR := Lib.hid (drop_at hkL)
          obtain ⟨q, hq'⟩ : ∃ q, q = L.getD j q0 := ⟨_, rfl⟩
          rw [← hq'] at HCC hmk HDR
          have HMK := Lib.hid hmk
          have HSZ := Lib.hid (HSZ0.out j hkL)
          rw [← hq'] at HSZ
          clear hq2 hcc hkL hmk hq'
          cases hex : exB q.m.til now with
          | true =>
            have hh : 0 < q.m.til ∧ q.m.til ≤ now := by
              unfold exB at hex
              simpa using hex
            obtain ⟨ht1, ht2⟩ := hh
            have HJ2 := Lib.hid (show leftM now (L2.map QV.m) = leftM now ((L.map QV.m).drop (j + 1)) from by rw [HJ.out, HDR.out, leftM_cons_true hex])
            obtain ⟨d0, d1, d2, d3, d4, d5, d6, d7, d8⟩ := HCC.out _ hb2
            clear hex hb2
            go_wp2_with fail
            go_roundw
            case rel => exact ⟨j + 1, v2, L2, by omega, by go_num, HQ2.out, HJ2, HF2, hl2, HB2.out⟩
            case measure => simp [intOf]; omega
          | false =>
            have HHD := Lib.hid (show leftM now (L2.map QV.m) = q.m :: (L.map QV.m).drop (j + 1) from by rw [HJ.out, HDR.out, leftM_cons_false hex])
            have HPO := Lib.hid (pop_any HQ2.out (by omega) (fun y hy => Nat.le_trans (HF2.out y hy) (by omega)) now)
            have hor : q.m.til ≤ 0 ∨ (0 < q.m.til ∧ now < q.m.til) := by
              unfold exB at hex
              simp at hex
              omega
            obtain ⟨d0, d1, d2, d3, d4, d5, d6, d7, d8⟩ := HCC.out _ hb2
            clear hex hb2
            rcases hor with hor | ⟨hor, hor2⟩
            all_goals
              go_upto_region 15 with fail
              clear d0 d1 d2 d3 d4 d5 d6 d7 d8
              go_wp2_with fail
              refine HPO.out.mono ?_
              rintro x w3 ⟨v3, hn3, hx⟩
              rcases hx with ⟨e0', _⟩ | ⟨y, L3, pa, pc, e1, rfl, hp3⟩
              · have := HHD.out
                rw [← left_map, e0'] at this
                cases this
              have hym : y.m = q.m ∧ L3.map QV.m = (L.map QV.m).drop (j + 1) := by
                have := HHD.out
                rw [← left_map, e1, List.map_cons] at this
                exact List.cons.inj this
              have hlen3 : L3.length ≤ 40 := by
                have h1 := left_len now L2
                rw [e1, List.length_cons] at h1
                omega
              have hf3 : FewP L3 := fun z hz => HF2.out z ((List.dropWhile_sublist _).subset (show z ∈ leftQ now L2 from by rw [e1]; exact List.mem_cons_of_mem _ hz))
              rw [e1, List.drop_one, List.tail_cons] at hn3
              have HYM := Lib.hid hym.1
              have HJ3 := Lib.hid (show leftM now (L3.map QV.m) = leftM now ((L.map QV.m).drop (j + 1)) from by rw [hym.2])
              have hb3 := hn3.later rfl (fun i hi => (HQ2.out.row.lt i hi).1) HB2.out
              have HQ3 := Lib.hid hn3.obj
              have HF3 := Lib.hid hf3
              obtain ⟨Y, hY⟩ : ∃ Y : QV, Y = ⟨y.m, pa, pc⟩ := ⟨_, rfl⟩
              have hYm : Y.m = q.m := by rw [hY]; exact hym.1
              have hYp : PIn w3 0 Y.pa Y.m.props := by rw [hY]; exact hp3
              rw [← hY]
              have hbm : Below w3.heap.size w3 (w3.alloc (.cells Y.cells.toArray 36)) := (Below.refl _ _).alloc (Nat.le_refl _) _
              have hIN : OrInv w (w3.alloc (.cells Y.cells.toArray 36)) g v3 L3 w3.heap.size Y := ⟨hn3.obj.below hbm, Blk.made w3 36 _, hYp.below hbm, hb3.trans (hbm.mono hb3.size)⟩
              have HIN := Lib.hid hIN
              have KS := Lib.hid (fun W (hi : OrInv w W g v3 L3 w3.heap.size Y) => show (W.cell? ⟨w3.heap.size, 0, none⟩ = some (.string Y.m.topic) ∧ W.cell? ⟨w3.heap.size, 1, none⟩ = some (.string Y.m.payload) ∧ W.cell? ⟨w3.heap.size, 2, none⟩ = some (.int .i64 Y.m.qos) ∧ W.cell? ⟨w3.heap.size, 3, none⟩ = some (.bool Y.m.retain) ∧ W.cell? ⟨w3.heap.size, 4, none⟩ = some (.slice Y.pa Y.m.props.length Y.pc) ∧ W.cell? ⟨w3.heap.size, 5, none⟩ = some (.string Y.m.frm) ∧ W.cell? ⟨w3.heap.size, 6, none⟩ = some (.int .i64 Y.m.til) ∧ W.cell? ⟨w3.heap.size, 7, none⟩ = some (.int .i64 Y.m.seq) ∧ W.cell? ⟨w3.heap.size, 8, none⟩ = some (.string Y.m.grp)) ∧ W.cell? ⟨g1, off + j * 9, none⟩ = some (.string q.m.topic) ∧ W.cell? ⟨g1, off + j * 9 + 1, none⟩ = some (.string q.m.payload) ∧ W.cell? ⟨g1, off + j * 9 + 2, none⟩ = some (.int .i64 q.m.qos) ∧ W.cell? ⟨g1, off + j * 9 + 3, none⟩ = some (.bool q.m.retain) ∧ W.cell? ⟨g1, off + j * 9 + 4, none⟩ = some (.slice q.pa q.m.props.length q.pc) ∧ W.cell? ⟨g1, off + j * 9 + 5, none⟩ = some (.string q.m.frm) ∧ W.cell? ⟨g1, off + j * 9 + 6, none⟩ = some (.int .i64 q.m.til) ∧ W.cell? ⟨g1, off + j * 9 + 7, none⟩ = some (.int .i64 q.m.seq) ∧ W.cell? ⟨g1, off + j * 9 + 8, none⟩ = some (.string q.m.grp) from ⟨box_cells hi.box, (HCC.out W hi.bel).c0, (HCC.out W hi.bel).c1, (HCC.out W hi.bel).c2, (HCC.out W hi.bel).c3, (HCC.out W hi.bel).c4, (HCC.out W hi.bel).c5, (HCC.out W hi.bel).c6, (HCC.out W hi.bel).c7, (HCC.out W hi.bel).c8⟩)
              have D19 := Lib.hid (fun W (hi : OrInv w W g v3 L3 w3.heap.size Y) => (samemsg_any (w := W) (B := 0) (B2 := w.heap.size) Y q hYm hi.pin (HMK.out.1.below hi.bel) (by rw [hYm]; exact HSZ.out)).mono fun x w' ⟨he, hb⟩ => show x = Ending.returned (.bool true) ∧ OrInv w w' g v3 L3 w3.heap.size Y from ⟨he, hi.below hb⟩)
              have hj1 : (j : Int) < (k : Int) := by omega
              have hj0 : (0 : Int) ≤ (j : Int) := by omega
              clear hn3 hym e1 hf3 hp3 hb3 hbm HPO hY hYm hYp
              have hi0 := hIN
              clear hIN
              unfold QV.agg at D19 ⊢
              unfold QV.cells at hi0
              go_upto_region 16 with fail
              obtain ⟨⟨s0, s1, s2, s3, s4, s5, s6, s7, s8⟩, d0, d1, d2, d3, d4, d5, d6, d7, d8⟩ := KS.out _ hi0
              go_region_held3 (fun W => (W.cell? ⟨w3.heap.size, 0, none⟩ = some (.string Y.m.topic) ∧ W.cell? ⟨w3.heap.size, 1, none⟩ = some (.string Y.m.payload) ∧ W.cell? ⟨w3.heap.size, 2, none⟩ = some (.int .i64 Y.m.qos) ∧ W.cell? ⟨w3.heap.size, 3, none⟩ = some (.bool Y.m.retain) ∧ W.cell? ⟨w3.heap.size, 4, none⟩ = some (.slice Y.pa Y.m.props.length Y.pc) ∧ W.cell? ⟨w3.heap.size, 5, none⟩ = some (.string Y.m.frm) ∧ W.cell? ⟨w3.heap.size, 6, none⟩ = some (.int .i64 Y.m.til) ∧ W.cell? ⟨w3.heap.size, 7, none⟩ = some (.int .i64 Y.m.seq) ∧ W.cell? ⟨w3.heap.size, 8, none⟩ = some (.string Y.m.grp)) ∧ W.cell? ⟨g1, off + j * 9, none⟩ = some (.string q.m.topic) ∧ W.cell? ⟨g1, off + j * 9 + 1, none⟩ = some (.string q.m.payload) ∧ W.cell? ⟨g1, off + j * 9 + 2, none⟩ = some (.int .i64 q.m.qos) ∧ W.cell? ⟨g1, off + j * 9 + 3, none⟩ = some (.bool q.m.retain) ∧ W.cell? ⟨g1, off + j * 9 + 4, none⟩ = some (.slice q.pa q.m.props.length q.pc) ∧ W.cell? ⟨g1, off + j * 9 + 5, none⟩ = some (.string q.m.frm) ∧ W.cell? ⟨g1, off + j * 9 + 6, none⟩ = some (.int .i64 q.m.til) ∧ W.cell? ⟨g1, off + j * 9 + 7, none⟩ = some (.int .i64 q.m.seq) ∧ W.cell? ⟨g1, off + j * 9 + 8, none⟩ = some (.string q.m.grp))
                (first | assumption | exact KS.out _ (by assumption) | exact KS.out _ (OrInv.drewN (by assumption) 1))
                (first
                  | (go_at_call 19; (with_reducible refine (D19.out _ ?_).mono ?_); (first | assumption | exact OrInv.drewN (by assumption) 1); rintro x w6 ⟨rfl, hi6⟩))
              have HI6 := Lib.hid hi6
              clear s0 s1 s2 s3 s4 s5 s6 s7 s8 d0 d1 d2 d3 d4 d5 d6 d7 d8 hi0 hi6 D19 KS
              go_wp2_with fail
              go_roundw
              case rel => exact ⟨j + 1, v3, L3, by omega, by go_num, HI6.out.obj, HJ3, HF3, hlen3, HI6.out.bel⟩
              case measure => simp [intOf]; omega
        · have hjk : j = k := by omega
          have HNIL := Lib.hid (show leftQ now L2 = [] from by
            have h1 := HJ.out
            rw [hjk, List.drop_eq_nil_of_le (by rw [List.length_map]; have := HN.out; omega), ← left_map] at h1
            exact List.map_eq_nil_iff.1 h1)
          have HPO := Lib.hid (pop_any HQ2.out (by omega) (fun y hy => Nat.le_trans (HF2.out y hy) (by omega)) now)
          clear hq2 hb2
          subst hjk
          go_wp2_with fail
          refine HPO.out.mono ?_
          rintro x w3 ⟨v3, hn3, hx⟩
          rw [HNIL.out] at hn3 hx
          rcases hx with ⟨_, rfl⟩ | ⟨y, L3, pa, pc, e1, _⟩
          · have hb3 := hn3.later rfl (fun i hi => (HQ2.out.row.lt i hi).1) HB2.out
            have hbm : Below w3.heap.size w3 (w3.alloc (.cells zq 36)) := (Below.refl _ _).alloc (Nat.le_refl _) _
            have HLE := Lib.hid (qlen_any (hn3.obj.below hbm))
            have HB3 := Lib.hid (hb3.trans (hbm.mono hb3.size))
            clear hn3 hb3 hbm HPO
            unfold QV.agg q0 m0 e0
            unfold zq at HLE HB3
            go_wp2_with fail
            refine HLE.out.mono ?_
            rintro x w4 ⟨rfl, rfl⟩
            go_wp2_with fail
            refine (HAW.out _ HB3.out).mono ?_
            rintro x w5 ⟨rfl, hb5⟩
            have HB5 := Lib.hid hb5
            clear hb5
            go_wp2_with fail
            go_ret
            exact ⟨rfl, HB5.out⟩
          · cases e1
end Go.Proofs.Ytcfbfnlbdkgfkaa
