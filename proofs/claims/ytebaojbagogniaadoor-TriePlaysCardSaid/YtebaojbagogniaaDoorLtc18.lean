/- What is proved here: what is added to a trie and dropped leaves nothing behind: the statement's walk. Conditions: the two errors that a check names; acts that came in. -/
import Derived.Test.YtebaojbagogniaaDoorTwk18
import Derived.Test.YtebaojbagogniaaDoorAct18
import Derived.Test.YtebaojbagogniaaDoorSme18
namespace Go.Proofs.YtebaojbagogniaaDoor
open Go.RowKit Go.Extern.Stop Go.Stop Go.Extern Go.Maps Go.Deep
set_option maxRecDepth 100000
section
variable {w W W' : World} {g r : Nat} {T : NL} {E E' : List EV}
theorem TrB.noEnt {c : Int} (h : TrB w g T r c) : ∀ b ∈ fp g T, ∀ cs, w.heap[b]? ≠ some (.cells cs 46 (0, 0)) := fun b hb cs hc => by
  rcases mem_fp.1 hb with rfl | ⟨n, hn, rfl | rfl⟩
  · exact h.blk.other hc (by decide) rfl
  · exact (h.th.nx n hn).ne (g := n.nx) (u := 46) (cs := cs) hc rfl
  · exact (h.th.en n hn).ne (g := n.en) (u := 46) (cs := cs) hc rfl
theorem TE.re (h : TE w W g T r E) (hm : ∀ e, e ∈ E ↔ e ∈ E') : TE w W g T r E' := ⟨h.st, h.bel, h.ge, fun e => (h.mem e).trans (hm e)⟩
theorem row_fp {B : Nat} {v : Value} {L : List EV} {c : Int} (hr : ERow18 W B v L) (h : TrB W g T r c) (hf : Fr (fp g T) W W') : ERow18 W' B v L := hr.fr hf fun k hk hm => by
  obtain ⟨_, _, cs, hc⟩ := hr.lt k hk
  exact h.noEnt k hm cs hc
/-- Some acts were added. -/
structure AdL (w W : World) (g : Nat) (T : NL) (r : Nat) (E : List EV) (k : Nat) : Prop where
  te : TE w W g T r E
  len : T.length ≤ 1 + 201 * k
  few : E.length ≤ k
  fl : ∀ e ∈ E, filtB e.2 = true
theorem AdL.start (h : TE w W g T r []) (hl : T.length = 1) : AdL w W g T r [] 0 := ⟨h, by omega, Nat.le_refl _, fun e he => by cases he⟩
theorem AdL.below {k : Nat} (h : AdL w W g T r E k) (hb : Below W.heap.size W W') : AdL w W' g T r E k := ⟨h.te.below hb, h.len, h.few, h.fl⟩
theorem AdL.add {k : Nat} {T' : NL} {f s : ByteArray} (h : AdL w W g T r E k) (ht : TE w W' g T' r (addE E f s)) (hl : T'.length ≤ T.length + 201) : AdL w W' g T' r (addE E f s) (k + 1) := by
  refine ⟨ht, by have := h.len; omega, ?_, ?_⟩
  · unfold addE
    split
    · rw [List.length_cons]
      have := h.few
      omega
    · have := h.few
      omega
  · intro e he
    unfold addE at he
    cases hb : addB E f s with
    | false =>
      rw [hb] at he
      exact h.fl e he
    | true =>
      rw [hb] at he
      rcases List.mem_cons.1 he with rfl | he
      · unfold addB at hb
        rw [Bool.and_eq_true] at hb
        exact hb.1
      · exact h.fl e he
theorem AdL.step {k : Nat} {S : Nat → Addr} {f s : ByteArray} (h : AdL w W g T r E k) (hf : f.size ≤ 200) (hs : s.size ≤ 200) (he : EnvT w S) (hk : k ≤ 40) :
    Calls Tryd.prog 17 #[.pointer (some ⟨g, 0, none⟩), .string f, .string s] W fun x W' => x = .returned (.bool (addB E f s)) ∧ Below w.heap.size w W' ∧ ∃ T', AdL w W' g T' r (addE E f s) (k + 1) ∧ Fr (fp g T) W W' ∧ Grw W T T' :=
  (te_add h.te hf hs (he.later h.te.bel) (by have := h.len; omega) (by have := h.few; omega)).mono fun x W' ⟨hx, T', ht, hl, hfr, hg⟩ => ⟨hx, ht.bel, T', h.add ht hl, hfr, hg⟩
theorem dropat18 {d : List EV} (hd : d.Nodup) {j : Nat} (hj : j < d.length) (hf : ∀ e ∈ d, filtB e.2 = true) : dropB (d.drop j) (d.getD j ee0).2 (d.getD j ee0).1 = true ∧ dropB (d.drop (j + 1)) (d.getD j ee0).2 (d.getD j ee0).1 = false ∧ (∀ e, e ∈ dropE (d.drop j) (d.getD j ee0).2 (d.getD j ee0).1 ↔ e ∈ d.drop (j + 1)) ∧ (∀ e, e ∈ dropE (d.drop (j + 1)) (d.getD j ee0).2 (d.getD j ee0).1 ↔ e ∈ d.drop (j + 1)) := by
  have hx : d.getD j ee0 = d[j] := by rw [List.getD_eq_getElem?_getD, List.getElem?_eq_getElem hj]; rfl
  have hsp : d.drop j = d[j] :: d.drop (j + 1) := List.drop_eq_getElem_cons hj
  have hnd := hd.sublist (List.drop_sublist j d)
  rw [hsp, List.nodup_cons] at hnd
  obtain ⟨h1, h2⟩ := hnd
  have hfl : filtB (d[j]).2 = true := hf _ (List.getElem_mem hj)
  have b1 : dropB (d.drop j) (d.getD j ee0).2 (d.getD j ee0).1 = true := by
    rw [hx]
    unfold dropB
    rw [hfl, Bool.true_and, inE_iff, hsp]
    exact List.mem_cons_self ..
  have b2 : dropB (d.drop (j + 1)) (d.getD j ee0).2 (d.getD j ee0).1 = false := by
    rw [hx]
    unfold dropB
    rw [hfl, Bool.true_and, Bool.eq_false_iff]
    exact fun hh => h1 (inE_iff.1 hh)
  refine ⟨b1, b2, fun e => ?_, fun e => ?_⟩
  · unfold dropE
    rw [b1, if_pos rfl, List.mem_filter, decide_eq_true_iff, hx, hsp, List.mem_cons]
    constructor
    · rintro ⟨rfl | he, hne⟩
      · exact absurd rfl hne
      · exact he
    · intro he
      exact ⟨.inr he, fun e1 => h1 (by rw [show e = d[j] from e1] at he; exact he)⟩
  · unfold dropE
    rw [b2]
    exact Iff.rfl
end
set_option maxHeartbeats 16000000 in
theorem trieClean_walk (S : Nat → Addr) (A : Option Addr) (n c : Nat) (xs : AL) (w : World) (he : EnvT w S) (hn : n ≤ maxLen) (h : ActsN w A n xs) :
    Calls Tryd.prog 5 #[.slice A n c] w fun x w' => x = .returned (.bool true) ∧ Below w.heap.size w w' := by
  have HAW := Lib.hid (fun W (hb : Below w.heap.size w W) => (awake18 W (he.later hb)).mono fun x w' hx => show x = .returned (.bool true) ∧ Below w.heap.size w w' from ⟨hx.1, hb.trans (hx.2.mono hb.size)⟩)
  have HE := Lib.hid he
  have HX := Lib.hid h
  have HFW := Lib.hid (few18_any (c := c) h hn)
  have hnm : n ≤ 9223372036854775807 := by unfold maxLen at hn; omega
  clear h he hn
  go_enter Tryd.func5, Tryd.ntmps5
  go_wp2_with fail
  refine HFW.out.mono ?_
  rintro x W ⟨b, rfl, hfew, hb⟩
  have HB := Lib.hid hb
  clear hb HFW
  cases b with
  | false =>
    have HA := Lib.hid (HAW.out W HB.out)
    clear HAW hfew
    go_wp2_with fail
    refine HA.out.mono ?_
    rintro x W2 ⟨rfl, hb⟩
    have HB2 := Lib.hid hb
    clear hb
    go_wp2_with fail
    go_ret
    exact ⟨rfl, HB2.out⟩
  | true =>
    have HF := Lib.hid (hfew rfl)
    have hn40 : n ≤ 40 := by have h1 := HX.out.1; have h2 := HF.out.1; omega
    have HN := Lib.hid (te_new W)
    clear hfew hnm
    go_wp2_with fail
    refine HN.out.mono ?_
    rintro x W1 ⟨g, T1, r, rfl, h, hl⟩
    have HA1 : Hid (AdL w W1 g T1 r [] 0) := Lib.hid (AdL.start ⟨h.st, HB.out.trans (h.bel.mono HB.out.size), ⟨Nat.le_trans HB.out.size h.ge.1, fun m hm => ⟨Nat.le_trans HB.out.size (h.ge.2 m hm).1, Nat.le_trans HB.out.size (h.ge.2 m hm).2.1, Nat.le_trans HB.out.size (h.ge.2 m hm).2.2⟩⟩, h.mem⟩ hl)
    clear h hl HN
    go_wp2_with fail
    go_loopw [4] (fun i wr => ∃ (k : Nat) (T : NL) (E : List EV), k ≤ n ∧ i = .int .i64 k ∧ Hid (AdL w wr g T r E k)) (fun i _ => n - (intOf i).toNat)
    case atStart => exact ⟨0, T1, [], Nat.zero_le _, rfl, HA1⟩
    case round =>
      obtain ⟨k, T, E, hk, rfl, HJ⟩ := hrel
      clear HA1
      by_cases hlt : k < n
      · have hkL : k < xs.length := by have := HX.out.1; omega
        obtain ⟨g1, off, rfl, hcc⟩ := HX.out.2 (by omega)
        have hcw := hcc k hkL
        obtain ⟨a, ha⟩ : ∃ a, a = xs.getD k a0 := ⟨_, rfl⟩
        rw [← ha] at hcw
        have HSZ := Lib.hid (show a.filter.size ≤ 200 ∧ a.who.size ≤ 200 from by
          have := HF.out.2 k hkL
          rw [← ha] at this
          exact ⟨this.1, by omega⟩)
        have HCL := Lib.hid (fun (V : World) (hb : Below w.heap.size w V) => show V.cell? ⟨g1, off + k * 3 + 1, none⟩ = some (.string a.filter) ∧ V.cell? ⟨g1, off + k * 3 + 2, none⟩ = some (.string a.who) from by
          have h1 := hcw.at (hb.block g1 (lt_of_cell' hcw.c0))
          exact ⟨h1.c1, h1.c2⟩)
        have hbd : Below wr.heap.size wr wr.drew := bvn18 wr 1
        have HAD := Lib.hid ((HJ.out.below hbd).step HSZ.out.1 HSZ.out.2 HE.out (by omega))
        have HCD := Lib.hid (HCL.out wr.drew (HJ.out.below hbd).te.bel)
        obtain ⟨d1, d2⟩ := HCL.out wr HJ.out.te.bel
        clear hcc hcw ha hkL hbd
        go_upto_region 7 with fail
        go_region_held3 (fun V => V.cell? ⟨g1, off + k * 3 + 1, none⟩ = some (.string a.filter) ∧ V.cell? ⟨g1, off + k * 3 + 2, none⟩ = some (.string a.who))
          (first | done | with_reducible assumption | exact HCD.out | exact HCL.out _ hb8)
          (first
            | (go_at_call 17; (refine HAD.out.mono ?_); rintro e w8 ⟨rfl, hb8, hj8⟩))
        obtain ⟨T8, hj, _, _⟩ := hj8
        have HJ8 := Lib.hid hj
        clear hj hb8 HAD HCD d1 d2
        go_wp2_with fail
        go_roundw
        case rel => exact ⟨k + 1, T8, _, by omega, by go_num, HJ8⟩
        case measure => simp [intOf]; omega
      · have hE : E.length ≤ 900 := by have := HJ.out.few; omega
        have HAL := Lib.hid (te_all HJ.out.te hE)
        clear hE
        go_wp2_with fail
        refine HAL.out.mono ?_
        rintro x W5 ⟨v, d, rfl, hr, hp, _, hb⟩
        obtain ⟨A5, c5, rfl⟩ := hr.form
        have hdn : d.Nodup := hp.nodup_iff.2 (dd_nodup E)
        have HD := Lib.hid (show (∀ e ∈ d, filtB e.2 = true) ∧ d.Nodup ∧ d.length ≤ 900 from ⟨fun e he => HJ.out.fl e (mem_dd.1 (hp.mem_iff.1 he)), hdn, by rw [hp.length_eq]; have := dd_le E; have := HJ.out.few; omega⟩)
        have HSZ := Lib.hid (show ∀ e ∈ d, e.1.size ≤ 200 ∧ e.2.size ≤ 200 from fun e he => HJ.out.te.st.sz e ((HJ.out.te.mem e).2 (mem_dd.1 (hp.mem_iff.1 he))))
        have HT5 : Hid (TE w W5 g T r (d.drop 0) ∧ T.length ≤ 100000 ∧ ERow18 W5 wr.heap.size (.slice A5 d.length c5) d) := Lib.hid ⟨(HJ.out.te.below hb).re fun e => by rw [List.drop_zero, hp.mem_iff, mem_dd], by have := HJ.out.len; omega, hr⟩
        obtain ⟨m, hm⟩ : ∃ m, m = d.length := ⟨_, rfl⟩
        have HM := Lib.hid hm
        have hm9 : m ≤ 900 := by rw [hm]; exact HD.out.2.2
        generalize wr.heap.size = B5 at *
        rw [← hm] at HT5 ⊢
        clear hr hp hb hdn HAL HJ hm hlt
        go_wp2_with fail
        go_loopw [6] (fun i wr => ∃ (j : Nat) (T : NL), j ≤ m ∧ i = .int .i64 j ∧ Hid (TE w wr g T r (d.drop j) ∧ T.length ≤ 100000 ∧ ERow18 wr B5 (.slice A5 m c5) d)) (fun i _ => m - (intOf i).toNat)
        case atStart => exact ⟨0, T, Nat.zero_le _, rfl, HT5⟩
        case round =>
          obtain ⟨j, T6, hj, rfl, HJ⟩ := hrel
          clear HT5
          by_cases hlt : j < m
          · have hjd : j < d.length := by have := HM.out; omega
            obtain ⟨gr, rfl, _, hcl⟩ := HJ.out.2.2.cell (by omega)
            obtain ⟨y, hy⟩ : ∃ y, y = d.getD j ee0 := ⟨_, rfl⟩
            have hyd : y ∈ d := by rw [hy]; exact dtopE hjd
            obtain ⟨q1, q2, q3, q4⟩ := dropat18 HD.out.2.1 hjd HD.out.1
            rw [← hy] at q1 q2 q3 q4
            have HKC : Hid (∀ V, ERow18 V B5 (.slice (some ⟨gr, 0, none⟩) m c5) d → V.cell? ⟨gr, j * 2 + 1, none⟩ = some (.string y.2) ∧ V.cell? ⟨gr, j * 2, none⟩ = some (.string y.1)) := Lib.hid fun V hV => by
              have hV2 : ERow18 V B5 (.slice (some ⟨gr, 0, none⟩) d.length c5) d := by rw [← HM.out]; exact hV
              obtain ⟨g2, e2, _, hc2⟩ := hV2.cell (by omega)
              injection e2 with e2
              injection e2 with e2 _
              subst e2
              have h1 := hc2 j 0 hjd (by omega)
              have h2 := hc2 j 1 hjd (by omega)
              rw [← hy] at h1 h2
              rw [Nat.add_zero] at h1
              exact ⟨h2, h1⟩
            have hsz := HSZ.out y hyd
            have hbd : Below wr.heap.size wr wr.drew := bvn18 wr 1
            have hTd := HJ.out.1.below hbd
            have HD1 : Hid (Calls Tryd.prog 19 #[.pointer (some ⟨g, 0, none⟩), .string y.2, .string y.1] wr.drew fun x W7 => x = .returned (.bool true) ∧ (W7.cell? ⟨gr, j * 2 + 1, none⟩ = some (.string y.2) ∧ W7.cell? ⟨gr, j * 2, none⟩ = some (.string y.1)) ∧
                Calls Tryd.prog 19 #[.pointer (some ⟨g, 0, none⟩), .string y.2, .string y.1] W7 fun x W8 => x = .returned (.bool false) ∧ (W8.cell? ⟨gr, j * 2 + 1, none⟩ = some (.string y.2) ∧ W8.cell? ⟨gr, j * 2, none⟩ = some (.string y.1)) ∧ ∃ T8, TE w W8 g T8 r (d.drop (j + 1)) ∧ T8.length ≤ 100000 ∧ ERow18 W8 B5 (.slice (some ⟨gr, 0, none⟩) m c5) d) := Lib.hid
              ((te_drop hTd hsz.2 hsz.1 (HE.out.later hTd.bel) (by have := HJ.out.2.1; omega)).mono fun x W7 ⟨hx, T7, ht, hl, hfr, _⟩ => by
                have hm2 := HM.out
                have hr6 : ERow18 wr.drew B5 (.slice (some ⟨gr, 0, none⟩) m c5) d := HJ.out.2.2.below hbd
                have hr7 := row_fp hr6 hTd.st.i hfr
                have ht7 := ht.re q3
                refine ⟨by rw [hx, q1], HKC.out _ hr7, (te_drop ht7 hsz.2 hsz.1 (HE.out.later ht7.bel) (by have := HJ.out.2.1; omega)).mono fun x W8 ⟨hx, T8, ht, hl2, hfr, _⟩ => ?_⟩
                have hr8 := row_fp hr7 ht7.st.i hfr
                exact ⟨by rw [hx, q2], HKC.out _ hr8, T8, ht.re q4, by have := HJ.out.2.1; omega, hr8⟩)
            obtain ⟨d2, d1⟩ := HKC.out wr HJ.out.2.2
            have HKD := Lib.hid (HKC.out wr.drew (HJ.out.2.2.below hbd))
            clear hcl hy hyd q1 q2 q3 q4 hsz hbd hTd hjd HKC HJ
            go_upto_region 12 with fail
            go_region_held3 (fun V => V.cell? ⟨gr, j * 2 + 1, none⟩ = some (.string y.2) ∧ V.cell? ⟨gr, j * 2, none⟩ = some (.string y.1))
              (first | done | with_reducible assumption | exact HKD.out)
              (first
                | (go_at_call 19; (with_reducible refine HD1.out.mono ?_); rintro e w7 ⟨rfl, hk7, hd7⟩)
                | (go_at_call 19; (refine hd7.mono ?_); rintro e w8 ⟨rfl, hk8, hj8⟩))
            obtain ⟨T8, hj8⟩ := hj8
            have HJ8 := Lib.hid hj8
            clear hj8 hk7 hk8 hd7 HD1 HKD d1 d2
            go_wp2_with fail
            go_roundw
            case rel => exact ⟨j + 1, T8, by omega, by go_num, HJ8⟩
            case measure => simp [intOf]; omega
          · have hjm : d.drop j = [] := List.drop_eq_nil_of_le (by have := HM.out; omega)
            have HT9 : Hid (TE w wr g T6 r []) := Lib.hid (by rw [← hjm]; exact HJ.out.1)
            have P1 := Lib.hid (te_nodes HT9.out)
            have P2 := Lib.hid (te_all HT9.out (by decide))
            rw [show nodesE [] = 0 from rfl] at P1
            clear hjm HJ
            go_wp2_with fail
            refine P1.out.mono ?_
            rintro x W9 ⟨rfl, rfl⟩
            go_wp2_with fail
            refine P2.out.mono ?_
            rintro x W10 ⟨v, d9, rfl, hr, hp, _, hb⟩
            obtain rfl : d9 = [] := hp.eq_nil
            obtain ⟨A9, c9, rfl⟩ := hr.form
            have HA := Lib.hid (HAW.out W10 (HT9.out.bel.trans (hb.mono HT9.out.bel.size)))
            rw [show ([] : List EV).length = 0 from rfl]
            clear hr hp hb P1 P2
            go_wp2_with fail
            refine HA.out.mono ?_
            rintro x W11 ⟨rfl, hb⟩
            have HB2 := Lib.hid hb
            clear hb HA
            go_wp2_with fail
            go_ret
            exact ⟨rfl, HB2.out⟩
end Go.Proofs.YtebaojbagogniaaDoor
