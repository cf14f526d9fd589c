/- What is proved here: what the document's Add does to its trie with a filter. Conditions: the trie stands, sorted; the filter is short. -/
import Derived.Test.YtebaojbagogniaaDoorSme18
import Derived.Deep.QuietTactic
import Derived.Deep.DeepCutAuto
namespace Go.Proofs.YtebaojbagogniaaDoor
open Go.RowKit Go.Extern.Stop Go.Stop Go.Extern Go.Maps Go.Deep
set_option maxRecDepth 100000
theorem aheadE_at {y : EV} : ∀ {L : List EV} {k : Nat}, k ≤ L.length → (∀ j, j < k → lessE (L.getD j ee0) y = true) → (k < L.length → lessE (L.getD k ee0) y = false) → aheadE y L = k
  | [], k, h, _, _ => by simp at h; subst h; rfl
  | q :: L, 0, _, _, h2 => by
    have := h2 (by simp)
    unfold aheadE
    rw [if_neg (by rw [show lessE q y = false from this]; exact Bool.false_ne_true)]
  | q :: L, k + 1, h, h1, h2 => by
    have h0 : lessE q y = true := h1 0 (by omega)
    unfold aheadE
    rw [if_pos h0, aheadE_at (k := k) (by simpa using h) (fun j hj => h1 (j + 1) (by omega)) (fun hk => h2 (by simpa using hk))]
theorem inE_at {y : EV} {D : List EV} (hs : SrtE D) {k : Nat} (hk : aheadE y D = k) : inE y D = (decide (k < D.length) && decide (D.getD k ee0 = y)) := by
  obtain ⟨h1, h2⟩ := aheadE_split (x := y) hs
  rw [hk] at h1 h2
  rw [Bool.eq_iff_iff, Bool.and_eq_true, decide_eq_true_iff, decide_eq_true_iff]
  have hin : inE y D = true ↔ y ∈ D := by
    unfold inE
    simp
  rw [hin]
  constructor
  · intro hy
    rw [← List.take_append_drop k D, List.mem_append] at hy
    rcases hy with hy | hy
    · have := h1 y hy
      rw [lessE_irr] at this
      cases this
    · have hlt : k < D.length := by
        rcases Nat.lt_or_ge k D.length with h | h
        · exact h
        · rw [List.drop_eq_nil_of_le h] at hy
          cases hy
      refine ⟨hlt, ?_⟩
      rw [List.getD_eq_getElem?_getD, List.getElem?_eq_getElem hlt]
      show D[k] = y
      have hsp : D.drop k = D[k] :: D.drop (k + 1) := List.drop_eq_getElem_cons hlt
      have hpw := hs.sublist (List.drop_sublist k D)
      rw [hsp] at hy hpw
      rcases List.mem_cons.1 hy with e | hy
      · exact e.symm
      · have h3 := (List.pairwise_cons.1 hpw).1 y hy
        have h4 := h2 D[k] (by rw [hsp]; exact List.mem_cons_self ..)
        rw [h3] at h4
        cases h4
  · rintro ⟨hlt, he⟩
    rw [← he, List.getD_eq_getElem?_getD, List.getElem?_eq_getElem hlt]
    exact List.getElem_mem hlt
structure RaJ (w W : World) (B x k3 : Nat) (v : Value) (D : List EV) (y : EV) (k : Nat) : Prop where
  st : RTr W B x v D
  box : Blk W k3 46 #[.string y.1, .string y.2]
  bel : Below w.heap.size w W
  ahd : ∀ j, j < k → lessE (D.getD j ee0) y = true
theorem RaJ.below {w W W' : World} {B x k3 k : Nat} {v : Value} {D : List EV} {y : EV} (h : RaJ w W B x k3 v D y k) (hb : Below W.heap.size W W') : RaJ w W' B x k3 v D y k :=
  ⟨h.st.below hb, h.box.below hb h.box.lt, h.bel.trans (hb.mono h.bel.size), h.ahd⟩
theorem RaJ.fin {w W V : World} {B x k3 k : Nat} {v u : Value} {D : List EV} {y : EV} (h : RaJ w W B x k3 v D y k) (hB : B ≤ w.heap.size) (hb : Below W.heap.size W V) (hr : ERow18 V W.heap.size u (insE y D)) (hl : D.length < 800) (hf : filtB y.2 = true) (hi : inE y D = false) : RAddSays w B x y D (.returned (.bool true)) (V.setCell ⟨x, 0, none⟩ u) := by
  have e1 : raddB y D = true := by unfold raddB; rw [hf, hi]; rfl
  have e2 : raddD y D = insE y D := by unfold raddD; rw [e1]; rfl
  refine ⟨by rw [e1], u, ?_, fr_storeE (h.bel.trans (hb.mono h.bel.size))⟩
  rw [e2]
  exact rtr_store (w := W) (h.st.below hb) hr (Nat.le_trans hB h.bel.size) (by rw [(insE_perm y D).length_eq, List.length_cons]; omega)
set_option maxHeartbeats 8000000 in
theorem radd_yes {w : World} {B x : Nat} {v : Value} {D : List EV} (h : RTr w B x v D) (hs : SrtE D) (y : EV) (hy : y.2.size ≤ 1000) (hn : filtB y.2 = true) (hlen : D.length < 800) :
    Calls Tryd.prog 10 #[.pointer (some ⟨x, 0, none⟩), .string y.2, .string y.1] w (RAddSays w B x y D) := by
  have HN : Hid (∀ W, Calls Tryd.prog 21 #[.string y.2] W fun x w' => x = .returned (.bool true) ∧ Below W.heap.size W w') := Lib.hid fun W => by
    have := rIsFilter_any (w := W) y.2 (by omega)
    rw [hn] at this
    exact this
  obtain ⟨A, c, rfl⟩ := h.row.form
  have hfw := h.few
  have HSR := Lib.hid hs
  have HNM := Lib.hid hn
  have HB := Lib.hid ((Below.refl w.heap.size w).alloc (Nat.le_refl _) (.cells #[.string y.1, .string y.2] 46))
  have HR := Lib.hid (fun (W : World) (hb : Below w.heap.size w W) => h.below hb)
  have HK := Lib.hid (Blk.made w 46 #[.string y.1, .string y.2])
  have HBW := Lib.hid h.size
  obtain ⟨n, hnn⟩ : ∃ n, n = D.length := ⟨_, rfl⟩
  have HN9 := Lib.hid hnn
  rw [← hnn] at hfw hlen HR
  have HLN := Lib.hid hlen
  clear h hs hy hn hnn
  go_enter Tryd.func10, Tryd.ntmps10
  go_wp2_with fail
  refine (HN.out _).mono ?_
  rintro e W ⟨rfl, hb⟩
  have HJ0 : Hid (RaJ w W B x w.heap.size (.slice A n c) D y 0) := Lib.hid ⟨HR.out W (HB.out.trans (hb.mono HB.out.size)), HK.out.below hb HK.out.lt, HB.out.trans (hb.mono HB.out.size), fun j hj => by omega⟩
  obtain ⟨k3, hk3⟩ : ∃ k3, k3 = w.heap.size := ⟨_, rfl⟩
  rw [← hk3] at HJ0 ⊢
  clear hb hk3 HR HK HB HN
  go_wp2_with fail
  go_loopw [8] (fun i wr => ∃ k : Nat, k ≤ n ∧ i = .int .i64 k ∧ Hid (RaJ w wr B x k3 (.slice A n c) D y k)) (fun i _ => n - (intOf i).toNat)
  case atStart => exact ⟨0, Nat.zero_le _, rfl, HJ0⟩
  case round =>
    obtain ⟨k, hk, rfl, HJ⟩ := hrel
    clear HJ0
    have c1 := HJ.out.st.blk.cell 0
    have b0 := HJ.out.box.cell 0
    have b1 := HJ.out.box.cell 1
    by_cases hlt : k < n
    · have hkD : k < D.length := by have := HN9.out; omega
      obtain ⟨gr, rfl, _, hcl⟩ := HJ.out.st.row.cell (by omega)
      obtain ⟨q, hq⟩ : ∃ q, D.getD k ee0 = q := ⟨_, rfl⟩
      have HLD := Lib.hid hq
      have HKC := Lib.hid (fun (V : World) (hb : Below wr.heap.size wr V) => show V.cell? ⟨x, 0, none⟩ = some (.slice (some ⟨gr, 0, none⟩) n c) ∧ V.cell? ⟨gr, k * 2, none⟩ = some (.string q.1) ∧ V.cell? ⟨gr, k * 2 + 1, none⟩ = some (.string q.2) ∧ V.cell? ⟨k3, 0, none⟩ = some (.string y.1) ∧ V.cell? ⟨k3, 1, none⟩ = some (.string y.2) from by
        have hj := HJ.out.below hb
        obtain ⟨g2, e2, _, hc2⟩ := hj.st.row.cell (by omega)
        injection e2 with e2
        injection e2 with e2 _
        subst e2
        have h1 := hc2 k 0 hkD (by omega)
        have h2 := hc2 k 1 hkD (by omega)
        rw [hq] at h1 h2
        rw [Nat.add_zero] at h1
        exact ⟨hj.st.blk.cell 0, h1, h2, hj.box.cell 0, hj.box.cell 1⟩)
      have HLS := Lib.hid (fun W => rless18_any q y W)
      obtain ⟨e, he⟩ : ∃ e, lessE q y = e := ⟨_, rfl⟩
      rw [he] at HLS
      have HLE := Lib.hid he
      obtain ⟨_, d1, d2, _, _⟩ := HKC.out wr (Below.refl _ _)
      have hb0 : Below wr.heap.size wr wr := Below.refl _ _
      have HCD := Lib.hid (HKC.out wr.drew (show Below wr.heap.size wr wr.drew from (Below.refl _ _).drew))
      clear hcl hq he
      go_upto_region 5 with fail
      go_cut [33] (fun v33 wx => v33 = .bool e ∧ Below wr.heap.size wr wx)
      case first =>
        go_region_held3 (fun V => V.cell? ⟨x, 0, none⟩ = some (.slice (some ⟨gr, 0, none⟩) n c) ∧ V.cell? ⟨gr, k * 2, none⟩ = some (.string q.1) ∧ V.cell? ⟨gr, k * 2 + 1, none⟩ = some (.string q.2) ∧ V.cell? ⟨k3, 0, none⟩ = some (.string y.1) ∧ V.cell? ⟨k3, 1, none⟩ = some (.string y.2))
          (first | done | with_reducible assumption | exact HCD.out | exact HKC.out _ hb8)
          (first
            | (go_at_call 22; (refine (HLS.out _).mono ?_); rintro e9 w8 ⟨rfl, hb7⟩; have hb8 : Below wr.heap.size wr w8 := (show Below wr.heap.size wr wr.drew from (Below.refl _ _).drew).trans (hb7.mono (Nat.le_refl _))))
        go_wp2_with fail
        go_meet
        case rel => exact ⟨rfl, hb8⟩
      case rest =>
        obtain ⟨rfl, hbc⟩ := hcut
        have HJ4 := Lib.hid (HJ.out.below hbc)
        have HC4 := Lib.hid (HKC.out wc hbc)
        clear c1 b0 b1 d1 d2 hbc hb0 HKC HCD HLS
        cases e with
        | true =>
          have HJ5 : Hid (RaJ w wc B x k3 (.slice (some ⟨gr, 0, none⟩) n c) D y (k + 1)) := Lib.hid ⟨HJ4.out.st, HJ4.out.box, HJ4.out.bel, fun j hj => by
            rcases Nat.lt_succ_iff_lt_or_eq.1 hj with hj | rfl
            · exact HJ4.out.ahd j hj
            · rw [HLD.out]; exact HLE.out⟩
          clear HJ
          go_wp2_with fail
          go_roundw
          case rel => exact ⟨k + 1, by omega, by go_num, HJ5⟩
          case measure => simp [intOf]; omega
        | false =>
          have HAH := Lib.hid (aheadE_at (y := y) (Nat.le_of_lt hkD) HJ4.out.ahd (fun _ => by rw [HLD.out]; exact HLE.out))
          have HIN := Lib.hid (inE_at HSR.out HAH.out)
          obtain ⟨a, ha⟩ : ∃ a, (q.1.toList == y.1.toList) = a := ⟨_, rfl⟩
          obtain ⟨b, hb⟩ : ∃ b, (q.2.toList == y.2.toList) = b := ⟨_, rfl⟩
          have HIB := Lib.hid (show inE y D = (a && b) from by
            rw [HIN.out, decide_eq_true hkD, HLD.out, Bool.true_and, ← ha, ← hb]
            have h1 : (q.1.toList == y.1.toList) = decide (q.1 = y.1) := beq_decE _ _
            have h2 : (q.2.toList == y.2.toList) = decide (q.2 = y.2) := beq_decE _ _
            rw [h1, h2, Bool.eq_iff_iff, Bool.and_eq_true, decide_eq_true_iff, decide_eq_true_iff, decide_eq_true_iff]
            exact ⟨fun e => ⟨by rw [e], by rw [e]⟩, fun ⟨e1, e2⟩ => Prod.ext e1 e2⟩)
          obtain ⟨c1, d1, d2, b0, b1⟩ := HC4.out
          have HBN := Lib.hid (fun (d : Nat) => show Below wc.heap.size wc (wc.drewN d) from ⟨rfl, rfl, rfl, Nat.le_refl _, fun _ _ => rfl⟩)
          clear HJ HIN
          go_upto_region 7 with fail
          go_cut [53] (fun v wx => v = .bool (a && b) ∧ ∃ d, wx = wc.drewN d)
          case first =>
            cases a <;> cases b
            all_goals
              go_quiet (fail)
              go_wp2_with fail
              go_meet
              case rel => exact ⟨rfl, _, rfl⟩
          case rest =>
            obtain ⟨rfl, d, hwd⟩ := hcut
            have HJ6 := Lib.hid (HJ4.out.below (HBN.out d))
            rw [← hwd] at HJ6
            clear c1 d1 d2 b0 b1 ha hb hwd HBN HC4 HJ4
            cases hab : (a && b) with
            | true =>
              have HS := Lib.hid (show RAddSays w B x y D (.returned (.bool false)) wc from ⟨by unfold raddB; rw [HIB.out, hab]; simp, _, by unfold raddD raddB; rw [HIB.out, hab]; simp; exact HJ6.out.st, Fr.of_below HJ6.out.bel⟩)
              clear hab
              go_wp2_with fail
              go_ret
              exact HS.out
            | false =>
              have HI := Lib.hid (show inE y D = false by rw [HIB.out, hab])
              clear hab HIB
              have hcap := erow_cap HJ6.out.st.row
              have c1 := HJ6.out.st.blk.cell 0
              have HC6 := Lib.hid (fun W (hb : Below wc.heap.size wc W) => erowcells ((HJ6.out.below hb).st.row) HN9.out.symm)
              have hkn : k ≤ n := by omega
              have htk : k = (D.take k).length := by rw [List.length_take, ← HN9.out]; omega
              have htd : n - k = (D.drop k).length := by rw [List.length_drop, ← HN9.out]
              have HTK := Lib.hid (And.intro htk htd)
              clear htk htd
              go_upto_region 10 with fail
              go_upto_region 11 with (refine append_es18 (w0 := wc) (L := []) rfl _ _ rfl (D.take k) (Below.refl _ _) (World.ownsRow_nil _ _ _ _) rfl (by rw [← HTK.out.1]; show 0 + k ≤ 2000; omega) ⟨gr, 0, none⟩ k c rfl HTK.out.1 k (by rw [← HTK.out.1]; exact Nat.zero_add _) (fun j u hj => (HC6.out _ (Below.refl _ _)).1 k j u hj) ?_; intro a8 c8 W5 hrow hbel hfr; have HX := Lib.hid (And.intro hrow (And.intro hbel hfr)); clear hrow hbel hfr; simp only [Act.put, List.setIfInBounds_toArray, List.set_cons_zero, List.set_cons_succ])
              have HR5 := Lib.hid (show ERow18 W5 wc.heap.size (.slice a8 k c8) (D.take k) from HX.out.1)
              have HB5 := Lib.hid HX.out.2.1
              have b0 := (HJ6.out.below HB5.out).box.cell 0
              have b1 := (HJ6.out.below HB5.out).box.cell 1
              have HB6 := Lib.hid (HB5.out.trans (((Below.refl W5.heap.size W5).alloc (Nat.le_refl _) (.cells #[.string y.1, .string y.2] 46)).mono HB5.out.size))
              have HR6 := Lib.hid (HR5.out.below ((Below.refl W5.heap.size W5).alloc (Nat.le_refl _) (.cells #[.string y.1, .string y.2] 46)))
              have HNW := Lib.hid (fun i (hi : i < 2) => (news_e18 W5 #[.string y.1, .string y.2] i hi).trans (show (#[Value.string y.1, Value.string y.2] : Array Value)[i]? = (ecell y)[i]? from List.getElem?_toArray))
              have hk9 : k ≤ 900 := by omega
              go_wp2_with (first
                | (refine wpe_slice18 rfl rfl _ rfl rfl ?_; simp only [Act.put, List.setIfInBounds_toArray, List.set_cons_zero, List.set_cons_succ])
                | (refine append_e18 (w0 := wc) (L := D.take k) rfl _ _ rfl y HB6.out HR6.out rfl (by rw [← HTK.out.1]; omega) ⟨W5.heap.size, 0, none⟩ 1 rfl HNW.out ?_; intro a9 c9 W7 hrow hbel hfr; rw [← HTK.out.1] at hrow ⊢; have HX7 := Lib.hid (And.intro hrow hbel); have e1 := (HJ6.out.below hbel).st.blk.cell 0; clear hrow hbel hfr; simp only [Act.put, List.setIfInBounds_toArray, List.set_cons_zero, List.set_cons_succ])
                | (refine append_es18 (w0 := wc) (L := D.take k ++ [y]) rfl _ _ rfl (D.drop k) HX7.out.2 HX7.out.1 rfl (by rw [List.length_append, ← HTK.out.1, ← HTK.out.2]; show k + 1 + (n - k) ≤ 2000; omega) ⟨gr, k * 2, none⟩ (n - k) (c - k) rfl HTK.out.2 (n + 1) (by rw [List.length_append, ← HTK.out.1, ← HTK.out.2]; show k + 1 + (n - k) = n + 1; omega) (fun j u hj => (HC6.out _ HX7.out.2).2 k j u hkn hj) ?_; intro a10 c10 W8 hrow hbel hfr; have HX8 := Lib.hid (And.intro hrow hbel); have hj8 := HJ6.out.below hbel; have c3 := hj8.st.blk.frozen 0; have c4 := hj8.st.blk.cell 0; clear hj8 hrow hbel hfr; simp only [Act.put, List.setIfInBounds_toArray, List.set_cons_zero, List.set_cons_succ]))
              have HS := Lib.hid (HJ6.out.fin HBW.out HX8.out.2 (u := .slice a10 (n + 1) c10) (by unfold insE; rw [HAH.out]; exact HX8.out.1) (by rw [← HN9.out]; exact HLN.out) HNM.out HI.out)
              go_ret
              exact HS.out
    · have hkn0 : k = n := by omega
      have HAH := Lib.hid (aheadE_at (y := y) (by have := HN9.out; omega) HJ.out.ahd (fun h => absurd h (by have := HN9.out; omega)))
      have HI := Lib.hid (show inE y D = false by rw [inE_at HSR.out HAH.out, decide_eq_false (by have := HN9.out; omega)]; rfl)
      have HBN := Lib.hid (fun (d : Nat) => show Below wr.heap.size wr (wr.drewN d) from ⟨rfl, rfl, rfl, Nat.le_refl _, fun _ _ => rfl⟩)
      go_upto_region 5 with fail
      go_cut [33] (fun v wx => v = .bool false ∧ ∃ d, wx = wr.drewN d)
      case first =>
        go_quiet (fail)
        go_wp2_with fail
        go_meet
        case rel => exact ⟨rfl, _, rfl⟩
      case rest =>
        obtain ⟨rfl, d, hwd⟩ := hcut
        have HJ4 := Lib.hid (HJ.out.below (HBN.out d))
        rw [← hwd] at HJ4
        clear c1 b0 b1 hwd HBN HJ
        have c1 := HJ4.out.st.blk.cell 0
        have HBN := Lib.hid (fun (d : Nat) => show Below wc.heap.size wc (wc.drewN d) from ⟨rfl, rfl, rfl, Nat.le_refl _, fun _ _ => rfl⟩)
        go_upto_region 7 with fail
        go_cut [53] (fun v wx => v = .bool false ∧ ∃ d, wx = wc.drewN d)
        case first =>
          go_quiet (fail)
          go_wp2_with fail
          go_meet
          case rel => exact ⟨rfl, _, rfl⟩
        case rest =>
          obtain ⟨rfl, d, hwd⟩ := hcut
          have HJ6 := Lib.hid (HJ4.out.below (HBN.out d))
          rw [← hwd] at HJ6
          clear c1 hwd HBN HJ4
          have hnil : D.drop k = [] := List.drop_eq_nil_of_le (by have := HN9.out; omega)
          clear hkn0
          rcases erow_two HJ6.out.st.row with ⟨rfl, rfl, rfl⟩ | ⟨gr, rfl⟩
          · have hkz : k = 0 := by omega
            have HD0 := Lib.hid (show D = [] from List.length_eq_zero_iff.1 (by rw [← HN9.out]))
            have c1 := HJ6.out.st.blk.cell 0
            have b0 := HJ6.out.box.cell 0
            have b1 := HJ6.out.box.cell 1
            subst hkz
            go_upto_region 11 with (refine append_none18 rfl _ _ rfl (Nat.le_refl 0) rfl rfl ?_; simp only [Act.put, List.setIfInBounds_toArray, List.set_cons_zero, List.set_cons_succ])
            have HNW := Lib.hid (fun i (hi : i < 2) => (news_e18 wc #[.string y.1, .string y.2] i hi).trans (show (#[Value.string y.1, Value.string y.2] : Array Value)[i]? = (ecell y)[i]? from List.getElem?_toArray))
            have HB6 := Lib.hid ((Below.refl wc.heap.size wc).alloc (Nat.le_refl _) (.cells #[.string y.1, .string y.2] 46))
            go_wp2_with (first
              | (refine wpe_slice18 rfl rfl _ rfl rfl ?_; simp only [Act.put, List.setIfInBounds_toArray, List.set_cons_zero, List.set_cons_succ])
              | (refine append_e18 (w0 := wc) (L := []) rfl _ _ rfl y HB6.out (World.ownsRow_nil _ _ _ _) rfl (by decide) ⟨wc.heap.size, 0, none⟩ 1 rfl HNW.out ?_; intro a9 c9 W7 hrow hbel hfr; have HX7 := Lib.hid (And.intro hrow hbel); have hcp := erow_cap hrow; have e1 := (HJ6.out.below hbel).st.blk.cell 0; simp only [List.length_nil, Nat.zero_add] at hcp ⊢; have hc9 := hcp.1; have hc9b := hcp.2; clear hcp hrow hbel hfr; simp only [Act.put, List.setIfInBounds_toArray, List.set_cons_zero, List.set_cons_succ])
              | (refine append_none18 rfl _ _ rfl hc9 rfl rfl ?_; have hj8 := HJ6.out.below HX7.out.2; have c3 := hj8.st.blk.frozen 0; have c4 := hj8.st.blk.cell 0; clear hj8; simp only [Act.put, List.setIfInBounds_toArray, List.set_cons_zero, List.set_cons_succ]))
            have HS := Lib.hid (HJ6.out.fin HBW.out HX7.out.2 (u := .slice a9 1 c9) (by unfold insE; rw [HD0.out]; exact HX7.out.1) (by rw [← HN9.out]; exact HLN.out) HNM.out HI.out)
            go_ret
            exact HS.out
          · by_cases hck : c = k
            · skip
              have hcap := erow_cap HJ6.out.st.row
              have c1 := HJ6.out.st.blk.cell 0
              have HC6 := Lib.hid (fun W (hb : Below wc.heap.size wc W) => erowcells ((HJ6.out.below hb).st.row) HN9.out.symm)
              have hkn : k ≤ n := by omega
              have htk : k = (D.take k).length := by rw [List.length_take, ← HN9.out]; omega
              have htd : n - k = (D.drop k).length := by rw [List.length_drop, ← HN9.out]
              have HTK := Lib.hid (And.intro htk htd)
              clear htk htd
              go_upto_region 10 with fail
              go_upto_region 11 with (refine append_es18 (w0 := wc) (L := []) rfl _ _ rfl (D.take k) (Below.refl _ _) (World.ownsRow_nil _ _ _ _) rfl (by rw [← HTK.out.1]; show 0 + k ≤ 2000; omega) _ _ _ rfl HTK.out.1 k (by rw [← HTK.out.1]; exact Nat.zero_add _) (fun j u hj => (HC6.out _ (Below.refl _ _)).1 k j u hj) ?_; intro a8 c8 W5 hrow hbel hfr; have HX := Lib.hid (And.intro hrow (And.intro hbel hfr)); clear hrow hbel hfr; simp only [Act.put, List.setIfInBounds_toArray, List.set_cons_zero, List.set_cons_succ])
              have HR5 := Lib.hid (show ERow18 W5 wc.heap.size (.slice a8 k c8) (D.take k) from HX.out.1)
              have HB5 := Lib.hid HX.out.2.1
              have b0 := (HJ6.out.below HB5.out).box.cell 0
              have b1 := (HJ6.out.below HB5.out).box.cell 1
              have HB6 := Lib.hid (HB5.out.trans (((Below.refl W5.heap.size W5).alloc (Nat.le_refl _) (.cells #[.string y.1, .string y.2] 46)).mono HB5.out.size))
              have HR6 := Lib.hid (HR5.out.below ((Below.refl W5.heap.size W5).alloc (Nat.le_refl _) (.cells #[.string y.1, .string y.2] 46)))
              have HNW := Lib.hid (fun i (hi : i < 2) => (news_e18 W5 #[.string y.1, .string y.2] i hi).trans (show (#[Value.string y.1, Value.string y.2] : Array Value)[i]? = (ecell y)[i]? from List.getElem?_toArray))
              have hk9 : k ≤ 900 := by omega
              go_wp2_with (first
                | (refine wpe_slice18 rfl rfl _ rfl rfl ?_; simp only [Act.put, List.setIfInBounds_toArray, List.set_cons_zero, List.set_cons_succ])
                | (refine append_e18 (w0 := wc) (L := D.take k) rfl _ _ rfl y HB6.out HR6.out rfl (by rw [← HTK.out.1]; omega) ⟨W5.heap.size, 0, none⟩ 1 rfl HNW.out ?_; intro a9 c9 W7 hrow hbel hfr; rw [← HTK.out.1] at hrow ⊢; have HX7 := Lib.hid (And.intro hrow hbel); have e1 := (HJ6.out.below hbel).st.blk.cell 0; clear hrow hbel hfr; simp only [Act.put, List.setIfInBounds_toArray, List.set_cons_zero, List.set_cons_succ])
                | (refine append_es18 (w0 := wc) (L := D.take k ++ [y]) rfl _ _ rfl (D.drop k) HX7.out.2 HX7.out.1 rfl (by rw [List.length_append, ← HTK.out.1, ← HTK.out.2]; show k + 1 + (n - k) ≤ 2000; omega) _ _ _ rfl HTK.out.2 (n + 1) (by rw [List.length_append, ← HTK.out.1, ← HTK.out.2]; show k + 1 + (n - k) = n + 1; omega) (fun j u hj => by rw [hnil] at hj; simp [ecs] at hj) ?_; intro a10 c10 W8 hrow hbel hfr; have HX8 := Lib.hid (And.intro hrow hbel); have hj8 := HJ6.out.below hbel; have c3 := hj8.st.blk.frozen 0; have c4 := hj8.st.blk.cell 0; clear hj8 hrow hbel hfr; simp only [Act.put, List.setIfInBounds_toArray, List.set_cons_zero, List.set_cons_succ]))
              have HS := Lib.hid (HJ6.out.fin HBW.out HX8.out.2 (u := .slice a10 (n + 1) c10) (by unfold insE; rw [HAH.out]; exact HX8.out.1) (by rw [← HN9.out]; exact HLN.out) HNM.out HI.out)
              go_ret
              exact HS.out
            · skip
              have hcap := erow_cap HJ6.out.st.row
              have c1 := HJ6.out.st.blk.cell 0
              have HC6 := Lib.hid (fun W (hb : Below wc.heap.size wc W) => erowcells ((HJ6.out.below hb).st.row) HN9.out.symm)
              have hkn : k ≤ n := by omega
              have htk : k = (D.take k).length := by rw [List.length_take, ← HN9.out]; omega
              have htd : n - k = (D.drop k).length := by rw [List.length_drop, ← HN9.out]
              have HTK := Lib.hid (And.intro htk htd)
              clear htk htd
              go_upto_region 10 with fail
              go_upto_region 11 with (refine append_es18 (w0 := wc) (L := []) rfl _ _ rfl (D.take k) (Below.refl _ _) (World.ownsRow_nil _ _ _ _) rfl (by rw [← HTK.out.1]; show 0 + k ≤ 2000; omega) ⟨gr, 0, none⟩ k c rfl HTK.out.1 k (by rw [← HTK.out.1]; exact Nat.zero_add _) (fun j u hj => (HC6.out _ (Below.refl _ _)).1 k j u hj) ?_; intro a8 c8 W5 hrow hbel hfr; have HX := Lib.hid (And.intro hrow (And.intro hbel hfr)); clear hrow hbel hfr; simp only [Act.put, List.setIfInBounds_toArray, List.set_cons_zero, List.set_cons_succ])
              have HR5 := Lib.hid (show ERow18 W5 wc.heap.size (.slice a8 k c8) (D.take k) from HX.out.1)
              have HB5 := Lib.hid HX.out.2.1
              have b0 := (HJ6.out.below HB5.out).box.cell 0
              have b1 := (HJ6.out.below HB5.out).box.cell 1
              have HB6 := Lib.hid (HB5.out.trans (((Below.refl W5.heap.size W5).alloc (Nat.le_refl _) (.cells #[.string y.1, .string y.2] 46)).mono HB5.out.size))
              have HR6 := Lib.hid (HR5.out.below ((Below.refl W5.heap.size W5).alloc (Nat.le_refl _) (.cells #[.string y.1, .string y.2] 46)))
              have HNW := Lib.hid (fun i (hi : i < 2) => (news_e18 W5 #[.string y.1, .string y.2] i hi).trans (show (#[Value.string y.1, Value.string y.2] : Array Value)[i]? = (ecell y)[i]? from List.getElem?_toArray))
              have hk9 : k ≤ 900 := by omega
              go_wp2_with (first
                | (refine wpe_slice18 rfl rfl _ rfl rfl ?_; simp only [Act.put, List.setIfInBounds_toArray, List.set_cons_zero, List.set_cons_succ])
                | (refine append_e18 (w0 := wc) (L := D.take k) rfl _ _ rfl y HB6.out HR6.out rfl (by rw [← HTK.out.1]; omega) ⟨W5.heap.size, 0, none⟩ 1 rfl HNW.out ?_; intro a9 c9 W7 hrow hbel hfr; rw [← HTK.out.1] at hrow ⊢; have HX7 := Lib.hid (And.intro hrow hbel); have e1 := (HJ6.out.below hbel).st.blk.cell 0; clear hrow hbel hfr; simp only [Act.put, List.setIfInBounds_toArray, List.set_cons_zero, List.set_cons_succ])
                | (refine append_es18 (w0 := wc) (L := D.take k ++ [y]) rfl _ _ rfl (D.drop k) HX7.out.2 HX7.out.1 rfl (by rw [List.length_append, ← HTK.out.1, ← HTK.out.2]; show k + 1 + (n - k) ≤ 2000; omega) ⟨gr, k * 2, none⟩ (n - k) (c - k) rfl HTK.out.2 (n + 1) (by rw [List.length_append, ← HTK.out.1, ← HTK.out.2]; show k + 1 + (n - k) = n + 1; omega) (fun j u hj => (HC6.out _ HX7.out.2).2 k j u hkn hj) ?_; intro a10 c10 W8 hrow hbel hfr; have HX8 := Lib.hid (And.intro hrow hbel); have hj8 := HJ6.out.below hbel; have c3 := hj8.st.blk.frozen 0; have c4 := hj8.st.blk.cell 0; clear hj8 hrow hbel hfr; simp only [Act.put, List.setIfInBounds_toArray, List.set_cons_zero, List.set_cons_succ]))
              have HS := Lib.hid (HJ6.out.fin HBW.out HX8.out.2 (u := .slice a10 (n + 1) c10) (by unfold insE; rw [HAH.out]; exact HX8.out.1) (by rw [← HN9.out]; exact HLN.out) HNM.out HI.out)
              go_ret
              exact HS.out
end Go.Proofs.YtebaojbagogniaaDoor
