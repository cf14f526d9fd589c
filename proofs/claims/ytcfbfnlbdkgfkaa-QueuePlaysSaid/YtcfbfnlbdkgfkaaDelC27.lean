/- What is proved here: the walk of the function that deletes messages whose time has come, and of a queue's Expire. Conditions: the row, the queue are there; few messages. -/
import Derived.Test.YtcfbfnlbdkgfkaaDelB27
namespace Go.Proofs.Ytcfbfnlbdkgfkaa
open Go.RowKit Go.Extern.Stop Go.Stop Go.Extern
set_option maxRecDepth 100000
theorem keep_len (now : Int) (L : QL) : (keepQ now L).length ≤ L.length := List.length_filter_le _ _
theorem keep_all {now : Int} {L : QL} (h : ∀ j, j < L.length → exQ now (L.getD j q0) = false) : keepQ now L = L := by
  unfold keepQ
  rw [List.filter_eq_self]
  intro q hq
  obtain ⟨i, hi, rfl⟩ := List.mem_iff_getElem.1 hq
  have := h i hi
  rw [List.getD_eq_getElem?_getD, List.getElem?_eq_getElem hi] at this
  simpa using this
theorem keep_front {now : Int} {L : QL} {k : Nat} (hk : k < L.length) (hx : exQ now (L.getD k q0) = true) (h : ∀ j, j < k → exQ now (L.getD j q0) = false) : keepQ now (L.take (k + 1)) = L.take k := by
  rw [keep_take hk, if_pos hx, List.append_nil]
  refine keep_all fun j hj => ?_
  rw [List.length_take] at hj
  rw [List.getD_eq_getElem?_getD, List.getElem?_take, if_pos (by omega), ← List.getD_eq_getElem?_getD]
  exact h j (by omega)
theorem ixQ_or (now : Int) (L : QL) : (∃ k : Nat, ixQ now L = k ∧ k < L.length ∧ exQ now (L.getD k q0) = true ∧ ∀ j, j < k → exQ now (L.getD j q0) = false) ∨ (ixQ now L = -1 ∧ ∀ j, j < L.length → exQ now (L.getD j q0) = false) := by
  by_cases h : ∃ k, k < L.length ∧ exQ now (L.getD k q0) = true
  · obtain ⟨k, ⟨h1, h2⟩, h3⟩ := exists_least h
    have hno : ∀ j, j < k → exQ now (L.getD j q0) = false := fun j hj => by
      cases hx : exQ now (L.getD j q0) with
      | false => rfl
      | true => have := h3 j ⟨by omega, hx⟩; omega
    exact .inl ⟨k, ixQ_at h1 h2 hno, h1, h2, hno⟩
  · have hno : ∀ j, j < L.length → exQ now (L.getD j q0) = false := fun j hj => by
      cases hx : exQ now (L.getD j q0) with
      | false => rfl
      | true => exact absurd ⟨j, hj, hx⟩ h
    exact .inr ⟨ixQ_no hno, hno⟩
/-- What the deleting leaves. -/
def DelSays (w : World) (B : Nat) (v : Value) (L : QL) (x : Ending) (w' : World) : Prop := ∃ v', x = .returned v' ∧ QRow w' B v' L ∧ Fr v.ownBlock.toList w w' ∧ v'.ownBlock = v.ownBlock
section
variable {X : List Nat} {w w' : World} {B : Nat} {v : Value} {L R : QL} {q : QV}
set_option maxHeartbeats 2000000 in
theorem del_any {A : Option Addr} {cp : Nat} (h : QRow w B (.slice A L.length cp) L) (hm : L.length ≤ 1000) (now : Int) (g : Nat) (hc : w.cell? ⟨g, 0, none⟩ = some (.int .i64 now)) (hg : ∀ k, A = some k → g ≠ k.block) :
    Calls Try.prog 71 #[.slice A L.length cp, .func (.func 72) #[] #[.pointer (some ⟨g, 0, none⟩)]] w (DelSays w B (.slice A L.length cp) (keepQ now L)) := by
  have HI := Lib.hid (idxf_any h.mrd L.length cp rfl hm now g hc)
  have HH := Lib.hid h
  rcases ixQ_or now L with ⟨k, hk, hkl, hkx, hkn⟩ | ⟨hk, hno⟩
  · obtain ⟨gr, off, rfl, _⟩ := h.mrd (by omega)
    have hcap : L.length ≤ cp ∧ cp ≤ maxLen ∧ gr < w.heap.size := by
      have hlt := (h.lt gr rfl).2.1
      rcases h with ⟨e, _⟩ | ⟨g2, o2, c2, cur, e, _, _, h1, h2, _⟩
      · cases e
      · injection e with _ _ hc2
        subst hc2
        exact ⟨h1, h2, hlt⟩
    obtain ⟨hcap, hcm, hgl⟩ := hcap
    unfold maxLen at hcm
    rw [hk] at HI
    have HKF := Lib.hid (keep_front hkl hkx hkn)
    have HC := Lib.hid hc
    have HNG := Lib.hid (hg _ rfl)
    clear h hk hkx hkn hc hg
    obtain ⟨n, hn⟩ : ∃ n, n = L.length := ⟨_, rfl⟩
    rw [← hn] at HI HH hkl hcap hm ⊢
    have HN := Lib.hid hn
    clear hn
    go_enter Try.func71, Try.ntmps71
    go_wp2_with fail
    refine HI.out.mono ?_
    rintro x w1 ⟨rfl, hb1⟩
    have HH1 := Lib.hid (HH.out.below hb1)
    have HF1 := Lib.hid (show Fr [gr] w w1 from Fr.of_below hb1)
    have HC1 := Lib.hid ((World.cell?_of_block (w := w) (hb1.block g (lt_of_cell' HC.out))).trans HC.out)
    have hk1 : ((k : Int) == -1) = false := by simp
    clear hb1 HI
    go_wp2_with fail
    go_loopw [5, 6] (fun a b wr => ∃ (i j : Nat) (R : QL), a = .int .i64 i ∧ b = .int .i64 j ∧ i < j ∧ j ≤ n ∧ QRow wr B (.slice (some ⟨gr, off, none⟩) n cp) R ∧ R.length = n ∧ Hid (R.take i = keepQ now (L.take j)) ∧ Hid (∀ t, j ≤ t → t < n → R.getD t q0 = L.getD t q0) ∧ Fr [gr] w wr ∧ wr.cell? ⟨g, 0, none⟩ = some (.int .i64 now)) (fun _ b _ => n - (intOf b).toNat)
    case atStart => exact ⟨k, k + 1, L, rfl, by go_num, by omega, by omega, HH1.out, HN.out.symm, Lib.hid HKF.out.symm, Lib.hid (fun _ _ _ => rfl), HF1.out, HC1.out⟩
    case round =>
      obtain ⟨i, j, R, rfl, rfl, hij, hjn, hrow, hRn, HT, HS, hfr, hcn⟩ := hrel
      have HROW := Lib.hid hrow
      have HFR := Lib.hid hfr
      have HCN := Lib.hid hcn
      by_cases hlt : j < n
      · obtain ⟨g1, o1, e1, hcc⟩ := hrow.mrd (by omega)
        obtain ⟨rfl, rfl⟩ : gr = g1 ∧ off = o1 := by
          have := Option.some.inj e1
          injection this with h1 h2
          exact ⟨h1, h2⟩
        obtain ⟨d0, d1, d2, d3, d4, d5, d6, d7, d8⟩ := hcc j (by omega)
        have HRJ := Lib.hid (HS.out j (Nat.le_refl _) hlt)
        have HKT := Lib.hid (keep_take (now := now) (L := L) (k := j) (by have := HN.out; omega))
        obtain ⟨q, hq⟩ : ∃ q, q = R.getD j q0 := ⟨_, rfl⟩
        rw [← HRJ.out, ← hq] at HKT
        rw [← hq] at d0 d1 d2 d3 d4 d5 d6 d7 d8
        have hb9 : Below wr.heap.size wr (wr.alloc (.cells q.cells.toArray 36)) := (Below.refl _ _).alloc (Nat.le_refl _) _
        have HB9 := Lib.hid hb9
        have HBX := Lib.hid (Blk.made wr 36 q.cells.toArray)
        have HCL := Lib.hid (f72_any q now g _ ((World.cell?_of_block (w := wr) (hb9.block g (lt_of_cell' hcn))).trans hcn))
        clear hcc hrow hfr hcn hb9 e1 hq
        unfold QV.agg at HCL
        unfold QV.cells at HCL HB9
        go_upto_region 8 with fail
        go_wp2_with fail
        refine HCL.out.mono ?_
        rintro x w2 ⟨rfl, hb2⟩
        have hbl2 := HBX.out.below hb2 HBX.out.lt
        have HB2 := Lib.hid (show Below wr.heap.size wr w2 from HB9.out.trans (hb2.mono HB9.out.size))
        have HROW2 := Lib.hid (HROW.out.below HB2.out)
        have HFR2 := Lib.hid (show Fr [gr] w w2 from HFR.out.then (Fr.of_below HB2.out))
        have HC2 := Lib.hid ((World.cell?_of_block (w := wr) (HB2.out.block g (lt_of_cell' HCN.out))).trans HCN.out)
        obtain ⟨k0, k1', k2, k3, k4, k5, k6, k7, k8⟩ := box_cells hbl2
        clear d0 d1 d2 d3 d4 d5 d6 d7 d8 hb2 hbl2 HCL HB9
        cases hex : exQ now q with
        | true =>
          have HKN := Lib.hid (show R.take i = keepQ now (L.take (j + 1)) from by rw [HKT.out, if_pos hex, List.append_nil]; exact HT.out)
          clear hex
          go_wp2_with fail
          go_roundw
          case rel => exact ⟨i, j + 1, R, rfl, by go_num, by omega, by omega, HROW2.out, hRn, HKN, Lib.hid (fun t h1 h2 => HS.out t (by omega) h2), HFR2.out, HC2.out⟩
          case measure => simp [intOf]; omega
        | false =>
          have HKN := Lib.hid (show (R.set i q).take (i + 1) = keepQ now (L.take (j + 1)) from by
            rw [HKT.out, if_neg (by rw [hex]; decide), ← HT.out, List.take_succ_eq_append_getElem (by rw [List.length_set]; omega), List.take_set_of_le (Nat.le_refl _), List.getElem_set_self])
          have HSN := Lib.hid (show ∀ t, j + 1 ≤ t → t < n → (R.set i q).getD t q0 = L.getD t q0 from fun t h1 h2 => by
            rw [List.getD_eq_getElem?_getD, List.getElem?_set_ne (by omega), ← List.getD_eq_getElem?_getD]
            exact HS.out t (by omega) h2)
          have hset := HROW2.out.set (i := i) (by omega) q
          have HSET := Lib.hid hset
          have HFS := Lib.hid (HFR2.out.trans (putz_fr w2 gr (off + i * 9) (.string q.m.topic) (.string q.m.payload) (.int .i64 q.m.qos) (.bool q.m.retain) (.slice q.pa q.m.props.length q.pc) (.string q.m.frm) (.int .i64 q.m.til) (.int .i64 q.m.seq) (.string q.m.grp)) (fun _ hb _ => hb))
          obtain ⟨g1, o1, e1, hcc⟩ := HROW2.out.mrd (by omega)
          obtain ⟨rfl, rfl⟩ : gr = g1 ∧ off = o1 := by
            have := Option.some.inj e1
            injection this with h1 h2
            exact ⟨h1, h2⟩
          obtain ⟨d0, d1, d2, d3, d4, d5, d6, d7, d8⟩ := hcc i (by omega)
          obtain ⟨_, _, cs, hh⟩ := HROW2.out.lt gr rfl
          have zf : ∀ o, w2.frozen? ⟨gr, o, none⟩ = false := fun o => by simp [World.frozen?, hh]
          have hcs : (putz w2 gr (off + i * 9) (.string q.m.topic) (.string q.m.payload) (.int .i64 q.m.qos) (.bool q.m.retain) (.slice q.pa q.m.props.length q.pc) (.string q.m.frm) (.int .i64 q.m.til) (.int .i64 q.m.seq) (.string q.m.grp)).cell? ⟨g, 0, none⟩ = some (.int .i64 now) :=
            ((putz_fr _ _ _ _ _ _ _ _ _ _ _ _).cell (lt_of_cell' HC2.out) (by simpa using HNG.out)).trans HC2.out
          have HCS := Lib.hid hcs
          have hin : i < n := by omega
          generalize R.getD i q0 = qi at d0 d1 d2 d3 d4 d5 d6 d7 d8
          clear hex hset hcc e1 hh hcs
          unfold putz at HSET HFS HCS
          go_wp2_with fail
          go_roundw
          case rel => exact ⟨i + 1, j + 1, R.set i q, by go_num, by go_num, by omega, by omega, HSET.out, by rw [List.length_set]; exact hRn, HKN, HSN, HFS.out, HCS.out⟩
          case measure => simp [intOf]; omega
      · obtain rfl : j = n := by omega
        obtain ⟨W', hcl, hfc, hrc⟩ := hrow.clear (i := i) (by omega)
        have hcl2 := hcl 0
        have HCLR := Lib.hid hcl
        have HE := Lib.hid (show DelSays w B (.slice (some ⟨gr, off, none⟩) j cp) (keepQ now L) (.returned (.slice (some ⟨gr, off, none⟩) i cp)) W' from by
          have ht := HT.out
          rw [List.take_of_length_le (l := L) (by have := HN.out; omega)] at ht
          rw [ht] at hrc
          exact ⟨_, rfl, hrc, by simpa [Value.ownBlock] using hfr.trans hfc (fun _ hb _ => hb), rfl⟩)
        have hin : i < j := hij
        clear hrow hfr hcn hfc hrc hlt hcl
        go_wp2_with fail
        go_ret
        exact HE.out
  · have HK := Lib.hid (keep_all hno)
    rw [hk] at HI
    have HE := Lib.hid (fun W (hb : Below w.heap.size w W) => show DelSays w B (.slice A L.length cp) (keepQ now L) (.returned (.slice A L.length cp)) W from by rw [HK.out]; exact ⟨_, rfl, h.below hb, Fr.of_below hb, rfl⟩)
    clear h hk hno hc hg HK
    go_enter Try.func71, Try.ntmps71
    go_wp2_with fail
    refine HI.out.mono ?_
    rintro x w1 ⟨rfl, hb1⟩
    have HE1 := Lib.hid (HE.out _ hb1)
    clear hb1
    go_wp2_with fail
    go_ret
    exact HE1.out
/-- The answer of Expire. -/
def ExpSays (w : World) (B g : Nat) (most : Int) (v : Value) (L L' : QL) (x : Ending) (w' : World) : Prop := x = .returned (.int .i64 ((L.length : Int) - L'.length)) ∧ ∃ v', QNext w w' B g most v v' L'
theorem expire_next {W : World} {g : Nat} {most : Int} {a' : Option Addr} {n' c' : Nat} {L' : QL} (h : QObj w B g most v L) (hrow : QRow W B (.slice a' n' c') L') (hf : Fr v.ownBlock.toList w W) (hown : (Value.slice a' n' c').ownBlock = v.ownBlock) (hsub : ∀ q ∈ L', q ∈ L) :
    QNext w (W.setCell ⟨g, 1, none⟩ (.slice a' n' c')) B g most v (.slice a' n' c') L' ∧ W.cell? ⟨g, 1, none⟩ = some v ∧ W.frozen? ⟨g, 1, none⟩ = false := by
  have hgn : g ∉ v.ownBlock.toList := fun hm => h.ne (own_list.1 hm) rfl
  have hb1 := h.blk.fr hf hgn
  have hfs : Fr [g] W (W.setCell ⟨g, 1, none⟩ (.slice a' n' c')) := (Fr.refl [g] W).setCell (p := ⟨g, 1, none⟩) (.inl (List.mem_singleton_self g)) _
  have hown2 : ∀ k ∈ [g], B ≤ k ∧ ∀ cs, W.heap[k]? ≠ some (.cells cs 114 (0, 0)) := fun k hk => by
    rw [List.mem_singleton] at hk
    subst hk
    exact ⟨h.low, fun cs hh => hb1.other hh (by decide) rfl⟩
  refine ⟨⟨⟨h.low, hb1.store 1 _, hrow.fr hfs (fun k hk hm => ?_), fun q2 hq2 => ((h.ms q2 (hsub q2 hq2)).fr hf (fun k hk => h.own_ok k (List.mem_cons_of_mem _ hk))).fr hfs hown2⟩, ?_, fun k hk => .inl (hown ▸ hk)⟩, hb1.cell 1, hb1.frozen 1⟩
  · rw [List.mem_singleton] at hm
    subst hm
    exact h.ne (hown ▸ hk) rfl
  · exact (hf.mono (Y := g :: v.ownBlock.toList) (fun b hb _ => List.mem_cons_of_mem _ hb)).setCell (.inl (List.mem_cons_self ..)) _
theorem keep_sub (now : Int) (L : QL) : ∀ q ∈ keepQ now L, q ∈ L := fun _ hq => List.filter_sublist.subset hq
set_option maxHeartbeats 1000000 in
theorem expire_any {g : Nat} {most : Int} (h : QObj w B g most v L) (hl : L.length ≤ 1000) (now : Int) : Calls Try.prog 42 #[.pointer (some ⟨g, 0, none⟩), .int .i64 now] w (ExpSays w B g most v L (keepQ now L)) := by
  have hb0 : Below w.heap.size w (w.alloc (.cells #[.int .i64 now] 3)) := (Below.refl _ _).alloc (Nat.le_refl _) _
  have h2 := h.below hb0
  obtain ⟨a, c, rfl⟩ := h.form
  have HD := Lib.hid (del_any (w := w.alloc (.cells #[.int .i64 now] 3)) (B := B) h2.row hl now w.heap.size ((Blk.made w 3 #[.int .i64 now]).cell 0) (fun k hk e => by
    have := (h.row.lt k.block (by rw [hk]; rfl)).2.1
    omega))
  have c1 : (w.alloc (.cells #[.int .i64 now] 3)).cell? ⟨g, 1, none⟩ = some (.slice a L.length c) := h2.blk.cell 1
  have H2 := Lib.hid h2
  have HST := Lib.hid (h.step hb0)
  have hkl := keep_len now L
  clear h h2 hb0
  go_enter Try.func42, Try.ntmps42
  go_wp2_with fail
  refine HD.out.mono ?_
  rintro x w1 ⟨v', rfl, hrow, hf, hown⟩
  obtain ⟨a', c', rfl⟩ := hrow.form
  obtain ⟨hn, y0, y1⟩ := expire_next H2.out hrow hf hown (keep_sub now L)
  have HN := Lib.hid (HST.out.trans hn)
  clear hn hrow hf hown HD
  go_wp2_with fail
  go_ret
  exact ⟨rfl, _, HN.out⟩
end
end Go.Proofs.Ytcfbfnlbdkgfkaa
