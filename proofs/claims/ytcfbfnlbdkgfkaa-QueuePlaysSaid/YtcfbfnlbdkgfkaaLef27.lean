/- What is proved here: the first property of an identifier, its number, the others; for how long a message may wait yet, by the queue and by the document. Conditions: the properties stand where the slices say; few of them. -/
import Derived.Test.YtcfbfnlbdkgfkaaSamM27
import Derived.Test.YtcfbfnlbdkgfkaaQueB27
import Derived.Deep.LoopGhost
namespace Go.Proofs.Ytcfbfnlbdkgfkaa
open Go.RowKit Go.Extern.Stop Go.Stop Go.Extern
set_option maxRecDepth 100000
def othersP (L : PL) (id : Int) : PL := L.filter fun p => decide (p.id ≠ id)
theorem others_take {L : PL} {id : Int} {k : Nat} (h : k < L.length) : othersP (L.take (k + 1)) id = othersP (L.take k) id ++ (if (L.getD k p0).id = id then [] else [L.getD k p0]) := by
  unfold othersP
  rw [List.take_succ_eq_append_getElem h, List.filter_append, List.getD_eq_getElem?_getD, List.getElem?_eq_getElem h]
  congr 1
  show List.filter _ [L[k]] = if L[k].id = id then [] else [L[k]]
  by_cases he : L[k].id = id <;> simp [he]
theorem others_len (L : PL) (id : Int) : (othersP L id).length ≤ L.length := List.length_filter_le _ _
section
variable {w w' : World} {B B2 : Nat} {A A2 : Option Addr} {L : PL}
theorem news_p (W : World) (p : PV) : ∀ (j : Nat) (u : Value), p.cells[j]? = some u → (W.alloc (.cells p.cells.toArray 114)).cell? ((⟨W.heap.size, 0, none⟩ : Addr).add j) = some u := by
  intro j u hj
  rw [Addr.add_lit, Nat.zero_add, (Blk.made W 114 p.cells.toArray).cell j, List.getElem?_toArray, hj]
theorem append_prop {ops : Array Oper} {rest : List Oper} {o : Oper} {a : Act} {Q : Exit → Act → World → Prop} {w0 w : World} (hgd : o.guard = none) (s x : Operand) (ho : o.op = .call { callee := .builtin .append, args := #[s, x], argTypes := #[34, 34] })
    {v : Value} {L : PL} (hb : Below w0.heap.size w0 w) (ht : PRow w w0.heap.size v L) (hs : a.eval s = v) (ad : Addr) (c : Nat) (hx : a.eval x = .slice (some ad) 1 c) (p : PV) (hn : ∀ (j : Nat) (u : Value), p.cells[j]? = some u → w.cell? (ad.add j) = some u) (hsm : L.length ≤ 1000)
    (h : ∀ a' c' w', PRow w' w0.heap.size (.slice a' (L.length + 1) c') (L ++ [p]) → Below w0.heap.size w0 w' → wpList Try.prog ops Q rest (a.put o.dst (.slice a' (L.length + 1) c')) w') : wpList Try.prog ops Q (o :: rest) a w := by
  obtain ⟨i0, hi0, hz0, hz1, hz2⟩ := info_parts Try.propInfo
  refine wpList_append_own w hgd s x 34 ho w0.heap.size 114 i0 (.agg #[.int .i64 0, .int .i64 0, .string ⟨#[]⟩, .string ⟨#[]⟩]) 4 48 Try.underlying34 hi0 hz0 hz1 hz2 rfl (by decide) v L.length (pcs L) hs ht ad 1 c p.cells hx rfl hn (fun u hu => pcs_ones [p] u (by simpa [pcs] using hu)) (by unfold maxLen; omega) (by omega) hb.size ?_
  intro v' w' ho' hg _
  have hrow : PRow w' w0.heap.size v' (L ++ [p]) := by
    unfold PRow
    rw [List.length_append, pcs_app, show pcs [p] = p.cells by simp [pcs]]
    exact ho'
  obtain ⟨a', c', rfl⟩ := hrow.form
  have e : (L ++ [p]).length = L.length + 1 := by simp
  rw [e] at hrow ⊢
  refine h a' c' w' hrow ?_
  refine Fr.later (X := v.ownBlock.toList) ((Fr.refl _ w).grown hg (fun k hk => .inl (by simp [hk]))) hb (fun b hm => ?_) hb.size
  have hk : v.ownBlock = some b := by cases hv : v.ownBlock with | none => rw [hv] at hm; cases hm | some k => rw [hv] at hm; simp at hm; rw [hm]
  exact (World.ownsRow.lt ht b hk).1
def WithoutSays (w : World) (L : PL) (x : Ending) (w' : World) : Prop := ∃ v', x = .returned v' ∧ PRow w' w.heap.size v' L ∧ Below w.heap.size w w'
set_option maxHeartbeats 1000000 in
theorem without_any (h : PIn w B A L) (n c : Nat) (hn : n = L.length) (hm : n ≤ 900) (id : Int) : Calls Try.prog 74 #[.slice A n c, .int .i64 id] w (WithoutSays w (othersP L id)) := by
  have HPI := Lib.hid h
  have HN := Lib.hid hn
  clear h hn
  go_enter Try.func74, Try.ntmps74
  go_wp2_with fail
  go_loopw [5, 10] (fun v i wr => ∃ k : Nat, k ≤ n ∧ i = .int .i64 k ∧ PRow wr w.heap.size v (othersP (L.take k) id) ∧ Below w.heap.size w wr) (fun _ i _ => n - (intOf i).toNat)
  case atStart => exact ⟨0, by omega, rfl, PRow.nil _ _, Below.refl _ _⟩
  case round =>
    obtain ⟨k, hk, rfl, hrow, hbe⟩ := hrel
    obtain ⟨a, cc, rfl⟩ := hrow.form
    have hol := Nat.le_trans (others_len (L.take k) id) (by rw [List.length_take]; exact Nat.min_le_left _ _)
    by_cases hlt : k < n
    · have hkL : k < L.length := by have := HN.out; omega
      obtain ⟨g, off, rfl, hc, hgB⟩ := HPI.out (by omega)
      obtain ⟨d0, d1, d2, d3⟩ := (hc k hkL).at (hbe.block g (lt_of_cell' (hc k hkL).c0))
      have HO := Lib.hid (others_take (id := id) hkL)
      obtain ⟨p, hp⟩ : ∃ p, p = L.getD k p0 := ⟨_, rfl⟩
      rw [← hp] at d0 d1 d2 d3 HO
      have HB := Lib.hid hbe
      have HR := Lib.hid hrow
      clear hc hgB hp hkL
      by_cases hid : p.id = id
      · have HT := Lib.hid (show othersP (L.take (k + 1)) id = othersP (L.take k) id from HO.out.trans (by rw [if_pos hid, List.append_nil]))
        have HB1 := Lib.hid (hbe.alloc hbe.size (.cells p.cells.toArray 114))
        have HR1 := Lib.hid (show PRow (wr.alloc (.cells p.cells.toArray 114)) w.heap.size _ _ from hrow.below ((Below.refl _ wr).alloc (Nat.le_refl _) _))
        unfold PV.cells at HB1 HR1
        clear hrow hbe
        have hid' : (p.id == id) = true := by simpa using hid
        clear hid
        go_wp2_with fail
        go_roundw
        case rel => exact ⟨k + 1, by omega, by go_num, by rw [HT.out]; exact HR1.out, HB1.out⟩
        case measure => simp [intOf]; omega
      · have HT := Lib.hid (show othersP (L.take (k + 1)) id = othersP (L.take k) id ++ [p] from HO.out.trans (by rw [if_neg hid]))
        have hid' : (p.id == id) = false := by simpa using hid
        have HB1 := Lib.hid ((hbe.alloc hbe.size (.cells p.cells.toArray 114)).alloc (Nat.le_trans hbe.size (by simp)) (.cells p.cells.toArray 114))
        have HR1 := Lib.hid (show PRow ((wr.alloc (.cells p.cells.toArray 114)).alloc (.cells p.cells.toArray 114)) w.heap.size _ _ from hrow.below (((Below.refl _ wr).alloc (Nat.le_refl _) _).alloc (by simp) _))
        have HNW := Lib.hid (show ∀ (j : Nat) (u : Value), p.cells[j]? = some u → ((wr.alloc (.cells p.cells.toArray 114)).alloc (.cells p.cells.toArray 114)).cell? ((⟨wr.heap.size + 1, 0, none⟩ : Addr).add j) = some u from by
          have := news_p (wr.alloc (.cells p.cells.toArray 114)) p
          simpa using this)
        clear hrow hbe hid
        go_wp2_with (at_builtin; go_must (refine append_prop rfl _ _ rfl HB1.out HR1.out rfl ⟨wr.heap.size + 1, 0, none⟩ 1 rfl p HNW.out (by omega) ?_))
        intro a7 c7 w7 h7 hb7
        have H7 := Lib.hid h7
        have HB7 := Lib.hid hb7
        clear h7 hb7
        go_wp2_with fail
        go_roundw
        case rel => exact ⟨k + 1, by omega, by go_num, by rw [HT.out]; exact H7.out, HB7.out⟩
        case measure => simp [intOf]; omega
    · have HT := Lib.hid (show WithoutSays w (othersP L id) (.returned (.slice a (othersP (L.take k) id).length cc)) wr from by
        have e : k = L.length := by have := HN.out; omega
        rw [e, List.take_of_length_le (Nat.le_refl _)] at hrow ⊢
        exact ⟨_, rfl, hrow, hbe⟩)
      clear hrow hbe
      go_wp2_with fail
      go_ret
      exact HT.out
set_option maxHeartbeats 1000000 in
theorem rwithout_any (h : PIn w B A L) (n c : Nat) (hn : n = L.length) (hm : n ≤ 900) (id : Int) : Calls Try.prog 75 #[.slice A n c, .int .i64 id] w (WithoutSays w (othersP L id)) := by
  have HPI := Lib.hid h
  have HN := Lib.hid hn
  clear h hn
  go_enter Try.func75, Try.ntmps75
  go_wp2_with fail
  go_loopw [5, 6] (fun v i wr => ∃ k : Nat, k ≤ n ∧ i = .int .i64 k ∧ PRow wr w.heap.size v (othersP (L.take k) id) ∧ Below w.heap.size w wr) (fun _ i _ => n - (intOf i).toNat)
  case atStart => exact ⟨0, by omega, rfl, PRow.nil _ _, Below.refl _ _⟩
  case round =>
    obtain ⟨k, hk, rfl, hrow, hbe⟩ := hrel
    obtain ⟨a, cc, rfl⟩ := hrow.form
    have hol := Nat.le_trans (others_len (L.take k) id) (by rw [List.length_take]; exact Nat.min_le_left _ _)
    by_cases hlt : k < n
    · have hkL : k < L.length := by have := HN.out; omega
      obtain ⟨g, off, rfl, hc, hgB⟩ := HPI.out (by omega)
      obtain ⟨d0, d1, d2, d3⟩ := (hc k hkL).at (hbe.block g (lt_of_cell' (hc k hkL).c0))
      have HO := Lib.hid (others_take (id := id) hkL)
      obtain ⟨p, hp⟩ : ∃ p, p = L.getD k p0 := ⟨_, rfl⟩
      rw [← hp] at d0 d1 d2 d3 HO
      have HB := Lib.hid hbe
      have HR := Lib.hid hrow
      clear hc hgB hp hkL
      by_cases hid : p.id = id
      · have HT := Lib.hid (show othersP (L.take (k + 1)) id = othersP (L.take k) id from HO.out.trans (by rw [if_pos hid, List.append_nil]))
        clear hrow hbe
        have hid' : (p.id == id) = true := by simpa using hid
        clear hid
        go_wp2_with fail
        go_roundw
        case rel => exact ⟨k + 1, by omega, by go_num, by rw [HT.out]; exact HR.out, HB.out⟩
        case measure => simp [intOf]; omega
      · have HT := Lib.hid (show othersP (L.take (k + 1)) id = othersP (L.take k) id ++ [p] from HO.out.trans (by rw [if_neg hid]))
        have hid' : (p.id == id) = false := by simpa using hid
        have HB1 := Lib.hid (hbe.alloc hbe.size (.cells p.cells.toArray 114))
        have HR1 := Lib.hid (show PRow (wr.alloc (.cells p.cells.toArray 114)) w.heap.size _ _ from hrow.below ((Below.refl _ wr).alloc (Nat.le_refl _) _))
        have HNW := Lib.hid (news_p wr p)
        clear hrow hbe hid
        go_wp2_with (at_builtin; go_must (refine append_prop rfl _ _ rfl HB1.out HR1.out rfl ⟨wr.heap.size, 0, none⟩ 1 rfl p HNW.out (by omega) ?_))
        intro a7 c7 w7 h7 hb7
        have H7 := Lib.hid h7
        have HB7 := Lib.hid hb7
        clear h7 hb7
        go_wp2_with fail
        go_roundw
        case rel => exact ⟨k + 1, by omega, by go_num, by rw [HT.out]; exact H7.out, HB7.out⟩
        case measure => simp [intOf]; omega
    · have HT := Lib.hid (show WithoutSays w (othersP L id) (.returned (.slice a (othersP (L.take k) id).length cc)) wr from by
        have e : k = L.length := by have := HN.out; omega
        rw [e, List.take_of_length_le (Nat.le_refl _)] at hrow ⊢
        exact ⟨_, rfl, hrow, hbe⟩)
      clear hrow hbe
      go_wp2_with fail
      go_ret
      exact HT.out
theorem come_any (q : QV) (now : Int) (w : World) : Calls Try.prog 69 #[q.agg, .int .i64 now] w fun x w' => x = .returned (.bool (exB q.m.til now)) ∧ Below w.heap.size w w' := by
  have HB := Lib.hid ((Below.refl w.heap.size w).alloc (Nat.le_refl _) (.cells q.cells.toArray 36))
  unfold QV.agg exB
  unfold QV.cells at *
  obtain ⟨⟨m1, m2, m3, m4, ml, m6, til, m8, m9⟩, pa, pc⟩ := q
  dsimp only at *
  by_cases h1 : 0 < til
  · by_cases h2 : til ≤ now
    · have e1 : decide (0 < til) = true := decide_eq_true h1
      have e2 : decide (til ≤ now) = true := decide_eq_true h2
      rw [e1, e2]
      go_enter Try.func69, Try.ntmps69
      go_wp2_with fail
      go_ret
      exact ⟨rfl, HB.out⟩
    · have e1 : decide (0 < til) = true := decide_eq_true h1
      have e2 : decide (til ≤ now) = false := decide_eq_false h2
      rw [e1, e2]
      go_enter Try.func69, Try.ntmps69
      go_wp2_with fail
      go_ret
      exact ⟨rfl, HB.out⟩
  · have e1 : decide (0 < til) = false := decide_eq_false h1
    rw [e1, Bool.false_and]
    go_enter Try.func69, Try.ntmps69
    go_wp2_with fail
    go_ret
    exact ⟨rfl, HB.out⟩
end
/-- For how long a message may wait yet. -/
def leftN (til now : Int) : Int := min (til - max now 0) 4294967295
def leftV (m : MV) (now : Int) : MV := if 0 < m.til then { m with props := othersP m.props 2 ++ [⟨2, leftN m.til now, e0, e0⟩] } else m
def LeftSays (w : World) (B : Nat) (q : QV) (now : Int) (x : Ending) (w' : World) : Prop :=
  Below w.heap.size w w' ∧ ((exB q.m.til now = true ∧ x = .returned (.tuple #[q0.agg, .bool false])) ∨ (exB q.m.til now = false ∧ ∃ pa pc, x = .returned (.tuple #[QV.agg ⟨leftV q.m now, pa, pc⟩, .bool true]) ∧ PIn w' B pa (leftV q.m now).props))
def zl : List Value := [.string ⟨#[]⟩, .string ⟨#[]⟩, .int .i64 0, .bool false, .slice none 0 0, .string ⟨#[]⟩, .int .i64 0, .int .i64 0, .string ⟨#[]⟩]
section
variable {w w' : World} {B B2 : Nat} {A A2 : Option Addr} {L : PL}
theorem leftN_cases (til now : Int) (h : exB til now = false) (h2 : 0 < til) : (now < 0 ∧ leftN til now = min til 4294967295) ∨ (0 ≤ now ∧ now < til ∧ leftN til now = min (til - now) 4294967295) := by
  unfold exB at h
  rw [decide_eq_true h2, Bool.true_and, decide_eq_false_iff_not] at h
  unfold leftN
  by_cases h3 : now < 0
  · left
    refine ⟨h3, ?_⟩
    rw [Int.max_eq_right (by omega), Int.sub_zero]
  · exact .inr ⟨by omega, by omega, by rw [Int.max_eq_left (by omega)]⟩
set_option maxHeartbeats 4000000 in
theorem left_any (q : QV) (now : Int) (h : PIn w B q.pa q.m.props) (hm : q.m.props.length ≤ 900) (htil : q.m.til ≤ 9223372036854775807) : Calls Try.prog 46 #[q.agg, .int .i64 now] w (LeftSays w B2 q now) := by
  have hb0 : Below w.heap.size w ((w.alloc (.cells q.cells.toArray 36)).alloc (.cells zq 36)) := ((Below.refl _ _).alloc (Nat.le_refl _) _).alloc (by simp) _
  have HM := Lib.hid ((Blk.made w 36 q.cells.toArray).alloc (.cells zq 36))
  have HZ := Lib.hid (show Blk ((w.alloc (.cells q.cells.toArray 36)).alloc (.cells zq 36)) (w.heap.size + 1) 36 zq from by
    have := Blk.made (w.alloc (.cells q.cells.toArray 36)) 36 zq
    simpa using this)
  have HE := Lib.hid (fun W => expired_any q now W)
  have HB0 := Lib.hid hb0
  have HPI := Lib.hid (h.below hb0)
  clear h hb0
  unfold zq at HB0 HM HZ HPI
  unfold QV.agg at HE ⊢
  go_enter Try.func46, Try.ntmps46
  go_wp2_with fail
  refine (HE.out _).mono ?_
  rintro x w2 ⟨rfl, hb2⟩
  have HM2 := Lib.hid (HM.out.below hb2 HM.out.lt)
  have HZ2 := Lib.hid (HZ.out.below hb2 HZ.out.lt)
  have HB2 := Lib.hid (show Below w.heap.size w w2 from HB0.out.trans (hb2.mono HB0.out.size))
  have HP2 := Lib.hid (HPI.out.below hb2)
  obtain ⟨k0, k1, k2, k3, k4, k5, k6, k7, k8⟩ := box_cells HM2.out
  obtain ⟨⟨z0, z1, z2, z3, z4, z5, z6, z7, z8⟩, zf⟩ := zq_cells HZ2.out
  clear hb2 HM HZ HB0 HPI HE
  cases hex : exB q.m.til now with
  | true =>
    have hbz := put9_blk HZ2.out (.string ⟨#[]⟩) (.string ⟨#[]⟩) (.int .i64 0) (.bool false) (.slice none 0 0) (.string ⟨#[]⟩) (.int .i64 0) (.int .i64 0) (.string ⟨#[]⟩)
    have HF := Lib.hid (show LeftSays w B2 q now (.returned (.tuple #[q0.agg, .bool false])) _ from ⟨put9_below HB2.out (Nat.le_succ _) (.string ⟨#[]⟩) (.string ⟨#[]⟩) (.int .i64 0) (.bool false) (.slice none 0 0) (.string ⟨#[]⟩) (.int .i64 0) (.int .i64 0) (.string ⟨#[]⟩), .inl ⟨hex, rfl⟩⟩)
    have HY := Lib.hid (blk9_cells hbz)
    clear hbz hex
    go_wp2_with fail
    change bodyPost _ _ _ _ _ (put9 w2 (w.heap.size + 1) (.string ⟨#[]⟩) (.string ⟨#[]⟩) (.int .i64 0) (.bool false) (.slice none 0 0) (.string ⟨#[]⟩) (.int .i64 0) (.int .i64 0) (.string ⟨#[]⟩))
    obtain ⟨y0, y1, y2, y3, y4, y5, y6, y7, y8⟩ := HY.out
    clear z0 z1 z2 z3 z4 z5 z6 z7 z8 zf k0 k1 k2 k3 k4 k5 k6 k7 k8
    generalize put9 w2 (w.heap.size + 1) _ _ _ _ _ _ _ _ _ = W at *
    exact bodyPost_ret (v := .tuple #[q0.agg, .bool false]) (by unfold q0 m0 QV.agg e0; simp [results, Try.results46, go_sem, y0, y1, y2, y3, y4, y5, y6, y7, y8]) rfl HF.out
  | false =>
    have HEX := Lib.hid hex
    have HC := Lib.hid (copy_any q HP2.out (by omega))
    unfold QV.agg at HC
    clear hex
    go_wp2_with fail
    refine HC.out.mono ?_
    rintro x w3 ⟨pa, pc, rfl, hp3, hb3⟩
    unfold QV.agg
    dsimp only
    have hm3 := HM2.out.below hb3 HM2.out.lt
    have hz3 := HZ2.out.below hb3 HZ2.out.lt
    have HM3 := Lib.hid (put9_blk hm3 (.string q.m.topic) (.string q.m.payload) (.int .i64 q.m.qos) (.bool q.m.retain) (.slice pa q.m.props.length pc) (.string q.m.frm) (.int .i64 q.m.til) (.int .i64 q.m.seq) (.string q.m.grp))
    have hfr := put9_fr w3 w.heap.size (.string q.m.topic) (.string q.m.payload) (.int .i64 q.m.qos) (.bool q.m.retain) (.slice pa q.m.props.length pc) (.string q.m.frm) (.int .i64 q.m.til) (.int .i64 q.m.seq) (.string q.m.grp)
    have HZ3 := Lib.hid (hz3.fr hfr (by simp))
    have HP3 := Lib.hid (put9_pin (B := 0) hp3 hm3 (.string q.m.topic) (.string q.m.payload) (.int .i64 q.m.qos) (.bool q.m.retain) (.slice pa q.m.props.length pc) (.string q.m.frm) (.int .i64 q.m.til) (.int .i64 q.m.seq) (.string q.m.grp))
    have HB3 := Lib.hid (put9_below (HB2.out.trans (hb3.mono HB2.out.size)) (Nat.le_refl _) (.string q.m.topic) (.string q.m.payload) (.int .i64 q.m.qos) (.bool q.m.retain) (.slice pa q.m.props.length pc) (.string q.m.frm) (.int .i64 q.m.til) (.int .i64 q.m.seq) (.string q.m.grp))
    clear k0 k1 k2 k3 k4 k5 k6 k7 k8 z0 z1 z2 z3 z4 z5 z6 z7 z8 zf
    obtain ⟨k0, k1, k2, k3, k4, k5, k6, k7, k8⟩ := box_cells hm3
    have kf := fun i => hm3.frozen i
    clear hm3 hz3 hfr hb3 hp3 HC
    go_upto_region 4 with fail
    change Code.wp _ _ _ _ (put9 w3 w.heap.size (.string q.m.topic) (.string q.m.payload) (.int .i64 q.m.qos) (.bool q.m.retain) (.slice pa q.m.props.length pc) (.string q.m.frm) (.int .i64 q.m.til) (.int .i64 q.m.seq) (.string q.m.grp))
    clear k0 k1 k2 k3 k4 k5 k6 k7 k8 kf
    generalize put9 w3 w.heap.size _ _ _ _ _ _ _ _ _ = w4 at *
    clear HM2 HZ2 HB2 HP2
    obtain ⟨k0, k1, k2, k3, k4, k5, k6, k7, k8⟩ := blk9_cells HM3.out
    by_cases hpos : 0 < q.m.til
    · have HW := Lib.hid (without_any HP3.out q.m.props.length pc rfl hm 2)
      have HLV := Lib.hid (show leftV q.m now = { q.m with props := othersP q.m.props 2 ++ [⟨2, leftN q.m.til now, e0, e0⟩] } from by unfold leftV; rw [if_pos hpos])
      have hol := others_len q.m.props 2
      have HNW := Lib.hid (fun W p => news_p W p)
      have hcs : ∃ X : Int, leftN q.m.til now = X ∧ ((now < 0 ∧ q.m.til ≤ 4294967295 ∧ X = q.m.til) ∨ (now < 0 ∧ 4294967295 < q.m.til ∧ X = 4294967295) ∨ (0 ≤ now ∧ now < q.m.til ∧ q.m.til - now ≤ 4294967295 ∧ X = q.m.til - now) ∨ (0 ≤ now ∧ now < q.m.til ∧ 4294967295 < q.m.til - now ∧ X = 4294967295)) := by
        rcases leftN_cases q.m.til now HEX.out hpos with ⟨h1, h2⟩ | ⟨h1, h2, h3⟩
        · by_cases h4 : q.m.til ≤ 4294967295
          · exact ⟨_, rfl, .inl ⟨h1, h4, by rw [h2]; omega⟩⟩
          · exact ⟨_, rfl, .inr (.inl ⟨h1, by omega, by rw [h2]; omega⟩)⟩
        · by_cases h4 : q.m.til - now ≤ 4294967295
          · exact ⟨_, rfl, .inr (.inr (.inl ⟨h1, h2, h4, by rw [h3]; omega⟩))⟩
          · exact ⟨_, rfl, .inr (.inr (.inr ⟨h1, h2, by omega, by rw [h3]; omega⟩))⟩
      obtain ⟨X, hX, hcs⟩ := hcs
      rw [hX] at HLV
      clear hX
      obtain ⟨n, hn⟩ : ∃ n, n = q.m.props.length := ⟨_, rfl⟩
      rw [← hn] at *
      have HN := Lib.hid hn
      clear hn
      rcases hcs with ⟨h1, h2, rfl⟩ | ⟨h1, h2, rfl⟩ | ⟨h1, h2, h3, rfl⟩ | ⟨h1, h2, h3, rfl⟩
      all_goals
        go_wp2_with fail
        refine HW.out.mono ?_
        rintro x w5 ⟨v5, rfl, hr5, hb5⟩
        obtain ⟨a5, c5, rfl⟩ := hr5.form
        have HR5 := Lib.hid hr5
        have HB5 := Lib.hid hb5
        have hm5 := HM3.out.below hb5 HM3.out.lt
        obtain ⟨j0, j1, j2, j3, j4, j5, j6, j7, j8⟩ := blk9_cells hm5
        clear hr5 hb5 k0 k1 k2 k3 k4 k5 k6 k7 k8 hm5 HW
        go_wp2_with (at_builtin; go_must (refine append_prop (w0 := w4) rfl _ _ rfl (HB5.out.alloc HB5.out.size _) (HR5.out.below ((Below.refl _ _).alloc (Nat.le_refl _) _)) rfl ⟨w5.heap.size, 0, none⟩ 1 rfl ⟨2, _, ⟨#[]⟩, ⟨#[]⟩⟩ (HNW.out _ _) (by omega) ?_))
        intro a7 c7 w7 hr7 hb7
        have hm7 := HM3.out.below hb7 HM3.out.lt
        have hz7 := HZ3.out.below hb7 HZ3.out.lt
        clear j0 j1 j2 j3 j4 j5 j6 j7 j8
        obtain ⟨k0, k1, k2, k3, k4, k5, k6, k7, k8⟩ := blk9_cells hm7
        have kf := hm7.frozen 4
        obtain ⟨⟨z0, z1, z2, z3, z4, z5, z6, z7, z8⟩, zf⟩ := zq_cells hz7
        have hz8 := hz7.far (p := ⟨w.heap.size, 4, none⟩) (by simp) (.slice a7 ((othersP q.m.props 2).length + 1) c7)
        have hp8 := put9_pin (B := B2) (msg_fr (B := 0) hr7.pin hm7 (Nat.zero_le _) 4 (.slice a7 ((othersP q.m.props 2).length + 1) c7)) hz8 (.string q.m.topic) (.string q.m.payload) (.int .i64 q.m.qos) (.bool q.m.retain) (.slice a7 ((othersP q.m.props 2).length + 1) c7) (.string q.m.frm) (.int .i64 q.m.til) (.int .i64 q.m.seq) (.string q.m.grp)
        have hb8 := put9_below ((HB3.out.trans (hb7.mono HB3.out.size)).setCell (p := ⟨w.heap.size, 4, none⟩) (Nat.le_refl _) (.slice a7 ((othersP q.m.props 2).length + 1) c7)) (Nat.le_succ _) (.string q.m.topic) (.string q.m.payload) (.int .i64 q.m.qos) (.bool q.m.retain) (.slice a7 ((othersP q.m.props 2).length + 1) c7) (.string q.m.frm) (.int .i64 q.m.til) (.int .i64 q.m.seq) (.string q.m.grp)
        have HY := Lib.hid (blk9_cells (put9_blk hz8 (.string q.m.topic) (.string q.m.payload) (.int .i64 q.m.qos) (.bool q.m.retain) (.slice a7 ((othersP q.m.props 2).length + 1) c7) (.string q.m.frm) (.int .i64 q.m.til) (.int .i64 q.m.seq) (.string q.m.grp)))
        have HP8 := Lib.hid hp8
        have HB8 := Lib.hid hb8
        clear hp8 hb8 hz8 hz7 hm7 hr7 hb7
        go_wp2_with fail
        change bodyPost _ _ _ _ _ (put9 (w7.setCell ⟨w.heap.size, 4, none⟩ (.slice a7 ((othersP q.m.props 2).length + 1) c7)) (w.heap.size + 1) (.string q.m.topic) (.string q.m.payload) (.int .i64 q.m.qos) (.bool q.m.retain) (.slice a7 ((othersP q.m.props 2).length + 1) c7) (.string q.m.frm) (.int .i64 q.m.til) (.int .i64 q.m.seq) (.string q.m.grp))
        obtain ⟨y0, y1, y2, y3, y4, y5, y6, y7, y8⟩ := HY.out
        clear z0 z1 z2 z3 z4 z5 z6 z7 z8 zf k0 k1 k2 k3 k4 k5 k6 k7 k8 kf
        generalize put9 (w7.setCell _ _) (w.heap.size + 1) _ _ _ _ _ _ _ _ _ = W at *
        refine bodyPost_ret (v := .tuple #[.agg #[.string q.m.topic, .string q.m.payload, .int .i64 q.m.qos, .bool q.m.retain, .slice a7 ((othersP q.m.props 2).length + 1) c7, .string q.m.frm, .int .i64 q.m.til, .int .i64 q.m.seq, .string q.m.grp], .bool true]) (by simp [results, Try.results46, go_sem, y0, y1, y2, y3, y4, y5, y6, y7, y8]) rfl ⟨HB8.out, .inr ⟨HEX.out, a7, c7, ?_, ?_⟩⟩
        · rw [HLV.out]
          unfold QV.agg
          simp
        · rw [HLV.out]
          exact HP8.out
    · have HLV := Lib.hid (show leftV q.m now = q.m from by unfold leftV; rw [if_neg hpos])
      have hb8 := put9_below HB3.out (Nat.le_succ _) (.string q.m.topic) (.string q.m.payload) (.int .i64 q.m.qos) (.bool q.m.retain) (.slice pa q.m.props.length pc) (.string q.m.frm) (.int .i64 q.m.til) (.int .i64 q.m.seq) (.string q.m.grp)
      have hp8 := put9_pin (B := B2) HP3.out HZ3.out (.string q.m.topic) (.string q.m.payload) (.int .i64 q.m.qos) (.bool q.m.retain) (.slice pa q.m.props.length pc) (.string q.m.frm) (.int .i64 q.m.til) (.int .i64 q.m.seq) (.string q.m.grp)
      have HY := Lib.hid (blk9_cells (put9_blk HZ3.out (.string q.m.topic) (.string q.m.payload) (.int .i64 q.m.qos) (.bool q.m.retain) (.slice pa q.m.props.length pc) (.string q.m.frm) (.int .i64 q.m.til) (.int .i64 q.m.seq) (.string q.m.grp)))
      have HF := Lib.hid (show LeftSays w B2 q now (.returned (.tuple #[QV.agg ⟨q.m, pa, pc⟩, .bool true])) _ from ⟨hb8, .inr ⟨HEX.out, pa, pc, by rw [HLV.out], by rw [HLV.out]; exact hp8⟩⟩)
      obtain ⟨⟨z0, z1, z2, z3, z4, z5, z6, z7, z8⟩, zf⟩ := zq_cells HZ3.out
      clear hb8 hp8
      go_wp2_with fail
      change bodyPost _ _ _ _ _ (put9 w4 (w.heap.size + 1) (.string q.m.topic) (.string q.m.payload) (.int .i64 q.m.qos) (.bool q.m.retain) (.slice pa q.m.props.length pc) (.string q.m.frm) (.int .i64 q.m.til) (.int .i64 q.m.seq) (.string q.m.grp))
      obtain ⟨y0, y1, y2, y3, y4, y5, y6, y7, y8⟩ := HY.out
      clear z0 z1 z2 z3 z4 z5 z6 z7 z8 zf k0 k1 k2 k3 k4 k5 k6 k7 k8
      generalize put9 w4 (w.heap.size + 1) _ _ _ _ _ _ _ _ _ = W at *
      exact bodyPost_ret (v := .tuple #[QV.agg ⟨q.m, pa, pc⟩, .bool true]) (by unfold QV.agg; simp [results, Try.results46, go_sem, y0, y1, y2, y3, y4, y5, y6, y7, y8]) rfl HF.out
set_option maxHeartbeats 4000000 in
theorem rleft_any (q : QV) (now : Int) (h : PIn w B q.pa q.m.props) (hB : B ≤ w.heap.size) (hm : q.m.props.length ≤ 900) (htil : q.m.til ≤ 9223372036854775807) : Calls Try.prog 47 #[q.agg, .int .i64 now] w (LeftSays w B q now) := by
  have hb0 : Below w.heap.size w ((w.alloc (.cells q.cells.toArray 36)).alloc (.cells zq 36)) := ((Below.refl _ _).alloc (Nat.le_refl _) _).alloc (by simp) _
  have HM := Lib.hid ((Blk.made w 36 q.cells.toArray).alloc (.cells zq 36))
  have HZ := Lib.hid (show Blk ((w.alloc (.cells q.cells.toArray 36)).alloc (.cells zq 36)) (w.heap.size + 1) 36 zq from by
    have := Blk.made (w.alloc (.cells q.cells.toArray 36)) 36 zq
    simpa using this)
  have HE := Lib.hid (fun W => come_any q now W)
  have HB0 := Lib.hid hb0
  have HPI := Lib.hid (h.below hb0)
  have HBS := Lib.hid hB
  clear h hb0 hB
  unfold zq at HB0 HM HZ HPI
  unfold QV.agg at HE ⊢
  go_enter Try.func47, Try.ntmps47
  go_wp2_with fail
  refine (HE.out _).mono ?_
  rintro x w4 ⟨rfl, hb2⟩
  have HM3 := Lib.hid (HM.out.below hb2 HM.out.lt)
  have HZ3 := Lib.hid (HZ.out.below hb2 HZ.out.lt)
  have HB3 := Lib.hid (show Below w.heap.size w w4 from HB0.out.trans (hb2.mono HB0.out.size))
  have HP3 := Lib.hid (HPI.out.below hb2)
  obtain ⟨k0, k1, k2, k3, k4, k5, k6, k7, k8⟩ := box_cells HM3.out
  obtain ⟨⟨z0, z1, z2, z3, z4, z5, z6, z7, z8⟩, zf⟩ := zq_cells HZ3.out
  clear hb2 HM HZ HB0 HPI HE
  cases hex : exB q.m.til now with
  | true =>
    have hbz := put9_blk HZ3.out (.string ⟨#[]⟩) (.string ⟨#[]⟩) (.int .i64 0) (.bool false) (.slice none 0 0) (.string ⟨#[]⟩) (.int .i64 0) (.int .i64 0) (.string ⟨#[]⟩)
    have HF := Lib.hid (show LeftSays w B q now (.returned (.tuple #[q0.agg, .bool false])) _ from ⟨put9_below HB3.out (Nat.le_succ _) (.string ⟨#[]⟩) (.string ⟨#[]⟩) (.int .i64 0) (.bool false) (.slice none 0 0) (.string ⟨#[]⟩) (.int .i64 0) (.int .i64 0) (.string ⟨#[]⟩), .inl ⟨hex, rfl⟩⟩)
    have HY := Lib.hid (blk9_cells hbz)
    clear hbz hex
    go_wp2_with fail
    change bodyPost _ _ _ _ _ (put9 w4 (w.heap.size + 1) (.string ⟨#[]⟩) (.string ⟨#[]⟩) (.int .i64 0) (.bool false) (.slice none 0 0) (.string ⟨#[]⟩) (.int .i64 0) (.int .i64 0) (.string ⟨#[]⟩))
    obtain ⟨y0, y1, y2, y3, y4, y5, y6, y7, y8⟩ := HY.out
    clear z0 z1 z2 z3 z4 z5 z6 z7 z8 zf k0 k1 k2 k3 k4 k5 k6 k7 k8
    generalize put9 w4 (w.heap.size + 1) _ _ _ _ _ _ _ _ _ = W at *
    exact bodyPost_ret (v := .tuple #[q0.agg, .bool false]) (by unfold q0 m0 QV.agg e0; simp [results, Try.results47, go_sem, y0, y1, y2, y3, y4, y5, y6, y7, y8]) rfl HF.out
  | false =>
    have HEX := Lib.hid hex
    clear hex
    by_cases hpos : 0 < q.m.til
    · have HW := Lib.hid (rwithout_any HP3.out q.m.props.length q.pc rfl hm 2)
      have HLV := Lib.hid (show leftV q.m now = { q.m with props := othersP q.m.props 2 ++ [⟨2, leftN q.m.til now, e0, e0⟩] } from by unfold leftV; rw [if_pos hpos])
      have hol := others_len q.m.props 2
      have HNW := Lib.hid (fun W p => news_p W p)
      have hcs : ∃ X : Int, leftN q.m.til now = X ∧ ((now < 0 ∧ q.m.til ≤ 4294967295 ∧ X = q.m.til) ∨ (now < 0 ∧ 4294967295 < q.m.til ∧ X = 4294967295) ∨ (0 ≤ now ∧ now < q.m.til ∧ q.m.til - now ≤ 4294967295 ∧ X = q.m.til - now) ∨ (0 ≤ now ∧ now < q.m.til ∧ 4294967295 < q.m.til - now ∧ X = 4294967295)) := by
        rcases leftN_cases q.m.til now HEX.out hpos with ⟨h1, h2⟩ | ⟨h1, h2, h3⟩
        · by_cases h4 : q.m.til ≤ 4294967295
          · exact ⟨_, rfl, .inl ⟨h1, h4, by rw [h2]; omega⟩⟩
          · exact ⟨_, rfl, .inr (.inl ⟨h1, by omega, by rw [h2]; omega⟩)⟩
        · by_cases h4 : q.m.til - now ≤ 4294967295
          · exact ⟨_, rfl, .inr (.inr (.inl ⟨h1, h2, h4, by rw [h3]; omega⟩))⟩
          · exact ⟨_, rfl, .inr (.inr (.inr ⟨h1, h2, by omega, by rw [h3]; omega⟩))⟩
      obtain ⟨X, hX, hcs⟩ := hcs
      rw [hX] at HLV
      clear hX
      obtain ⟨n, hn⟩ : ∃ n, n = q.m.props.length := ⟨_, rfl⟩
      rw [← hn] at *
      have HN := Lib.hid hn
      clear hn
      rcases hcs with ⟨h1, h2, rfl⟩ | ⟨h1, h2, rfl⟩ | ⟨h1, h2, h3, rfl⟩ | ⟨h1, h2, h3, rfl⟩
      all_goals
        go_wp2_with fail
        refine HW.out.mono ?_
        rintro x w5 ⟨v5, rfl, hr5, hb5⟩
        obtain ⟨a5, c5, rfl⟩ := hr5.form
        have HR5 := Lib.hid hr5
        have HB5 := Lib.hid hb5
        have hm5 := HM3.out.below hb5 HM3.out.lt
        obtain ⟨j0, j1, j2, j3, j4, j5, j6, j7, j8⟩ := box_cells hm5
        clear hr5 hb5 k0 k1 k2 k3 k4 k5 k6 k7 k8 hm5 HW
        go_wp2_with (at_builtin; go_must (refine append_prop (w0 := w4) rfl _ _ rfl (HB5.out.alloc HB5.out.size _) (HR5.out.below ((Below.refl _ _).alloc (Nat.le_refl _) _)) rfl ⟨w5.heap.size, 0, none⟩ 1 rfl ⟨2, _, ⟨#[]⟩, ⟨#[]⟩⟩ (HNW.out _ _) (by omega) ?_))
        intro a7 c7 w7 hr7 hb7
        have hm7 := HM3.out.below hb7 HM3.out.lt
        have hz7 := HZ3.out.below hb7 HZ3.out.lt
        clear j0 j1 j2 j3 j4 j5 j6 j7 j8
        obtain ⟨k0, k1, k2, k3, k4, k5, k6, k7, k8⟩ := box_cells hm7
        have kf := hm7.frozen 4
        clear z0 z1 z2 z3 z4 z5 z6 z7 z8 zf
        obtain ⟨⟨z0, z1, z2, z3, z4, z5, z6, z7, z8⟩, zf⟩ := zq_cells hz7
        have hz8 := hz7.far (p := ⟨w.heap.size, 4, none⟩) (by simp) (.slice a7 ((othersP q.m.props 2).length + 1) c7)
        have hp8 := put9_pin (B := B) (msg_fr (B := 0) hr7.pin hm7 (Nat.zero_le _) 4 (.slice a7 ((othersP q.m.props 2).length + 1) c7)) hz8 (.string q.m.topic) (.string q.m.payload) (.int .i64 q.m.qos) (.bool q.m.retain) (.slice a7 ((othersP q.m.props 2).length + 1) c7) (.string q.m.frm) (.int .i64 q.m.til) (.int .i64 q.m.seq) (.string q.m.grp)
        have hb8 := put9_below ((HB3.out.trans (hb7.mono HB3.out.size)).setCell (p := ⟨w.heap.size, 4, none⟩) (Nat.le_refl _) (.slice a7 ((othersP q.m.props 2).length + 1) c7)) (Nat.le_succ _) (.string q.m.topic) (.string q.m.payload) (.int .i64 q.m.qos) (.bool q.m.retain) (.slice a7 ((othersP q.m.props 2).length + 1) c7) (.string q.m.frm) (.int .i64 q.m.til) (.int .i64 q.m.seq) (.string q.m.grp)
        have HY := Lib.hid (blk9_cells (put9_blk hz8 (.string q.m.topic) (.string q.m.payload) (.int .i64 q.m.qos) (.bool q.m.retain) (.slice a7 ((othersP q.m.props 2).length + 1) c7) (.string q.m.frm) (.int .i64 q.m.til) (.int .i64 q.m.seq) (.string q.m.grp)))
        have HP8 := Lib.hid hp8
        have HB8 := Lib.hid hb8
        clear hp8 hb8 hz8 hz7 hm7 hr7 hb7
        go_wp2_with fail
        change bodyPost _ _ _ _ _ (put9 (w7.setCell ⟨w.heap.size, 4, none⟩ (.slice a7 ((othersP q.m.props 2).length + 1) c7)) (w.heap.size + 1) (.string q.m.topic) (.string q.m.payload) (.int .i64 q.m.qos) (.bool q.m.retain) (.slice a7 ((othersP q.m.props 2).length + 1) c7) (.string q.m.frm) (.int .i64 q.m.til) (.int .i64 q.m.seq) (.string q.m.grp))
        obtain ⟨y0, y1, y2, y3, y4, y5, y6, y7, y8⟩ := HY.out
        clear z0 z1 z2 z3 z4 z5 z6 z7 z8 zf k0 k1 k2 k3 k4 k5 k6 k7 k8 kf
        generalize put9 (w7.setCell _ _) (w.heap.size + 1) _ _ _ _ _ _ _ _ _ = W at *
        refine bodyPost_ret (v := .tuple #[.agg #[.string q.m.topic, .string q.m.payload, .int .i64 q.m.qos, .bool q.m.retain, .slice a7 ((othersP q.m.props 2).length + 1) c7, .string q.m.frm, .int .i64 q.m.til, .int .i64 q.m.seq, .string q.m.grp], .bool true]) (by simp [results, Try.results47, go_sem, y0, y1, y2, y3, y4, y5, y6, y7, y8]) rfl ⟨HB8.out, .inr ⟨HEX.out, a7, c7, ?_, ?_⟩⟩
        · rw [HLV.out]
          unfold QV.agg
          simp
        · rw [HLV.out]
          exact HP8.out
    · have HLV := Lib.hid (show leftV q.m now = q.m from by unfold leftV; rw [if_neg hpos])
      have hb8 := put9_below HB3.out (Nat.le_succ _) (.string q.m.topic) (.string q.m.payload) (.int .i64 q.m.qos) (.bool q.m.retain) (.slice q.pa q.m.props.length q.pc) (.string q.m.frm) (.int .i64 q.m.til) (.int .i64 q.m.seq) (.string q.m.grp)
      have hp8 : PIn (put9 w4 (w.heap.size + 1) (.string q.m.topic) (.string q.m.payload) (.int .i64 q.m.qos) (.bool q.m.retain) (.slice q.pa q.m.props.length q.pc) (.string q.m.frm) (.int .i64 q.m.til) (.int .i64 q.m.seq) (.string q.m.grp)) B q.pa q.m.props := HP3.out.fr (put9_fr _ _ _ _ _ _ _ _ _ _ _) (fun k hk => by
        rw [List.mem_singleton] at hk
        subst hk
        exact ⟨Nat.le_succ_of_le HBS.out, fun cs' hh => HZ3.out.other hh (by decide) rfl⟩)
      have HY := Lib.hid (blk9_cells (put9_blk HZ3.out (.string q.m.topic) (.string q.m.payload) (.int .i64 q.m.qos) (.bool q.m.retain) (.slice q.pa q.m.props.length q.pc) (.string q.m.frm) (.int .i64 q.m.til) (.int .i64 q.m.seq) (.string q.m.grp)))
      have HF := Lib.hid (show LeftSays w B q now (.returned (.tuple #[QV.agg ⟨q.m, q.pa, q.pc⟩, .bool true])) _ from ⟨hb8, .inr ⟨HEX.out, q.pa, q.pc, by rw [HLV.out], by rw [HLV.out]; exact hp8⟩⟩)
      clear hb8 hp8
      go_wp2_with fail
      change bodyPost _ _ _ _ _ (put9 w4 (w.heap.size + 1) (.string q.m.topic) (.string q.m.payload) (.int .i64 q.m.qos) (.bool q.m.retain) (.slice q.pa q.m.props.length q.pc) (.string q.m.frm) (.int .i64 q.m.til) (.int .i64 q.m.seq) (.string q.m.grp))
      obtain ⟨y0, y1, y2, y3, y4, y5, y6, y7, y8⟩ := HY.out
      clear z0 z1 z2 z3 z4 z5 z6 z7 z8 zf k0 k1 k2 k3 k4 k5 k6 k7 k8
      generalize put9 w4 (w.heap.size + 1) _ _ _ _ _ _ _ _ _ = W at *
      exact bodyPost_ret (v := .tuple #[QV.agg ⟨q.m, q.pa, q.pc⟩, .bool true]) (by unfold QV.agg; simp [results, Try.results47, go_sem, y0, y1, y2, y3, y4, y5, y6, y7, y8]) rfl HF.out
/-- The first property of an identifier stands at the head of the list: what the document's Get says. -/
theorem get_first {p : PV} (h : PIn w B A (p :: L)) (n c : Nat) (hn : n = (p :: L).length) (hm : n ≤ 900) : Calls Try.prog 85 #[.slice A n c, .int .i64 p.id] w fun x w' => x = .returned (.tuple #[p.agg, .bool true]) ∧ Below w.heap.size w w' := by
  have HB := Lib.hid ((Below.refl w.heap.size w).alloc (Nat.le_refl _) (.cells p.cells.toArray 114))
  obtain ⟨g, off, rfl, hc, hgB⟩ := h (by simp)
  have hc0 := hc 0 (by simp)
  rw [Nat.zero_mul, Nat.add_zero, List.getD_cons_zero] at hc0
  obtain ⟨d0, d1, d2, d3⟩ := hc0
  have hn1 : 1 ≤ n := by rw [hn]; simp
  have hlt : g < w.heap.size := lt_of_cell' d0
  have hid' : (p.id == p.id) = true := by simp
  unfold PV.cells at HB
  clear h hc hgB hn
  go_enter Try.func85, Try.ntmps85
  go_wp2_with fail
  refine wp_loop_rounds 1 ?_
  rw [rounds_succ]
  go_wp2_with fail
  exact bodyPost_ret (v := .tuple #[p.agg, .bool true]) (by unfold PV.agg; simp [results, Try.results85, go_sem]) rfl ⟨rfl, HB.out⟩
theorem num_first {p : PV} (h : PIn w B A (p :: L)) (n c : Nat) (hn : n = (p :: L).length) (hm : n ≤ 900) (other : Int) : Calls Try.prog 67 #[.slice A n c, .int .i64 p.id, .int .i64 other] w fun x w' => x = .returned (.int .i64 p.n) ∧ Below w.heap.size w w' := by
  have HG := Lib.hid (get_first h n c hn hm)
  clear h hn
  unfold PV.agg at HG
  go_enter Try.func67, Try.ntmps67
  go_wp2_with fail
  refine HG.out.mono ?_
  rintro x w1 ⟨rfl, hb⟩
  have HB := Lib.hid (hb.alloc hb.size (.cells p.cells.toArray 114))
  clear hb
  unfold PV.cells at HB
  go_wp2_with fail
  go_ret
  exact ⟨rfl, HB.out⟩
end
end Go.Proofs.Ytcfbfnlbdkgfkaa
