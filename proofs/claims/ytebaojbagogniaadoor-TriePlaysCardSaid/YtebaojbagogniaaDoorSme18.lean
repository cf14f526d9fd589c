/- What is proved here: the document's trie, a row of entries: what stands, and how a row is made anew. Conditions: those that each theorem names. What is proved here: what the document's Drop does to its trie. Condition: the trie stands. What is proved here: what the document's Match answers of its trie. Conditions: the trie stands, its filters and the name are short. What is proved here: whether one entry stands ahead of another, to the document. No condition. What is proved here: many entries appended at once; a row's cells. Conditions: those that each theorem names. What is proved here: what the document's Add does to its trie. Conditions: the trie stands, the filter is short. What is proved here: equal rows of entries are the same to the document. Conditions: the rows stand where the slices say; few of them. -/
import Derived.Test.YtebaojbagogniaaDoorErw18
import Derived.Test.YtebaojbagogniaaDoorRMat16
namespace Go.Proofs.YtebaojbagogniaaDoor
open Go.RowKit Go.Extern.Stop Go.Stop Go.Extern Go.Maps Go.Deep
set_option maxRecDepth 100000
def ee0 : EV := (⟨#[]⟩, ⟨#[]⟩)
theorem ecs_get (L : List EV) : ∀ k i, k < L.length → i < 2 → (ecs L)[k * 2 + i]? = (ecell (L.getD k ee0))[i]? := by
  induction L with
  | nil => intro k i hk; cases hk
  | cons p L ih =>
    intro k i hk hi
    show (ecell p ++ ecs L)[_]? = _
    rcases k with _ | k
    · rw [Nat.zero_mul, Nat.zero_add, List.getElem?_append_left (show i < (ecell p).length from hi)]
      rfl
    · rw [List.getElem?_append_right (show (ecell p).length ≤ _ by show 2 ≤ _; omega)]
      show (ecs L)[(k + 1) * 2 + i - 2]? = _
      rw [show (k + 1) * 2 + i - 2 = k * 2 + i by omega]
      exact ih k i (by simpa using hk) hi
theorem ERow18.cell {w : World} {B : Nat} {a : Option Addr} {n c : Nat} {L : List EV} (h : ERow18 w B (.slice a n c) L) (hl : 0 < L.length) : ∃ g, a = some ⟨g, 0, none⟩ ∧ g < w.heap.size ∧ ∀ k i, k < L.length → i < 2 → w.cell? ⟨g, k * 2 + i, none⟩ = (ecell (L.getD k ee0))[i]? := by
  rcases h.2 with ⟨_, h0⟩ | ⟨gr, cap, cur, e, hB, hh, h3⟩
  · omega
  · have e' := e
    injection e' with ha hn hc
    subst ha hn hc
    refine ⟨gr, rfl, lt_of_block hh, fun k i hk hi => ?_⟩
    rw [← ecs_get L k i hk hi]
    exact World.ownsRow.cellAt h (k * 2 + i) (by omega)
theorem ERow18.mono {w : World} {B B' : Nat} {v : Value} {L : List EV} (h : ERow18 w B v L) (hB : B' ≤ B) : ERow18 w B' v L := by
  obtain ⟨h1, h2⟩ := h
  refine ⟨h1, ?_⟩
  rcases h2 with h2 | ⟨gr, cap, cur, e, hg, h3⟩
  · exact .inl h2
  · exact .inr ⟨gr, cap, cur, e, Nat.le_trans hB hg, h3⟩
/-- The document's trie at block x. -/
structure RTr (w : World) (B x : Nat) (v : Value) (D : List EV) : Prop where
  blk : Blk w x 30 #[v]
  row : ERow18 w B v D
  low : B ≤ x
  size : B ≤ w.heap.size
  few : D.length ≤ 900
structure TrJ (w V : World) (B x : Nat) (v : Value) (D : List EV) (k : Nat) (p : EV → Bool) (u : Value) (R : List EV) : Prop where
  st : RTr V B x v D
  eq : R = (D.take k).filter p
  row : ERow18 V w.heap.size u R
  bel : Below w.heap.size w V
  dl : ∀ g, v.ownBlock = some g → g < w.heap.size
  xl : x < w.heap.size
section
variable {w w' V W : World} {B x k : Nat} {v u : Value} {D R : List EV} {p : EV → Bool}
theorem RTr.fr {X : List Nat} (h : RTr w B x v D) (hf : Fr X w w') (hX : ∀ b ∈ X, b ≠ x ∧ v.ownBlock ≠ some b) : RTr w' B x v D :=
  ⟨h.blk.fr hf fun hm => (hX _ hm).1 rfl, h.row.fr hf fun k hk hm => (hX k hm).2 hk, h.low, Nat.le_trans h.size hf.size, h.few⟩
theorem RTr.below (h : RTr w B x v D) (hb : Below w.heap.size w w') : RTr w' B x v D := h.fr (X := []) (Fr.of_below hb) fun b hb => by cases hb
theorem TrJ.start (h : RTr w B x v D) : TrJ w w B x v D 0 p (.slice none 0 0) [] := ⟨h, rfl, World.ownsRow_nil _ _ _ _, Below.refl _ _, fun g hg => (h.row.lt g hg).2.1, h.blk.lt⟩
theorem TrJ.below (h : TrJ w V B x v D k p u R) (hb : Below V.heap.size V W) : TrJ w W B x v D k p u R := ⟨h.st.below hb, h.eq, h.row.below hb, h.bel.trans (hb.mono h.bel.size), h.dl, h.xl⟩
theorem take_atE {D : List EV} {k : Nat} (h : k < D.length) : D.take (k + 1) = D.take k ++ [D.getD k ee0] := by
  rw [List.take_succ_eq_append_getElem h, List.getD_eq_getElem?_getD, List.getElem?_eq_getElem h]
  rfl
theorem TrJ.skip (h : TrJ w V B x v D k p u R) (hk : k < D.length) (hp : p (D.getD k ee0) = false) : TrJ w V B x v D (k + 1) p u R :=
  ⟨h.st, by rw [take_atE hk, List.filter_append, List.filter_cons, if_neg (by rw [hp]; exact Bool.false_ne_true), List.filter_nil, List.append_nil]; exact h.eq, h.row, h.bel, h.dl, h.xl⟩
theorem TrJ.push {u' : Value} (h : TrJ w V B x v D k p u R) (hk : k < D.length) (hp : p (D.getD k ee0) = true) (hr : ERow18 W w.heap.size u' (R ++ [D.getD k ee0])) (hb : Below w.heap.size w W) (hf : Fr u.ownBlock.toList V W) : TrJ w W B x v D (k + 1) p u' (R ++ [D.getD k ee0]) := by
  refine ⟨h.st.fr hf fun b hm => ?_, ?_, hr, hb, h.dl, h.xl⟩
  · obtain ⟨h1, _, cs, h2⟩ := h.row.lt b (own_listE.1 hm)
    refine ⟨fun e => ?_, fun e => ?_⟩
    · have := h.xl
      omega
    · have := h.dl b e
      omega
  · rw [take_atE hk, List.filter_append, List.filter_cons, if_pos hp, List.filter_nil, h.eq]
theorem TrJ.len (h : TrJ w V B x v D k p u R) : R.length ≤ 900 := by
  rw [h.eq]
  have h1 := List.length_filter_le p (D.take k)
  have := h.st.few
  rw [List.length_take] at h1
  omega
theorem rtr_store (h : RTr V B x v D) (hr : ERow18 V w.heap.size u R) (hB : B ≤ w.heap.size) (hl : R.length ≤ 900) : RTr (V.setCell ⟨x, 0, none⟩ u) B x u R := by
  have hf : Fr [x] V (V.setCell ⟨x, 0, none⟩ u) := (Fr.refl [x] V).setCell (p := ⟨x, 0, none⟩) (.inl (List.mem_singleton_self x)) u
  refine ⟨?_, ?_, h.low, Nat.le_trans h.size hf.size, hl⟩
  · have := h.blk.store 0 u
    simpa using this
  · refine (hr.fr hf fun k hk hm => ?_).mono hB
    obtain ⟨_, _, cs, hc⟩ := hr.lt k hk
    rw [List.mem_singleton.1 hm] at hc
    exact h.blk.other hc (by decide) rfl
theorem fr_storeE (hb : Below w.heap.size w V) : Fr [x] w (V.setCell ⟨x, 0, none⟩ u) := (Fr.of_below (X := [x]) hb).trans ((Fr.refl [x] V).setCell (p := ⟨x, 0, none⟩) (.inl (List.mem_singleton_self x)) u) fun _ hb _ => hb
theorem TrJ.done (h : TrJ w V B x v D D.length p u R) (hB : B ≤ w.heap.size) : RTr (V.setCell ⟨x, 0, none⟩ u) B x u (D.filter p) ∧ Fr [x] w (V.setCell ⟨x, 0, none⟩ u) := by
  have he := h.eq
  rw [List.take_length] at he
  rw [← he]
  exact ⟨rtr_store h.st h.row hB h.len, fr_storeE h.bel⟩
end
end Go.Proofs.YtebaojbagogniaaDoor
namespace Go.Proofs.YtebaojbagogniaaDoor
open Go.RowKit Go.Extern.Stop Go.Stop Go.Extern Go.Maps Go.Deep
set_option maxRecDepth 100000
theorem beq_decE (a b : ByteArray) : (a.toList == b.toList) = decide (a = b) := by
  by_cases h : a = b
  · rw [decide_eq_true h, h]
    exact beq_self_eq_true _
  · rw [decide_eq_false h]
    exact beq_eq_false_iff_ne.2 fun e => h (toList_inj e)
/-- Is an entry another one? -/
def dropP (f s : ByteArray) (e : EV) : Bool := !(decide (e.2 = f) && decide (e.1 = s))
def RDropSays (w : World) (B x : Nat) (f s : ByteArray) (D : List EV) (e : Ending) (w' : World) : Prop :=
  e = .returned (.bool (decide ((D.filter (dropP f s)).length < D.length))) ∧ ∃ u, RTr w' B x u (D.filter (dropP f s)) ∧ Fr [x] w w'
set_option maxHeartbeats 8000000 in
theorem rdrop18_any {w : World} {B x : Nat} {v : Value} {D : List EV} (h : RTr w B x v D) (f s : ByteArray) :
    Calls Tryd.prog 11 #[.pointer (some ⟨x, 0, none⟩), .string f, .string s] w (RDropSays w B x f s D) := by
  have HJ0 := Lib.hid (TrJ.start (p := dropP f s) h)
  obtain ⟨A, c, rfl⟩ := h.row.form
  have hfw := h.few
  have HB := Lib.hid h.size
  obtain ⟨n, hn⟩ : ∃ n, n = D.length := ⟨_, rfl⟩
  have HN := Lib.hid hn
  rw [← hn] at HJ0 hfw
  clear h hn
  go_enter Tryd.func11, Tryd.ntmps11
  go_wp2_with fail
  go_loopw [7, 8] (fun u i wr => ∃ (k : Nat) (R : List EV), k ≤ n ∧ i = .int .i64 k ∧ Hid (TrJ w wr B x (.slice A n c) D k (dropP f s) u R)) (fun _ i _ => n - (intOf i).toNat)
  case atStart => exact ⟨0, [], Nat.zero_le _, rfl, HJ0⟩
  case round =>
    obtain ⟨k, R, hk, rfl, HJ⟩ := hrel
    have c1 := HJ.out.st.blk.cell 0
    obtain ⟨A6, c6, hu6⟩ := HJ.out.row.form
    subst hu6
    by_cases hlt : k < n
    · have hkD : k < D.length := by have := HN.out; omega
      obtain ⟨gr, rfl, _, hcl⟩ := HJ.out.st.row.cell (by omega)
      obtain ⟨q, hq⟩ : ∃ q, D.getD k ee0 = q := ⟨_, rfl⟩
      have HLD := Lib.hid hq
      have HKD := Lib.hid hkD
      have t1 := hcl k 0 hkD (by omega)
      have t2 := hcl k 1 hkD (by omega)
      rw [hq] at t1 t2
      rw [Nat.add_zero] at t1
      have d1 : wr.cell? ⟨gr, k * 2, none⟩ = some (.string q.1) := t1
      have d2 : wr.cell? ⟨gr, k * 2 + 1, none⟩ = some (.string q.2) := t2
      obtain ⟨a, ha⟩ : ∃ a, (q.2.toList == f.toList) = a := ⟨_, rfl⟩
      obtain ⟨b, hb⟩ : ∃ b, (q.1.toList == s.toList) = b := ⟨_, rfl⟩
      have HD := Lib.hid (show dropP f s (D.getD k ee0) = !(a && b) by rw [HLD.out, ← ha, ← hb]; unfold dropP; rw [beq_decE, beq_decE])
      have HJ6 := Lib.hid (HJ.out.below (bva (Below.refl wr.heap.size wr) (.cells #[.string q.1, .string q.2] 46)))
      have HNW := Lib.hid (fun i (hi : i < 2) => (news_e18 wr #[.string q.1, .string q.2] i hi).trans (show (#[Value.string q.1, Value.string q.2] : Array Value)[i]? = (ecell q)[i]? from List.getElem?_toArray))
      clear hcl hkD hq t1 t2 HJ0
      cases a <;> cases b
      all_goals first
        | (go_wp2_with (first
            | (refine wpe_slice18 rfl rfl _ rfl rfl ?_; simp only [Act.put, List.setIfInBounds_toArray, List.set_cons_zero, List.set_cons_succ])
            | (refine append_e18 (w0 := w) rfl _ _ rfl q HJ6.out.bel HJ6.out.row rfl (by have := HJ6.out.len; omega) ⟨wr.heap.size, 0, none⟩ 1 rfl HNW.out ?_; intro a' c' w' hrow hbel hfr; have HX := Lib.hid (And.intro hrow (And.intro hbel hfr)); clear hrow hbel hfr; simp only [Act.put, List.setIfInBounds_toArray, List.set_cons_zero, List.set_cons_succ]))
           have HJ7 := Lib.hid (HJ6.out.push HKD.out HD.out (by rw [HLD.out]; exact HX.out.1) HX.out.2.1 HX.out.2.2)
           go_roundw
           case rel => exact ⟨k + 1, _, by omega, by go_num, HJ7⟩
           case measure => simp [intOf]; omega)
        | (have HJ5 := Lib.hid (HJ.out.skip HKD.out HD.out)
           go_wp2_with fail
           go_roundw
           case rel => exact ⟨k + 1, R, by omega, by go_num, HJ5⟩
           case measure => simp [intOf]; omega)
    · have hkn : k = n := by omega
      have hJN : TrJ w wr B x (.slice A n c) D D.length (dropP f s) (.slice A6 R.length c6) R := by
        have h1 := HJ.out
        rw [hkn, HN.out] at h1
        rw [HN.out]
        exact h1
      have hRL : R.length = (D.filter (dropP f s)).length := by rw [hJN.eq, List.take_length]
      have HR := Lib.hid hRL
      have c2 := HJ.out.st.blk.frozen 0
      have HE := Lib.hid (hJN.done HB.out)
      clear hJN hRL hkn HJ0
      generalize hrl : R.length = rl at *
      clear hrl
      have HS := Lib.hid (show RDropSays w B x f s D (.returned (.bool (decide (rl < n)))) (wr.setCell ⟨x, 0, none⟩ (.slice A6 rl c6)) from ⟨by rw [← HR.out, ← HN.out], _, HE.out⟩)
      go_wp2_with fail
      go_ret
      exact HS.out
end Go.Proofs.YtebaojbagogniaaDoor
namespace Go.Proofs.YtebaojbagogniaaDoor
open Go.RowKit Go.Extern.Stop Go.Stop Go.Extern Go.Maps Go.Deep
set_option maxRecDepth 100000
def mtE (s : ByteArray) (e : EV) : Bool := matchB e.2 s
theorem dtopE {D : List EV} {k : Nat} (h : k < D.length) : D.getD k ee0 ∈ D := by
  rw [List.getD_eq_getElem?_getD, List.getElem?_eq_getElem h]
  exact List.getElem_mem h
def RMatchSays18 (w : World) (D : List EV) (s : ByteArray) (x : Ending) (w' : World) : Prop := ∃ u, x = .returned u ∧ ERow18 w' w.heap.size u (D.filter (mtE s)) ∧ Below w.heap.size w w'
set_option maxHeartbeats 8000000 in
theorem rmatch18_any {w : World} {B x : Nat} {v : Value} {D : List EV} (h : RTr w B x v D) (hd : ∀ e ∈ D, e.2.size ≤ 1000) (s : ByteArray) (hs : s.size ≤ 1000) :
    Calls Tryd.prog 12 #[.pointer (some ⟨x, 0, none⟩), .string s] w (RMatchSays18 w D s) := by
  have HJ0 := Lib.hid (TrJ.start (p := mtE s) h)
  obtain ⟨A, c, rfl⟩ := h.row.form
  have hfw := h.few
  have HF := Lib.hid hs
  have HDS := Lib.hid hd
  obtain ⟨n, hn⟩ : ∃ n, n = D.length := ⟨_, rfl⟩
  have HN := Lib.hid hn
  rw [← hn] at HJ0 hfw
  clear h hs hd hn
  go_enter Tryd.func12, Tryd.ntmps12
  go_wp2_with fail
  go_loopw [5, 6] (fun u i wr => ∃ (k : Nat) (R : List EV), k ≤ n ∧ i = .int .i64 k ∧ Hid (TrJ w wr B x (.slice A n c) D k (mtE s) u R)) (fun _ i _ => n - (intOf i).toNat)
  case atStart => exact ⟨0, [], Nat.zero_le _, rfl, HJ0⟩
  case round =>
    obtain ⟨k, R, hk, rfl, HJ⟩ := hrel
    have c1 := HJ.out.st.blk.cell 0
    by_cases hlt : k < n
    · have hkD : k < D.length := by have := HN.out; omega
      obtain ⟨gr, rfl, _, hcl⟩ := HJ.out.st.row.cell (by omega)
      obtain ⟨q, hq⟩ : ∃ q, D.getD k ee0 = q := ⟨_, rfl⟩
      have HLD := Lib.hid hq
      have HKD := Lib.hid hkD
      have HQM := Lib.hid (HDS.out q (hq ▸ dtopE hkD))
      have HCL := Lib.hid (fun W (hb : Below wr.heap.size wr W) => show W.cell? ⟨gr, k * 2, none⟩ = some (.string q.1) ∧ W.cell? ⟨gr, k * 2 + 1, none⟩ = some (.string q.2) from by
        have h1 := (World.cell?_of_block (hb.block gr (lt_of_cell' (hcl k 0 hkD (by omega))))).trans (hcl k 0 hkD (by omega))
        have h2 := (World.cell?_of_block (hb.block gr (lt_of_cell' (hcl k 1 hkD (by omega))))).trans (hcl k 1 hkD (by omega))
        rw [hq] at h1 h2
        exact ⟨h1, h2⟩)
      obtain ⟨_, d2⟩ := HCL.out wr (Below.refl _ _)
      have HM := Lib.hid (rMatch_any (w := wr) q.2 s (by have := HQM.out; omega) (by have := HF.out; omega))
      obtain ⟨A6, c6, hu6⟩ := HJ.out.row.form
      subst hu6
      clear hcl hkD hq HJ0
      go_wp2_with fail
      refine HM.out.mono ?_
      rintro e W4 ⟨rfl, hb⟩
      have HJ4 := Lib.hid (HJ.out.below hb)
      have hd4 := HCL.out W4 hb
      clear hb d2 c1 HM HJ HCL
      cases hmb : matchB q.2 s with
      | false =>
        have HJ5 := Lib.hid (HJ4.out.skip HKD.out (by rw [HLD.out]; exact hmb))
        clear hmb hd4
        go_wp2_with fail
        go_roundw
        case rel => exact ⟨k + 1, R, by omega, by go_num, HJ5⟩
        case measure => simp [intOf]; omega
      | true =>
        have HMB := Lib.hid (show mtE s (D.getD k ee0) = true by rw [HLD.out]; exact hmb)
        have c1 := HJ4.out.st.blk.cell 0
        obtain ⟨d1, d2⟩ := hd4
        have HJ6 := Lib.hid (HJ4.out.below (bva (Below.refl W4.heap.size W4) (.cells #[.string q.1, .string q.2] 46)))
        have HNW := Lib.hid (fun i (hi : i < 2) => (news_e18 W4 #[.string q.1, .string q.2] i hi).trans (show (#[Value.string q.1, Value.string q.2] : Array Value)[i]? = (ecell q)[i]? from List.getElem?_toArray))
        clear hmb
        go_wp2_with (first
          | (refine wpe_slice18 rfl rfl _ rfl rfl ?_; simp only [Act.put, List.setIfInBounds_toArray, List.set_cons_zero, List.set_cons_succ])
          | (refine append_e18 (w0 := w) rfl _ _ rfl q HJ6.out.bel HJ6.out.row rfl (by have := HJ6.out.len; omega) ⟨W4.heap.size, 0, none⟩ 1 rfl HNW.out ?_; intro a' c' w' hrow hbel hfr; have HX := Lib.hid (And.intro hrow (And.intro hbel hfr)); clear hrow hbel hfr; simp only [Act.put, List.setIfInBounds_toArray, List.set_cons_zero, List.set_cons_succ]))
        have HJ7 := Lib.hid (HJ6.out.push HKD.out HMB.out (by rw [HLD.out]; exact HX.out.1) HX.out.2.1 HX.out.2.2)
        go_roundw
        case rel => exact ⟨k + 1, _, by omega, by go_num, HJ7⟩
        case measure => simp [intOf]; omega
    · have hkn : k = n := by omega
      have HE := Lib.hid (show ∃ u', u' = _ ∧ ERow18 wr w.heap.size u' (D.filter (mtE s)) ∧ Below w.heap.size w wr from ⟨_, rfl, by have h1 := HJ.out.row; rw [HJ.out.eq, hkn, HN.out, List.take_length] at h1; exact h1, HJ.out.bel⟩)
      clear HJ0
      go_wp2_with fail
      go_ret
      obtain ⟨u', e, h1⟩ := HE.out
      exact ⟨u', by rw [e]; rfl, h1⟩
end Go.Proofs.YtebaojbagogniaaDoor
namespace Go.Proofs.YtebaojbagogniaaDoor
open Go.RowKit Go.Extern.Stop Go.Stop Go.Extern Go.Deep
set_option maxRecDepth 100000
set_option maxHeartbeats 4000000 in
theorem rless18_any (a b : EV) (w : World) : Calls Tryd.prog 22 #[.agg #[.string a.1, .string a.2], .agg #[.string b.1, .string b.2]] w fun x w' => x = .returned (.bool (lessE a b)) ∧ Below w.heap.size w w' := by
  obtain ⟨e1, h1⟩ : ∃ e, Op.bytesLess a.1.toList b.1.toList = e := ⟨_, rfl⟩
  obtain ⟨e2, h2⟩ : ∃ e, (a.1.toList == b.1.toList) = e := ⟨_, rfl⟩
  obtain ⟨e3, h3⟩ : ∃ e, Op.bytesLess a.2.toList b.2.toList = e := ⟨_, rfl⟩
  have HL := Lib.hid (show lessE a b = (e1 || (e2 && e3)) by
    rw [← h1, ← h2, ← h3]
    unfold lessE lessT
    congr 2
    by_cases h : a.1 = b.1
    · rw [decide_eq_true h, h]
      exact (beq_self_eq_true _).symm
    · rw [decide_eq_false h]
      exact (beq_eq_false_iff_ne.2 fun e => h (toList_inj e)).symm)
  have HB := Lib.hid (fun d => show Below w.heap.size w (((w.alloc (.cells #[.string a.1, .string a.2] 46)).alloc (.cells #[.string b.1, .string b.2] 46)).drewN d) from bvn (bva (bva (Below.refl _ _) _) _) d)
  go_enter Tryd.func22, Tryd.ntmps22
  cases e1 <;> cases e2 <;> cases e3
  all_goals
    go_wp2_with fail
    go_ret
    exact ⟨by rw [HL.out]; rfl, by first | exact HB.out _ | exact HB.out 0⟩
end Go.Proofs.YtebaojbagogniaaDoor
namespace Go.Proofs.YtebaojbagogniaaDoor
open Go.RowKit Go.Extern.Stop Go.Stop Go.Extern Go.Maps Go.Deep
set_option maxRecDepth 100000
theorem ERow18.pushN {w : World} {B : Nat} {v : Value} {L : List EV} {t ty : TypeId} (ht : Tryd.prog.underlying t = some (.slice 46)) (h : ERow18 w B v L) (hB : B ≤ w.heap.size) (M : List EV) (hl : L.length + M.length ≤ 2000) {ad : Addr} (hq : ∀ j u, (ecs M)[j]? = some u → w.cell? (ad.add j) = some u) (c : Nat) :
    ∃ v' w', (Builtin.append_ #[t, t] ty #[v, .slice (some ad) M.length c]).run Tryd.prog w = .ok v' w' ∧ ERow18 w' B v' (L ++ M) ∧ w.grownBy w' v.ownBlock := by
  obtain ⟨i0, hi0, hz0, hz1, hz2⟩ := info_parts Tryd.entInfo18
  have hlen : (L ++ M).length = L.length + M.length := by simp
  have hL2 : (L.length + M.length) * 32 ≤ 140737488355328 := by omega
  obtain ⟨v', w', hr, ho, hg, _, _⟩ := run_append_own_at (P := Tryd.prog) w B t ty _ i0 _ 2 32 ht hi0 hz0 hz1 hz2 rfl (by decide) v L.length (ecs L) h ad M.length c (ecs M) (ecs_len M) hq (ecs_ones M) (Nat.le_trans hl (by unfold maxLen; decide)) (by omega) hB
  refine ⟨v', w', hr, ?_, hg⟩
  show World.ownsRow w' B 46 2 v' (L ++ M).length (ecs (L ++ M))
  rw [ecs_app, hlen]
  exact ho
theorem append_es18 {ops : Array Oper} {rest : List Oper} {o : Oper} {a : Act} {Q : Exit → Act → World → Prop} {w0 w : World} (hgd : o.guard = none) (s y : Operand) (ho : o.op = .call { callee := .builtin .append, args := #[s, y], argTypes := #[28, 28] })
    {v : Value} {L : List EV} (M : List EV) (hb : Below w0.heap.size w0 w) (h : ERow18 w w0.heap.size v L) (hs : a.eval s = v) (hl : L.length + M.length ≤ 2000) (ad : Addr) (n c : Nat) (hx : a.eval y = .slice (some ad) n c) (hn : n = M.length) (n2 : Nat) (hn2 : L.length + M.length = n2) (hq : ∀ j u, (ecs M)[j]? = some u → w.cell? (ad.add j) = some u)
    (hk : ∀ a' c' w', ERow18 w' w0.heap.size (.slice a' n2 c') (L ++ M) → Below w0.heap.size w0 w' → Fr v.ownBlock.toList w w' → wpList Tryd.prog ops Q rest (a.put o.dst (.slice a' n2 c')) w') : wpList Tryd.prog ops Q (o :: rest) a w := by
  subst hn
  subst hn2
  obtain ⟨v', w', hr, hrow, hg⟩ := h.pushN (ty := o.type) Tryd.underlying28 hb.size M hl hq c
  obtain ⟨a', c', rfl⟩ := hrow.form
  have hlen : (L ++ M).length = L.length + M.length := by simp
  rw [hlen] at hr hrow
  have hf : Fr v.ownBlock.toList w w' := (Fr.refl _ w).grown hg (fun k hk => .inl (own_listE.2 hk))
  exact Lib.wpList_append_run w hgd s y 28 28 ho v _ hs hx _ w' hr (hk a' c' w' hrow (hf.later hb (fun k hm => (h.lt k (own_listE.1 hm)).1) hb.size) hf)
/-- Nothing is appended. -/
theorem append_none18 {ops : Array Oper} {rest : List Oper} {o : Oper} {a : Act} {Q : Exit → Act → World → Prop} {w : World} (hgd : o.guard = none) (s y : Operand) (ho : o.op = .call { callee := .builtin .append, args := #[s, y], argTypes := #[28, 28] })
    {A : Option Addr} {n c c2 : Nat} (hnc : n ≤ c) (hs : a.eval s = .slice A n c) (hx : a.eval y = .slice none 0 c2)
    (hk : wpList Tryd.prog ops Q rest (a.put o.dst (.slice A n c)) w) : wpList Tryd.prog ops Q (o :: rest) a w := by
  obtain ⟨i0, hi0, hz0, hz1, hz2⟩ := info_parts Tryd.entInfo18
  have hr : (Builtin.append_ #[28, 28] o.type #[.slice A n c, .slice none 0 c2]).run Tryd.prog w = .ok (.slice A n c) w := by
    have hu := run_underlying Tryd.underlying28 w
    have hf := run_firstCells_none (P := Tryd.prog) (w := w) i0.size 0 0 c2
    cases A with
    | none => simp [Builtin.append_, hu, sizeOf, typeInfo, hi0, Builtin.lenOf, hnc, hf]
    | some ad => simp [Builtin.append_, hu, sizeOf, typeInfo, hi0, Builtin.lenOf, hnc, hf, storeCells]
  exact Lib.wpList_append_run w hgd s y 28 28 ho _ _ hs hx _ w hr hk
theorem erow_two {w : World} {B n c : Nat} {A : Option Addr} {L : List EV} (h : ERow18 w B (.slice A n c) L) : (A = none ∧ n = 0 ∧ c = 0) ∨ ∃ g, A = some ⟨g, 0, none⟩ := by
  rcases h.2 with ⟨e, _⟩ | ⟨gr, cap, cur, e, hB, hh, h1, h2, _⟩
  · injection e with e1 e2 e3
    exact .inl ⟨e1, e2, e3⟩
  · injection e with e1 e2 e3
    exact .inr ⟨gr, e1⟩
theorem erow_cap {w : World} {B n c : Nat} {A : Option Addr} {L : List EV} (h : ERow18 w B (.slice A n c) L) : n ≤ c ∧ c ≤ maxLen := by
  rcases h.2 with ⟨e, _⟩ | ⟨gr, cap, cur, e, hB, hh, h1, h2, _⟩
  · injection e with _ e2 e3
    subst e2 e3
    exact ⟨Nat.le_refl _, Nat.zero_le _⟩
  · injection e with _ e2 e3
    subst e2 e3
    exact ⟨h1, h2⟩
/-- A row's cells, its head's and its tail's. -/
theorem erowcells {w : World} {B n c g : Nat} {L : List EV} (h : ERow18 w B (.slice (some ⟨g, 0, none⟩) n c) L) (hn : L.length = n) : (∀ k j u, (ecs (L.take k))[j]? = some u → w.cell? ((⟨g, 0, none⟩ : Addr).add j) = some u) ∧ ∀ k j u, k ≤ n → (ecs (L.drop k))[j]? = some u → w.cell? ((⟨g, k * 2, none⟩ : Addr).add j) = some u := by
  subst hn
  have hc : ∀ j u, (ecs L)[j]? = some u → w.cell? ⟨g, j, none⟩ = some u := fun j u hj => by
    have hlt : j < L.length * 2 := by rw [← ecs_len]; exact (List.getElem?_eq_some_iff.1 hj).1
    rw [World.ownsRow.cellAt h j hlt]
    exact hj
  have hsp : ∀ k, ecs L = ecs (L.take k) ++ ecs (L.drop k) := fun k => by rw [← ecs_app, List.take_append_drop]
  refine ⟨fun k j u hj => ?_, fun k j u hk hj => ?_⟩
  · rw [Addr.add_lit, Nat.zero_add]
    refine hc j u ?_
    rw [hsp k, List.getElem?_append_left (List.getElem?_eq_some_iff.1 hj).1]
    exact hj
  · rw [Addr.add_lit]
    refine hc _ u ?_
    have hl : (ecs (L.take k)).length = k * 2 := by rw [ecs_len, List.length_take]; congr 1; omega
    rw [hsp k, List.getElem?_append_right (by rw [hl]; omega), hl, Nat.add_sub_cancel_left]
    exact hj
/-- Where an entry is put. -/
def insE (x : EV) (L : List EV) : List EV := L.take (aheadE x L) ++ [x] ++ L.drop (aheadE x L)
theorem insE_perm (x : EV) (L : List EV) : (insE x L).Perm (x :: L) := by
  unfold insE
  rw [List.append_assoc, List.singleton_append]
  have h := List.perm_middle (a := x) (l₁ := L.take (aheadE x L)) (l₂ := L.drop (aheadE x L))
  rw [List.take_append_drop] at h
  exact h
theorem insE_srt {x : EV} {L : List EV} (h : SrtE L) (hn : x ∉ L) : SrtE (insE x L) := by
  obtain ⟨h1, h2⟩ := aheadE_split (x := x) h
  have h3 : ∀ y ∈ L.drop (aheadE x L), lessE x y = true := fun y hy => by
    cases hx : lessE x y with
    | true => rfl
    | false => exact absurd (lessE_tot (h2 y hy) hx ▸ List.mem_of_mem_drop hy) hn
  unfold insE SrtE
  rw [List.append_assoc, List.pairwise_append]
  refine ⟨h.sublist (List.take_sublist _ _), ?_, fun a ha b hb => ?_⟩
  · rw [List.singleton_append, List.pairwise_cons]
    exact ⟨h3, h.sublist (List.drop_sublist _ _)⟩
  · rw [List.singleton_append] at hb
    rcases List.mem_cons.1 hb with rfl | hb
    · exact h1 a ha
    · exact lessE_trans (h1 a ha) (h3 b hb)
end Go.Proofs.YtebaojbagogniaaDoor
namespace Go.Proofs.YtebaojbagogniaaDoor
open Go.RowKit Go.Extern.Stop Go.Stop Go.Extern Go.Maps Go.Deep
set_option maxRecDepth 100000
def inE (x : EV) (D : List EV) : Bool := D.any (fun e => decide (e = x))
def raddB (x : EV) (D : List EV) : Bool := filtB x.2 && !inE x D
def raddD (x : EV) (D : List EV) : List EV := if raddB x D then insE x D else D
def RAddSays (w : World) (B x : Nat) (y : EV) (D : List EV) (e : Ending) (w' : World) : Prop :=
  e = .returned (.bool (raddB y D)) ∧ ∃ u, RTr w' B x u (raddD y D) ∧ Fr [x] w w'
set_option maxHeartbeats 8000000 in
theorem radd_no {w : World} {B x : Nat} {v : Value} {D : List EV} (h : RTr w B x v D) (y : EV) (hy : y.2.size ≤ 1000) (hn : filtB y.2 = false) :
    Calls Tryd.prog 10 #[.pointer (some ⟨x, 0, none⟩), .string y.2, .string y.1] w (RAddSays w B x y D) := by
  have HE := Lib.hid (fun (W : World) (hb : Below w.heap.size w W) => show RAddSays w B x y D (.returned (.bool false)) W from ⟨by unfold raddB; rw [hn]; rfl, v, by unfold raddD raddB; rw [hn]; exact h.below hb, Fr.of_below hb⟩)
  have HN : Hid (∀ W, Calls Tryd.prog 21 #[.string y.2] W fun x w' => x = .returned (.bool false) ∧ Below W.heap.size W w') := Lib.hid fun W => by
    have := rIsFilter_any (w := W) y.2 (by omega)
    rw [hn] at this
    exact this
  have HB := Lib.hid (bva (Below.refl w.heap.size w) (.cells #[.string y.1, .string y.2] 46))
  clear h hy hn
  go_enter Tryd.func10, Tryd.ntmps10
  go_wp2_with fail
  refine (HN.out _).mono ?_
  rintro e W ⟨rfl, hb⟩
  have HS := Lib.hid (HE.out W (HB.out.trans (hb.mono HB.out.size)))
  clear hb
  go_wp2_with fail
  go_ret
  exact HS.out
end Go.Proofs.YtebaojbagogniaaDoor
namespace Go.Proofs.YtebaojbagogniaaDoor
open Go.RowKit Go.Extern.Stop Go.Stop Go.Extern Go.Deep
set_option maxRecDepth 100000
set_option maxHeartbeats 4000000 in
theorem esame18_any {w : World} {B B2 : Nat} {A A2 : Option Addr} {n c c2 : Nat} {L : List EV} (h : ERow18 w B (.slice A n c) L) (h2 : ERow18 w B2 (.slice A2 n c2) L) (hn : n = L.length) (hl : n ≤ 900) :
    Calls Tryd.prog 13 #[.slice A n c, .slice A2 n c2] w fun x w' => x = .returned (.bool true) ∧ Below w.heap.size w w' := by
  have HR := Lib.hid h
  have HR2 := Lib.hid h2
  have HN := Lib.hid hn
  have hself : ((n : Int) == n) = true := by simp
  clear h h2 hn
  go_enter Tryd.func13, Tryd.ntmps13
  go_wp2_with fail
  go_loopw [5] (fun i wr => ∃ k : Nat, k ≤ n ∧ i = .int .i64 k ∧ Below w.heap.size w wr) (fun i _ => n - (intOf i).toNat)
  case atStart => exact ⟨0, by omega, rfl, Below.refl _ _⟩
  case round =>
    obtain ⟨k, hk, rfl, hbe⟩ := hrel
    have HBE := Lib.hid hbe
    by_cases hlt : k < n
    · have hkL : k < L.length := by have := HN.out; omega
      obtain ⟨g1, rfl, _, hc1⟩ := (HR.out.below hbe).cell (by omega)
      obtain ⟨g2, rfl, _, hc2⟩ := (HR2.out.below hbe).cell (by omega)
      have t1 := hc1 k 0 hkL (by omega)
      have t2 := hc1 k 1 hkL (by omega)
      have t3 := hc2 k 0 hkL (by omega)
      have t4 := hc2 k 1 hkL (by omega)
      obtain ⟨q, hq⟩ : ∃ q, L.getD k ee0 = q := ⟨_, rfl⟩
      rw [hq] at t1 t2 t3 t4
      rw [Nat.add_zero] at t1 t3
      have d1 : wr.cell? ⟨g1, k * 2, none⟩ = some (.string q.1) := t1
      have d2 : wr.cell? ⟨g1, k * 2 + 1, none⟩ = some (.string q.2) := t2
      have d3 : wr.cell? ⟨g2, k * 2, none⟩ = some (.string q.1) := t3
      have d4 : wr.cell? ⟨g2, k * 2 + 1, none⟩ = some (.string q.2) := t4
      have s1 : (q.1.toList == q.1.toList) = true := by simp
      have s2 : (q.2.toList == q.2.toList) = true := by simp
      have KS := Lib.hid (show wr.cell? ⟨g1, k * 2, none⟩ = some (.string q.1) ∧ wr.cell? ⟨g1, k * 2 + 1, none⟩ = some (.string q.2) ∧ wr.cell? ⟨g2, k * 2, none⟩ = some (.string q.1) ∧ wr.cell? ⟨g2, k * 2 + 1, none⟩ = some (.string q.2) from ⟨d1, d2, d3, d4⟩)
      have HBD := Lib.hid (fun d => show Below w.heap.size w (wr.drewN d) from ⟨hbe.os, hbe.tape, hbe.output, hbe.size, hbe.block⟩)
      clear t1 t2 t3 t4 hc1 hc2 hq hkL hbe
      go_upto_region 6 with fail
      go_region_held3 (fun W => W.cell? ⟨g1, k * 2, none⟩ = some (.string q.1) ∧ W.cell? ⟨g1, k * 2 + 1, none⟩ = some (.string q.2) ∧ W.cell? ⟨g2, k * 2, none⟩ = some (.string q.1) ∧ W.cell? ⟨g2, k * 2 + 1, none⟩ = some (.string q.2))
        (first | assumption | exact KS.out)
        (fail)
      go_wp2_with fail
      go_roundw
      case rel => exact ⟨k + 1, by omega, by go_num, by first | exact HBE.out | exact HBD.out _⟩
      case measure => simp [intOf]; omega
    · have hkn : k = n := by omega
      clear hbe
      go_wp2_with fail
      go_ret
      exact ⟨rfl, HBE.out⟩
end Go.Proofs.YtebaojbagogniaaDoor
