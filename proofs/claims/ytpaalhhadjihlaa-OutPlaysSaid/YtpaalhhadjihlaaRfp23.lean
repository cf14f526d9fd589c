/- What is proved here: what the document's numbers answer, and what becomes of them. Condition: there are few. -/
import Derived.Test.YtpaalhhadjihlaaPidsX23
import Derived.Test.YtpaalhhadjihlaaOpd24
import Derived.OwnWalk
import Derived.Outline
namespace Go.Proofs.Ytpaalhhadjihlaa
open Go.RowKit Go.Extern.Stop Go.Stop Go.Extern Go.Maps

theorem Try.intInfo : (Try.prog.info? 3).map (fun i => (i.zero, i.size, i.bytes)) = some (some (.int .i64 0), 1, 8) := by kernel_rfl
def ints (L : List Int) : List Value := L.map (Value.int .i64)
/-- Block g holds the document's numbers. -/
structure IsRefP (w : World) (B g : Nat) (most last : Nat) (L : List Int) : Prop where
  is : ∃ v, Blk w g 90 #[.int .i64 most, .int .i64 last, v] ∧ w.ownsRow B 3 1 v L.length (ints L)
  at_ : B ≤ g
/-- What a method may change: its own block, and rows of ints. -/
def Near (B g : Nat) (w w' : World) : Prop := ∃ X, Fr X w w' ∧ ∀ b ∈ X, B ≤ b ∧ (b = g ∨ ∃ cur f, w.heap[b]? = some (.cells cur 3 f))
theorem Near.of_fr {B g : Nat} {w w' : World} (h : Fr [] w w') : Near B g w w' := ⟨[], h, by simp⟩
theorem Near.blk {B g : Nat} {w w' : World} (h : Near B g w w') {x : Nat} {t : TypeId} {cs : Array Value} (hb : Blk w x t cs) (hx : x ≠ g) (ht : t ≠ 3) : Blk w' x t cs := by
  obtain ⟨X, hf, hX⟩ := h
  refine hb.fr hf fun hm => ?_
  rcases (hX x hm).2 with h1 | ⟨cur, f, h1⟩
  · exact hx h1
  · exact hb.other h1 ht rfl
theorem Near.below {B g : Nat} {w0 w w' : World} (h : Near w0.heap.size g w w') (hb : Below w0.heap.size w0 w) (_hB : B ≤ w0.heap.size) : Below w0.heap.size w0 w' := by
  obtain ⟨X, hf, hX⟩ := h
  exact hf.later hb (fun b hm => (hX b hm).1) hb.size
section
variable {w : World} {B g : Nat} {most last : Nat} {L : List Int}
theorem refp_is (h : IsRefP w B g most last L) (hl : L.length ≤ 100000) (x : Int) :
    Calls Try.prog 43 #[.pointer (some ⟨g, 0, none⟩), .int .i64 x] w fun e w' => e = .returned (.bool (decide (x ∈ L))) ∧ w = w' := by
  obtain ⟨⟨v, h1, h2⟩, _⟩ := h
  have c2 := h1.cell 2
  rcases h2.2 with ⟨rfl, h0⟩ | ⟨gr, cap, cur, rfl, hB, hh, hlc, hcm, hcs, htk⟩
  · have hL : L = [] := List.eq_nil_of_length_eq_zero h0
    subst hL
    go_enter Try.func43, Try.ntmps43
    go_wp2
    go_loop [5] (fun i => i = .int .i64 0) (fun _ => 0)
    case atStart => exact rfl
    case round =>
      subst hrel
      go_wp2
      go_ret
      exact ⟨by simp, rfl⟩
  · have hcell : ∀ j, j < L.length → w.cell? ⟨gr, j, none⟩ = some (.int .i64 (L.getD j 0)) := fun j hj => by
      have := h2.cellAt j (by omega)
      rw [this]
      simp [ints, List.getElem?_eq_getElem hj]
    have HC := Lib.hid hcell
    clear hcell h1 h2
    go_enter Try.func43, Try.ntmps43
    go_wp2
    go_loop [5] (fun i => ∃ k : Nat, k ≤ L.length ∧ i = .int .i64 k ∧ ∀ j, j < k → L.getD j 0 ≠ x) (fun i => L.length - (intOf i).toNat)
    case atStart => exact ⟨0, Nat.zero_le _, rfl, fun j hj => by omega⟩
    case round =>
      obtain ⟨k, hk, rfl, hx⟩ := hrel
      have HX := Lib.hid hx
      clear hx
      by_cases hlt : k < L.length
      · have c := HC.out k hlt
        by_cases he : L.getD k 0 = x
        · have hmem : x ∈ L := by
            rw [← he, List.getD_eq_getElem?_getD, List.getElem?_eq_getElem hlt]
            exact List.getElem_mem hlt
          have hb : (L.getD k 0 == x) = true := beq_iff_eq.2 he
          have HM := Lib.hid hmem
          clear he hmem
          generalize L.getD k 0 = y at *
          go_wp2
          go_ret
          exact ⟨by simp [HM.out], rfl⟩
        · have hb : (L.getD k 0 == x) = false := beq_eq_false_iff_ne.2 he
          have HE := Lib.hid he
          clear he
          generalize hy : L.getD k 0 = y at *
          have HY := Lib.hid hy
          clear hy
          go_wp2
          go_round
          case rel => exact ⟨k + 1, by omega, by go_num, fun j hj => by
            rcases (show j < k ∨ j = k by omega) with h | rfl
            · exact HX.out j h
            · rw [HY.out]; exact HE.out⟩
          case measure => simp [intOf]; omega
      · obtain rfl : k = L.length := by omega
        have hnm : ¬ x ∈ L := by
          intro hm
          obtain ⟨j, hj, he⟩ := List.getElem_of_mem hm
          exact HX.out j hj (by rw [List.getD_eq_getElem?_getD, List.getElem?_eq_getElem hj]; exact he)
        have HN := Lib.hid hnm
        clear hnm
        go_wp2
        go_ret
        exact ⟨by simp [HN.out], rfl⟩
theorem row_fr {X : List Nat} {w w' : World} {B e size n : Nat} {v : Value} {xs : List Value} (h : w.ownsRow B e size v n xs) (hf : Fr X w w') (hn : ∀ k, v.ownBlock = some k → k ∉ X) : w'.ownsRow B e size v n xs := by
  obtain ⟨h1, h2⟩ := h
  refine ⟨h1, ?_⟩
  rcases h2 with h2 | ⟨gr, cap, cur, rfl, hB, hh, h3⟩
  · exact .inl h2
  · exact .inr ⟨gr, cap, cur, rfl, hB, (hf.block gr (lt_of_block hh) (hn gr rfl)).trans hh, h3⟩
theorem row_ne {w : World} {B e size n g : Nat} {t : TypeId} {cs : Array Value} {v : Value} {xs : List Value} (h : w.ownsRow B e size v n xs) (hb : Blk w g t cs) (hne : t ≠ e) : ∀ k, v.ownBlock = some k → k ≠ g ∧ B ≤ k ∧ ∃ cur f, w.heap[k]? = some (.cells cur e f) := by
  rcases h.2 with ⟨rfl, _⟩ | ⟨gr, cap, cur, rfl, hB, hh, h3⟩
  · intro k hk; cases hk
  · intro k hk
    injection hk with hk
    subst hk
    exact ⟨(hb.other hh hne).symm, hB, cur, _, hh⟩
theorem near_row {v : Value} {w' : World} (h1 : Blk w g 90 #[.int .i64 most, .int .i64 last, v]) (h2 : w.ownsRow B 3 1 v L.length (ints L)) (hB : B ≤ g) (hf : Fr (g :: v.ownBlock.toList) w w') : Near B g w w' := by
  refine ⟨_, hf, fun b hb => ?_⟩
  rcases List.mem_cons.1 hb with rfl | hb
  · exact ⟨hB, .inl rfl⟩
  · have : v.ownBlock = some b := by cases hv : v.ownBlock with | none => rw [hv] at hb; cases hb | some k => rw [hv] at hb; simp at hb; rw [hb]
    obtain ⟨_, h3, h4⟩ := row_ne h2 h1 (by decide) b this
    exact ⟨h3, .inr h4⟩
theorem push_end {v v' : Value} {W w1 : World} {x : Int} (h1 : Blk w g 90 #[.int .i64 most, .int .i64 last, v]) (h2 : w.ownsRow B 3 1 v L.length (ints L)) (hB : B ≤ g) (hW : Fr [] w W) (hg : W.grownBy w1 v.ownBlock) (ho : w1.ownsRow B 3 1 v' (L.length + 1) (ints L ++ [.int .i64 x])) :
    IsRefP (w1.setCell ⟨g, 2, none⟩ v') B g most last (L ++ [x]) ∧ Near B g w (w1.setCell ⟨g, 2, none⟩ v') := by
  have hb1 : Blk w1 g 90 #[.int .i64 most, .int .i64 last, v] := (h1.fr hW (by simp)).grown hg (fun e => (row_ne h2 h1 (by decide) g e.symm).1 rfl)
  have hf1 : Fr (g :: v.ownBlock.toList) w w1 := (hW.mono (by simp)).grown hg (fun k hk => .inl (by simp [hk]))
  have hxs : ints (L ++ [x]) = ints L ++ [.int .i64 x] := by simp [ints]
  refine ⟨⟨⟨v', hb1.store 2 v', ?_⟩, hB⟩, near_row h1 h2 hB (hf1.setCell (.inl (by simp)) _)⟩
  rw [hxs, List.length_append]
  exact row_fr ho (Fr.setCell (X := [g]) (Fr.refl _ _) (.inl (by simp)) _) (fun k hk => by simpa using (row_ne ho hb1 (by decide) k hk).1)
theorem one_cell (w : World) (x : Int) : ∀ (j : Nat) (u : Value), [Value.int IntKind.i64 x][j]? = some u → (w.alloc (Obj.cells #[Value.int IntKind.i64 x] 3)).cell? ((⟨w.heap.size, 0, none⟩ : Addr).add j) = some u := by
  intro j u hj
  rcases j with _ | j
  · have := (Blk.made w 3 #[Value.int .i64 x]).cell 0
    simp at hj
    subst hj
    exact this
  · simp at hj
theorem one_one (x : Int) : ∀ (u : Value), u ∈ [Value.int IntKind.i64 x] → u.oneCell' = true := by
  intro u hu
  simp at hu
  subst hu
  rfl
theorem IsRefP.then (h : IsRefP w B g most last L) {w' : World} (hf : Fr [] w w') : IsRefP w' B g most last L := by
  obtain ⟨⟨v, b1, r1⟩, hB⟩ := h
  exact ⟨⟨v, b1.fr hf (by simp), row_fr r1 hf (by simp)⟩, hB⟩
set_option maxHeartbeats 1000000 in
theorem refp_next_no (h : IsRefP w B g most last L) (hl : L.length = most) (hm : most ≤ 65535) :
    Calls Try.prog 28 #[.pointer (some ⟨g, 0, none⟩)] w fun e w' => e = .returned (.tuple #[.int .i64 0, .bool false]) ∧ Fr [] w w' := by
  obtain ⟨⟨v, b1, r1⟩, hB⟩ := h
  have c0 := b1.cell 0
  have c2 := b1.cell 2
  have hlen := r1.1
  rcases r1.2 with ⟨rfl, h0⟩ | ⟨gr, cap, cur, rfl, hB2, hh, hlc, hcm, hcs, htk⟩
  · obtain rfl : most = 0 := by omega
    clear b1 r1
    go_enter Try.func28, Try.ntmps28
    go_wp2
    go_quiet (fail)
    go_wp2
    go_ret2
    exact ⟨rfl, (Fr.refl _ _).drewN _⟩
  · clear b1 r1 hh hcs htk
    go_enter Try.func28, Try.ntmps28
    go_wp2
    go_quiet (fail)
    go_wp2
    all_goals
      go_ret2
      exact ⟨rfl, (Fr.refl _ _).drewN _⟩
theorem row_form {v : Value} (h : w.ownsRow B 3 1 v L.length (ints L)) : ∃ a cap, v = .slice a L.length cap := by
  rcases h.2 with ⟨rfl, h0⟩ | ⟨gr, cap, cur, rfl, _⟩
  · exact ⟨none, 0, by rw [h0]⟩
  · exact ⟨_, _, rfl⟩
theorem IsRefP.last_ (h : IsRefP w B g most last L) (x : Nat) : IsRefP (w.setCell ⟨g, 1, none⟩ (.int .i64 x)) B g most x L := by
  obtain ⟨⟨v, b1, r1⟩, hB⟩ := h
  exact ⟨⟨v, b1.store 1 _, row_fr r1 (Fr.setCell (X := [g]) (Fr.refl _ _) (.inl (by simp)) _) (fun k hk => by simpa using (row_ne r1 b1 (by decide) k hk).1)⟩, hB⟩
theorem Near.store {w1 : World} (h : Near B g w w1) (hB : B ≤ g) (i : Nat) (u : Value) : Near B g w (w1.setCell ⟨g, i, none⟩ u) := by
  obtain ⟨X, hf, hX⟩ := h
  refine ⟨g :: X, (hf.mono (fun b hb _ => List.mem_cons_of_mem _ hb)).setCell (.inl (by simp)) _, fun b hb => ?_⟩
  rcases List.mem_cons.1 hb with rfl | hb
  · exact ⟨hB, .inl rfl⟩
  · exact hX b hb
set_option maxHeartbeats 1000000 in
set_option maxRecDepth 100000 in
theorem refp_next (h : IsRefP w B g most last L) (hBw : B ≤ w.heap.size) (hl : L.length < most) (hm : most ≤ 65535) (hlast : last ≤ most) {m : Int → Bool} (hmL : ∀ x, m x = decide (x ∈ L)) {x : Nat} (hs : scan m most last most 0 = some x) :
    Calls Try.prog 28 #[.pointer (some ⟨g, 0, none⟩)] w fun e w' => e = .returned (.tuple #[.int .i64 x, .bool true]) ∧ IsRefP w' B g most x (L ++ [(x : Int)]) ∧ Near B g w w' := by
  obtain ⟨i0, hi0, hz0, hz1, hz2⟩ := info_parts Try.intInfo
  have HH := Lib.hid h
  have HS := Lib.hid hs
  have HM := Lib.hid hmL
  clear hs hmL
  obtain ⟨⟨v, b1, r1⟩, hB⟩ := h
  obtain ⟨a, cap, rfl⟩ := row_form r1
  have hlen := r1.1
  have c0 := b1.cell 0
  have c2 := b1.cell 2
  have HB := Lib.hid b1
  have HR := Lib.hid r1
  have HZ := Lib.hid (And.intro hB hBw)
  clear b1 r1 hB hBw
  go_enter Try.func28, Try.ntmps28
  go_wp2
  go_quiet (fail)
  have HF0 := Lib.hid ((Fr.refl [] w).drewN nq)
  clear c0 c2
  generalize hw0 : w.drewN nq = w0 at *
  clear hw0
  go_wp2
  have hge : decide (most ≤ L.length) = false := by simp; omega
  try rw [hge]
  clear hge
  go_loopw [4] (fun i wr => ∃ k : Nat, k ≤ most ∧ i = .int .i64 k ∧ Fr [] w wr ∧ scan m most last (most - k) k = scan m most last most 0) (fun i _ => most - (intOf i).toNat)
  case atStart => exact ⟨0, Nat.zero_le _, rfl, HF0.out, rfl⟩
  case round =>
    obtain ⟨k, hk, rfl, hf, hsc⟩ := hrel
    have HF := Lib.hid hf
    have HSC := Lib.hid hsc
    have d0 := (HB.out.fr hf (by simp)).cell 0
    have d1 := (HB.out.fr hf (by simp)).cell 1
    clear hf hsc
    by_cases hlt : k < most
    · have hc := cand_in (most := most) (last := last) (i := k) (by omega)
      have hmod : ((last : Int) + (k : Int)) % (most : Int) = ((last + k) % most : Nat) := by rw [← Int.natCast_add]; rfl
      have hml := Nat.mod_lt (last + k) (show 0 < most by omega)
      obtain ⟨c, hcm⟩ : ∃ c, c = (last + k) % most := ⟨_, rfl⟩
      have hcc : cand most last k = c + 1 := by rw [hcm]; rfl
      rw [← hcm] at hmod hml
      rw [hcc] at hc
      have HCC := Lib.hid hcc
      clear hcm hcc
      go_wp2
      go_quiet (fail)
      have hd := HH.out.then (HF.out.drewN nq)
      have HFQ := Lib.hid (HF.out.drewN nq)
      have HBQ := Lib.hid (HB.out.fr HFQ.out (by simp))
      have HRQ := Lib.hid (row_fr HR.out HFQ.out (by simp))
      have HSS := Lib.hid (scan_step m most last (most - (k + 1)) k)
      have HI := Lib.hid (refp_is hd (by omega) ((c : Int) + 1))
      have HN := Lib.hid HFQ.out.size
      clear hd d0 d1
      generalize hwq : wr.drewN nq = wq at *
      clear hwq
      cases hmx : m ((c + 1 : Nat) : Int) with
      | true =>
        have HMX := Lib.hid hmx
        rw [HM.out] at hmx
        rw [show ((c + 1 : Nat) : Int) = (c : Int) + 1 by omega] at hmx
        rw [hmx] at HI
        clear hmx
        go_wp2_with fail
        refine (HI.out).mono ?_
        rintro e w1 ⟨rfl, rfl⟩
        go_wp2_with fail
        go_roundw
        case rel =>
          refine ⟨k + 1, hlt, by go_num, HFQ.out, ?_⟩
          have h1 := HSS.out
          rw [HCC.out, HMX.out, if_pos rfl, show most - (k + 1) + 1 = most - k by omega] at h1
          exact h1.trans HSC.out
        case measure => simp [intOf]; omega
      | false =>
        have HMX := Lib.hid hmx
        rw [HM.out] at hmx
        rw [show ((c + 1 : Nat) : Int) = (c : Int) + 1 by omega] at hmx
        rw [hmx] at HI
        clear hmx
        have c2 := HBQ.out.cell 2
        have f2 := HBQ.out.frozen 2
        have hgl := HBQ.out.lt
        go_wp2_with fail
        refine (HI.out).mono ?_
        rintro e w1 ⟨rfl, rfl⟩
        go_wp2_with (at_builtin; refine wpList_append_own _ rfl _ _ 47 rfl B 3 i0 (.int .i64 0) 1 8 Try.underlying47 hi0 hz0 hz1 hz2 rfl (by decide) (.slice a L.length cap) L.length (ints L) rfl (HRQ.out.alloc _) ⟨wq.heap.size, 0, none⟩ 1 1 [.int .i64 ((c : Int) + 1)] rfl rfl (one_cell wq _) (one_one _) (by unfold maxLen; omega) (by omega) (Nat.le_trans HZ.out.2 (Nat.le_trans HN.out ((Fr.refl [] wq).alloc _).size)) ?_)
        intro v' w1 ho hg hnn
        have hb1 : Blk w1 g 90 #[.int .i64 most, .int .i64 last, .slice a L.length cap] := (HBQ.out.alloc _).grown hg (fun e => (row_ne HRQ.out HBQ.out (by decide) g e.symm).1 rfl)
        clear c2 f2
        have c2 := hb1.cell 2
        have f2 := hb1.frozen 2
        have hgl1 := hb1.lt
        have HE := Lib.hid (push_end HB.out HR.out HZ.out.1 (HFQ.out.alloc _) hg ho)
        rcases ho.2 with ⟨rfl, _⟩ | ⟨gr, cap', cur, rfl, _⟩
        · exact absurd rfl hnn
        have e1 := (hb1.store 2 (.slice (some ⟨gr, 0, none⟩) (L.length + 1) cap')).cell 1
        have e2 := (hb1.store 2 (.slice (some ⟨gr, 0, none⟩) (L.length + 1) cap')).frozen 1
        clear hnn ho hg hb1
        go_wp2
        go_ret2
        have hsx : scan m most last most 0 = some (c + 1) := by
          have h1 := HSS.out
          rw [HCC.out, HMX.out, if_neg (by simp), show most - (k + 1) + 1 = most - k by omega] at h1
          exact HSC.out.symm.trans h1.symm
        obtain rfl : c + 1 = x := Option.some.inj (hsx.symm.trans HS.out)
        have hE := HE.out
        exact ⟨by go_num, by exact_mod_cast hE.1.last_ (c + 1), hE.2.store HZ.out.1 1 _⟩
    · obtain rfl : k = most := by omega
      have hs : scan m k last k 0 = none := by rw [← HSC.out, Nat.sub_self]; rfl
      rw [hs] at HS
      cases HS.out
def without (x : Int) (L : List Int) : List Int := L.filter (fun y => !(y == x))
theorem without_take {x : Int} {k : Nat} (h : k < L.length) : without x (L.take (k + 1)) = without x (L.take k) ++ (if L.getD k 0 == x then [] else [L.getD k 0]) := by
  unfold without
  rw [List.take_add_one, List.filter_append, List.getD_eq_getElem?_getD, List.getElem?_eq_getElem h]
  cases hb : (L[k] == x) <;> simp_all
theorem without_lt (x : Int) (L : List Int) : decide ((without x L).length < L.length) = decide (x ∈ L) := by
  unfold without
  by_cases h : x ∈ L
  · simp only [h, decide_true, decide_eq_true_eq]
    exact List.length_filter_lt_length_iff_exists.2 ⟨x, h, by simp⟩
  · simp only [h, decide_false, decide_eq_false_iff_not]
    intro hl
    obtain ⟨y, hy, hp⟩ := List.length_filter_lt_length_iff_exists.1 hl
    simp at hp
    exact h (hp ▸ hy)
theorem without_len (x : Int) (L : List Int) (k : Nat) : (without x (L.take k)).length ≤ L.length := by
  unfold without
  exact Nat.le_trans (List.length_filter_le _ _) (by rw [List.length_take]; omega)
theorem row_base {B' : Nat} {v : Value} (h : w.ownsRow B' 3 1 v L.length (ints L)) (hb : B ≤ B') : w.ownsRow B 3 1 v L.length (ints L) := by
  obtain ⟨h1, h2⟩ := h
  refine ⟨h1, ?_⟩
  rcases h2 with h2 | ⟨gr, cap, cur, rfl, hB, h3⟩
  · exact .inl h2
  · exact .inr ⟨gr, cap, cur, rfl, Nat.le_trans hb hB, h3⟩
theorem free_end {v v' : Value} {W : World} {L' : List Int} (h1 : Blk w g 90 #[.int .i64 most, .int .i64 last, v]) (hB : B ≤ g) (hBw : B ≤ w.heap.size) (hW : Fr [] w W) (ho : W.ownsRow w.heap.size 3 1 v' L'.length (ints L')) :
    IsRefP (W.setCell ⟨g, 2, none⟩ v') B g most last L' ∧ Near B g w (W.setCell ⟨g, 2, none⟩ v') := by
  have hb1 := h1.fr hW (by simp)
  refine ⟨⟨⟨v', hb1.store 2 v', row_base (row_fr ho (Fr.setCell (X := [g]) (Fr.refl _ _) (.inl (by simp)) _) (fun k hk => by simpa using (row_ne ho hb1 (by decide) k hk).1)) hBw⟩, hB⟩, [g], (hW.mono (by simp)).setCell (.inl (by simp)) _, fun b hb => ?_⟩
  rw [List.mem_singleton.1 hb]
  exact ⟨hB, .inl rfl⟩
set_option maxHeartbeats 1000000 in
set_option maxRecDepth 100000 in
theorem refp_free (h : IsRefP w B g most last L) (hBw : B ≤ w.heap.size) (hl : L.length ≤ 65535) (x : Int) :
    Calls Try.prog 36 #[.pointer (some ⟨g, 0, none⟩), .int .i64 x] w fun e w' => e = .returned (.bool (decide (x ∈ L))) ∧ IsRefP w' B g most last (without x L) ∧ Near B g w w' := by
  obtain ⟨i0, hi0, hz0, hz1, hz2⟩ := info_parts Try.intInfo
  obtain ⟨⟨v, b1, r1⟩, hB⟩ := h
  have HB := Lib.hid b1
  have HR := Lib.hid r1
  have HZ := Lib.hid (And.intro hB hBw)
  have hgl := b1.lt
  rcases r1.2 with ⟨rfl, h0⟩ | ⟨gr, cap, cur, rfl, hB2, hh, hlc, hcm, hcs, htk⟩
  · have c2 := b1.cell 2
    have f2 := b1.frozen 2
    have hL : L = [] := List.eq_nil_of_length_eq_zero h0
    subst hL
    clear b1 r1 hB hBw
    go_enter Try.func36, Try.ntmps36
    go_wp2
    go_loop [5, 6] (fun o i => o = .slice none 0 0 ∧ i = .int .i64 0) (fun _ _ => 0)
    case atStart => exact ⟨rfl, rfl⟩
    case round =>
      obtain ⟨rfl, rfl⟩ := hrel
      go_wp2
      go_ret
      have he := free_end (L' := []) (v' := .slice none 0 0) HB.out HZ.out.1 HZ.out.2 (Fr.refl _ _) ⟨rfl, .inl ⟨rfl, rfl⟩⟩
      exact ⟨by simp, he.1, he.2⟩
  · have hrow : ∀ j, j < L.length → w.cell? ⟨gr, j, none⟩ = some (.int .i64 (L.getD j 0)) := fun j hj => by
      have := r1.cellAt j (by omega)
      rw [this]
      simp [ints, List.getElem?_eq_getElem hj]
    have hgrl := lt_of_block hh
    have HC := Lib.hid hrow
    clear hrow b1 r1 hh hcs htk hB hBw
    go_enter Try.func36, Try.ntmps36
    go_wp2
    go_loopw [5, 6] (fun o i wr => ∃ k : Nat, k ≤ L.length ∧ i = .int .i64 k ∧ Fr [] w wr ∧ wr.ownsRow w.heap.size 3 1 o (without x (L.take k)).length (ints (without x (L.take k)))) (fun _ i _ => L.length - (intOf i).toNat)
    case atStart => exact ⟨0, Nat.zero_le _, rfl, Fr.refl _ _, rfl, .inl ⟨rfl, rfl⟩⟩
    case round =>
      obtain ⟨k, hk, rfl, hf, hrow⟩ := hrel
      obtain ⟨a', cap', rfl⟩ := row_form hrow
      have HF := Lib.hid hf
      have HO := Lib.hid hrow
      have hbr := HB.out.fr hf (by simp)
      have c2 := hbr.cell 2
      have f2 := hbr.frozen 2
      have hgl' := hbr.lt
      clear hbr
      by_cases hlt : k < L.length
      · have c : wr.cell? ⟨gr, k, none⟩ = some (.int .i64 (L.getD k 0)) := (hf.cell hgrl (by simp)).trans (HC.out k hlt)
        have HT := Lib.hid (without_take (x := x) hlt)
        have HW := Lib.hid (without_len x L k)
        clear hf hrow
        by_cases he : L.getD k 0 = x
        · have hb : (L.getD k 0 == x) = true := beq_iff_eq.2 he
          rw [hb, if_pos rfl, List.append_nil] at HT
          clear he
          generalize L.getD k 0 = y at *
          go_wp2
          go_roundw
          case rel => exact ⟨k + 1, by omega, by go_num, HF.out, by rw [HT.out]; exact HO.out⟩
          case measure => simp [intOf]; omega
        · have hb : (L.getD k 0 == x) = false := beq_eq_false_iff_ne.2 he
          rw [hb, if_neg (by simp)] at HT
          clear he
          generalize L.getD k 0 = y at *
          have hw := HW.out
          go_wp2_with (at_builtin; refine wpList_append_own _ rfl _ _ 47 rfl w.heap.size 3 i0 (.int .i64 0) 1 8 Try.underlying47 hi0 hz0 hz1 hz2 rfl (by decide) (.slice a' (without x (L.take k)).length cap') (without x (L.take k)).length (ints (without x (L.take k))) rfl (HO.out.alloc _) ⟨wr.heap.size, 0, none⟩ 1 1 [.int .i64 y] rfl rfl (one_cell wr _) (one_one _) (by unfold maxLen; omega) (by omega) (Nat.le_trans HF.out.size ((Fr.refl [] wr).alloc _).size) ?_)
          intro v' w1 ho hg hnn
          have hF1 : Fr [] w w1 := (HF.out.alloc _).grown hg (fun b hb => by
            rcases HO.out.2 with ⟨e, _⟩ | ⟨gr', _, _, e, hB', _⟩
            · rw [e] at hb; cases hb
            · rw [e] at hb; injection hb with hb; subst hb; exact .inr hB')
          have HF1 := Lib.hid hF1
          have HO1 := Lib.hid ho
          rcases ho.2 with ⟨rfl, _⟩ | ⟨gr', cap'', cur', rfl, _⟩
          · exact absurd rfl hnn
          clear hnn ho hg hF1
          go_wp2
          go_roundw
          case rel => exact ⟨k + 1, by omega, by go_num, HF1.out, by rw [HT.out, List.length_append, ints, List.map_append]; exact HO1.out⟩
          case measure => simp [intOf]; omega
      · obtain rfl : k = L.length := by omega
        rw [List.take_length] at HO
        have HE := Lib.hid (free_end HB.out HZ.out.1 HZ.out.2 HF.out HO.out)
        have HWL := Lib.hid (without_lt x L)
        clear hf hrow
        have hwl := without_len x L L.length
        rw [List.take_length] at hwl ⊢
        go_wp2
        go_ret
        exact ⟨congrArg (fun b => Ending.returned (.bool b)) HWL.out, HE.out⟩
end
theorem refp_new (w : World) (n : Int) (k : Nat) (hk : n < 0 ∧ k = 0 ∨ n = (k : Int) ∧ k ≤ 65535 ∨ 65535 < n ∧ n ≤ 9223372036854775807 ∧ k = 65535) :
    Calls Try.prog 25 #[.int .i64 n] w fun e w' => e = .returned (.pointer (some ⟨w.heap.size, 0, none⟩)) ∧ w' = w.alloc (.cells #[.int .i64 k, .int .i64 0, .slice none 0 0] 90) := by
  rcases hk with ⟨hn, rfl⟩ | ⟨rfl, hn⟩ | ⟨hn, hn2, rfl⟩
  · have hd : decide (n < 0) = true := by simp; omega
    go_enter Try.func25, Try.ntmps25
    go_wp2
    all_goals
      go_ret
      exact ⟨rfl, rfl⟩
  · rcases Nat.eq_zero_or_pos k with rfl | hp
    all_goals
      go_enter Try.func25, Try.ntmps25
      go_wp2
    all_goals
      go_ret
      exact ⟨rfl, rfl⟩
  · go_enter Try.func25, Try.ntmps25
    go_wp2
    all_goals
      go_ret
      exact ⟨rfl, rfl⟩
end Go.Proofs.Ytpaalhhadjihlaa
