/- What is proved here: the document's own Do on members does what a plain function says. Conditions: the members are there; few of them. -/
import Derived.Test.YtkjghlmlfanafaaLawA31
namespace Go.Proofs.Ytkjghlmlfanafaa
open Go.RowKit Go.Extern.Stop Go.Stop Go.Extern
/-- The document's own members: a block with a slice and the generation, and where the slice stands. -/
structure RObj (w : World) (g : Nat) (v : Value) (L : ML) (gen : Nat) : Prop where
  blk : Blk w g 31 #[v, .int .i64 gen]
  row : ∃ a c, v = .slice a L.length c ∧ MRd w a L
section
variable {w w' : World} {g : Nat} {v : Value} {L : ML} {gen : Nat}
theorem RObj.below (h : RObj w g v L gen) (hb : Below w.heap.size w w') : RObj w' g v L gen := by
  obtain ⟨h1, a, c, h2, h3⟩ := h
  exact ⟨h1.below hb h1.lt, a, c, h2, h3.below hb⟩
end
def refStep (kd : Int) (c : ByteArray) (q : Int) (s : ML × Bool × Bool) (m : MV) : ML × Bool × Bool :=
  if m.client = c then
    if kd = 1 then (s.1 ++ [setQ m q], true, s.2.2)
    else if kd = 2 then (s.1, true, true)
    else if kd = 3 ∨ kd = 4 then (s.1 ++ [setOn m (decide (kd = 3))], true, m.on != decide (kd = 3))
    else (s.1 ++ [m], true, s.2.2)
  else (s.1 ++ [m], s.2.1, s.2.2)
def refFold (kd : Int) (c : ByteArray) (q : Int) (L : ML) : ML × Bool × Bool := L.foldl (refStep kd c q) ([], false, false)
def refAct (kd : Int) (c : ByteArray) (q : Int) (L : ML) (gen : Nat) : MSt :=
  if kd = 1 ∧ (refFold kd c q L).2.1 = false then (true, (refFold kd c q L).1 ++ [MV.mk c ((gen : Int) + 1) q true], gen + 1)
  else ((refFold kd c q L).2.2, (refFold kd c q L).1, if (refFold kd c q L).2.2 then gen + 1 else gen)
theorem refAct_def (kd : Int) (c : ByteArray) (q : Int) (L : ML) (gen : Nat) : refAct kd c q L gen = if kd = 1 ∧ (refFold kd c q L).2.1 = false then (true, (refFold kd c q L).1 ++ [MV.mk c ((gen : Int) + 1) q true], gen + 1)
  else ((refFold kd c q L).2.2, (refFold kd c q L).1, if (refFold kd c q L).2.2 then gen + 1 else gen) := rfl
theorem fold_out (kd : Int) (c : ByteArray) (q : Int) (L : ML) : ∀ s, (∀ m ∈ L, m.client ≠ c) → L.foldl (refStep kd c q) s = (s.1 ++ L, s.2.1, s.2.2) := by
  induction L with
  | nil => intro s _; simp
  | cons m L ih =>
    intro s h
    rw [List.foldl_cons, ih _ fun x hx => h x (List.mem_cons_of_mem _ hx)]
    have : m.client ≠ c := h m List.mem_cons_self
    simp [refStep, this]
theorem fold_at (kd : Int) (c : ByteArray) (q : Int) (A B : ML) (m : MV) (hA : ∀ x ∈ A, x.client ≠ c) (hB : ∀ x ∈ B, x.client ≠ c) :
    refFold kd c q (A ++ m :: B) = ((refStep kd c q (A, false, false) m).1 ++ B, (refStep kd c q (A, false, false) m).2.1, (refStep kd c q (A, false, false) m).2.2) := by
  unfold refFold
  rw [List.foldl_append, fold_out kd c q A _ hA, List.foldl_cons, fold_out kd c q B _ hB]
  simp
theorem refFold_take (kd : Int) (c : ByteArray) (q : Int) {L : ML} {k : Nat} (h : k < L.length) : refFold kd c q (L.take (k + 1)) = refStep kd c q (refFold kd c q (L.take k)) (L.getD k m0) := by
  unfold refFold
  rw [List.take_succ_eq_append_getElem h, List.foldl_append, List.getD_eq_getElem?_getD, List.getElem?_eq_getElem h]
  rfl
theorem fold_len (kd : Int) (c : ByteArray) (q : Int) (L : ML) : ∀ s, (L.foldl (refStep kd c q) s).1.length ≤ s.1.length + L.length := by
  induction L with
  | nil => intro s; simp
  | cons m L ih =>
    intro s
    rw [List.foldl_cons]
    refine Nat.le_trans (ih _) ?_
    have : (refStep kd c q s m).1.length ≤ s.1.length + 1 := by
      unfold refStep
      split
      · split
        · simp
        · split
          · simp
          · split <;> simp
      · simp
    simp only [List.length_cons]
    omega
theorem refFold_len (kd : Int) (c : ByteArray) (q : Int) (L : ML) : (refFold kd c q L).1.length ≤ L.length := by
  have := fold_len kd c q L ([], false, false)
  simpa [refFold] using this
theorem idxM_hit {L : ML} {c : ByteArray} {i : Nat} (h : idxM L c = (i : Int)) : (L.getD i m0).client = c := by
  unfold idxM idxI at h
  cases hf : (clientsOf L).findIdx? (fun y => decide (y = c)) with
  | none => rw [hf] at h; dsimp only at h; omega
  | some j =>
    rw [hf] at h
    dsimp only at h
    obtain rfl : j = i := by omega
    rw [List.findIdx?_eq_some_iff_getElem] at hf
    obtain ⟨hj, h1, _⟩ := hf
    have hl : j < L.length := by unfold clientsOf at hj; rwa [List.length_map] at hj
    rw [← clients_get L j hl, List.getD_eq_getElem?_getD, List.getElem?_eq_getElem hj]
    exact of_decide_eq_true h1
theorem refAct_eq (kd : Int) (c : ByteArray) (q : Int) (L : ML) (gen : Nat) (hnd : (clientsOf L).Nodup) : refAct kd c q L gen = actM kd c q L gen := by
  rcases idxM_or L c with ⟨i, hi, hil⟩ | hi
  · have hLi : L = L.take i ++ L.getD i m0 :: L.drop (i + 1) := by
      rw [List.getD_eq_getElem?_getD, List.getElem?_eq_getElem hil]
      exact (List.take_append_drop i L).symm.trans (by rw [List.drop_eq_getElem_cons hil]; rfl)
    have hat : (L.getD i m0).client = c := idxM_hit hi
    have hA : ∀ x ∈ L.take i, x.client ≠ c := fun x hx => by
      obtain ⟨j, hj, rfl⟩ := List.mem_take_iff_getElem.1 hx
      have := client_ne hnd (show j < i by omega) hil
      rw [hat, List.getD_eq_getElem?_getD, List.getElem?_eq_getElem (by omega)] at this
      exact this
    have hB : ∀ x ∈ L.drop (i + 1), x.client ≠ c := fun x hx => by
      obtain ⟨j, hj, rfl⟩ := List.mem_drop_iff_getElem.1 hx
      have := client_ne hnd (show i < i + 1 + j by omega) (show i + 1 + j < L.length by omega)
      rw [hat, List.getD_eq_getElem?_getD, List.getElem?_eq_getElem (by omega)] at this
      exact fun e => this e.symm
    have hset : ∀ y : MV, L.set i y = L.take i ++ y :: L.drop (i + 1) := fun y => List.set_eq_take_append_cons_drop.trans (by rw [if_pos hil])
    have hera : L.eraseIdx i = L.take i ++ L.drop (i + 1) := List.eraseIdx_eq_take_drop_succ L i
    have hf := fold_at kd c q (L.take i) (L.drop (i + 1)) (L.getD i m0) hA hB
    rw [← hLi] at hf
    have hid : L.take i ++ L.getD i m0 :: L.drop (i + 1) = L := hLi.symm
    unfold refAct actM joinM leaveM onlineM
    rw [hf, hi]
    have hn1 : ¬ ((i : Int) = -1) := by omega
    simp only [Int.toNat_natCast, hset, hera]
    clear hLi hA hB hset hera hf
    generalize L.getD i m0 = m at *
    unfold refStep
    by_cases k1 : kd = 1
    · simp [k1, hat, hn1]
    · by_cases k2 : kd = 2
      · simp [k2, hat, hn1]
      · by_cases k3 : kd = 3 ∨ kd = 4
        · simp only [k1, k2, k3, if_true, if_false, hat, hn1, false_and]
          by_cases ho : m.on = decide (kd = 3)
          · rw [if_pos ho]
            have hs : setOn m (decide (kd = 3)) = m := by
              unfold setOn; rw [← ho]
            rw [hs]
            simp [ho, hid]
          · rw [if_neg ho]
            have hx : (m.on != decide (kd = 3)) = true := by simpa using ho
            simp [ho]
        · simp only [k1, k2, k3, if_true, if_false, hat, hn1, false_and]
          simp [hid]
  · have hno : ∀ m ∈ L, m.client ≠ c := fun m hm e => (idxM_mem L c).1 hi (e ▸ List.mem_map_of_mem hm)
    have hf : refFold kd c q L = (L, false, false) := by
      unfold refFold
      rw [fold_out kd c q L _ hno]
      simp
    unfold refAct actM joinM leaveM onlineM
    rw [hf, hi]
    by_cases k1 : kd = 1
    · simp [k1]
    · simp [k1]
/-- A row of members that the call owns. -/
def MRow (w : World) (B : Nat) (v : Value) (L : ML) : Prop := w.ownsRow B 37 4 v L.length (mcs L)
section
variable {w w' : World} {B : Nat} {v : Value} {L M : ML}
theorem MRow.nil (w : World) (B : Nat) : MRow w B (.slice none 0 0) [] := World.ownsRow_nil _ _ _ _
theorem MRow.below (h : MRow w B v L) (hb : Below w.heap.size w w') : MRow w' B v L := own_below h hb
theorem MRow.alloc (h : MRow w B v L) (o : Obj) : MRow (w.alloc o) B v L := h.below ((Below.refl _ w).alloc (Nat.le_refl _) o)
theorem MRow.form (h : MRow w B v L) : ∃ a c, v = .slice a L.length c := by
  rcases h.2 with ⟨rfl, h0⟩ | ⟨gr, cap, cur, rfl, _⟩
  · exact ⟨none, 0, by rw [h0]⟩
  · exact ⟨_, _, rfl⟩
theorem MRow.low (h : MRow w B v L) : ∀ k, v.ownBlock = some k → B ≤ k := by
  rcases h.2 with ⟨rfl, h0⟩ | ⟨gr, cap, cur, rfl, hB, _⟩
  · intro k hk; cases hk
  · intro k hk
    obtain rfl : gr = k := Option.some.inj hk
    exact hB
theorem mrow_grow {w0 w1 : World} (hb : Below w0.heap.size w0 w) (ht : MRow w w0.heap.size v L) (hg : w.grownBy w1 v.ownBlock) : Below w0.heap.size w0 w1 := by
  refine Fr.later (X := v.ownBlock.toList) ((Fr.refl _ w).grown hg (fun k hk => .inl (by simp [hk]))) hb (fun b hm => ?_) hb.size
  have hk : v.ownBlock = some b := by cases hv : v.ownBlock with | none => rw [hv] at hm; cases hm | some k => rw [hv] at hm; simp at hm; rw [hm]
  exact (World.ownsRow.lt ht b hk).1
theorem news_mem {k : Nat} (hk : w.heap.size = k) (m : MV) : ∀ (j : Nat) (u : Value), (mcs [m])[j]? = some u → (w.alloc (.cells #[.string m.client, .int .i64 m.since, .int .i64 m.qos, .bool m.on] 37)).cell? ((⟨k, 0, none⟩ : Addr).add j) = some u := by
  subst hk
  exact World.news_of_block (heap_alloc_new _ _)
theorem append_mem {ops : Array Oper} {rest : List Oper} {o : Oper} {a : Act} {Q : Exit → Act → World → Prop} {w0 : World} (hgd : o.guard = none) (s x : Operand) (ho : o.op = .call { callee := .builtin .append, args := #[s, x], argTypes := #[26, 26] })
    (hb : Below w0.heap.size w0 w) (ht : MRow w w0.heap.size v L) (hs : a.eval s = v) (ad : Addr) (c : Nat) (hx : a.eval x = .slice (some ad) 1 c) (m : MV) (hn : ∀ (j : Nat) (u : Value), (mcs [m])[j]? = some u → w.cell? (ad.add j) = some u) (hsm : L.length ≤ 1000)
    (h : ∀ v' w', MRow w' w0.heap.size v' (L ++ [m]) → Below w0.heap.size w0 w' → wpList Try.prog ops Q rest (a.put o.dst v') w') : wpList Try.prog ops Q (o :: rest) a w := by
  obtain ⟨i0, hi0, hz0, hz1, hz2⟩ := info_parts Try.memInfo
  refine wpList_append_own w hgd s x 26 ho w0.heap.size 37 i0 (.agg #[.string ⟨#[]⟩, .int .i64 0, .int .i64 0, .bool false]) 4 40 Try.underlying26 hi0 hz0 hz1 hz2 rfl (by decide) v L.length (mcs L) hs ht ad 1 c (mcs [m]) hx (mcs_len [m]) hn (mcs_ones [m]) (by unfold maxLen; omega) (by omega) hb.size ?_
  intro v' w' ho' hg _
  refine h v' w' ?_ (mrow_grow hb ht hg)
  unfold MRow
  rw [List.length_append, mcs_app]
  exact ho'
end
/-- What stores into the document's members leave. -/
structure RLeft (w W : World) (g : Nat) (v : Value) (L : ML) (gen : Nat) : Prop where
  obj : RObj W g v L gen
  fr : Fr [g] w W
  own : ∀ k, v.ownBlock = some k → w.heap.size ≤ k ∧ k < W.heap.size
def RDoes (w : World) (g : Nat) (r : MSt) (x : Ending) (w' : World) : Prop := x = .returned (.bool r.1) ∧ ∃ v', RLeft w w' g v' r.2.1 r.2.2
section
variable {w w' : World} {g : Nat} {v : Value} {L : ML} {gen : Nat}
theorem rdone {w0 wr : World} {x : Value} {va : Option Addr} {vc : Nat} {M : ML} (hg : g < w0.heap.size) (hfr : Fr [g] w wr) (hsz : w.heap.size ≤ w0.heap.size) (hk : Blk wr g 31 #[x, .int .i64 gen]) (hr : MRow wr w0.heap.size (.slice va M.length vc) M) :
    RLeft w (wr.setCell ⟨g, 0, none⟩ (.slice va M.length vc)) g (.slice va M.length vc) M gen ∧ RLeft w ((wr.setCell ⟨g, 0, none⟩ (.slice va M.length vc)).setCell ⟨g, 1, none⟩ (.int .i64 ((gen : Int) + 1))) g (.slice va M.length vc) M (gen + 1) := by
  have hne : some g ≠ (Value.slice va M.length vc).ownBlock := fun e => by
    have := hr.low g e.symm
    omega
  have hr1 : MRow (wr.setCell ⟨g, 0, none⟩ (.slice va M.length vc)) w0.heap.size (.slice va M.length vc) M := World.ownsRow.kept hr (grown_set wr g _) (.inr hne.symm)
  have hr2 : MRow ((wr.setCell ⟨g, 0, none⟩ (.slice va M.length vc)).setCell ⟨g, 1, none⟩ (.int .i64 ((gen : Int) + 1))) w0.heap.size (.slice va M.length vc) M := World.ownsRow.kept hr1 (grown_set1 _ g _) (.inr hne.symm)
  have hf1 : Fr [g] w (wr.setCell ⟨g, 0, none⟩ (.slice va M.length vc)) := hfr.setCell (.inl (by simp)) _
  have ho : ∀ k, (Value.slice va M.length vc).ownBlock = some k → w.heap.size ≤ k := fun k h => Nat.le_trans hsz (hr.low k h)
  exact ⟨⟨⟨hk.store 0 (.slice va M.length vc), _, _, rfl, row_mrd hr1⟩, hf1, fun k h => ⟨ho k h, (World.ownsRow.lt hr1 k h).2⟩⟩, ⟨⟨(hk.store 0 (.slice va M.length vc)).store 1 (.int .i64 ((gen : Int) + 1)), _, _, rfl, row_mrd hr2⟩, hf1.setCell (.inl (by simp)) _, fun k h => ⟨ho k h, (World.ownsRow.lt hr2 k h).2⟩⟩⟩
set_option maxHeartbeats 1000000 in
theorem rdo_any (h : RObj w g v L gen) (hm : L.length ≤ 900) (hg : gen ≤ 1000000) (kd : Int) (c : ByteArray) (q : Int) : Calls Try.prog 16 #[.pointer (some ⟨g, 0, none⟩), .agg #[.int .i64 kd, .string c, .int .i64 q]] w (RDoes w g (refAct kd c q L gen)) := by
  obtain ⟨w0, hw0⟩ : ∃ w0, w0 = w.alloc (.cells #[.int .i64 kd, .string c, .int .i64 q] 34) := ⟨_, rfl⟩
  have hb0 : Below w.heap.size w w0 := by rw [hw0]; exact (Below.refl _ _).alloc (Nat.le_refl _) _
  have ha0 : Blk w0 w.heap.size 34 #[.int .i64 kd, .string c, .int .i64 q] := by rw [hw0]; exact Blk.made w 34 _
  have h2 := h.below hb0
  obtain ⟨ga, hga⟩ : ∃ ga, ga = w.heap.size := ⟨_, rfl⟩
  rw [← hga] at ha0 hb0
  obtain ⟨hblk, a, cp, rfl, hrd⟩ := h2
  obtain ⟨n, hn⟩ : ∃ n, n = L.length := ⟨_, rfl⟩
  rw [← hn] at hblk hm
  have HA := Lib.hid ha0
  have HB0 := Lib.hid hb0
  have HBLK := Lib.hid hblk
  have HRD := Lib.hid hrd
  have HGA := Lib.hid hga
  have HN := Lib.hid hn
  have HW0 := Lib.hid hw0
  clear h hblk hrd ha0 hb0
  go_enter Try.func16, Try.ntmps16
  go_wp2_with fail
  rw [← hw0, ← hga]
  clear hga hn hw0
  go_loopw [5, 6, 7, 8] (fun ov iv cv i wr => ∃ k : Nat, k ≤ n ∧ i = .int .i64 k ∧ iv = .bool (refFold kd c q (L.take k)).2.1 ∧ cv = .bool (refFold kd c q (L.take k)).2.2 ∧ MRow wr w0.heap.size ov (refFold kd c q (L.take k)).1 ∧ Below w0.heap.size w0 wr) (fun _ _ _ i _ => n - (intOf i).toNat)
  case atStart => exact ⟨0, by omega, rfl, rfl, rfl, MRow.nil _ _, Below.refl _ _⟩
  case round =>
    obtain ⟨k, hk, rfl, rfl, rfl, hrow, hb⟩ := hrel
    obtain ⟨va, vc, rfl⟩ := hrow.form
    have hfl := Nat.le_trans (refFold_len kd c q (L.take k)) (by rw [List.length_take]; exact Nat.min_le_left _ _)
    have hblk := HBLK.out.below hb HBLK.out.lt
    have hA := HA.out.below hb HA.out.lt
    have d0 := hblk.cell 0
    have a0 := hA.cell 0
    have a1 := hA.cell 1
    have a2 := hA.cell 2
    clear hblk hA
    by_cases hlt : k < n
    · have hkL : k < L.length := by have := HN.out; omega
      obtain ⟨g1, off, rfl, hcc⟩ := HRD.out (by omega)
      obtain ⟨c1, c2, c3, c4⟩ := hcc k hkL
      have hgb := hb.block g1 (lt_of_cell c1)
      have c1' := (World.cell?_of_block (w := w0) (w' := wr) hgb).trans c1
      have c2' := (World.cell?_of_block (w := w0) (w' := wr) hgb).trans c2
      have c3' := (World.cell?_of_block (w := w0) (w' := wr) hgb).trans c3
      have c4' := (World.cell?_of_block (w := w0) (w' := wr) hgb).trans c4
      have HT := Lib.hid (refFold_take kd c q hkL)
      clear c1 c2 c3 c4 hgb hcc hkL
      obtain ⟨m, hm⟩ : ∃ m, m = L.getD k m0 := ⟨_, rfl⟩
      rw [← hm] at c1' c2' c3' c4' HT
      clear hm
      have HROW := Lib.hid hrow
      have HB := Lib.hid hb
      have hA1 := (HA.out.below hb HA.out.lt).alloc (.cells #[.string m.client, .int .i64 m.since, .int .i64 m.qos, .bool m.on] 37)
      have e0' := hA1.cell 0
      have e1' := hA1.cell 1
      have e2' := hA1.cell 2
      clear hrow hb hA1
      generalize refFold kd c q (L.take k) = F at *
      obtain ⟨M, is, ch⟩ := F
      dsimp only at *
      have HB1 := Lib.hid (HB.out.alloc HB.out.size (.cells #[.string m.client, .int .i64 m.since, .int .i64 m.qos, .bool m.on] 37))
      have HROW1 := Lib.hid (show MRow (wr.alloc (.cells #[.string m.client, .int .i64 m.since, .int .i64 m.qos, .bool m.on] 37)) w0.heap.size (.slice va M.length vc) M from HROW.out.below ((Below.refl _ wr).alloc (Nat.le_refl _) _))
      have hwr := HB.out.size
      by_cases hc : m.client = c
      · have t1 : (m.client.toList == c.toList) = true := by rw [eq_text]; exact decide_eq_true hc
        have HX := Lib.hid (Blk.made wr 37 #[.string m.client, .int .i64 m.since, .int .i64 m.qos, .bool m.on])
        by_cases k1 : kd = 1
        · subst k1
          have HT2 := Lib.hid (show refFold 1 c q (L.take (k + 1)) = (M ++ [setQ m q], true, ch) by rw [HT.out]; simp [refStep, hc])
          clear hc
          clear HX HT
          go_wp2_with (at_builtin; go_must (refine append_mem rfl _ _ rfl ((HB.out.alloc HB.out.size _).alloc (by simpa using Nat.le_succ_of_le HB.out.size) _) ((HROW.out.alloc _).alloc _) rfl ⟨wr.heap.size + 1, 0, none⟩ 1 rfl (setQ m q) (news_mem (by simp) (setQ m q)) (by omega) ?_))
          intro v5 w5 h5 hb5
          have H5 := Lib.hid h5
          have HB5 := Lib.hid hb5
          clear h5 hb5
          go_wp2_with fail
          go_roundw
          case rel => exact ⟨k + 1, by omega, by go_num, by rw [HT2.out], by rw [HT2.out], by rw [HT2.out]; exact H5.out, HB5.out⟩
          case measure => simp [intOf]; omega
        · have b1 : (kd == 1) = false := beq_eq_false_iff_ne.2 k1
          by_cases k2 : kd = 2
          · subst k2
            have HT2 := Lib.hid (show refFold 2 c q (L.take (k + 1)) = (M, true, true) by rw [HT.out]; simp [refStep, hc])
            clear hc HX HT k1 b1
            go_wp2_with fail
            go_roundw
            case rel => exact ⟨k + 1, by omega, by go_num, by rw [HT2.out], by rw [HT2.out], by rw [HT2.out]; exact HROW1.out, HB1.out⟩
            case measure => simp [intOf]; omega
          · have b2 : (kd == 2) = false := beq_eq_false_iff_ne.2 k2
            by_cases k3 : kd = 3
            · subst k3
              have HT2 := Lib.hid (show refFold 3 c q (L.take (k + 1)) = (M ++ [setOn m true], true, m.on != true) by rw [HT.out]; simp [refStep, hc])
              clear hc k1 b1 k2 b2
              clear HX HT
              go_wp2_with (at_builtin; go_must (refine append_mem rfl _ _ rfl ((HB.out.alloc HB.out.size _).alloc (by simpa using Nat.le_succ_of_le HB.out.size) _) ((HROW.out.alloc _).alloc _) rfl ⟨wr.heap.size + 1, 0, none⟩ 1 rfl (setOn m true) (news_mem (by simp) (setOn m true)) (by omega) ?_))
              intro v5 w5 h5 hb5
              have H5 := Lib.hid h5
              have HB5 := Lib.hid hb5
              clear h5 hb5
              go_wp2_with fail
              go_roundw
              case rel => exact ⟨k + 1, by omega, by go_num, by rw [HT2.out], by rw [HT2.out]; cases m.on <;> rfl, by rw [HT2.out]; exact H5.out, HB5.out⟩
              case measure => simp [intOf]; omega
            · have b3 : (kd == 3) = false := beq_eq_false_iff_ne.2 k3
              by_cases k4 : kd = 4
              · subst k4
                have HT2 := Lib.hid (show refFold 4 c q (L.take (k + 1)) = (M ++ [setOn m false], true, m.on != false) by rw [HT.out]; simp [refStep, hc])
                clear hc k1 b1 k2 b2 k3 b3
                clear HX HT
                go_wp2_with (at_builtin; go_must (refine append_mem rfl _ _ rfl ((HB.out.alloc HB.out.size _).alloc (by simpa using Nat.le_succ_of_le HB.out.size) _) ((HROW.out.alloc _).alloc _) rfl ⟨wr.heap.size + 1, 0, none⟩ 1 rfl (setOn m false) (news_mem (by simp) (setOn m false)) (by omega) ?_))
                intro v5 w5 h5 hb5
                have H5 := Lib.hid h5
                have HB5 := Lib.hid hb5
                clear h5 hb5
                go_wp2_with fail
                go_roundw
                case rel => exact ⟨k + 1, by omega, by go_num, by rw [HT2.out], by rw [HT2.out]; cases m.on <;> rfl, by rw [HT2.out]; exact H5.out, HB5.out⟩
                case measure => simp [intOf]; omega
              · have b4 : (kd == 4) = false := beq_eq_false_iff_ne.2 k4
                have HT2 := Lib.hid (show refFold kd c q (L.take (k + 1)) = (M ++ [m], true, ch) by rw [HT.out]; simp [refStep, hc, k1, k2, k3, k4])
                clear hc HX HT k1 k2 k3 k4
                go_wp2_with (at_builtin; go_must (refine append_mem rfl _ _ rfl (HB1.out.alloc HB1.out.size _) (HROW1.out.alloc _) rfl ⟨wr.heap.size + 1, 0, none⟩ 1 rfl m (news_mem (by simp) m) (by omega) ?_))
                intro v5 w5 h5 hb5
                have H5 := Lib.hid h5
                have HB5 := Lib.hid hb5
                clear h5 hb5
                go_wp2_with fail
                go_roundw
                case rel => exact ⟨k + 1, by omega, by go_num, by rw [HT2.out], by rw [HT2.out], by rw [HT2.out]; exact H5.out, HB5.out⟩
                case measure => simp [intOf]; omega
      · have t1 : (m.client.toList == c.toList) = false := by rw [eq_text]; exact decide_eq_false hc
        have HT2 := Lib.hid (show refFold kd c q (L.take (k + 1)) = (M ++ [m], is, ch) by rw [HT.out]; simp [refStep, hc])
        clear hc HT
        go_wp2_with (at_builtin; go_must (refine append_mem rfl _ _ rfl (HB1.out.alloc HB1.out.size _) (HROW1.out.alloc _) rfl ⟨wr.heap.size + 1, 0, none⟩ 1 rfl m (news_mem (by simp) m) (by omega) ?_))
        intro v5 w5 h5 hb5
        have H5 := Lib.hid h5
        have HB5 := Lib.hid hb5
        clear h5 hb5
        go_wp2_with fail
        go_roundw
        case rel => exact ⟨k + 1, by omega, by go_num, by rw [HT2.out], by rw [HT2.out], by rw [HT2.out]; exact H5.out, HB5.out⟩
        case measure => simp [intOf]; omega
    · obtain rfl : k = n := by omega
      have hfull : refFold kd c q (L.take k) = refFold kd c q L := by rw [List.take_of_length_le (by have := HN.out; omega)]
      rw [hfull] at hrow hfl ⊢
      have HROW := Lib.hid hrow
      have HB := Lib.hid hb
      have hB := HBLK.out.below hb HBLK.out.lt
      have d1 := hB.cell 1
      have f0 := hB.frozen 0
      have f1 := hB.frozen 1
      have HBK := Lib.hid hB
      have HR := Lib.hid (refAct_def kd c q L gen)
      have HL := Lib.hid (rdone (Nat.lt_of_lt_of_le HBLK.out.lt (Nat.le_refl _)) (Fr.of_below ((HGA.out ▸ HB0.out).trans (hb.mono (HGA.out ▸ HB0.out).size))) (HGA.out ▸ HB0.out).size hB hrow)
      clear hrow hb hfull hB
      generalize refAct kd c q L gen = R at *
      generalize refFold kd c q L = F at *
      obtain ⟨M, is, ch⟩ := F
      dsimp only at *
      by_cases hx : kd = 1 ∧ is = false
      · obtain ⟨rfl, rfl⟩ := hx
        have HR2 := Lib.hid (show R = (true, M ++ [MV.mk c ((gen : Int) + 1) q true], gen + 1) from HR.out.trans (if_pos ⟨rfl, rfl⟩))
        clear HR HL
        have hB0 := HB.out.size
        have KS := Lib.hid (fun W (h : Blk W g 31 #[.slice a k cp, .int .i64 gen]) => show W.cell? ⟨g, 0, none⟩ = some (.slice a k cp) ∧ W.cell? ⟨g, 1, none⟩ = some (.int .i64 gen) from ⟨h.cell 0, h.cell 1⟩)
        have q0 : wr.drew.cell? ⟨g, 1, none⟩ = some (.int .i64 gen) := (KS.out _ HBK.out).2
        have hA := HA.out.below HB.out HA.out.lt
        have q1 : wr.drew.cell? ⟨ga, 1, none⟩ = some (.string c) := hA.cell 1
        have q2 : wr.drew.cell? ⟨ga, 2, none⟩ = some (.int .i64 q) := hA.cell 2
        have hfar : some g ≠ (Value.slice va M.length vc).ownBlock := fun e => by
          have h1 := HROW.out.low g e.symm
          have h2 := HBLK.out.lt
          omega
        have hfr1 : Fr [g] w wr := Fr.of_below ((HGA.out ▸ HB0.out).trans (HB.out.mono (HGA.out ▸ HB0.out).size))
        have hsz1 : w.heap.size ≤ w0.heap.size := (HGA.out ▸ HB0.out).size
        obtain ⟨i0, hi0, hz0, hz1, hz2⟩ := info_parts Try.memInfo
        have HFR := Lib.hid hfr1
        clear hA hfr1
        have hwrap : IntKind.i64.wrap ((gen : Int) + 1) = (gen : Int) + 1 := IntWalk.i64_in _ (by omega)
        go_upto_region 22 with fail
        go_region_law ((refine step_append_lies _ (by rfl) _ _ _ (by rfl) w0.heap.size 37 i0 (.agg #[.string ⟨#[]⟩, .int .i64 0, .int .i64 0, .bool false]) 4 40 Try.underlying26 hi0 hz0 hz1 hz2 (by rfl) (by decide) (.slice va M.length vc) M.length (mcs M) (by rfl) (HROW.out.drew.alloc _) ⟨wr.heap.size, 0, none⟩ 1 1 [.string c, .int .i64 ((gen : Int) + 1), .int .i64 q, .bool true] (by rfl) (by rfl) (World.news_of_block (heap_alloc_new _ _)) (mcs_ones [MV.mk c ((gen : Int) + 1) q true]) (by omega) (by unfold maxLen; omega) (by omega) (Nat.le_trans hB0 (by simp)) _ rfl ?_; intro gg cap w3 hown3 hgrow hat hlt3; have z0 : w3.cell? ⟨g, 1, none⟩ = some (.int .i64 gen) := ((HBK.out.drew.alloc _).grown hgrow hfar).cell 1; have z1 : w3.frozen? ⟨g, 0, none⟩ = false := ((HBK.out.drew.alloc _).grown hgrow hfar).frozen 0; have z2 : w3.frozen? ⟨g, 1, none⟩ = false := ((HBK.out.drew.alloc _).grown hgrow hfar).frozen 1))
        all_goals
          have hb3 : Blk w3 g 31 #[.slice a k cp, .int .i64 gen] := (HBK.out.drew.alloc (.cells #[.string c, .int .i64 ((gen : Int) + 1), .int .i64 q, .bool true] 37)).grown hgrow hfar
          have hr3 : MRow w3 w0.heap.size (.slice (some ⟨gg, 0, none⟩) (M ++ [MV.mk c ((gen : Int) + 1) q true]).length cap) (M ++ [MV.mk c ((gen : Int) + 1) q true]) := by
            unfold MRow
            rw [List.length_append, mcs_app]
            exact hown3
          have hf3 : Fr [g] w w3 := (HFR.out.drew.alloc (.cells #[.string c, .int .i64 ((gen : Int) + 1), .int .i64 q, .bool true] 37)).grown hgrow (fun x hx => .inr (Nat.le_trans hsz1 (HROW.out.low x hx)))
          have HL := Lib.hid (show RLeft w ((w3.setCell ⟨g, 0, none⟩ (.slice (some ⟨gg, 0, none⟩) (M.length + 1) cap)).setCell ⟨g, 1, none⟩ (.int .i64 ((gen : Int) + 1))) g (.slice (some ⟨gg, 0, none⟩) (M.length + 1) cap) (M ++ [MV.mk c ((gen : Int) + 1) q true]) (gen + 1) by
            have := (rdone (Nat.lt_of_lt_of_le HBLK.out.lt (Nat.le_refl _)) hf3 hsz1 hb3 hr3).2
            simpa only [List.length_append, List.length_singleton] using this)
          have z3 := hb3.cell 0
          have hst0 := hb3.store 0 (.slice (some ⟨gg, 0, none⟩) (M.length + 1) cap)
          have e1 := hst0.cell 1
          have g1 := hst0.frozen 1
          clear hb3 hr3 hf3 hst0 hown3 hgrow hat hlt3 q0 q1 q2 d0 a0 a1 a2 d1 f0 f1 hwrap
          go_wp2_with fail
          go_ret
          rw [HR2.out]
          exact ⟨rfl, _, HL.out⟩
      · have hx2 : (kd = 1 → is = true) := fun h => by cases is with | true => rfl | false => exact absurd ⟨h, rfl⟩ hx
        have HR2 := Lib.hid (show R = (ch, M, if ch then gen + 1 else gen) from HR.out.trans (if_neg hx))
        clear HR hx
        have hst0 := HBK.out.store 0 (.slice va M.length vc)
        have e1 := hst0.cell 1
        have g1 := hst0.frozen 1
        clear hst0
        have hki : (kd = 1 ∧ is = true) ∨ (kd == 1) = false := by
          by_cases k1 : kd = 1
          · exact .inl ⟨k1, hx2 k1⟩
          · exact .inr (beq_eq_false_iff_ne.2 k1)
        clear hx2
        rcases hki with ⟨rfl, rfl⟩ | b1
        all_goals
          cases ch
          · go_wp2_with fail
            go_ret
            rw [HR2.out]
            exact ⟨rfl, _, HL.out.1⟩
          · go_wp2_with fail
            go_ret
            rw [HR2.out]
            exact ⟨rfl, _, HL.out.2⟩
end
end Go.Proofs.Ytkjghlmlfanafaa
