/- What is proved here, on plain values: of any first records what was added is there, unless it was done or gone. No conditions but those that each theorem names. What is proved here: what StorePrefix's loops hold. Conditions: those that each theorem names. -/
import Derived.Test.YtnolnhpmpjgnaaaGreatDoorRps34
import Derived.Test.YtnolnhpmpjgnaaaGreatDoorRpl34
namespace Go.Proofs.YtnolnhpmpjgnaaaGreatDoor
set_option maxRecDepth 100000
open Go.RowKit Go.Extern.Stop Go.Stop Go.Extern
abbrev Ev := Option (Ky × Bool)
def evF (s : ByteArray) : Ev := if (tkF s).no = 0 then some (kyO (tkF s).o, decide ((tkF s).o.kind = 1)) else none
def inK (k : Ky) (l : List Ky) : Bool := l.any (fun x => decide (x = k))
theorem inK_iff {k : Ky} {l : List Ky} : inK k l = true ↔ k ∈ l := by unfold inK; simp
theorem fm_congr {α β : Type} {f g : α → Option β} : ∀ {l : List α}, (∀ x ∈ l, f x = g x) → l.filterMap f = l.filterMap g
  | [], _ => rfl
  | x :: l, h => by
    rw [List.filterMap_cons, List.filterMap_cons, h x (List.mem_cons_self ..), fm_congr (fun y hy => h y (List.mem_cons_of_mem _ hy))]
/-- Which keys are there. -/
def ouStep (out : List Ky) (e : Ev) : List Ky :=
  match e with
  | none => out
  | some (k, true) => if inK k out = true then out else out ++ [k]
  | some (k, false) => out.filter (fun x => decide (x ≠ k))
def ouF (E : List Ev) : List Ky := E.foldl ouStep []
theorem ouF_snoc (E : List Ev) (e : Ev) : ouF (E ++ [e]) = ouStep (ouF E) e := by unfold ouF; rw [List.foldl_append]; rfl
/-- Was a key added last? -/
def laStep (k : Ky) (f : Bool) (e : Ev) : Bool :=
  match e with
  | none => f
  | some (k', b) => if k' = k then b else f
def laF (k : Ky) (E : List Ev) : Bool := E.foldl (laStep k) false
theorem laF_snoc (k : Ky) (E : List Ev) (e : Ev) : laF k (E ++ [e]) = laStep k (laF k E) e := by unfold laF; rw [List.foldl_append]; rfl
def okE (k : Ky) (e : Ev) : Bool :=
  match e with
  | none => true
  | some (k', b) => decide (k' ≠ k) || b
def alF (k : Ky) (E : List Ev) : Bool := E.all (okE k)
theorem ou_mem (k : Ky) (E : List Ev) : k ∈ ouF E ↔ laF k E = true := by
  induction E using snoc_ind with
  | nil => simp [ouF, laF]
  | snoc E e ih =>
    rw [ouF_snoc, laF_snoc]
    match e with
    | none => exact ih
    | some (k', true) =>
      unfold ouStep laStep
      simp only
      by_cases hk : k' = k
      · subst hk
        rw [if_pos rfl]
        split
        · rename_i h; simp [inK_iff.1 h]
        · simp
      · rw [if_neg hk, ← ih]
        split
        · rfl
        · simp only [List.mem_append, List.mem_singleton]
          exact ⟨fun h => h.elim id (fun e => absurd e.symm hk), .inl⟩
    | some (k', false) =>
      unfold ouStep laStep
      simp only
      by_cases hk : k' = k
      · subst hk
        simp
      · rw [if_neg hk, ← ih]
        simp [Ne.symm hk]
theorem ou_nodup (E : List Ev) : (ouF E).Nodup := by
  induction E using snoc_ind with
  | nil => exact List.nodup_nil
  | snoc E e ih =>
    rw [ouF_snoc]
    match e with
    | none => exact ih
    | some (k', true) =>
      unfold ouStep
      simp only
      split
      · exact ih
      · rename_i h
        rw [List.nodup_append]
        exact ⟨ih, by simp, fun a ha b hb => by rw [List.mem_singleton] at hb; subst hb; exact fun e => h (inK_iff.2 (e ▸ ha))⟩
    | some (k', false) => exact ih.filter _
theorem la_live (k : Ky) (C : List Ev) : ∀ f : Bool, f = true → alF k C = true → C.foldl (laStep k) f = true := by
  induction C with
  | nil => exact fun f hf _ => hf
  | cons e C ih =>
    intro f hf hC
    unfold alF at hC
    rw [List.all_cons, Bool.and_eq_true] at hC
    rw [List.foldl_cons]
    refine ih _ ?_ hC.2
    unfold laStep
    match e, hC.1 with
    | none, _ => exact hf
    | some (k', b), h =>
      simp only
      split
      · rename_i hk
        simpa [okE, hk] using h
      · exact hf
/-- What was added, and is live, is there. -/
theorem ou_live {k : Ky} {E : List Ev} {i : Nat} (hi : E[i]? = some (some (k, true))) (hl : alF k (E.drop (i + 1)) = true) : k ∈ ouF E := by
  rw [ou_mem]
  obtain ⟨hlt, he⟩ := List.getElem?_eq_some_iff.1 hi
  have hE : E = E.take i ++ (some (k, true) :: E.drop (i + 1)) := by
    rw [← he, ← List.drop_eq_getElem_cons hlt, List.take_append_drop]
  rw [hE]
  unfold laF
  rw [List.foldl_append, List.foldl_cons]
  exact la_live k _ _ (by unfold laStep; simp) hl
/-- The first addition of what is there. -/
def gdE (E : List Ev) (i : Nat) : Option Ky :=
  match E[i]? with
  | some (some (k, true)) => if !laF k (E.take i) && alF k (E.drop (i + 1)) then some k else none
  | _ => none
def gkF (E : List Ev) (n : Nat) : List Ky := (List.range n).filterMap (gdE E)
theorem gkF_next (E : List Ev) (n : Nat) : gkF E (n + 1) = gkF E n ++ (gdE E n).toList := by
  unfold gkF
  rw [List.range_succ, List.filterMap_append]
  simp [List.filterMap_cons]
  cases gdE E n <;> rfl
theorem gd_snoc {E : List Ev} {e : Ev} {i : Nat} (hi : i < E.length) : gdE (E ++ [e]) i = (gdE E i).bind (fun k => if okE k e then some k else none) := by
  unfold gdE
  rw [List.getElem?_append_left hi, List.take_append_of_le_length (by omega), List.drop_append_of_le_length (by omega)]
  match E[i]? with
  | none => rfl
  | some none => rfl
  | some (some (k, false)) => rfl
  | some (some (k, true)) =>
    simp only
    unfold alF
    rw [List.all_append]
    have h1 : [e].all (okE k) = okE k e := by simp
    rw [h1]
    cases laF k (E.take i) <;> cases (E.drop (i + 1)).all (okE k) <;> cases hk : okE k e <;> simp [hk]
theorem gk_all (E : List Ev) : gkF E E.length = ouF E := by
  induction E using snoc_ind with
  | nil => rfl
  | snoc E e ih =>
    rw [List.length_append, List.length_singleton, gkF_next, ouF_snoc]
    have h1 : gkF (E ++ [e]) E.length = (gkF E E.length).filter (fun k => okE k e) := by
      unfold gkF
      rw [List.filter_filterMap]
      refine fm_congr fun i hi => ?_
      rw [gd_snoc (List.mem_range.1 hi)]
      cases gdE E i <;> simp [Option.filter]
    rw [h1, ih]
    have h2 : gdE (E ++ [e]) E.length = match e with | some (k, true) => if laF k E then none else some k | _ => none := by
      unfold gdE
      rw [List.getElem?_append_right (Nat.le_refl _), Nat.sub_self, List.take_left, show E.length + 1 = (E ++ [e]).length by simp, List.drop_length]
      match e with
      | none => rfl
      | some (k, false) => rfl
      | some (k, true) =>
        simp only [List.getElem?_cons_zero, alF, List.all_nil, Bool.and_true]
        cases laF k E <;> rfl
    rw [h2]
    match e with
    | none =>
      unfold ouStep
      simp [okE, List.filter_eq_self.2]
    | some (k, true) =>
      unfold ouStep
      simp only
      rw [List.filter_eq_self.2 (by intro x _; simp [okE])]
      by_cases hk : k ∈ ouF E
      · rw [if_pos (inK_iff.2 hk), if_pos ((ou_mem k E).1 hk)]
        simp
      · rw [if_neg (fun h => hk (inK_iff.1 h)), if_neg (fun h => hk ((ou_mem k E).2 h))]
        rfl
    | some (k, false) =>
      unfold ouStep
      simp only [okE, Bool.or_false, Option.toList, List.append_nil]
      refine List.filter_congr fun x _ => ?_
      rw [decide_eq_decide]
      exact ⟨fun h e => h e.symm, fun h e => h e.symm⟩
/-- The document's messages have these keys. -/
theorem rd_keys (l : List ByteArray) : (rdF l).out.map kyM = ouF (l.map evF) := by
  induction l using snoc_ind with
  | nil => rfl
  | snoc l b ih =>
    rw [List.map_append, List.map_singleton, ouF_snoc, ← ih, rdF_snoc]
    generalize rdF l = s
    unfold rdStep evF
    by_cases h0 : (tkF b).no = 0
    · rw [if_pos h0, if_pos h0]
      by_cases hk : (tkF b).o.kind = 1
      · rw [if_pos hk, decide_eq_true hk]
        have hky := (tk_key h0 hk).1
        unfold ouStep
        simp only
        by_cases hf : (s.out.filter (fun m => decide (kyM m ≠ kyO (tkF b).o))).length = s.out.length
        · have hno : ¬ inK (kyO (tkF b).o) (s.out.map kyM) = true := by
            intro hi
            obtain ⟨m, hm, he⟩ := List.mem_map.1 (inK_iff.1 hi)
            have := (List.length_filter_eq_length_iff.1 hf) m hm
            simp [he] at this
          rw [if_pos hf, if_neg hno]
          simp [hky]
        · have hyes : inK (kyO (tkF b).o) (s.out.map kyM) = true := by
            apply Classical.byContradiction
            intro hn
            refine hf (List.length_filter_eq_length_iff.2 fun m hm => ?_)
            simp only [ne_eq, decide_eq_true_eq]
            exact fun e => hn (inK_iff.2 (e ▸ List.mem_map_of_mem (f := kyM) hm))
          rw [if_neg hf, if_pos hyes]
      · rw [if_neg hk, decide_eq_false hk]
        unfold ouStep
        simp only
        rw [List.filter_map]
        rfl
    · rw [if_neg h0, if_neg h0]
      rfl
theorem got_keys (l : List ByteArray) : (lfP (rpF l).pr 0 (rpF l).all).map kyM = ouF (l.map evF) := by
  rw [← (rp_inv l).out]
  exact rd_keys l
end Go.Proofs.YtnolnhpmpjgnaaaGreatDoor
namespace Go.Proofs.YtnolnhpmpjgnaaaGreatDoor
set_option maxRecDepth 100000
open Go.RowKit Go.Extern.Stop Go.Stop Go.Extern
def lvl (E : List Ev) (i : Nat) (k : Ky) (j : Nat) : Bool := alF k ((E.take j).drop (i + 1))
def fsl (E : List Ev) (i : Nat) (k : Ky) (j : Nat) : Bool := laF k (E.take (min j i))
theorem take_ev {E : List Ev} {j : Nat} {e : Ev} (he : E[j]? = some e) : E.take (j + 1) = E.take j ++ [e] := by
  rw [List.take_add_one, he]
  rfl
theorem lvl_next {E : List Ev} {i j : Nat} {k : Ky} {e : Ev} (he : E[j]? = some e) : lvl E i k (j + 1) = (lvl E i k j && (decide (j ≤ i) || okE k e)) := by
  have hj : j < E.length := (List.getElem?_eq_some_iff.1 he).1
  unfold lvl
  by_cases h : j ≤ i
  · rw [decide_eq_true h, List.drop_eq_nil_of_le (by rw [List.length_take]; omega), List.drop_eq_nil_of_le (by rw [List.length_take]; omega)]
    rfl
  · rw [decide_eq_false h, take_ev he, List.drop_append_of_le_length (by rw [List.length_take]; omega)]
    unfold alF
    rw [List.all_append]
    simp
theorem fsl_next {E : List Ev} {i j : Nat} {k : Ky} {e : Ev} (he : E[j]? = some e) : fsl E i k (j + 1) = if j < i then laStep k (fsl E i k j) e else fsl E i k j := by
  unfold fsl
  by_cases h : j < i
  · rw [if_pos h, show min (j + 1) i = j + 1 by omega, show min j i = j by omega, take_ev he, laF_snoc]
  · rw [if_neg h, show min (j + 1) i = i by omega, show min j i = i by omega]
theorem lvl_zero (E : List Ev) (i : Nat) (k : Ky) : lvl E i k 0 = true := by unfold lvl; simp [alF]
theorem fsl_zero (E : List Ev) (i : Nat) (k : Ky) : fsl E i k 0 = false := by unfold fsl; simp [laF]
theorem lvl_end (E : List Ev) (i : Nat) (k : Ky) : lvl E i k E.length = alF k (E.drop (i + 1)) := by unfold lvl; rw [List.take_length]
theorem fsl_end (E : List Ev) (i : Nat) (k : Ky) (hi : i < E.length) : fsl E i k E.length = laF k (E.take i) := by unfold fsl; rw [show min E.length i = i by omega]
/-- An event that says nothing of the key changes nothing. -/
theorem ev_other {E : List Ev} {i j : Nat} {k : Ky} {e : Ev} (he : E[j]? = some e) (hn : ∀ b, e ≠ some (k, b)) : lvl E i k (j + 1) = lvl E i k j ∧ fsl E i k (j + 1) = fsl E i k j := by
  rw [lvl_next he, fsl_next he]
  match e, hn with
  | none, _ => simp [okE, laStep]
  | some (k', b), hn =>
    have hk : k' ≠ k := fun h => hn b (by rw [h])
    simp [okE, laStep, hk]
theorem ev_self {E : List Ev} {i : Nat} {k : Ky} {e : Ev} (he : E[i]? = some e) : lvl E i k (i + 1) = lvl E i k i ∧ fsl E i k (i + 1) = fsl E i k i := by
  rw [lvl_next he, fsl_next he]
  simp
theorem ev_late {E : List Ev} {i j : Nat} {k : Ky} {b : Bool} (he : E[j]? = some (some (k, b))) (hij : i < j) : lvl E i k (j + 1) = (lvl E i k j && b) ∧ fsl E i k (j + 1) = fsl E i k j := by
  rw [lvl_next he, fsl_next he, decide_eq_false (by omega), if_neg (by omega)]
  simp [okE]
theorem ev_soon {E : List Ev} {i j : Nat} {k : Ky} {b : Bool} (he : E[j]? = some (some (k, b))) (hij : j < i) : lvl E i k (j + 1) = lvl E i k j ∧ fsl E i k (j + 1) = b := by
  rw [lvl_next he, fsl_next he, decide_eq_true (by omega), if_pos hij]
  simp [laStep]
theorem cnt_le {l : List Ky} (h : l.Nodup) (k : Ky) : (l.filter (fun x => decide (x = k))).length ≤ 1 := by
  induction l with
  | nil => exact Nat.zero_le _
  | cons x l ih =>
    rw [List.nodup_cons] at h
    rw [List.filter_cons]
    by_cases hx : x = k
    · rw [if_pos (by simp [hx]), List.filter_eq_nil_iff.2 (fun y hy => by
        simp only [decide_eq_true_eq]
        exact fun e => h.1 (by rw [hx, ← e]; exact hy))]
      exact Nat.le_refl _
    · rw [if_neg (by simp [hx])]
      exact ih h.2
theorem cnt_mem {l : List Ky} {k : Ky} (h : k ∈ l) : 1 ≤ (l.filter (fun x => decide (x = k))).length := by
  have : k ∈ l.filter (fun x => decide (x = k)) := List.mem_filter.2 ⟨h, by simp⟩
  exact List.length_pos_of_mem this
theorem ky_eq (o1 o2 : OV) (h1 : 0 ≤ o1.seq ∧ o1.seq < 4294967296) (h2 : 0 ≤ o2.seq ∧ o2.seq < 4294967296) : kyO o1 = kyO o2 ↔ o1.grp = o2.grp ∧ o1.seq = o2.seq := by
  unfold kyO
  rw [Prod.mk.injEq]
  refine and_congr_right fun _ => ⟨fun h => ?_, fun h => by rw [h]⟩
  have h3 := congrArg Fin.val h
  rw [Fin.val_ofNat, Fin.val_ofNat] at h3
  omega
theorem kym_eq (m : MV) (o : OV) (h1 : 0 ≤ m.seq ∧ m.seq < 4294967296) (h2 : 0 ≤ o.seq ∧ o.seq < 4294967296) : kyM m = kyO o ↔ m.grp = o.grp ∧ m.seq = o.seq := by
  unfold kyM kyO
  rw [Prod.mk.injEq]
  refine and_congr_right fun _ => ⟨fun h => ?_, fun h => by rw [h]⟩
  have h3 := congrArg Fin.val h
  rw [Fin.val_ofNat, Fin.val_ofNat] at h3
  omega
/-- How often a key is among messages. -/
def cntQ (Q : QL) (k : Ky) (j : Nat) : Nat := ((Q.take j).filter (fun q => decide (kyM q.m = k))).length
theorem cntQ_next (Q : QL) (k : Ky) {j : Nat} (hj : j < Q.length) : cntQ Q k (j + 1) = cntQ Q k j + (if kyM (Q.getD j q0).m = k then 1 else 0) := by
  unfold cntQ
  rw [List.take_add_one, List.getD_eq_getElem?_getD, List.getElem?_eq_getElem hj]
  simp only [Option.toList, Option.getD, List.filter_append, List.length_append, List.filter_cons, List.filter_nil]
  split <;> simp_all
theorem cntQ_all (Q : QL) (k : Ky) : cntQ Q k Q.length = (((Q.map QV.m).map kyM).filter (fun x => decide (x = k))).length := by
  unfold cntQ
  rw [List.take_length, List.map_map, List.filter_map, List.length_map]
  rfl
theorem cntQ_le (Q : QL) (k : Ky) (j : Nat) : cntQ Q k j ≤ j := by
  unfold cntQ
  exact Nat.le_trans (List.length_filter_le _ _) (by rw [List.length_take]; omega)
theorem gkF_le (E : List Ev) : ∀ n, (gkF E n).length ≤ n := by
  intro n
  unfold gkF
  exact Nat.le_trans (List.length_filterMap_le _ _) (by rw [List.length_range]; exact Nat.le_refl _)
theorem srd_below {w w' : World} {A : Option Addr} {L : List ByteArray} (h : SRd w A L) (hb : Below w.heap.size w w') : SRd w' A L := fun hp => by
  obtain ⟨g, off, e, hc⟩ := h hp
  exact ⟨g, off, e, fun k hk => (hb.cell (p := ⟨g, off + k, none⟩) (lt_of_cell (hc k hk))).trans (hc k hk)⟩
theorem mrd_below {w w' : World} {A : Option Addr} {Q : QL} (h : MRd w A Q) (hb : Below w.heap.size w w') : MRd w' A Q := fun hp => by
  obtain ⟨g, off, e, hc⟩ := h hp
  exact ⟨g, off, e, fun k hk => (hc k hk).at (hb.block g (lt_of_cell' (hc k hk).c0))⟩
theorem ev_at {L : List ByteArray} {k i : Nat} (hi : i < k) (hk : k ≤ L.length) : ((L.take k).map evF)[i]? = some (evF (L.getD i e0)) := by
  rw [List.getElem?_map, List.getElem?_take_of_lt hi, List.getD_eq_getElem?_getD, List.getElem?_eq_getElem (by omega)]
  rfl
/-- The first three cells of something that is recorded. -/
theorem ov_three (o : OV) (A : Option Addr) (c : Nat) : ∃ C : Array Value, o.agg A c = .agg C ∧ C.size = 12 ∧ C.toList.all (·.oneCell') = true ∧ C[0]? = some (.int .i64 o.kind) ∧ C[1]? = some (.string o.grp) ∧ C[2]? = some (.int .i64 o.seq) := ⟨_, rfl, rfl, by simp [Value.oneCell'], rfl, rfl, rfl⟩
end Go.Proofs.YtnolnhpmpjgnaaaGreatDoor
