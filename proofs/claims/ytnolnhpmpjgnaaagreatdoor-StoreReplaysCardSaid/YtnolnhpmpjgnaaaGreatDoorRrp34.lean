/- What is proved here, on plain values: of any first records what was added is there, unless it was done or gone. No conditions but those that each theorem names. What is proved here: what StorePrefix's loops hold. Conditions: those that each theorem names. What is proved here: what records come to (the document's Replay). Conditions: up to 20 records of few bytes. -/
import Derived.Test.YtnolnhpmpjgnaaaGreatDoorRps34
import Derived.Test.YtnolnhpmpjgnaaaGreatDoorRpl34
import Derived.Test.YtnolnhpmpjgnaaaGreatDoorRtk34
namespace Go.Proofs.YtnolnhpmpjgnaaaGreatDoor
set_option maxRecDepth 100000
open Go.RowKit Go.Extern.Stop Go.Stop Go.Extern
abbrev Ev := Option (Ky × Bool)
def evF (s : ByteArray) : Ev := if (tkF s).no = 0 then some (kyO (tkF s).o, decide ((tkF s).o.kind = 1)) else none
def inK (k : Ky) (l : List Ky) : Bool := l.any (fun x => decide (x = k))
theorem inK_iff {k : Ky} {l : List Ky} : inK k l = true ↔ k ∈ l := by unfold inK; simp
theorem fm_congr {α β : Type} {f g : α → Option β} : ∀ {l : List α}, (∀ x ∈ l, f x = g x) → l.filterMap f = l.filterMap g
  | [], _ => rfl
  | x :: l, h => by
    rw [List.filterMap_cons, List.filterMap_cons, h x (List.mem_cons_self ..), fm_congr (fun y hy => h y (List.mem_cons_of_mem _ hy))]
/-- Which keys are there. -/
def ouStep (out : List Ky) (e : Ev) : List Ky :=
  match e with
  | none => out
  | some (k, true) => if inK k out = true then out else out ++ [k]
  | some (k, false) => out.filter (fun x => decide (x ≠ k))
def ouF (E : List Ev) : List Ky := E.foldl ouStep []
theorem ouF_snoc (E : List Ev) (e : Ev) : ouF (E ++ [e]) = ouStep (ouF E) e := by unfold ouF; rw [List.foldl_append]; rfl
/-- Was a key added last? -/
def laStep (k : Ky) (f : Bool) (e : Ev) : Bool :=
  match e with
  | none => f
  | some (k', b) => if k' = k then b else f
def laF (k : Ky) (E : List Ev) : Bool := E.foldl (laStep k) false
theorem laF_snoc (k : Ky) (E : List Ev) (e : Ev) : laF k (E ++ [e]) = laStep k (laF k E) e := by unfold laF; rw [List.foldl_append]; rfl
def okE (k : Ky) (e : Ev) : Bool :=
  match e with
  | none => true
  | some (k', b) => decide (k' ≠ k) || b
def alF (k : Ky) (E : List Ev) : Bool := E.all (okE k)
theorem ou_mem (k : Ky) (E : List Ev) : k ∈ ouF E ↔ laF k E = true := by
  induction E using snoc_ind with
  | nil => simp [ouF, laF]
  | snoc E e ih =>
    rw [ouF_snoc, laF_snoc]
    match e with
    | none => exact ih
    | some (k', true) =>
      unfold ouStep laStep
      simp only
      by_cases hk : k' = k
      · subst hk
        rw [if_pos rfl]
        split
        · rename_i h; simp [inK_iff.1 h]
        · simp
      · rw [if_neg hk, ← ih]
        split
        · rfl
        · simp only [List.mem_append, List.mem_singleton]
          exact ⟨fun h => h.elim id (fun e => absurd e.symm hk), .inl⟩
    | some (k', false) =>
      unfold ouStep laStep
      simp only
      by_cases hk : k' = k
      · subst hk
        simp
      · rw [if_neg hk, ← ih]
        simp [Ne.symm hk]
theorem ou_nodup (E : List Ev) : (ouF E).Nodup := by
  induction E using snoc_ind with
  | nil => exact List.nodup_nil
  | snoc E e ih =>
    rw [ouF_snoc]
    match e with
    | none => exact ih
    | some (k', true) =>
      unfold ouStep
      simp only
      split
      · exact ih
      · rename_i h
        rw [List.nodup_append]
        exact ⟨ih, by simp, fun a ha b hb => by rw [List.mem_singleton] at hb; subst hb; exact fun e => h (inK_iff.2 (e ▸ ha))⟩
    | some (k', false) => exact ih.filter _
theorem la_live (k : Ky) (C : List Ev) : ∀ f : Bool, f = true → alF k C = true → C.foldl (laStep k) f = true := by
  induction C with
  | nil => exact fun f hf _ => hf
  | cons e C ih =>
    intro f hf hC
    unfold alF at hC
    rw [List.all_cons, Bool.and_eq_true] at hC
    rw [List.foldl_cons]
    refine ih _ ?_ hC.2
    unfold laStep
    match e, hC.1 with
    | none, _ => exact hf
    | some (k', b), h =>
      simp only
      split
      · rename_i hk
        simpa [okE, hk] using h
      · exact hf
/-- What was added, and is live, is there. -/
theorem ou_live {k : Ky} {E : List Ev} {i : Nat} (hi : E[i]? = some (some (k, true))) (hl : alF k (E.drop (i + 1)) = true) : k ∈ ouF E := by
  rw [ou_mem]
  obtain ⟨hlt, he⟩ := List.getElem?_eq_some_iff.1 hi
  have hE : E = E.take i ++ (some (k, true) :: E.drop (i + 1)) := by
    rw [← he, ← List.drop_eq_getElem_cons hlt, List.take_append_drop]
  rw [hE]
  unfold laF
  rw [List.foldl_append, List.foldl_cons]
  exact la_live k _ _ (by unfold laStep; simp) hl
/-- The first addition of what is there. -/
def gdE (E : List Ev) (i : Nat) : Option Ky :=
  match E[i]? with
  | some (some (k, true)) => if !laF k (E.take i) && alF k (E.drop (i + 1)) then some k else none
  | _ => none
def gkF (E : List Ev) (n : Nat) : List Ky := (List.range n).filterMap (gdE E)
theorem gkF_next (E : List Ev) (n : Nat) : gkF E (n + 1) = gkF E n ++ (gdE E n).toList := by
  unfold gkF
  rw [List.range_succ, List.filterMap_append]
  simp [List.filterMap_cons]
  cases gdE E n <;> rfl
theorem gd_snoc {E : List Ev} {e : Ev} {i : Nat} (hi : i < E.length) : gdE (E ++ [e]) i = (gdE E i).bind (fun k => if okE k e then some k else none) := by
  unfold gdE
  rw [List.getElem?_append_left hi, List.take_append_of_le_length (by omega), List.drop_append_of_le_length (by omega)]
  match E[i]? with
  | none => rfl
  | some none => rfl
  | some (some (k, false)) => rfl
  | some (some (k, true)) =>
    simp only
    unfold alF
    rw [List.all_append]
    have h1 : [e].all (okE k) = okE k e := by simp
    rw [h1]
    cases laF k (E.take i) <;> cases (E.drop (i + 1)).all (okE k) <;> cases hk : okE k e <;> simp [hk]
theorem gk_all (E : List Ev) : gkF E E.length = ouF E := by
  induction E using snoc_ind with
  | nil => rfl
  | snoc E e ih =>
    rw [List.length_append, List.length_singleton, gkF_next, ouF_snoc]
    have h1 : gkF (E ++ [e]) E.length = (gkF E E.length).filter (fun k => okE k e) := by
      unfold gkF
      rw [List.filter_filterMap]
      refine fm_congr fun i hi => ?_
      rw [gd_snoc (List.mem_range.1 hi)]
      cases gdE E i <;> simp [Option.filter]
    rw [h1, ih]
    have h2 : gdE (E ++ [e]) E.length = match e with | some (k, true) => if laF k E then none else some k | _ => none := by
      unfold gdE
      rw [List.getElem?_append_right (Nat.le_refl _), Nat.sub_self, List.take_left, show E.length + 1 = (E ++ [e]).length by simp, List.drop_length]
      match e with
      | none => rfl
      | some (k, false) => rfl
      | some (k, true) =>
        simp only [List.getElem?_cons_zero, alF, List.all_nil, Bool.and_true]
        cases laF k E <;> rfl
    rw [h2]
    match e with
    | none =>
      unfold ouStep
      simp [okE, List.filter_eq_self.2]
    | some (k, true) =>
      unfold ouStep
      simp only
      rw [List.filter_eq_self.2 (by intro x _; simp [okE])]
      by_cases hk : k ∈ ouF E
      · rw [if_pos (inK_iff.2 hk), if_pos ((ou_mem k E).1 hk)]
        simp
      · rw [if_neg (fun h => hk (inK_iff.1 h)), if_neg (fun h => hk ((ou_mem k E).2 h))]
        rfl
    | some (k, false) =>
      unfold ouStep
      simp only [okE, Bool.or_false, Option.toList, List.append_nil]
      refine List.filter_congr fun x _ => ?_
      rw [decide_eq_decide]
      exact ⟨fun h e => h e.symm, fun h e => h e.symm⟩
/-- The document's messages have these keys. -/
theorem rd_keys (l : List ByteArray) : (rdF l).out.map kyM = ouF (l.map evF) := by
  induction l using snoc_ind with
  | nil => rfl
  | snoc l b ih =>
    rw [List.map_append, List.map_singleton, ouF_snoc, ← ih, rdF_snoc]
    generalize rdF l = s
    unfold rdStep evF
    by_cases h0 : (tkF b).no = 0
    · rw [if_pos h0, if_pos h0]
      by_cases hk : (tkF b).o.kind = 1
      · rw [if_pos hk, decide_eq_true hk]
        have hky := (tk_key h0 hk).1
        unfold ouStep
        simp only
        by_cases hf : (s.out.filter (fun m => decide (kyM m ≠ kyO (tkF b).o))).length = s.out.length
        · have hno : ¬ inK (kyO (tkF b).o) (s.out.map kyM) = true := by
            intro hi
            obtain ⟨m, hm, he⟩ := List.mem_map.1 (inK_iff.1 hi)
            have := (List.length_filter_eq_length_iff.1 hf) m hm
            simp [he] at this
          rw [if_pos hf, if_neg hno]
          simp [hky]
        · have hyes : inK (kyO (tkF b).o) (s.out.map kyM) = true := by
            apply Classical.byContradiction
            intro hn
            refine hf (List.length_filter_eq_length_iff.2 fun m hm => ?_)
            simp only [ne_eq, decide_eq_true_eq]
            exact fun e => hn (inK_iff.2 (e ▸ List.mem_map_of_mem (f := kyM) hm))
          rw [if_neg hf, if_pos hyes]
      · rw [if_neg hk, decide_eq_false hk]
        unfold ouStep
        simp only
        rw [List.filter_map]
        rfl
    · rw [if_neg h0, if_neg h0]
      rfl
theorem got_keys (l : List ByteArray) : (lfP (rpF l).pr 0 (rpF l).all).map kyM = ouF (l.map evF) := by
  rw [← (rp_inv l).out]
  exact rd_keys l
end Go.Proofs.YtnolnhpmpjgnaaaGreatDoor
namespace Go.Proofs.YtnolnhpmpjgnaaaGreatDoor
set_option maxRecDepth 100000
open Go.RowKit Go.Extern.Stop Go.Stop Go.Extern
def lvl (E : List Ev) (i : Nat) (k : Ky) (j : Nat) : Bool := alF k ((E.take j).drop (i + 1))
def fsl (E : List Ev) (i : Nat) (k : Ky) (j : Nat) : Bool := laF k (E.take (min j i))
theorem take_ev {E : List Ev} {j : Nat} {e : Ev} (he : E[j]? = some e) : E.take (j + 1) = E.take j ++ [e] := by
  rw [List.take_add_one, he]
  rfl
theorem lvl_next {E : List Ev} {i j : Nat} {k : Ky} {e : Ev} (he : E[j]? = some e) : lvl E i k (j + 1) = (lvl E i k j && (decide (j ≤ i) || okE k e)) := by
  have hj : j < E.length := (List.getElem?_eq_some_iff.1 he).1
  unfold lvl
  by_cases h : j ≤ i
  · rw [decide_eq_true h, List.drop_eq_nil_of_le (by rw [List.length_take]; omega), List.drop_eq_nil_of_le (by rw [List.length_take]; omega)]
    rfl
  · rw [decide_eq_false h, take_ev he, List.drop_append_of_le_length (by rw [List.length_take]; omega)]
    unfold alF
    rw [List.all_append]
    simp
theorem fsl_next {E : List Ev} {i j : Nat} {k : Ky} {e : Ev} (he : E[j]? = some e) : fsl E i k (j + 1) = if j < i then laStep k (fsl E i k j) e else fsl E i k j := by
  unfold fsl
  by_cases h : j < i
  · rw [if_pos h, show min (j + 1) i = j + 1 by omega, show min j i = j by omega, take_ev he, laF_snoc]
  · rw [if_neg h, show min (j + 1) i = i by omega, show min j i = i by omega]
theorem lvl_zero (E : List Ev) (i : Nat) (k : Ky) : lvl E i k 0 = true := by unfold lvl; simp [alF]
theorem fsl_zero (E : List Ev) (i : Nat) (k : Ky) : fsl E i k 0 = false := by unfold fsl; simp [laF]
theorem lvl_end (E : List Ev) (i : Nat) (k : Ky) : lvl E i k E.length = alF k (E.drop (i + 1)) := by unfold lvl; rw [List.take_length]
theorem fsl_end (E : List Ev) (i : Nat) (k : Ky) (hi : i < E.length) : fsl E i k E.length = laF k (E.take i) := by unfold fsl; rw [show min E.length i = i by omega]
/-- An event that says nothing of the key changes nothing. -/
theorem ev_other {E : List Ev} {i j : Nat} {k : Ky} {e : Ev} (he : E[j]? = some e) (hn : ∀ b, e ≠ some (k, b)) : lvl E i k (j + 1) = lvl E i k j ∧ fsl E i k (j + 1) = fsl E i k j := by
  rw [lvl_next he, fsl_next he]
  match e, hn with
  | none, _ => simp [okE, laStep]
  | some (k', b), hn =>
    have hk : k' ≠ k := fun h => hn b (by rw [h])
    simp [okE, laStep, hk]
theorem ev_self {E : List Ev} {i : Nat} {k : Ky} {e : Ev} (he : E[i]? = some e) : lvl E i k (i + 1) = lvl E i k i ∧ fsl E i k (i + 1) = fsl E i k i := by
  rw [lvl_next he, fsl_next he]
  simp
theorem ev_late {E : List Ev} {i j : Nat} {k : Ky} {b : Bool} (he : E[j]? = some (some (k, b))) (hij : i < j) : lvl E i k (j + 1) = (lvl E i k j && b) ∧ fsl E i k (j + 1) = fsl E i k j := by
  rw [lvl_next he, fsl_next he, decide_eq_false (by omega), if_neg (by omega)]
  simp [okE]
theorem ev_soon {E : List Ev} {i j : Nat} {k : Ky} {b : Bool} (he : E[j]? = some (some (k, b))) (hij : j < i) : lvl E i k (j + 1) = lvl E i k j ∧ fsl E i k (j + 1) = b := by
  rw [lvl_next he, fsl_next he, decide_eq_true (by omega), if_pos hij]
  simp [laStep]
theorem cnt_le {l : List Ky} (h : l.Nodup) (k : Ky) : (l.filter (fun x => decide (x = k))).length ≤ 1 := by
  induction l with
  | nil => exact Nat.zero_le _
  | cons x l ih =>
    rw [List.nodup_cons] at h
    rw [List.filter_cons]
    by_cases hx : x = k
    · rw [if_pos (by simp [hx]), List.filter_eq_nil_iff.2 (fun y hy => by
        simp only [decide_eq_true_eq]
        exact fun e => h.1 (by rw [hx, ← e]; exact hy))]
      exact Nat.le_refl _
    · rw [if_neg (by simp [hx])]
      exact ih h.2
theorem cnt_mem {l : List Ky} {k : Ky} (h : k ∈ l) : 1 ≤ (l.filter (fun x => decide (x = k))).length := by
  have : k ∈ l.filter (fun x => decide (x = k)) := List.mem_filter.2 ⟨h, by simp⟩
  exact List.length_pos_of_mem this
theorem ky_eq (o1 o2 : OV) (h1 : 0 ≤ o1.seq ∧ o1.seq < 4294967296) (h2 : 0 ≤ o2.seq ∧ o2.seq < 4294967296) : kyO o1 = kyO o2 ↔ o1.grp = o2.grp ∧ o1.seq = o2.seq := by
  unfold kyO
  rw [Prod.mk.injEq]
  refine and_congr_right fun _ => ⟨fun h => ?_, fun h => by rw [h]⟩
  have h3 := congrArg Fin.val h
  rw [Fin.val_ofNat, Fin.val_ofNat] at h3
  omega
theorem kym_eq (m : MV) (o : OV) (h1 : 0 ≤ m.seq ∧ m.seq < 4294967296) (h2 : 0 ≤ o.seq ∧ o.seq < 4294967296) : kyM m = kyO o ↔ m.grp = o.grp ∧ m.seq = o.seq := by
  unfold kyM kyO
  rw [Prod.mk.injEq]
  refine and_congr_right fun _ => ⟨fun h => ?_, fun h => by rw [h]⟩
  have h3 := congrArg Fin.val h
  rw [Fin.val_ofNat, Fin.val_ofNat] at h3
  omega
/-- How often a key is among messages. -/
def cntQ (Q : QL) (k : Ky) (j : Nat) : Nat := ((Q.take j).filter (fun q => decide (kyM q.m = k))).length
theorem cntQ_next (Q : QL) (k : Ky) {j : Nat} (hj : j < Q.length) : cntQ Q k (j + 1) = cntQ Q k j + (if kyM (Q.getD j q0).m = k then 1 else 0) := by
  unfold cntQ
  rw [List.take_add_one, List.getD_eq_getElem?_getD, List.getElem?_eq_getElem hj]
  simp only [Option.toList, Option.getD, List.filter_append, List.length_append, List.filter_cons, List.filter_nil]
  split <;> simp_all
theorem cntQ_all (Q : QL) (k : Ky) : cntQ Q k Q.length = (((Q.map QV.m).map kyM).filter (fun x => decide (x = k))).length := by
  unfold cntQ
  rw [List.take_length, List.map_map, List.filter_map, List.length_map]
  rfl
theorem cntQ_le (Q : QL) (k : Ky) (j : Nat) : cntQ Q k j ≤ j := by
  unfold cntQ
  exact Nat.le_trans (List.length_filter_le _ _) (by rw [List.length_take]; omega)
theorem gkF_le (E : List Ev) : ∀ n, (gkF E n).length ≤ n := by
  intro n
  unfold gkF
  exact Nat.le_trans (List.length_filterMap_le _ _) (by rw [List.length_range]; exact Nat.le_refl _)
theorem srd_below {w w' : World} {A : Option Addr} {L : List ByteArray} (h : SRd w A L) (hb : Below w.heap.size w w') : SRd w' A L := fun hp => by
  obtain ⟨g, off, e, hc⟩ := h hp
  exact ⟨g, off, e, fun k hk => (hb.cell (p := ⟨g, off + k, none⟩) (lt_of_cell (hc k hk))).trans (hc k hk)⟩
theorem mrd_below {w w' : World} {A : Option Addr} {Q : QL} (h : MRd w A Q) (hb : Below w.heap.size w w') : MRd w' A Q := fun hp => by
  obtain ⟨g, off, e, hc⟩ := h hp
  exact ⟨g, off, e, fun k hk => (hc k hk).at (hb.block g (lt_of_cell' (hc k hk).c0))⟩
theorem ev_at {L : List ByteArray} {k i : Nat} (hi : i < k) (hk : k ≤ L.length) : ((L.take k).map evF)[i]? = some (evF (L.getD i e0)) := by
  rw [List.getElem?_map, List.getElem?_take_of_lt hi, List.getD_eq_getElem?_getD, List.getElem?_eq_getElem (by omega)]
  rfl
/-- The first three cells of something that is recorded. -/
theorem ov_three (o : OV) (A : Option Addr) (c : Nat) : ∃ C : Array Value, o.agg A c = .agg C ∧ C.size = 12 ∧ C.toList.all (·.oneCell') = true ∧ C[0]? = some (.int .i64 o.kind) ∧ C[1]? = some (.string o.grp) ∧ C[2]? = some (.int .i64 o.seq) := ⟨_, rfl, rfl, by simp [Value.oneCell'], rfl, rfl, rfl⟩
end Go.Proofs.YtnolnhpmpjgnaaaGreatDoor
namespace Go.Proofs.YtnolnhpmpjgnaaaGreatDoor
set_option maxRecDepth 100000
open Go.RowKit Go.Extern.Stop Go.Stop Go.Extern
def flQ (key : Ky) (Q : QL) : QL := Q.filter (fun q => decide (kyM q.m ≠ key))
theorem flQ_map (key : Ky) (Q : QL) : (flQ key Q).map QV.m = (Q.map QV.m).filter (fun m => decide (kyM m ≠ key)) := by
  unfold flQ
  rw [List.filter_map]
  rfl
theorem flQ_next (key : Ky) (Q : QL) {j : Nat} (hj : j < Q.length) : flQ key (Q.take (j + 1)) = flQ key (Q.take j) ++ (if kyM (Q.getD j q0).m = key then [] else [Q.getD j q0]) := by
  unfold flQ
  rw [List.take_add_one, List.getD_eq_getElem?_getD, List.getElem?_eq_getElem hj]
  simp only [Option.toList, Option.getD, List.filter_append, List.filter_cons, List.filter_nil]
  split <;> split <;> simp_all
theorem flQ_sub {key : Ky} {Q : QL} {j : Nat} {q : QV} (h : q ∈ flQ key (Q.take j)) : q ∈ Q := List.mem_of_mem_take (List.mem_filter.1 h).1
theorem flQ_le (key : Ky) (Q : QL) (j : Nat) : (flQ key (Q.take j)).length ≤ j := by
  unfold flQ
  exact Nat.le_trans (List.length_filter_le _ _) (by rw [List.length_take]; omega)
theorem rd_len (l : List ByteArray) : (rdF l).out.length ≤ l.length := by
  induction l using snoc_ind with
  | nil => exact Nat.le_refl _
  | snoc l b ih =>
    rw [rdF_snoc, List.length_append, List.length_singleton]
    generalize rdF l = s at ih ⊢
    unfold rdStep
    have hd := List.length_filter_le (fun m => decide (kyM m ≠ kyO (tkF b).o)) s.out
    generalize s.out.filter (fun m => decide (kyM m ≠ kyO (tkF b).o)) = d at hd ⊢
    split
    · split
      · split
        · simp only [List.length_append, List.length_cons, List.length_nil]; omega
        · simp only; omega
      · simp only; omega
    · omega
structure RdI (w W : World) (v : Value) (Q : QL) : Prop where
  bel : Below w.heap.size w W
  row : MRow W w.heap.size v Q
  pin : ∀ q ∈ Q, QOk W q
theorem RdI.below {w W W' : World} {v : Value} {Q : QL} (h : RdI w W v Q) (hb : Below W.heap.size W W') : RdI w W' v Q :=
  ⟨h.bel.trans (hb.mono h.bel.size), h.row.below hb, fun q hq => ⟨(h.pin q hq).1.below hb, (h.pin q hq).2⟩⟩
theorem RdI.pushed {w W W' : World} {v v' : Value} {Q : QL} {x : QV} (h : RdI w W v Q) (hf : Fr v.ownBlock.toList W W') (hb : Below w.heap.size w W') (hr : MRow W' w.heap.size v' (Q ++ [x])) (hx : QOk W x) : RdI w W' v' (Q ++ [x]) := by
  refine ⟨hb, hr, fun q hq => ?_⟩
  rcases List.mem_append.1 hq with hq | hq
  · exact ⟨mrow_pin h.row hf (h.pin q hq).1, (h.pin q hq).2⟩
  · rw [List.mem_singleton] at hq
    subst hq
    exact ⟨mrow_pin h.row hf hx.1, hx.2⟩
set_option maxHeartbeats 16000000 in
theorem rreplay_any {w : World} (L : List ByteArray) (A : Option Addr) (n c : Nat) (hn : n = L.length) (h : SRd w A L) (hs : ∀ k, k < L.length → (L.getD k e0).size ≤ 900) (hl : n ≤ 20) :
    Calls Tryz.prog 13 #[.slice A n c] w (RplSays w (rdF L).out (rdF L).last) := by
  have HS := Lib.hid h
  have HZ := Lib.hid hs
  have HN := Lib.hid hn
  clear h hs hn
  go_enter Tryz.func13, Tryz.ntmps13
  go_wp2_with fail
  go_loopw [4, 5, 6] (fun x y z wr => ∃ k : Nat, ∃ Q : QL, ∃ v : Value, k ≤ n ∧ z = .int .i64 k ∧ x = v ∧ y = .int .i64 (rdF (L.take k)).last ∧ Q.map QV.m = (rdF (L.take k)).out ∧ RdI w wr v Q) (fun _ _ z _ => n - (intOf z).toNat)
  case atStart => exact ⟨0, [], .slice none 0 0, Nat.zero_le _, rfl, rfl, rfl, rfl, ⟨Below.refl _ _, ⟨rfl, .inl ⟨rfl, rfl⟩⟩, fun q hq => by cases hq⟩⟩
  case round =>
    obtain ⟨k, Q, v, hk, rfl, rfl, rfl, hQ, hI⟩ := hrel
    by_cases hlt : k < n
    · have hkL : k < L.length := by have := HN.out; omega
      obtain ⟨g, off, rfl, hc⟩ := HS.out (by omega)
      have hcell := (hI.bel.cell (p := ⟨g, off + k, none⟩) (lt_of_cell (hc k hkL))).trans (hc k hkL)
      have hsz := HZ.out k hkL
      have hnext := rdF_snoc (L.take k) (L.getD k e0)
      rw [← take_next hkL] at hnext
      generalize L.getD k e0 = s at hcell hsz hnext
      have htk := fun W : World => rtake34_any (w := W) (s := s) (by omega)
      have hsm := tk_small (s := s)
      have hky := tk_key (b := s)
      unfold rdStep at hnext
      have hlen := rd_len (L.take k)
      have hQl : Q.length = (rdF (L.take k)).out.length := by rw [← hQ, List.length_map]
      rw [List.length_take] at hlen
      generalize rdF (L.take k) = st at hQ hnext hlen hQl ⊢
      generalize tkF s = T at htk hnext hsm hky
      have HI := Lib.hid hI
      have HT := Lib.hid htk
      have HNX := Lib.hid hnext
      have HSM := Lib.hid hsm
      have HKY := Lib.hid hky
      have HQ := Lib.hid hQ
      have HLN := Lib.hid (show Q.length ≤ k ∧ Q.length ≤ 20 by omega)
      have HSZ := Lib.hid hsz
      clear hI htk hnext hsm hky hc hQ hlen hQl hkL hsz
      obtain ⟨av, cv, rfl⟩ := HI.out.row.form
      have hlt' : (k : Int) < (n : Int) := by omega
      go_upto_region 6 with fail
      go_wp2_with fail
      refine (HT.out _).mono ?_
      rintro x W1 ⟨Ap, cp, rfl, hP, hcap, hb⟩
      have hI := HI.out.below hb
      have HO := Lib.hid (Own.start [] W1)
      clear HI hb HT hcell
      have HI := Lib.hid hI
      have HP := Lib.hid hP
      have HCAP := Lib.hid hcap
      clear hI hP hcap
      unfold OV.agg fltV
      obtain ⟨no, r, at_, ⟨kd, gr, sq, m⟩⟩ := T
      obtain ⟨m1, m2, m3, m4, m5, m6, m7, m8, m9⟩ := m
      simp only at HP HCAP HSM HKY HNX ⊢
      obtain ⟨np, hnp⟩ : ∃ np, np = m5.length := ⟨_, rfl⟩
      rw [← hnp]
      have HNP := Lib.hid hnp
      clear hnp
      go_upto_region 7 with (first
        | (refine wpo_alloc tyO HO.out rfl rfl ?_; clear HO; rintro k7 W2 hO; have HO := Lib.hid hO; clear hO; simp only [Act.put, List.setIfInBounds_toArray, List.set_cons_zero, List.set_cons_succ])
        | (refine wpo_alloc tyX HO.out rfl rfl ?_; clear HO; rintro k8 W3 hO; have HO := Lib.hid hO; clear hO; simp only [Act.put, List.setIfInBounds_toArray, List.set_cons_zero, List.set_cons_succ])
        | (refine wpo_store (k := k7) HO.out 1 tyO rfl _ _ rfl rfl rfl rfl rfl rfl rfl ?_; clear HO; rintro W4 hO; have HO := Lib.hid hO; clear hO; simp only [Act.put])
        | (refine wpo_store (k := k8) HO.out 0 tyX rfl _ _ rfl rfl rfl rfl rfl rfl rfl ?_; clear HO; rintro W5 hO; have HO := Lib.hid hO; clear hO; simp only [Act.put]))
      have e8 : W5.cell? ⟨k8, 0, none⟩ = some (.int .i64 (no : Int)) := (HO.out.get 0 rfl).cell 0
      by_cases h0 : no = 0
      case neg =>
        have h0i : ¬ (no : Int) = 0 := by omega
        have HX := Lib.hid (show rdF (L.take (k + 1)) = st by rw [HNX.out, if_neg h0])
        clear h0 HNX HKY HSM HP HCAP
        go_wp2_with fail
        have HI2 := Lib.hid (HI.out.below HO.out.bel)
        clear HO HI e8 h0i
        go_roundw
        case rel => exact ⟨k + 1, Q, _, hlt, by go_num, rfl, by rw [HX.out], by rw [HX.out]; exact HQ.out, HI2.out⟩
        case measure => simp [intOf]; omega
      case pos =>
        have e80 : W5.cell? ⟨k8, 0, none⟩ = some (.int .i64 0) := by rw [e8, h0]; rfl
        have hnx := HNX.out
        rw [if_pos h0] at hnx
        obtain ⟨s1, s2, s3, s4⟩ := HSM.out h0
        have HKY2 := Lib.hid (HKY.out h0)
        have HNX2 := Lib.hid hnx
        have HSM2 := Lib.hid (show 0 ≤ sq ∧ sq < 4294967296 ∧ gr.size ≤ 1000 ∧ m5.length ≤ 1000 by have := HSZ.out; omega)
        clear hnx s1 s2 s3 s4 HSM HKY HNX h0 e8
        have f0 : W5.cell? ⟨k7, 0, none⟩ = some (.int .i64 kd) := (HO.out.get 1 rfl).cell 0
        have f1 : W5.cell? ⟨k7, 1, none⟩ = some (.string gr) := (HO.out.get 1 rfl).cell 1
        have f2 : W5.cell? ⟨k7, 2, none⟩ = some (.int .i64 sq) := (HO.out.get 1 rfl).cell 2
        go_upto_region 9 with fail
        obtain ⟨ml, hml⟩ : ∃ ml, ml = max st.last sq := ⟨_, rfl⟩
        have emx : (if st.last < sq then sq else st.last) = ml := by rw [hml]; split <;> omega
        rw [emx]
        have hnx := HNX2.out
        rw [← hml] at hnx
        obtain ⟨key, hkey⟩ : ∃ key, key = kyO ⟨kd, gr, sq, ⟨m1, m2, m3, m4, m5, m6, m7, m8, m9⟩⟩ := ⟨_, rfl⟩
        rw [← hkey] at hnx
        rw [← HQ.out, ← flQ_map] at hnx
        have HNX := Lib.hid hnx
        have HKEY := Lib.hid hkey
        have HI5 := Lib.hid (HI.out.below HO.out.bel)
        have HP5 := Lib.hid (HP.out.below HO.out.bel)
        have HB7 := Lib.hid (HO.out.get 1 rfl)
        have HMR := Lib.hid ((own_qrow HI5.out.row).mrd)
        clear emx hml hnx hkey HNX2 HI HP HO e80 f0 f1 f2
        go_wp2_with fail
        go_loopw [9, 10] (fun x y wr => ∃ j : Nat, ∃ v2 : Value, j ≤ Q.length ∧ y = .int .i64 j ∧ x = v2 ∧ MRow wr W5.heap.size v2 (flQ key (Q.take j)) ∧ Below W5.heap.size W5 wr) (fun _ y _ => Q.length - (intOf y).toNat)
        case atStart => exact ⟨0, .slice none 0 0, Nat.zero_le _, rfl, rfl, ⟨rfl, .inl ⟨rfl, rfl⟩⟩, Below.refl _ _⟩
        case round =>
          obtain ⟨j, v2, hj, rfl, rfl, hrow, hbel⟩ := hrel
          by_cases hlj : j < Q.length
          · obtain ⟨gq, oq, rfl, hcq⟩ := HMR.out (by omega)
            have hq := fun (W : World) (hb : Below wr.heap.size wr W) => (hcq j hlj).at ((hbel.trans (hb.mono hbel.size)).block gq (lt_of_cell' (hcq j hlj).c0))
            have hfx := flQ_next key Q hlj
            have hqk := HI5.out.pin _ (getD_memQ hlj)
            have hfl := flQ_le key Q j
            generalize Q.getD j q0 = q at hq hfx hqk
            obtain ⟨⟨n1, n2, n3, n4, n5, n6, n7, n8, n9⟩, Aq, cq⟩ := q
            obtain ⟨pn5, hpn5⟩ : ∃ pn5, pn5 = n5.length := ⟨_, rfl⟩
            have HCQ := Lib.hid (fun (W : World) (hb : Below wr.heap.size wr W) => show W.cell? ⟨gq, oq + j * 9, none⟩ = some (.string n1) ∧ W.cell? ⟨gq, oq + j * 9 + 1, none⟩ = some (.string n2) ∧ W.cell? ⟨gq, oq + j * 9 + 2, none⟩ = some (.int .i64 n3) ∧ W.cell? ⟨gq, oq + j * 9 + 3, none⟩ = some (.bool n4) ∧ W.cell? ⟨gq, oq + j * 9 + 4, none⟩ = some (.slice Aq pn5 cq) ∧ W.cell? ⟨gq, oq + j * 9 + 5, none⟩ = some (.string n6) ∧ W.cell? ⟨gq, oq + j * 9 + 6, none⟩ = some (.int .i64 n7) ∧ W.cell? ⟨gq, oq + j * 9 + 7, none⟩ = some (.int .i64 n8) ∧ W.cell? ⟨gq, oq + j * 9 + 8, none⟩ = some (.string n9) from
              ⟨(hq W hb).c0, (hq W hb).c1, (hq W hb).c2, (hq W hb).c3, by rw [hpn5]; exact (hq W hb).c4, (hq W hb).c5, (hq W hb).c6, (hq W hb).c7, (hq W hb).c8⟩)
            obtain ⟨-, -, -, -, -, -, -, c7, c8⟩ := HCQ.out wr (Below.refl _ _)
            have f1 : wr.cell? ⟨k7, 1, none⟩ = some (.string gr) := (HB7.out.below hbel HB7.out.lt).cell 1
            have f2 : wr.cell? ⟨k7, 2, none⟩ = some (.int .i64 sq) := (HB7.out.below hbel HB7.out.lt).cell 2
            have hkm := kym_eq ⟨n1, n2, n3, n4, n5, n6, n7, n8, n9⟩ ⟨kd, gr, sq, ⟨m1, m2, m3, m4, m5, m6, m7, m8, m9⟩⟩ ⟨hqk.2.2.2.1, hqk.2.2.2.2.1⟩ ⟨HSM2.out.1, HSM2.out.2.1⟩
            rw [← HKEY.out] at hkm
            simp only at hkm hfx
            have HNQ := Lib.hid hpn5
            have HRW := Lib.hid hrow
            have HBL := Lib.hid hbel
            have HFL := Lib.hid hfl
            obtain ⟨a2, e2, rfl⟩ := HRW.out.form
            have hql : Q.length ≤ 20 := HLN.out.2
            have hlj' : (j : Int) < (Q.length : Int) := by omega
            have hj0 : (0 : Int) ≤ (j : Int) := by omega
            clear hcq hq hqk hpn5 hrow hbel hfl
            by_cases hg : n9 = gr
            case neg =>
              have hgb : (n9.toList == gr.toList) = false := by rw [bytes_key]; exact decide_eq_false hg
              rw [if_neg (fun h => hg (hkm.1 h).1)] at hfx
              have HFX := Lib.hid hfx
              clear hg hkm hfx
              go_wp2_with fail
              go_quiet (fail)
              generalize hW : wr.drewN _ = W6 at *
              have hb6 : Below wr.heap.size wr W6 := by rw [← hW]; exact below_drewN (Below.refl _ _) _
              clear c8 c7 f1 f2 hW hgb
              obtain ⟨c0, c1, c2, c3, c4, c5, c6, c7, c8⟩ := HCQ.out W6 hb6
              have hal : Below W6.heap.size W6 (W6.alloc (.cells #[.string n1, .string n2, .int .i64 n3, .bool n4, .slice Aq pn5 cq, .string n6, .int .i64 n7, .int .i64 n8, .string n9] 25)) := (Below.refl _ _).alloc (Nat.le_refl _) _
              have HB6 := Lib.hid (HBL.out.trans ((hb6.trans (hal.mono hb6.size)).mono HBL.out.size))
              have HR6 := Lib.hid ((HRW.out.below hb6).below hal)
              have HNW := Lib.hid (fun i (hi : i < 9) => (news_m W6 #[.string n1, .string n2, .int .i64 n3, .bool n4, .slice Aq pn5 cq, .string n6, .int .i64 n7, .int .i64 n8, .string n9] i hi).trans (show _ = (QV.cells ⟨⟨n1, n2, n3, n4, n5, n6, n7, n8, n9⟩, Aq, cq⟩)[i]? by rw [HNQ.out]; simp [QV.cells]))
              clear hb6 hal HRW HBL
              go_wp2_with (first
                | (refine wpm_slice1 (pc := #[.string n1, .string n2, .int .i64 n3, .bool n4, .slice Aq pn5 cq, .string n6, .int .i64 n7, .int .i64 n8, .string n9]) rfl rfl _ rfl rfl ?_)
                | (refine append_m (w0 := W5) rfl _ _ rfl ⟨⟨n1, n2, n3, n4, n5, n6, n7, n8, n9⟩, Aq, cq⟩ HB6.out HR6.out rfl (by have := HFL.out; have := HLN.out; omega) ⟨W6.heap.size, 0, none⟩ 1 rfl HNW.out ?_; intro a' c' w' hrow hbel hfr; have HR := Lib.hid (And.intro hrow hbel); clear hrow hbel hfr; simp only [Act.put, List.setIfInBounds_toArray, List.set_cons_zero, List.set_cons_succ]))
              clear c0 c1 c2 c3 c4 c5 c6 c7 c8 HB6 HR6 HNW
              go_roundw
              case rel => exact ⟨j + 1, _, hlj, by go_num, rfl, by rw [HFX.out]; exact HR.out.1, HR.out.2⟩
              case measure => simp [intOf]; omega
            case pos =>
            have hgb : (n9.toList == gr.toList) = true := by rw [bytes_key]; exact decide_eq_true hg
            by_cases hs : n8 = sq
            case neg =>
              have hsb2 : (n8 != sq) = true := by simpa using hs
              rw [if_neg (fun h => hs (hkm.1 h).2)] at hfx
              have HFX := Lib.hid hfx
              clear hg hkm hfx
              go_wp2_with fail
              go_quiet (fail)
              generalize hW : wr.drewN _ = W6 at *
              have hb6 : Below wr.heap.size wr W6 := by rw [← hW]; exact below_drewN (Below.refl _ _) _
              clear c8 c7 f1 f2 hW hgb hs hsb2
              obtain ⟨c0, c1, c2, c3, c4, c5, c6, c7, c8⟩ := HCQ.out W6 hb6
              have hal : Below W6.heap.size W6 (W6.alloc (.cells #[.string n1, .string n2, .int .i64 n3, .bool n4, .slice Aq pn5 cq, .string n6, .int .i64 n7, .int .i64 n8, .string n9] 25)) := (Below.refl _ _).alloc (Nat.le_refl _) _
              have HB6 := Lib.hid (HBL.out.trans ((hb6.trans (hal.mono hb6.size)).mono HBL.out.size))
              have HR6 := Lib.hid ((HRW.out.below hb6).below hal)
              have HNW := Lib.hid (fun i (hi : i < 9) => (news_m W6 #[.string n1, .string n2, .int .i64 n3, .bool n4, .slice Aq pn5 cq, .string n6, .int .i64 n7, .int .i64 n8, .string n9] i hi).trans (show _ = (QV.cells ⟨⟨n1, n2, n3, n4, n5, n6, n7, n8, n9⟩, Aq, cq⟩)[i]? by rw [HNQ.out]; simp [QV.cells]))
              clear hb6 hal HRW HBL
              go_wp2_with (first
                | (refine wpm_slice1 (pc := #[.string n1, .string n2, .int .i64 n3, .bool n4, .slice Aq pn5 cq, .string n6, .int .i64 n7, .int .i64 n8, .string n9]) rfl rfl _ rfl rfl ?_)
                | (refine append_m (w0 := W5) rfl _ _ rfl ⟨⟨n1, n2, n3, n4, n5, n6, n7, n8, n9⟩, Aq, cq⟩ HB6.out HR6.out rfl (by have := HFL.out; have := HLN.out; omega) ⟨W6.heap.size, 0, none⟩ 1 rfl HNW.out ?_; intro a' c' w' hrow hbel hfr; have HR := Lib.hid (And.intro hrow hbel); clear hrow hbel hfr; simp only [Act.put, List.setIfInBounds_toArray, List.set_cons_zero, List.set_cons_succ]))
              clear c0 c1 c2 c3 c4 c5 c6 c7 c8 HB6 HR6 HNW
              go_roundw
              case rel => exact ⟨j + 1, _, hlj, by go_num, rfl, by rw [HFX.out]; exact HR.out.1, HR.out.2⟩
              case measure => simp [intOf]; omega
            case pos =>
              have hsb2 : (n8 != sq) = false := by simpa using hs
              rw [if_pos (hkm.2 ⟨hg, hs⟩), List.append_nil] at hfx
              have HFX := Lib.hid hfx
              clear hg hkm hfx
              go_wp2_with fail
              go_quiet (fail)
              have hbq := fun d => below_drewN HBL.out d
              have hrq := fun d => HRW.out.below (below_drewN (Below.refl wr.heap.size wr) d)
              go_wp2_with fail
              clear c7 c8 f1 f2 hgb hs hsb2
              go_roundw
              case rel => exact ⟨j + 1, _, hlj, by go_num, rfl, by rw [HFX.out]; exact hrq _, hbq _⟩
              case measure => simp [intOf]; omega
          · have hjq : Q.length = j := by omega
            subst hjq
            rw [List.take_length] at hrow
            have HSU := Lib.hid (fun (q : QV) (h : q ∈ flQ key Q) => show QOk wr q by
              have h2 : q ∈ Q := (List.mem_filter.1 h).1
              exact ⟨(HI5.out.pin q h2).1.below hbel, (HI5.out.pin q h2).2⟩)
            generalize flQ key Q = F at hrow HNX HSU
            obtain ⟨a2, e2, rfl⟩ := hrow.form
            have HF := Lib.hid (show RdI w wr (.slice a2 F.length e2) F from ⟨HI5.out.bel.trans (hbel.mono HI5.out.bel.size), mrow_base hrow HI5.out.bel.size, HSU.out⟩)
            have HI6 := Lib.hid (HI5.out.below hbel)
            have HP6 := Lib.hid (HP5.out.below hbel)
            have HB76 := Lib.hid (HB7.out.below hbel HB7.out.lt)
            have f0 : wr.cell? ⟨k7, 0, none⟩ = some (.int .i64 kd) := HB76.out.cell 0
            clear hrow hbel hlj hj HI5 HP5 HB7 HSU HMR
            by_cases hkd : kd = 1
            case neg =>
              have hkb : (kd == 1) = false := by simpa using hkd
              have HX := Lib.hid (show rdF (L.take (k + 1)) = ⟨F.map QV.m, ml⟩ by rw [HNX.out, if_neg hkd])
              clear HNX
              go_wp2_with fail
              clear f0 hkd hkb HI6 HP6 HB76
              go_roundw
              case rel => exact ⟨k + 1, F, _, hlt, by go_num, rfl, by rw [HX.out], by rw [HX.out], HF.out⟩
              case measure => simp [intOf]; omega
            case pos =>
              subst hkd
              have hnx := HNX.out
              rw [if_pos rfl, List.length_map, List.length_map] at hnx
              clear HNX
              by_cases hfl : F.length = Q.length
              case neg =>
                rw [if_neg hfl] at hnx
                have HX := Lib.hid hnx
                have hfb : ((F.length : Int) == (Q.length : Int)) = false := by simp; omega
                have hfi : ¬ (F.length : Int) = (Q.length : Int) := by omega
                clear hnx hfl
                go_wp2_with fail
                clear f0 hfb hfi HP6 HB76 HF
                go_roundw
                case rel => exact ⟨k + 1, Q, _, hlt, by go_num, rfl, by rw [HX.out], by rw [HX.out], HI6.out⟩
                case measure => simp [intOf]; omega
              case pos =>
                rw [if_pos hfl] at hnx
                have HX := Lib.hid hnx
                have hk3 := (HKY2.out rfl).2
                have HQO := Lib.hid (show m5.length ≤ cp ∧ m5.length ≤ 1000 ∧ 0 ≤ m8 ∧ m8 < 4294967296 ∧ m9.size ≤ 1000 by
                  refine ⟨HCAP.out, HSM2.out.2.2.2, ?_, ?_, ?_⟩
                  · rw [hk3.2]; exact HSM2.out.1
                  · rw [hk3.2]; exact HSM2.out.2.1
                  · rw [hk3.1]; exact HSM2.out.2.2.1)
                have hal : Below wr.heap.size wr (wr.alloc (.cells #[.string m1, .string m2, .int .i64 m3, .bool m4, .slice Ap np cp, .string m6, .int .i64 m7, .int .i64 m8, .string m9] 25)) := (Below.refl _ _).alloc (Nat.le_refl _) _
                have HI7 := Lib.hid (HI6.out.below hal)
                have HP7 := Lib.hid (HP6.out.below hal)
                have HNW := Lib.hid (fun i (hi : i < 9) => (news_m wr #[.string m1, .string m2, .int .i64 m3, .bool m4, .slice Ap np cp, .string m6, .int .i64 m7, .int .i64 m8, .string m9] i hi).trans (show _ = (QV.cells ⟨⟨m1, m2, m3, m4, m5, m6, m7, m8, m9⟩, Ap, cp⟩)[i]? by rw [HNP.out]; simp [QV.cells]))
                clear hnx hk3 hal HF HI6 HP6
                go_upto_region 17 with fail
                rw [hfl]
                clear hfl
                go_upto_region 18 with fail
                clear f0
                go_wp2_with (first
                  | (refine wpo_ldm tyM HB76.out 3 (c := #[.string m1, .string m2, .int .i64 m3, .bool m4, .slice Ap np cp, .string m6, .int .i64 m7, .int .i64 m8, .string m9]) rfl (by intro j hj; have hj : j < 9 := hj; match j, hj with | 0, _ => rfl | 1, _ => rfl | 2, _ => rfl | 3, _ => rfl | 4, _ => rfl | 5, _ => rfl | 6, _ => rfl | 7, _ => rfl | 8, _ => rfl) _ rfl rfl rfl ?_)
                  | (refine wpm_slice1 (pc := #[.string m1, .string m2, .int .i64 m3, .bool m4, .slice Ap np cp, .string m6, .int .i64 m7, .int .i64 m8, .string m9]) rfl rfl _ rfl rfl ?_)
                  | (refine append_m (w0 := w) rfl _ _ rfl ⟨⟨m1, m2, m3, m4, m5, m6, m7, m8, m9⟩, Ap, cp⟩ HI7.out.bel HI7.out.row rfl (by have := HLN.out; omega) ⟨wr.heap.size, 0, none⟩ 1 rfl HNW.out ?_; intro a' c' w' hrow hbel hfr; have HR := Lib.hid (And.intro hrow (And.intro hbel hfr)); clear hrow hbel hfr; simp only [Act.put, List.setIfInBounds_toArray, List.set_cons_zero, List.set_cons_succ]))
                have HI8 := Lib.hid (HI7.out.pushed (x := ⟨⟨m1, m2, m3, m4, m5, m6, m7, m8, m9⟩, Ap, cp⟩) HR.out.2.2 HR.out.2.1 HR.out.1 ⟨HP7.out, HQO.out⟩)
                clear HR HI7 HP7 HNW HB76 HQO
                go_roundw
                case rel => exact ⟨k + 1, Q ++ [⟨⟨m1, m2, m3, m4, m5, m6, m7, m8, m9⟩, Ap, cp⟩], _, hlt, by go_num, rfl, by rw [HX.out], by rw [HX.out, List.map_append]; rfl, HI8.out⟩
                case measure => simp [intOf]; omega
    · obtain rfl : k = n := by omega
      have hfull : L.take k = L := by rw [HN.out]; exact List.take_length
      rw [hfull] at hQ ⊢
      obtain ⟨av, cv, rfl⟩ := hI.row.form
      have HQ := Lib.hid hQ
      have HI := Lib.hid hI
      clear hQ hI HZ HS hk hlt hfull
      go_wp2_with fail
      exact bodyPost_ret (v := .tuple #[.slice av Q.length cv, .int .i64 (rdF L).last]) (by simp [results, Tryz.results13, go_sem]) rfl ⟨av, cv, Q, rfl, HQ.out, HI.out.row, HI.out.pin, HI.out.bel⟩
end Go.Proofs.YtnolnhpmpjgnaaaGreatDoor
