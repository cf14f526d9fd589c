/- What is proved here, on plain values: the record that tells something, what records come to, and what is rewritten. No conditions but those that each theorem names. -/
import Derived.Test.YtnolnhpmpjgnaaaGreatDoorTak34
import Derived.Test.YtnolnhpmpjgnaaaGreatDoorEnc06
import Derived.Lib.Strings
namespace Go.Proofs.YtnolnhpmpjgnaaaGreatDoor
set_option maxRecDepth 100000
open Go.RowKit Go.Extern.Stop Go.Stop Go.Extern
/-- The fields of a record, and those of its message. -/
def ptA (o : OV) : List FV := [⟨1, o.kind, e0⟩, ⟨7, 0, o.grp⟩, ⟨4, o.seq, e0⟩]
def flB (m : MV) : Int := m.qos + (if m.retain = true then 4 else 0)
def ptB (m : MV) (l : List UInt8) : List FV := [⟨7, 0, m.topic⟩, ⟨7, 0, m.payload⟩, ⟨1, flB m, e0⟩, ⟨7, 0, m.frm⟩, ⟨4, m.til / 4294967296, e0⟩, ⟨4, m.til % 4294967296, e0⟩, ⟨8, 0, ⟨l.toArray⟩⟩]
structure PtR where
  no : Nat
  r : Int
  at_ : Nat
  L : List UInt8
def ptW (V : EV) : PtR := ⟨V.no, 129, V.at_, V.L⟩
def knO (o : OV) : Bool := decide (1 ≤ o.kind ∧ o.kind ≤ 3)
/-- What Put tells. -/
def ptF (o : OV) : PtR :=
  if (knO o && mayO o) = true then (if o.kind = 1 then (if (encR 3 o.m.props).no = 0 then ptW (stepL (stepL w0 (ptA o)) (ptB o.m (encR 3 o.m.props).L)) else ⟨(encR 3 o.m.props).no, (encR 3 o.m.props).r, (encR 3 o.m.props).at_, []⟩) else ptW (stepL w0 (ptA o)))
  else ⟨7, 128, 0, []⟩
theorem enc_bad {place : Int} {L : PL} (h : (encR place L).no ≠ 0) : (encR place L).L = [] := by
  unfold encR at h ⊢
  split
  · rename_i h1
    rw [if_pos h1] at h
    split
    · rename_i h2
      rw [if_pos h2] at h
      exact absurd rfl h
    · rfl
  · rfl
/-- A message's key: its group, and its number. -/
abbrev Ky := ByteArray × Fin 4294967296
def kyO (o : OV) : Ky := (o.grp, Fin.ofNat 4294967296 o.seq.toNat)
def kyM (m : MV) : Ky := (m.grp, Fin.ofNat 4294967296 m.seq.toNat)
/-- What the program's Replay holds: all messages that came, at which place the one of a key is, and the greatest number. -/
structure RpS where
  all : List MV
  pr : List (Ky × Nat)
  last : Int
def rp0 : RpS := ⟨[], [], 0⟩
def lkP (k : Ky) : List (Ky × Nat) → Option Nat
  | [] => none
  | p :: l => if p.1 = k then some p.2 else lkP k l
def dlP (k : Ky) (l : List (Ky × Nat)) : List (Ky × Nat) := l.filter (fun p => decide (p.1 ≠ k))
def rpStep (s : RpS) (b : ByteArray) : RpS :=
  if (tkF b).no = 0 then
    (if (tkF b).o.kind = 1 then (if lkP (kyO (tkF b).o) s.pr = none then ⟨s.all ++ [(tkF b).o.m], (kyO (tkF b).o, s.all.length) :: dlP (kyO (tkF b).o) s.pr, max s.last (tkF b).o.seq⟩ else ⟨s.all, s.pr, max s.last (tkF b).o.seq⟩)
     else ⟨s.all, dlP (kyO (tkF b).o) s.pr, max s.last (tkF b).o.seq⟩)
  else s
def rpF (l : List ByteArray) : RpS := l.foldl rpStep rp0
/-- Those that are there still. -/
def lfP (pr : List (Ky × Nat)) : Nat → List MV → List MV
  | _, [] => []
  | i, m :: l => if lkP (kyM m) pr = some i then m :: lfP pr (i + 1) l else lfP pr (i + 1) l
/-- What the document's Replay holds. -/
structure RdS where
  out : List MV
  last : Int
def rd0 : RdS := ⟨[], 0⟩
def rdStep (s : RdS) (b : ByteArray) : RdS :=
  if (tkF b).no = 0 then
    (if (tkF b).o.kind = 1 then (if (s.out.filter (fun m => decide (kyM m ≠ kyO (tkF b).o))).length = s.out.length then ⟨s.out ++ [(tkF b).o.m], max s.last (tkF b).o.seq⟩ else ⟨s.out, max s.last (tkF b).o.seq⟩)
     else ⟨s.out.filter (fun m => decide (kyM m ≠ kyO (tkF b).o)), max s.last (tkF b).o.seq⟩)
  else s
def rdF (l : List ByteArray) : RdS := l.foldl rdStep rd0
theorem rpF_snoc (l : List ByteArray) (b : ByteArray) : rpF (l ++ [b]) = rpStep (rpF l) b := by unfold rpF; rw [List.foldl_append]; rfl
theorem rdF_snoc (l : List ByteArray) (b : ByteArray) : rdF (l ++ [b]) = rdStep (rdF l) b := by unfold rdF; rw [List.foldl_append]; rfl
theorem lk_cons (k : Ky) (p : Ky × Nat) (l : List (Ky × Nat)) : lkP k (p :: l) = if p.1 = k then some p.2 else lkP k l := rfl
theorem lk_del (k x : Ky) : ∀ l : List (Ky × Nat), lkP x (dlP k l) = if x = k then none else lkP x l
  | [] => by simp [dlP, lkP]
  | p :: l => by
    have ih := lk_del k x l
    unfold dlP at ih ⊢
    rw [List.filter_cons]
    by_cases h : p.1 = k
    · rw [if_neg (by simp [h]), ih]
      rw [lk_cons]
      by_cases hx : x = k
      · rw [if_pos hx, if_pos hx]
      · rw [if_neg hx, if_neg hx, if_neg (by rw [h]; exact fun e => hx e.symm)]
    · rw [if_pos (by simp [h]), lk_cons, lk_cons, ih]
      by_cases hx : x = k
      · rw [if_pos hx, if_pos hx, if_neg (by rw [hx]; exact h)]
      · rw [if_neg hx, if_neg hx]
theorem lk_put (k x : Ky) (n : Nat) (l : List (Ky × Nat)) : lkP x ((k, n) :: dlP k l) = if x = k then some n else lkP x l := by
  rw [lk_cons, lk_del]
  by_cases h : x = k
  · rw [if_pos h.symm, if_pos h]
  · rw [if_neg (fun e => h e.symm), if_neg h, if_neg h]
theorem lf_snoc (pr : List (Ky × Nat)) (m : MV) : ∀ (l : List MV) (i : Nat), lfP pr i (l ++ [m]) = lfP pr i l ++ (if lkP (kyM m) pr = some (i + l.length) then [m] else [])
  | [], i => by simp [lfP]
  | x :: l, i => by
    have ih := lf_snoc pr m l (i + 1)
    rw [List.cons_append, lfP, lfP, ih, List.length_cons, show i + 1 + l.length = i + (l.length + 1) by omega]
    split <;> simp
theorem lf_put (pr : List (Ky × Nat)) (k : Ky) (n : Nat) (h0 : lkP k pr = none) : ∀ (l : List MV) (i : Nat), i + l.length ≤ n → lfP ((k, n) :: dlP k pr) i l = lfP pr i l
  | [], _, _ => rfl
  | x :: l, i, h => by
    rw [List.length_cons] at h
    have ih := lf_put pr k n h0 l (i + 1) (by omega)
    rw [lfP, lfP, ih, lk_put]
    by_cases hx : kyM x = k
    · rw [if_pos hx, hx, h0, if_neg (by intro e; injection e with e; omega), if_neg (by simp)]
    · rw [if_neg hx]
theorem lf_del (pr : List (Ky × Nat)) (k : Ky) : ∀ (l : List MV) (i : Nat), lfP (dlP k pr) i l = (lfP pr i l).filter (fun m => decide (kyM m ≠ k))
  | [], _ => rfl
  | x :: l, i => by
    have ih := lf_del pr k l (i + 1)
    rw [lfP, lfP, ih, lk_del]
    by_cases hx : kyM x = k
    · rw [if_pos hx, if_neg (by simp)]
      split
      · rw [List.filter_cons, if_neg (by simp [hx])]
      · rfl
    · rw [if_neg hx]
      split
      · rw [List.filter_cons, if_pos (by simp [hx])]
      · rfl
theorem lf_key (pr : List (Ky × Nat)) (k : Ky) (h0 : lkP k pr = none) : ∀ (l : List MV) (i : Nat), ∀ m ∈ lfP pr i l, kyM m ≠ k
  | [], _, m, hm => by cases hm
  | x :: l, i, m, hm => by
    rw [lfP] at hm
    split at hm
    · rename_i h1
      rcases List.mem_cons.1 hm with rfl | hm
      · intro e
        rw [e, h0] at h1
        cases h1
      · exact lf_key pr k h0 l (i + 1) m hm
    · exact lf_key pr k h0 l (i + 1) m hm
theorem lf_has (pr : List (Ky × Nat)) (k : Ky) (j : Nat) (h1 : lkP k pr = some j) : ∀ (l : List MV) (i : Nat), i ≤ j → ∀ m, l[j - i]? = some m → kyM m = k → m ∈ lfP pr i l
  | [], i, hi, m, hm, hk => by simp at hm
  | x :: l, i, hi, m, hm, hk => by
    rw [lfP]
    by_cases hij : i = j
    · subst hij
      rw [Nat.sub_self] at hm
      obtain rfl : x = m := by simpa using hm
      rw [hk, h1, if_pos rfl]
      exact List.mem_cons_self ..
    · rw [show j - i = (j - (i + 1)) + 1 by omega, List.getElem?_cons_succ] at hm
      have ih := lf_has pr k j h1 l (i + 1) (by omega) m hm hk
      split
      · exact List.mem_cons_of_mem _ ih
      · exact ih
theorem tkE_ok {s : ByteArray} {o : OV} {k fl : Nat} {R : RV} (h : (tkE s o k fl R).no = 0) : tkE s o k fl R = ⟨0, 0, 0, o⟩ ∧ knK k = true ∧ mayO o = true := by
  unfold tkE at h ⊢
  generalize dnR s R = D at h ⊢
  obtain ⟨d1, d2⟩ := D
  simp only at h ⊢
  by_cases h1 : d1 = 0
  · rw [if_pos h1] at h ⊢
    by_cases h2 : knK k = true ∧ fl ≤ 7 ∧ mayO o = true
    · rw [if_pos h2] at h ⊢
      exact ⟨rfl, h2.1, h2.2.2⟩
    · rw [if_neg h2] at h
      cases h
  · rw [if_neg h1] at h
    exact absurd h h1
/-- What is told without an error. -/
theorem tk_ok {s : ByteArray} (h : (tkF s).no = 0) : ∃ m : MV, tkF s = ⟨0, 0, 0, ⟨((tkK s).1 : Nat), (tkG s).1, ((tkQ s).1 : Nat), m⟩⟩ ∧ knK (tkK s).1 = true ∧ mayO ⟨((tkK s).1 : Nat), (tkG s).1, ((tkQ s).1 : Nat), m⟩ = true ∧ ((tkK s).1 = 1 → m = opM (msF s (tkQ s).2).m (tkQ s).1 (tkG s).1) ∧ ((tkK s).1 ≠ 1 → m = m0) := by
  unfold tkF at h ⊢
  generalize tkK s = K at h ⊢
  generalize tkG s = G at h ⊢
  generalize tkQ s = T at h ⊢
  generalize msF s T.2 = M at h ⊢
  obtain ⟨k, R1⟩ := K
  obtain ⟨g, R2⟩ := G
  obtain ⟨n, R3⟩ := T
  obtain ⟨m, fl, ⟨en, er, ea, eL⟩, R⟩ := M
  simp only at h ⊢
  by_cases hk : k = 1
  · rw [if_pos hk] at h ⊢
    by_cases h0 : en = 0
    · rw [if_pos h0] at h ⊢
      obtain ⟨h1, h2, h3⟩ := tkE_ok h
      exact ⟨_, h1, h2, h3, fun _ => rfl, fun h => absurd hk h⟩
    · rw [if_neg h0] at h
      exact absurd h h0
  · rw [if_neg hk] at h ⊢
    obtain ⟨h1, h2, h3⟩ := tkE_ok h
    exact ⟨_, h1, h2, h3, fun h => absurd h hk, fun _ => rfl⟩
theorem tkE_bad {s : ByteArray} {o : OV} {k fl : Nat} {R : RV} (h : (tkE s o k fl R).no ≠ 0) : (tkE s o k fl R).o = oo0 := by
  unfold tkE at h ⊢
  generalize dnR s R = D at h ⊢
  obtain ⟨d1, d2⟩ := D
  simp only at h ⊢
  by_cases h1 : d1 = 0
  · rw [if_pos h1] at h ⊢
    by_cases h2 : knK k = true ∧ fl ≤ 7 ∧ mayO o = true
    · rw [if_pos h2] at h
      exact absurd rfl h
    · rw [if_neg h2]
  · rw [if_neg h1]
theorem tk_bad {s : ByteArray} (h : (tkF s).no ≠ 0) : (tkF s).o = oo0 := by
  unfold tkF at h ⊢
  generalize tkK s = K at h ⊢
  generalize tkG s = G at h ⊢
  generalize tkQ s = T at h ⊢
  generalize msF s T.2 = M at h ⊢
  obtain ⟨k, R1⟩ := K
  obtain ⟨g, R2⟩ := G
  obtain ⟨n, R3⟩ := T
  obtain ⟨m, fl, ⟨en, er, ea, eL⟩, R⟩ := M
  simp only at h ⊢
  by_cases hk : k = 1
  · rw [if_pos hk] at h ⊢
    by_cases h0 : en = 0
    · rw [if_pos h0] at h ⊢
      exact tkE_bad h
    · rw [if_neg h0]
  · rw [if_neg hk] at h ⊢
    exact tkE_bad h
theorem tk_key {b : ByteArray} (h : (tkF b).no = 0) (hk : (tkF b).o.kind = 1) : kyM (tkF b).o.m = kyO (tkF b).o ∧ (tkF b).o.m.grp = (tkF b).o.grp ∧ (tkF b).o.m.seq = (tkF b).o.seq := by
  obtain ⟨m, e, h1, h2, h3, h4⟩ := tk_ok h
  rw [e] at hk ⊢
  simp only at hk ⊢
  rw [h3 (by omega)]
  exact ⟨rfl, rfl, rfl⟩
/-- The two agree. -/
structure RpInv (s : RpS) (d : RdS) : Prop where
  out : d.out = lfP s.pr 0 s.all
  last : d.last = s.last
  has : ∀ k j, lkP k s.pr = some j → ∃ m, s.all[j]? = some m ∧ kyM m = k
theorem rp_inv (l : List ByteArray) : RpInv (rpF l) (rdF l) := by
  induction l using snoc_ind with
  | nil => exact ⟨rfl, rfl, fun k j h => by cases h⟩
  | snoc l b ih =>
    rw [rpF_snoc, rdF_snoc]
    generalize rpF l = s at ih ⊢
    generalize rdF l = d at ih ⊢
    obtain ⟨h1, h2, h3⟩ := ih
    unfold rpStep rdStep
    by_cases h0 : (tkF b).no = 0
    · rw [if_pos h0, if_pos h0]
      by_cases hk : (tkF b).o.kind = 1
      · rw [if_pos hk, if_pos hk]
        have hky := (tk_key h0 hk).1
        by_cases hl : lkP (kyO (tkF b).o) s.pr = none
        · rw [if_pos hl, if_pos (by
            rw [h1, List.filter_eq_self.2 (fun m hm => by simpa using lf_key s.pr _ hl _ _ m hm)])]
          refine ⟨?_, by rw [h2], fun k j h => ?_⟩
          · show d.out ++ _ = lfP _ 0 (s.all ++ _)
            rw [lf_snoc, lf_put _ _ _ hl _ _ (by omega), hky, lk_put, if_pos rfl, if_pos (by rw [Nat.zero_add]), h1]
          · simp only at h
            rw [lk_put] at h
            by_cases hx : k = kyO (tkF b).o
            · rw [if_pos hx] at h
              injection h with h
              subst h
              exact ⟨(tkF b).o.m, by simp, by rw [hky, hx]⟩
            · rw [if_neg hx] at h
              obtain ⟨m, hm, he⟩ := h3 k j h
              exact ⟨m, by rw [List.getElem?_append_left (List.getElem?_eq_some_iff.1 hm).1]; exact hm, he⟩
        · rw [if_neg hl]
          obtain ⟨j, hj⟩ : ∃ j, lkP (kyO (tkF b).o) s.pr = some j := Option.ne_none_iff_exists'.1 hl
          obtain ⟨m, hm, he⟩ := h3 _ j hj
          have hin := lf_has s.pr _ j hj s.all 0 (Nat.zero_le _) m hm he
          rw [if_neg (by
            rw [h1]
            intro e
            have := (List.length_filter_eq_length_iff.1 e) m hin
            simp [he] at this)]
          exact ⟨h1, by rw [h2], h3⟩
      · rw [if_neg hk, if_neg hk]
        refine ⟨by rw [lf_del, h1], by rw [h2], fun k j h => ?_⟩
        simp only at h
        rw [lk_del] at h
        by_cases hx : k = kyO (tkF b).o
        · rw [if_pos hx] at h; cases h
        · rw [if_neg hx] at h
          exact h3 k j h
    · rw [if_neg h0, if_neg h0]
      exact ⟨h1, h2, h3⟩
theorem bytes_key {a b : ByteArray} : (a.toList == b.toList) = decide (a = b) := by
  rw [Lib.toList_data, Lib.toList_data]
  by_cases h : a = b
  · subst h; simp
  · rw [decide_eq_false h]
    simp only [beq_eq_false_iff_ne, ne_eq]
    exact fun e => h (ByteArray.ext (Array.toList_inj.mp e))
end Go.Proofs.YtnolnhpmpjgnaaaGreatDoor
