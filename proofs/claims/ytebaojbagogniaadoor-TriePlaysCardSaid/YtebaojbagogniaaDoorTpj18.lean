/- What is proved here: what tries answer that nobody made; and what an act does to a trie. Conditions: those that each theorem names. What is proved here: the program's trie, the document's and nobody's, side by side. Conditions: those that each theorem names. -/
import Derived.Test.YtebaojbagogniaaDoorLtc18
import Derived.Test.YtebaojbagogniaaDoorTxm18
import Derived.Test.YtebaojbagogniaaDoorRtb18
import Derived.Test.YtebaojbagogniaaDoorRne18
namespace Go.Proofs.YtebaojbagogniaaDoor
open Go.RowKit Go.Extern.Stop Go.Stop Go.Extern Go.Maps Go.Deep
set_option maxRecDepth 100000
/-- A trie that nobody made. -/
def NoT (w : World) (o : Value) : Prop := o = .pointer none ∨ ∃ z, o = .pointer (some ⟨z, 0, none⟩) ∧ Blk w z 33 #[.pointer none, .int .i64 0]
theorem NoT.below {w w' : World} {o : Value} (h : NoT w o) (hb : Below w.heap.size w w') : NoT w' o := by
  rcases h with h | ⟨z, h1, h2⟩
  · exact .inl h
  · exact .inr ⟨z, h1, h2.below hb h2.lt⟩
section
variable {w : World} {o : Value}
theorem not_is (h : NoT w o) : Calls Tryd.prog 24 #[o] w fun x w' => x = .returned (.bool true) ∧ w = w' := by
  rcases h with rfl | ⟨g, rfl, hz⟩
  · go_enter Tryd.func24, Tryd.ntmps24
    go_wp2
    go_ret
    exact ⟨rfl, rfl⟩
  · have c0 := hz.cell 0
    clear hz
    go_enter Tryd.func24, Tryd.ntmps24
    go_wp2
    go_ret
    exact ⟨rfl, rfl⟩
theorem not_add (h : NoT w o) (f s : ByteArray) : Calls Tryd.prog 17 #[o, .string f, .string s] w fun x w' => x = .returned (.bool false) ∧ w = w' := by
  have HI := Lib.hid (not_is h)
  clear h
  go_enter Tryd.func17, Tryd.ntmps17
  go_wp2_with fail
  refine HI.out.mono ?_
  rintro x W ⟨rfl, rfl⟩
  go_wp2_with fail
  go_ret
  exact ⟨rfl, rfl⟩
theorem not_drop (h : NoT w o) (f s : ByteArray) : Calls Tryd.prog 19 #[o, .string f, .string s] w fun x w' => x = .returned (.bool false) ∧ w = w' := by
  have HI := Lib.hid (not_is h)
  clear h
  go_enter Tryd.func19, Tryd.ntmps19
  go_wp2_with fail
  refine HI.out.mono ?_
  rintro x W ⟨rfl, rfl⟩
  go_wp2_with fail
  go_ret
  exact ⟨rfl, rfl⟩
theorem not_match (h : NoT w o) (s : ByteArray) : Calls Tryd.prog 18 #[o, .string s] w fun x w' => x = .returned (.slice none 0 0) ∧ w = w' := by
  have HI := Lib.hid (not_is h)
  clear h
  go_enter Tryd.func18, Tryd.ntmps18
  go_wp2_with fail
  refine HI.out.mono ?_
  rintro x W ⟨rfl, rfl⟩
  go_wp2_with fail
  go_ret
  exact ⟨rfl, rfl⟩
theorem not_all (h : NoT w o) : Calls Tryd.prog 14 #[o] w fun x w' => x = .returned (.slice none 0 0) ∧ w = w' := by
  have HI := Lib.hid (not_is h)
  clear h
  go_enter Tryd.func14, Tryd.ntmps14
  go_wp2_with fail
  refine HI.out.mono ?_
  rintro x W ⟨rfl, rfl⟩
  go_wp2_with fail
  go_ret
  exact ⟨rfl, rfl⟩
theorem not_nodes (h : NoT w o) : Calls Tryd.prog 15 #[o] w fun x w' => x = .returned (.int .i64 0) ∧ w = w' := by
  have HI := Lib.hid (not_is h)
  clear h
  go_enter Tryd.func15, Tryd.ntmps15
  go_wp2_with fail
  refine HI.out.mono ?_
  rintro x W ⟨rfl, rfl⟩
  go_wp2_with fail
  go_ret
  exact ⟨rfl, rfl⟩
/-- The world of an act's box. -/
def bxW (w : World) (k : Int) (f s : ByteArray) : World := w.alloc (.cells #[.int .i64 k, .string f, .string s] 38)
theorem bxB (w : World) (k : Int) (f s : ByteArray) : Below w.heap.size w (bxW w k f s) := (Below.refl _ w).alloc (Nat.le_refl _) _
set_option maxHeartbeats 4000000 in
/-- An act, by what its method says. -/
theorem do_any (o : Value) (k : Int) (f s : ByteArray) {w : World} {Q : Ending → World → Prop}
    (h1 : k = 1 → Calls Tryd.prog 17 #[o, .string f, .string s] (bxW w k f s) fun x w' => ∃ b, x = .returned (.bool b) ∧ Q (.returned (.tuple #[.bool b, .slice none 0 0])) w')
    (h2 : k = 2 → Calls Tryd.prog 19 #[o, .string f, .string s] (bxW w k f s) fun x w' => ∃ b, x = .returned (.bool b) ∧ Q (.returned (.tuple #[.bool b, .slice none 0 0])) w')
    (h3 : k ≠ 1 → k ≠ 2 → Calls Tryd.prog 18 #[o, .string f] (bxW w k f s) fun x w' => ∃ v, x = .returned v ∧ Q (.returned (.tuple #[.bool false, v])) w') :
    Calls Tryd.prog 9 #[o, .agg #[.int .i64 k, .string f, .string s]] w Q := by
  unfold bxW at h1 h2 h3
  by_cases hk1 : k = 1
  · have H := Lib.hid (h1 hk1)
    subst hk1
    clear h1 h2 h3
    go_enter Tryd.func9, Tryd.ntmps9
    go_wp2_with fail
    refine H.out.mono ?_
    rintro x W ⟨b, rfl, hq⟩
    have HQ := Lib.hid hq
    clear hq H
    go_wp2_with fail
    exact HQ.out
  · by_cases hk2 : k = 2
    · have H := Lib.hid (h2 hk2)
      subst hk2
      clear h1 h2 h3 hk1
      go_enter Tryd.func9, Tryd.ntmps9
      go_wp2_with fail
      refine H.out.mono ?_
      rintro x W ⟨b, rfl, hq⟩
      have HQ := Lib.hid hq
      clear hq H
      go_wp2_with fail
      exact HQ.out
    · have H := Lib.hid (h3 hk1 hk2)
      have e1 : (k == 1) = false := beq_eq_false_iff_ne.2 hk1
      have e2 : (k == 2) = false := beq_eq_false_iff_ne.2 hk2
      clear h1 h2 h3 hk1 hk2
      go_enter Tryd.func9, Tryd.ntmps9
      go_wp2_with fail
      refine H.out.mono ?_
      rintro x W ⟨v, rfl, hq⟩
      have HQ := Lib.hid hq
      clear hq H
      go_wp2_with fail
      exact HQ.out
theorem not_do (h : NoT w o) (k : Int) (f s : ByteArray) : Calls Tryd.prog 9 #[o, .agg #[.int .i64 k, .string f, .string s]] w fun x w' => x = .returned (.tuple #[.bool false, .slice none 0 0]) ∧ Below w.heap.size w w' :=
  do_any o k f s
    (fun _ => (not_add (h.below (bxB w k f s)) f s).mono fun _ _ ⟨h1, h2⟩ => ⟨false, h1, rfl, h2 ▸ bxB w k f s⟩)
    (fun _ => (not_drop (h.below (bxB w k f s)) f s).mono fun _ _ ⟨h1, h2⟩ => ⟨false, h1, rfl, h2 ▸ bxB w k f s⟩)
    (fun _ _ => (not_match (h.below (bxB w k f s)) f).mono fun _ _ ⟨h1, h2⟩ => ⟨_, h1, rfl, h2 ▸ bxB w k f s⟩)
end
end Go.Proofs.YtebaojbagogniaaDoor
namespace Go.Proofs.YtebaojbagogniaaDoor
open Go.RowKit Go.Extern.Stop Go.Stop Go.Extern Go.Maps Go.Deep
set_option maxRecDepth 100000
structure PlK (w W : World) (g : Nat) (T : NL) (r : Nat) (E : List EV) (x : Nat) (v : Value) (D : List EV) (z kb : Nat) : Prop where
  te : TE w W g T r E
  rt : RTr W w.heap.size x v D
  zb : Blk W z 33 #[.pointer none, .int .i64 0]
  zg : z ≠ g
  nb : Blk W kb 25 #[.pointer none, .pointer (some ⟨z, 0, none⟩)]
structure PlJ (w W : World) (g : Nat) (T : NL) (r : Nat) (x : Nat) (v : Value) (D : List EV) (z kb k : Nat) : Prop where
  pk : PlK w W g T r D x v D z kb
  len : T.length ≤ 1 + 201 * k
  few : D.length ≤ k
  fl : ∀ e ∈ D, filtB e.2 = true
  srt : SrtE D
section
variable {w W W' : World} {g r x z kb k : Nat} {T T' : NL} {E E' D D' : List EV} {v v' : Value} {f s : ByteArray}
theorem PlK.below (h : PlK w W g T r E x v D z kb) (hb : Below W.heap.size W W') : PlK w W' g T r E x v D z kb :=
  ⟨h.te.below hb, h.rt.below hb, h.zb.below hb h.zb.lt, h.zg, h.nb.below hb h.nb.lt⟩
theorem PlJ.below (h : PlJ w W g T r x v D z kb k) (hb : Below W.heap.size W W') : PlJ w W' g T r x v D z kb k := ⟨h.pk.below hb, h.len, h.few, h.fl, h.srt⟩
/-- The program's trie changes. -/
theorem PlK.prog (h : PlK w W g T r E x v D z kb) (ht : TE w W' g T' r E') (hf : Fr (fp g T) W W') : PlK w W' g T' r E' x v D z kb := by
  have hfp := h.te.st.i
  refine ⟨ht, h.rt.fr hf fun b hb => ⟨?_, fun e => ?_⟩, h.zb.fr hf fun hm => ?_, h.zg, h.nb.fr hf fun hm => ?_⟩
  · rcases mem_fp.1 hb with rfl | ⟨n, hn, rfl | rfl⟩
    · exact hfp.blk.other h.rt.blk (by decide)
    · exact ((hfp.th.nx n hn).ne h.rt.blk).symm
    · exact ((hfp.th.en n hn).ne h.rt.blk).symm
  · obtain ⟨_, _, cs, hc⟩ := h.rt.row.lt b e
    exact hfp.noEnt b hb cs hc
  · rcases mem_fp.1 hm with e | ⟨n, hn, e | e⟩
    · exact h.zg e
    · exact (hfp.th.nx n hn).ne h.zb e
    · exact (hfp.th.en n hn).ne h.zb e
  · rcases mem_fp.1 hm with e | ⟨n, hn, e | e⟩
    · exact h.nb.other hfp.blk (by decide) e
    · exact (hfp.th.nx n hn).ne h.nb e
    · exact (hfp.th.en n hn).ne h.nb e
/-- The document's trie changes. -/
theorem PlK.doc (h : PlK w W g T r E x v D z kb) (ht : RTr W' w.heap.size x v' D') (hf : Fr [x] W W') : PlK w W' g T r E x v' D' z kb := by
  have hfp := h.te.st.i
  have hbel : Below w.heap.size w W' := hf.later h.te.bel (fun b hb => by rw [List.mem_singleton] at hb; rw [hb]; exact h.rt.low) h.te.bel.size
  refine ⟨⟨⟨hfp.fr hf fun b hb => ?_, h.te.st.u, h.te.st.sz⟩, hbel, h.te.ge, h.te.mem⟩, ht, h.zb.fr hf fun hm => ?_, h.zg, h.nb.fr hf fun hm => ?_⟩
  · rw [List.mem_singleton] at hb
    subst hb
    exact ⟨(hfp.blk.other h.rt.blk (by decide)).symm, fun n hn => ⟨((hfp.th.nb n hn).other h.rt.blk (by decide)).symm, (hfp.th.nx n hn).ne h.rt.blk, (hfp.th.en n hn).ne h.rt.blk⟩⟩
  · rw [List.mem_singleton] at hm
    exact h.zb.other h.rt.blk (by decide) hm
  · rw [List.mem_singleton] at hm
    exact h.nb.other h.rt.blk (by decide) hm
theorem PlK.re (h : PlK w W g T r E x v D z kb) (hm : ∀ e, e ∈ E ↔ e ∈ E') : PlK w W g T r E' x v D z kb := ⟨h.te.re hm, h.rt, h.zb, h.zg, h.nb⟩
theorem srt_nodup (h : SrtE D) : D.Nodup := h.imp fun {a b} hlt e => by
  rw [e, lessE_irr] at hlt
  cases hlt
theorem add_same : ∀ e, e ∈ addE D f s ↔ e ∈ raddD (s, f) D := fun e => by
  have hb : raddB (s, f) D = addB D f s := rfl
  unfold addE raddD
  rw [hb]
  split
  · rw [(insE_perm (s, f) D).mem_iff]
  · exact Iff.rfl
theorem mem_addE18 {e : EV} : e ∈ addE D f s ↔ e ∈ D ∨ (filtB f = true ∧ e = (s, f)) := by
  unfold addE
  cases hb : addB D f s with
  | false =>
    rw [if_neg Bool.false_ne_true]
    constructor
    · exact .inl
    · rintro (h | ⟨hf, rfl⟩)
      · exact h
      · unfold addB at hb
        rw [hf, Bool.true_and, Bool.not_eq_false'] at hb
        exact inE_iff.1 hb
  | true =>
    rw [if_pos rfl, List.mem_cons]
    unfold addB at hb
    rw [Bool.and_eq_true] at hb
    constructor
    · rintro (h | h)
      · exact .inr ⟨hb.1, h⟩
      · exact .inl h
    · rintro (h | ⟨_, h⟩)
      · exact .inr h
      · exact .inl h
theorem add_fl (h : ∀ e ∈ D, filtB e.2 = true) : ∀ e ∈ raddD (s, f) D, filtB e.2 = true := fun e he => by
  rw [← add_same, mem_addE18] at he
  rcases he with he | ⟨hf, rfl⟩
  · exact h e he
  · exact hf
theorem add_srt (h : SrtE D) : SrtE (raddD (s, f) D) := by
  unfold raddD
  cases hb : raddB (s, f) D with
  | false => exact h
  | true =>
    unfold raddB at hb
    rw [Bool.and_eq_true, Bool.not_eq_true'] at hb
    exact insE_srt h fun hm => by
      rw [inE_iff.2 hm] at hb
      cases hb.2
theorem add_len : (raddD (s, f) D).length ≤ D.length + 1 := by
  unfold raddD
  split
  · rw [(insE_perm (s, f) D).length_eq, List.length_cons]
    exact Nat.le_refl _
  · omega
theorem dropP_iff {e : EV} : dropP f s e = true ↔ e ≠ (s, f) := by
  unfold dropP
  rw [Bool.not_eq_true', Bool.and_eq_false_iff, decide_eq_false_iff_not, decide_eq_false_iff_not]
  constructor
  · rintro (h | h) e1
    · exact h (by rw [e1])
    · exact h (by rw [e1])
  · intro h
    by_cases h1 : e.2 = f
    · exact .inr fun h2 => h (Prod.ext h2 h1)
    · exact .inl h1
theorem drop_same (h : ∀ e ∈ D, filtB e.2 = true) : ∀ e, e ∈ dropE D f s ↔ e ∈ D.filter (dropP f s) := fun e => by
  rw [List.mem_filter, dropP_iff]
  unfold dropE
  cases hb : dropB D f s with
  | false =>
    rw [if_neg Bool.false_ne_true]
    constructor
    · intro he
      refine ⟨he, fun e1 => ?_⟩
      subst e1
      unfold dropB at hb
      rw [h _ he, Bool.true_and, Bool.eq_false_iff] at hb
      exact hb (inE_iff.2 he)
    · exact fun he => he.1
  | true => rw [if_pos rfl, List.mem_filter, decide_eq_true_iff]
theorem drop_b (h : ∀ e ∈ D, filtB e.2 = true) : dropB D f s = decide ((D.filter (dropP f s)).length < D.length) := by
  rw [Bool.eq_iff_iff, decide_eq_true_iff]
  unfold dropB
  rw [Bool.and_eq_true, inE_iff]
  constructor
  · rintro ⟨_, hm⟩
    rcases Nat.lt_or_ge (D.filter (dropP f s)).length D.length with hl | hl
    · exact hl
    · have := List.length_filter_eq_length_iff.1 (Nat.le_antisymm (List.length_filter_le _ _) hl) _ hm
      exact absurd rfl (dropP_iff.1 this)
  · intro hl
    have : ¬ ∀ e ∈ D, dropP f s e = true := fun hall => by
      rw [List.filter_eq_self.2 hall] at hl
      omega
    refine Classical.byContradiction fun hne => this fun e he => dropP_iff.2 fun e1 => ?_
    subst e1
    exact hne ⟨h _ he, he⟩
/-- What an act of the program's leaves. -/
def DoSays (w : World) (g : Nat) (r : Nat) (x : Nat) (v : Value) (D : List EV) (z kb k : Nat) (kd : Int) (f s : ByteArray) (e : Ending) (W : World) : Prop :=
  ∃ b A c T' E' R, e = .returned (.tuple #[.bool b, .slice A (R : List EV).length c]) ∧ PlK w W g T' r E' x v D z kb ∧ T'.length ≤ 1 + 201 * (k + 1) ∧ (∃ B, ERow18 W B (.slice A R.length c) R) ∧
    (kd = 1 → b = addB D f s ∧ E' = addE D f s ∧ R = []) ∧ (kd = 2 → b = dropB D f s ∧ E' = dropE D f s ∧ R = []) ∧ (kd ≠ 1 → kd ≠ 2 → b = false ∧ E' = D ∧ R = D.filter (mtE f))
theorem pl_do {S : Nat → Addr} (h : PlJ w W g T r x v D z kb k) (hk : k ≤ 40) (kd : Int) (hf : f.size ≤ 200) (hs : s.size ≤ 200) (he : EnvT w S) :
    Calls Tryd.prog 9 #[.pointer (some ⟨g, 0, none⟩), .agg #[.int .i64 kd, .string f, .string s]] W (DoSays w g r x v D z kb k kd f s) := by
  have hb := bxB W kd f s
  have hp := h.pk.below hb
  have hT := h.len
  have hD := h.few
  refine do_any _ kd f s (fun h1 => ?_) (fun h2 => ?_) (fun h1 h2 => ?_)
  · refine (te_add hp.te hf hs (he.later hp.te.bel) (by omega) (by omega)).mono fun e V ⟨hx, T', ht, hl, hfr, _⟩ => ⟨_, hx, _, none, 0, T', _, [], rfl, hp.prog ht hfr, by omega, ⟨0, World.ownsRow_nil _ _ _ _⟩, fun _ => ⟨rfl, rfl, rfl⟩, fun h2 => absurd (h1.symm.trans h2) (by decide), fun h2 => absurd h1 h2⟩
  · refine (te_drop hp.te hf hs (he.later hp.te.bel) (by omega)).mono fun e V ⟨hx, T', ht, hl, hfr, _⟩ => ⟨_, hx, _, none, 0, T', _, [], rfl, hp.prog ht hfr, by omega, ⟨0, World.ownsRow_nil _ _ _ _⟩, fun h1 => absurd (h1.symm.trans h2) (by decide), fun _ => ⟨rfl, rfl, rfl⟩, fun _ h3 => absurd h2 h3⟩
  · refine (te_match hp.te hf (he.later hp.te.bel) (by omega)).mono fun e V ⟨u, d, hx, hr, hpm, hsrt, hb2⟩ => ?_
    obtain ⟨A, c, rfl⟩ := hr.form
    have hd : d = D.filter (mtE f) := one_srtG (r := lessE) (h.srt.sublist List.filter_sublist) (hpm.trans (takeE_doc (srt_nodup h.srt) h.fl)) hsrt
    exact ⟨_, hx, false, A, c, T, D, d, rfl, hp.below hb2, by omega, ⟨_, hr⟩, fun h3 => absurd h3 h1, fun h3 => absurd h3 h2, fun _ _ => ⟨rfl, rfl, hd⟩⟩
/-- Both sides behind an act: what each answered stands as well. -/
def PlX (w W : World) (g : Nat) (T : NL) (r x z kb k : Nat) (A8 : Option Addr) (c8 : Nat) (A10 : Option Addr) (c10 nr : Nat) (R : List EV) : Prop :=
  ∃ v D, PlJ w W g T r x v D z kb k ∧ (∃ B, ERow18 W B (.slice A8 nr c8) R) ∧ (∃ B, ERow18 W B (.slice A10 nr c10) R) ∧ nr = R.length ∧ nr ≤ 900
theorem row_x {B : Nat} {u : Value} {L : List EV} {B2 : Nat} (hr : ERow18 W B u L) (h : RTr W B2 x v D) (hf : Fr [x] W W') : ERow18 W' B u L := hr.fr hf fun k hk hm => by
  obtain ⟨_, _, cs, hc⟩ := hr.lt k hk
  rw [List.mem_singleton] at hm
  subst hm
  exact h.blk.other hc (by decide) rfl
theorem radd_any {B : Nat} (h : RTr W B x v D) (hs : SrtE D) (hf : f.size ≤ 200) (hlen : D.length < 800) : Calls Tryd.prog 10 #[.pointer (some ⟨x, 0, none⟩), .string f, .string s] W (RAddSays W B x (s, f) D) := by
  cases hn : filtB f with
  | false => exact radd_no h (s, f) (show f.size ≤ 1000 by omega) hn
  | true => exact radd_yes h hs (s, f) (show f.size ≤ 1000 by omega) hn hlen
theorem pl_add {b : Bool} {A8 : Option Addr} {c8 : Nat} (h : PlK w W g T r E x v D z kb) (hT : T.length ≤ 1 + 201 * (k + 1)) (hD : D.length ≤ k) (hk : k ≤ 40) (hfl : ∀ e ∈ D, filtB e.2 = true) (hs : SrtE D) (hf : f.size ≤ 200) (hb : b = addB D f s) (hE : E = addE D f s) (hr : ∃ B, ERow18 W B (.slice A8 0 c8) []) :
    Calls Tryd.prog 10 #[.pointer (some ⟨x, 0, none⟩), .string f, .string s] W fun e W' => e = .returned (.bool b) ∧ Below w.heap.size w W' ∧ PlX w W' g T r x z kb (k + 1) A8 c8 none 0 0 [] :=
  (radd_any (s := s) h.rt hs hf (by omega)).mono fun e W' ⟨he, u, hu, hfr⟩ => by
    subst hE
    have hd := (h.doc hu hfr).re (E' := raddD (s, f) D) (fun e => add_same e)
    refine ⟨by rw [he, hb]; rfl, hd.te.bel, u, _, ⟨hd, hT, by have := add_len (D := D) (f := f) (s := s); omega, add_fl hfl, add_srt hs⟩, ?_, ⟨0, World.ownsRow_nil _ _ _ _⟩, rfl, Nat.zero_le _⟩
    obtain ⟨B, hr⟩ := hr
    exact ⟨B, row_x hr h.rt hfr⟩
theorem pl_drop {b : Bool} {A8 : Option Addr} {c8 : Nat} (h : PlK w W g T r E x v D z kb) (hT : T.length ≤ 1 + 201 * (k + 1)) (hD : D.length ≤ k) (hfl : ∀ e ∈ D, filtB e.2 = true) (hs : SrtE D) (hb : b = dropB D f s) (hE : E = dropE D f s) (hr : ∃ B, ERow18 W B (.slice A8 0 c8) []) :
    Calls Tryd.prog 11 #[.pointer (some ⟨x, 0, none⟩), .string f, .string s] W fun e W' => e = .returned (.bool b) ∧ Below w.heap.size w W' ∧ PlX w W' g T r x z kb (k + 1) A8 c8 none 0 0 [] :=
  (rdrop18_any h.rt f s).mono fun e W' ⟨he, u, hu, hfr⟩ => by
    subst hE
    have hd := (h.doc hu hfr).re (drop_same hfl)
    refine ⟨by rw [he, hb, drop_b hfl], hd.te.bel, u, _, ⟨hd, hT, by have := List.length_filter_le (dropP f s) D; omega, fun e he => hfl e (List.mem_filter.1 he).1, hs.sublist List.filter_sublist⟩, ?_, ⟨0, World.ownsRow_nil _ _ _ _⟩, rfl, Nat.zero_le _⟩
    obtain ⟨B, hr⟩ := hr
    exact ⟨B, row_x hr h.rt hfr⟩
theorem pl_match {A8 : Option Addr} {c8 nr : Nat} (h : PlK w W g T r D x v D z kb) (hT : T.length ≤ 1 + 201 * (k + 1)) (hD : D.length ≤ k) (hk : k ≤ 40) (hfl : ∀ e ∈ D, filtB e.2 = true) (hs : SrtE D) (hf : f.size ≤ 200) (hsz : ∀ e ∈ D, e.2.size ≤ 200) (hnr : nr = (D.filter (mtE f)).length) (hr : ∃ B, ERow18 W B (.slice A8 nr c8) (D.filter (mtE f))) :
    Calls Tryd.prog 12 #[.pointer (some ⟨x, 0, none⟩), .string f] W fun e W' => ∃ A10 c10, e = .returned (.slice A10 nr c10) ∧ PlX w W' g T r x z kb (k + 1) A8 c8 A10 c10 nr (D.filter (mtE f)) :=
  (rmatch18_any h.rt (fun e he => by have := hsz e he; omega) f (by omega)).mono fun e W' ⟨u, he, hu, hbel⟩ => by
    obtain ⟨A10, c10, rfl⟩ := hu.form
    rw [← hnr] at he hu
    obtain ⟨B, hr⟩ := hr
    have hl := List.length_filter_le (mtE f) D
    exact ⟨A10, c10, he, v, D, ⟨h.below hbel, hT, by omega, hfl, hs⟩, ⟨B, hr.below hbel⟩, ⟨_, hu⟩, hnr, by omega⟩
end
end Go.Proofs.YtebaojbagogniaaDoor
