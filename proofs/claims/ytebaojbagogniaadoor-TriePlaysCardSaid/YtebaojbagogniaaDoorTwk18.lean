/- What is proved here: a trie of a walk's own, with what was added and dropped as a list; how many nodes there are by that list. Conditions: those that each theorem names. What is proved here: the run that the statements of tries come to where there are too many acts: it answers true. Condition: the two errors that a check names. -/
import Derived.Test.YtebaojbagogniaaDoorTmz18
import Derived.Test.YtebaojbagogniaaDoorSme18
namespace Go.Proofs.YtebaojbagogniaaDoor
open Go.RowKit Go.Extern.Stop Go.Stop Go.Extern Go.Maps Go.Deep
set_option maxRecDepth 100000
def dd {α : Type} [DecidableEq α] : List α → List α
  | [] => []
  | x :: L => if x ∈ L then dd L else x :: dd L
theorem mem_dd {α : Type} [DecidableEq α] {x : α} : ∀ {L : List α}, x ∈ dd L ↔ x ∈ L
  | [] => Iff.rfl
  | y :: L => by
    unfold dd
    split
    · rename_i h
      rw [mem_dd, List.mem_cons]
      constructor
      · exact .inr
      · rintro (rfl | h2)
        · exact h
        · exact h2
    · rw [List.mem_cons, List.mem_cons, mem_dd]
theorem dd_nodup {α : Type} [DecidableEq α] : ∀ L : List α, (dd L).Nodup
  | [] => List.nodup_nil
  | y :: L => by
    unfold dd
    split
    · exact dd_nodup L
    · rename_i h
      exact List.nodup_cons.2 ⟨fun hm => h (mem_dd.1 hm), dd_nodup L⟩
theorem dd_le {α : Type} [DecidableEq α] : ∀ L : List α, (dd L).length ≤ L.length
  | [] => Nat.le_refl _
  | y :: L => by
    unfold dd
    have := dd_le L
    split
    · rw [List.length_cons]
      omega
    · rw [List.length_cons, List.length_cons]
      omega
/-- The places that levels tell. -/
def sufs : List BL → List (List BL)
  | [] => []
  | l :: q => (l :: q) :: sufs q
theorem mem_sufs {x : List BL} : ∀ {q : List BL}, x ∈ sufs q ↔ x ≠ [] ∧ x <:+ q
  | [] => by
    unfold sufs
    constructor
    · intro h
      cases h
    · rintro ⟨h1, h2⟩
      exact absurd (List.suffix_nil.1 h2) h1
  | l :: q => by
    unfold sufs
    rw [List.mem_cons, mem_sufs, List.suffix_cons_iff]
    constructor
    · rintro (rfl | ⟨h1, h2⟩)
      · exact ⟨by simp, .inl rfl⟩
      · exact ⟨h1, .inr h2⟩
    · rintro ⟨h1, h2 | h2⟩
      · exact .inl h2
      · exact .inr ⟨h1, h2⟩
def nodesE (E : List EV) : Nat := (dd (E.flatMap fun e => sufs (lv e))).length
theorem len_nodes {T : NL} {E : List EV} (h : TC T) (hu : TU T) (he : ∀ e, e ∈ ents T ↔ e ∈ E) : T.length = nodesE E + 1 := by
  have hp : (T.map NV.rp).Perm ([] :: dd (E.flatMap fun e => sufs (lv e))) := by
    refine nodup_perm h.rps (List.nodup_cons.2 ⟨fun hm => ?_, dd_nodup _⟩) fun q => ?_
    · obtain ⟨e, _, hx⟩ := List.mem_flatMap.1 (mem_dd.1 hm)
      exact (mem_sufs.1 hx).1 rfl
    · rw [List.mem_map, List.mem_cons, mem_dd, List.mem_flatMap]
      rcases Classical.em (q = []) with rfl | hq
      · obtain ⟨r, hr, e⟩ := h.root
        exact ⟨fun _ => .inl rfl, fun _ => ⟨r, hr, e⟩⟩
      · rw [hu.places h hq]
        constructor
        · rintro ⟨e, hx, hs⟩
          exact .inr ⟨e, (he e).1 hx, mem_sufs.2 ⟨hq, hs⟩⟩
        · rintro (e | ⟨e, hx, hs⟩)
          · exact absurd e hq
          · exact ⟨e, (he e).2 hx, (mem_sufs.1 hs).2⟩
  have := hp.length_eq
  rw [List.length_map, List.length_cons] at this
  exact this
theorem inE_iff {x : EV} {E : List EV} : inE x E = true ↔ x ∈ E := by
  unfold inE
  simp
/-- A trie of a walk's own; E is what is there. -/
structure TE (w W : World) (g : Nat) (T : NL) (r : Nat) (E : List EV) : Prop where
  st : TrS W g T r
  bel : Below w.heap.size w W
  ge : w.heap.size ≤ g ∧ ∀ n ∈ T, w.heap.size ≤ n.blk ∧ w.heap.size ≤ n.nx ∧ w.heap.size ≤ n.en
  mem : ∀ e, e ∈ ents T ↔ e ∈ E
section
variable {w W W' : World} {g r : Nat} {T T' : NL} {E E' : List EV} {f s : ByteArray} {S : Nat → Addr}
theorem TE.below (h : TE w W g T r E) (hb : Below W.heap.size W W') : TE w W' g T r E := ⟨h.st.below hb, h.bel.trans (hb.mono h.bel.size), h.ge, h.mem⟩
theorem TE.perm (h : TE w W g T r E) : (ents T).Perm (dd E) := nodup_perm h.st.i.tc.nodup (dd_nodup E) fun e => by rw [h.mem, mem_dd]
theorem TE.few (h : TE w W g T r E) : (ents T).length ≤ E.length := by
  rw [h.perm.length_eq]
  exact dd_le E
theorem TE.low (h : TE w W g T r E) : ∀ b ∈ fp g T, w.heap.size ≤ b := fun b hb => by
  rcases mem_fp.1 hb with rfl | ⟨n, hn, rfl | rfl⟩
  · exact h.ge.1
  · exact (h.ge.2 n hn).2.1
  · exact (h.ge.2 n hn).2.2
theorem TE.on (h : TE w W g T r E) (ht : TrS W' g T' r) (hf : Fr (fp g T) W W') (hg : Grw W T T') (hm : ∀ e, e ∈ ents T' ↔ e ∈ E') : TE w W' g T' r E' := by
  refine ⟨ht, hf.later h.bel h.low h.bel.size, ⟨h.ge.1, fun n hn => ?_⟩, hm⟩
  rcases hg n hn with ⟨m, hm, e1, e2, e3⟩ | ⟨h1, h2, h3⟩
  · rw [e1, e2, e3]
    exact h.ge.2 m hm
  · have := h.bel.size
    exact ⟨by omega, by omega, by omega⟩
def addB (E : List EV) (f s : ByteArray) : Bool := filtB f && !inE (s, f) E
def addE (E : List EV) (f s : ByteArray) : List EV := if addB E f s then (s, f) :: E else E
def dropB (E : List EV) (f s : ByteArray) : Bool := filtB f && inE (s, f) E
def dropE (E : List EV) (f s : ByteArray) : List EV := if dropB E f s then E.filter (fun e => decide (e ≠ (s, f))) else E
theorem TE.has (h : TE w W g T r E) : hasE T (s, f) = inE (s, f) E := by
  rw [Bool.eq_iff_iff, hasE_iff, h.mem, inE_iff]
theorem te_add (h : TE w W g T r E) (hf : f.size ≤ 200) (hs : s.size ≤ 200) (he : EnvT W S) (hT : T.length ≤ 1000000) (hE : E.length ≤ 900) :
    Calls Tryd.prog 17 #[.pointer (some ⟨g, 0, none⟩), .string f, .string s] W fun x W' => x = .returned (.bool (addB E f s)) ∧ ∃ T', TE w W' g T' r (addE E f s) ∧ T'.length ≤ T.length + 201 ∧ Fr (fp g T) W W' ∧ Grw W T T' :=
  (tadd_any h.st f s hf hs he hT (by have := h.few; omega)).mono fun x W' ⟨b, T', hx, hb, ht, hm, hl, hfr, hg⟩ => by
    rw [h.has] at hb
    have hb2 : b = addB E f s := hb
    refine ⟨by rw [hx, hb2], T', h.on ht hfr hg fun e => ?_, by have := spl_few hf; omega, hfr, hg⟩
    rw [hm, h.mem, hb2]
    unfold addE
    cases addB E f s with
    | false => simp
    | true => rw [if_pos rfl, List.mem_cons]; simp [or_comm]
theorem te_drop (h : TE w W g T r E) (hf : f.size ≤ 200) (hs : s.size ≤ 200) (he : EnvT W S) (hT : T.length ≤ 1000000) :
    Calls Tryd.prog 19 #[.pointer (some ⟨g, 0, none⟩), .string f, .string s] W fun x W' => x = .returned (.bool (dropB E f s)) ∧ ∃ T', TE w W' g T' r (dropE E f s) ∧ T'.length ≤ T.length ∧ Fr (fp g T) W W' ∧ Grw W T T' :=
  (tdrop_any h.st f s hf hs he hT).mono fun x W' ⟨b, T', hx, hb, ht, hm, hl, hfr, hg⟩ => by
    rw [h.has] at hb
    have hb2 : b = dropB E f s := hb
    refine ⟨by rw [hx, hb2], T', h.on ht hfr hg fun e => ?_, hl, hfr, hg⟩
    rw [hm, h.mem, hb2]
    unfold dropE
    cases dropB E f s with
    | false => simp
    | true => rw [if_pos rfl, List.mem_filter, decide_eq_true_iff]; simp
theorem te_all (h : TE w W g T r E) (hE : E.length ≤ 900) : Calls Tryd.prog 14 #[.pointer (some ⟨g, 0, none⟩)] W (SrtSays W (dd E)) :=
  (tall_any h.st (by have := h.few; omega)).mono fun x W' ⟨v, d, h1, h2, h3, h4, h5⟩ => ⟨v, d, h1, h2, h3.trans h.perm, h4, h5⟩
theorem te_nodes (h : TE w W g T r E) : Calls Tryd.prog 15 #[.pointer (some ⟨g, 0, none⟩)] W fun x W' => x = .returned (.int .i64 (nodesE E : Nat)) ∧ W = W' :=
  (tnodes_any h.st).mono fun x W' ⟨h1, h2⟩ => ⟨by rw [h1, len_nodes h.st.i.tc h.st.u h.mem]; congr 2; omega, h2⟩
/-- What Match takes of a list. -/
def takeE (E : List EV) (s : ByteArray) : List EV := if nameB s then (dd E).filter (fun e => decide (lv e ∈ visP [] (spl (ls s)) (matchB ⟨#[35]⟩ s))) else []
theorem te_match (h : TE w W g T r E) (hs : s.size ≤ 200) (he : EnvT W S) (hE : E.length ≤ 900) : Calls Tryd.prog 18 #[.pointer (some ⟨g, 0, none⟩), .string s] W (SrtSays W (takeE E s)) :=
  (tmatch_any h.st s hs he (by have := h.few; omega)).mono fun x W' ⟨v, d, h1, h2, h3, h4, h5⟩ => ⟨v, d, h1, h2, h3.trans (by
    unfold matchE takeE
    cases hn : nameB s with
    | false => exact List.Perm.refl _
    | true =>
      rw [if_pos rfl, if_pos rfl]
      refine nodup_perm (visE_nodup h.st.i.tc _ _ _ (name_levels hn).1 (name_levels hn).2) ((dd_nodup E).sublist List.filter_sublist) fun e => ?_
      rw [mem_visE h.st.i.tc, List.mem_filter, decide_eq_true_iff, mem_dd, h.mem]), h4, h5⟩
theorem te_new (w : World) : Calls Tryd.prog 8 #[] w fun x W => ∃ g T r, x = .returned (.pointer (some ⟨g, 0, none⟩)) ∧ TE w W g T r [] ∧ T.length = 1 :=
  (tnew_any w).mono fun x W ⟨g, T, r, h1, h2, h3, h4, h5, h6, h7⟩ => ⟨g, T, r, h1, ⟨h2, h7, ⟨h5, h6⟩, fun e => by rw [h3]⟩, h4⟩
/-- What is sorted, and of one list, is so in one way alone. -/
theorem srt_one {A B : List EV} (hp : A.Perm B) (hd : A.Nodup) (h1 : A.Pairwise (fun a b => lessE b a = false)) (h2 : B.Pairwise (fun a b => lessE b a = false)) : A = B := by
  refine one_srtG (r := lessE) (L := B) ?_ hp h1
  have hB : B.Nodup := hp.nodup_iff.1 hd
  refine (List.Pairwise.and hB h2).imp fun {a b} ⟨hne, hlt⟩ => ?_
  cases h : lessE a b with
  | true => rfl
  | false => exact absurd (lessE_tot h hlt) hne
end
end Go.Proofs.YtebaojbagogniaaDoor
namespace Go.Proofs.YtebaojbagogniaaDoor
open Go.RowKit Go.Extern.Stop Go.Stop Go.Extern Go.Maps Go.Deep
set_option maxRecDepth 100000
def fA : ByteArray := ⟨#[97, 47, 43]⟩
def fB : ByteArray := ⟨#[97, 47, 35]⟩
def wU : ByteArray := ⟨#[117]⟩
def wT : ByteArray := ⟨#[116]⟩
def E1 : List EV := [(wU, fA)]
def E2 : List EV := [(wT, fB), (wU, fA)]
theorem aw1 : addB [] fA wU = true := by kernel_rfl
theorem aw2 : addB E1 fA wU = false := by kernel_rfl
theorem aw3 : addB E1 fB wT = true := by kernel_rfl
theorem aw4 : takeE E2 ⟨#[97, 47, 98]⟩ = E2 := by kernel_rfl
theorem aw5 : nodesE E2 = 3 := by kernel_rfl
theorem aw6 : dropB E2 fB wT = true := by kernel_rfl
theorem aw7 : dropE E2 fB wT = E1 := by kernel_rfl
theorem aw8 : nodesE E1 = 2 := by kernel_rfl
theorem aw9 : (dd E1).length = 1 := by kernel_rfl
theorem aw10 : E2.Pairwise (fun a b => lessE a b = true) := by
  unfold E2
  refine List.pairwise_cons.2 ⟨fun a ha => ?_, List.pairwise_singleton _ _⟩
  rw [List.mem_singleton.1 ha]
  kernel_rfl
theorem erow_lit {w : World} {k : Nat} {L : List EV} (h : Blk w k 46 (ecs L).toArray) (hm : L.length ≤ 1000) : ERow18 w k (.slice (some ⟨k, 0, none⟩) L.length L.length) L := by
  refine ⟨ecs_len L, .inr ⟨k, L.length, (ecs L).toArray, rfl, Nat.le_refl _, h, Nat.le_refl _, ?_, ?_, ?_⟩⟩
  · unfold maxLen
    omega
  · rw [List.size_toArray, ecs_len]
  · rw [← ecs_len L, List.take_length]
set_option maxHeartbeats 8000000 in
theorem awake18 {S : Nat → Addr} (w : World) (he : EnvT w S) : Calls Tryd.prog 7 #[] w fun x w' => x = .returned (.bool true) ∧ Below w.heap.size w w' := by
  have HE := Lib.hid he
  have HN := Lib.hid (te_new w)
  clear he
  go_enter Tryd.func7, Tryd.ntmps7
  go_wp2_with fail
  refine HN.out.mono ?_
  rintro x W1 ⟨g, T1, r, rfl, h, hl⟩
  have H1 := Lib.hid h
  have HL1 := Lib.hid hl
  have P1 := Lib.hid (te_add H1.out (f := fA) (s := wU) (by decide) (by decide) (HE.out.later H1.out.bel) (by omega) (by decide))
  clear h hl HN
  go_wp2_with fail
  refine P1.out.mono ?_
  rintro x W2 ⟨rfl, T2, h, hl, _, _⟩
  rw [aw1] at *
  have H2 : Hid (TE w W2 g T2 r E1) := Lib.hid h
  have HL2 := Lib.hid (show T2.length ≤ 202 by have := HL1.out; omega)
  have P2 := Lib.hid (te_add H2.out (f := fA) (s := wU) (by decide) (by decide) (HE.out.later H2.out.bel) (by have := HL2.out; omega) (by decide))
  clear h hl P1 H1 HL1
  go_wp2_with fail
  refine P2.out.mono ?_
  rintro x W3 ⟨rfl, T3, h, hl, _, _⟩
  rw [aw2] at *
  have H3 : Hid (TE w W3 g T3 r E1) := Lib.hid (by
    have := h
    unfold addE at this
    rw [aw2] at this
    exact this)
  have HL3 := Lib.hid (show T3.length ≤ 403 by have := HL2.out; omega)
  have P3 := Lib.hid (te_add H3.out (f := fB) (s := wT) (by decide) (by decide) (HE.out.later H3.out.bel) (by have := HL3.out; omega) (by decide))
  clear h hl P2 H2 HL2
  go_wp2_with fail
  refine P3.out.mono ?_
  rintro x W4 ⟨rfl, T4, h, hl, _, _⟩
  have H4 : Hid (TE w W4 g T4 r E2) := Lib.hid h
  have HL4 := Lib.hid (show T4.length ≤ 604 by have := HL3.out; omega)
  have P4 := Lib.hid (te_match H4.out (s := ⟨#[97, 47, 98]⟩) (by decide) (HE.out.later H4.out.bel) (by decide))
  rw [aw4] at P4
  clear h hl P3 H3 HL3
  go_wp2_with fail
  refine P4.out.mono ?_
  rintro x W5 ⟨v, d, rfl, hr, hp, hsrt, hb⟩
  obtain rfl : d = E2 := one_srtG (r := lessE) aw10 hp hsrt
  obtain ⟨A, c, rfl⟩ := hr.form
  have H5 := Lib.hid (H4.out.below hb)
  have HR5 := Lib.hid hr
  have P5 := Lib.hid (te_nodes H5.out)
  rw [aw5] at P5
  clear hr hp hsrt hb P4 H4
  have hE2 : E2.length = 2 := rfl
  rw [hE2] at HR5 ⊢
  clear hE2
  have hb6 : Below W5.heap.size W5 (W5.alloc (.cells #[.string wT, .string fB, .string wU, .string fA] 46)) := (Below.refl _ _).alloc (Nat.le_refl _) _
  have HSM : Hid (Calls Tryd.prog 13 #[.slice A 2 c, .slice (some ⟨W5.heap.size, 0, none⟩) 2 2] (W5.alloc (.cells #[.string ⟨#[116]⟩, .string ⟨#[97, 47, 35]⟩, .string ⟨#[117]⟩, .string ⟨#[97, 47, 43]⟩] 46)) _) := Lib.hid (esame18_any (n := 2) (L := E2) (HR5.out.below hb6) (erow_lit (L := E2) (Blk.made W5 _ _) (by decide)) rfl (by decide))
  have H6 := Lib.hid (H5.out.below hb6)
  clear hb6 HR5
  go_wp2_with fail
  refine P5.out.mono ?_
  rintro x W6 ⟨rfl, rfl⟩
  go_wp2_with fail
  refine HSM.out.mono ?_
  rintro x W7 ⟨rfl, hb⟩
  have H7 := Lib.hid (H6.out.below hb)
  have P7 := Lib.hid (te_drop H7.out (f := fB) (s := wT) (by decide) (by decide) (HE.out.later H7.out.bel) (by have := HL4.out; omega))
  rw [aw6, aw7] at P7
  clear hb HSM H6 H5 P5
  go_wp2_with fail
  refine P7.out.mono ?_
  rintro x W8 ⟨rfl, T8, h, hl, _, _⟩
  have H8 := Lib.hid h
  have P8 := Lib.hid (te_nodes H8.out)
  rw [aw8] at P8
  have P9 := Lib.hid (te_all H8.out (by decide))
  clear h hl P7 H7
  go_wp2_with fail
  refine P8.out.mono ?_
  rintro x W9 ⟨rfl, rfl⟩
  go_wp2_with fail
  refine P9.out.mono ?_
  rintro x W10 ⟨v, d, rfl, hr, hp, _, hb⟩
  obtain ⟨A2, c2, rfl⟩ := hr.form
  have hdl : d.length = 1 := hp.length_eq.trans aw9
  rw [hdl]
  have HX := Lib.hid (H8.out.bel.trans (hb.mono H8.out.bel.size))
  clear hr hp hb P8 P9 hdl
  go_wp2_with fail
  go_ret
  exact ⟨rfl, HX.out⟩
end Go.Proofs.YtebaojbagogniaaDoor
