/- What is proved here: what Add does to a trie. Conditions: the trie stands, the filter is short. What is proved here: what Add does to a trie: its walk. Conditions: the trie stands, the filter is short. What is proved here: what Drop does to a trie. Conditions: the trie stands, the filter is short. What is proved here: what Drop does to a trie: one level deeper. Conditions: the trie stands, the levels are short. What is proved here: what Drop does to a trie, and how many nodes it has. Conditions: the trie stands, the filter is short. -/
import Derived.Test.YtebaojbagogniaaDoorTpn18
import Derived.Test.YtebaojbagogniaaDoorFilt16
namespace Go.Proofs.YtebaojbagogniaaDoor
open Go.RowKit Go.Extern.Stop Go.Stop Go.Extern Go.Maps
set_option maxRecDepth 100000
/-- New nodes have new blocks. -/
def Grw (w : World) (T T' : NL) : Prop := ∀ m ∈ T', (∃ n ∈ T, m.blk = n.blk ∧ m.nx = n.nx ∧ m.en = n.en) ∨ (w.heap.size ≤ m.blk ∧ w.heap.size ≤ m.nx ∧ w.heap.size ≤ m.en)
structure AdJ (w V : World) (g r : Nat) (T : NL) (L : List BL) (v : Value) (i : Nat) (N : NL) (n : NV) : Prop where
  tr : TrI V g (N ++ T) r
  nm : n ∈ N ++ T
  rp : n.rp = (L.take i).reverse
  nw : ∀ m ∈ N, m.ends = [] ∧ m.rp <:+ n.rp ∧ m.rp ≠ [] ∧ (w.heap.size ≤ m.blk ∧ w.heap.size ≤ m.nx ∧ w.heap.size ≤ m.en)
  len : N.length ≤ i
  fr : Fr (fp g T) w V
  row : Texts V w.heap.size v L
theorem lv_of {f s : ByteArray} : lv (s, f) = (spl (ls f)).reverse := rfl
theorem spl_inj {a b : ByteArray} (h : spl (ls a) = spl (ls b)) : a = b := by
  have := congrArg joinL h
  rw [join_spl, join_spl] at this
  rw [← bs_ls a, ← bs_ls b, this]
theorem Texts.lt {w : World} {B : Nat} {v : Value} {L : List BL} (h : Texts w B v L) : ∀ k, v.ownBlock = some k → B ≤ k ∧ k < w.heap.size ∧ ∃ cs, w.heap[k]? = some (.cells cs 9 (0, 0)) := by
  intro k hk
  rcases h.2 with ⟨rfl, h0⟩ | ⟨gr, cap, cur, rfl, hB, hh, _⟩
  · cases hk
  · injection hk with hk
    subst hk
    exact ⟨hB, lt_of_block hh, _, hh⟩
theorem take_rev {L : List BL} {i : Nat} (h : i < L.length) : (L.take (i + 1)).reverse = L.getD i [] :: (L.take i).reverse := by
  rw [List.take_succ_eq_append_getElem h, List.reverse_append, List.getD_eq_getElem?_getD, List.getElem?_eq_getElem h]
  rfl
section
variable {w V W W1 : World} {g r i : Nat} {T N : NL} {L : List BL} {v : Value} {n m : NV} {S : Nat → Addr}
theorem AdJ.start (h : TrI w g T r) (hb : Below w.heap.size w V) (hr : Texts V w.heap.size v L) : ∃ n, n.blk = r ∧ AdJ w V g r T L v 0 [] n := by
  obtain ⟨n, hn, e1, e2⟩ := h.rt
  exact ⟨n, e2, h.fr (X := []) (Fr.of_below hb) (fun b hb => by cases hb), hn, by rw [e1]; rfl, fun m hm => (by cases hm), Nat.le_refl _, Fr.of_below hb, hr⟩
theorem AdJ.hit (h : AdJ w V g r T L v i N n) (hi : i < L.length) (hm : m ∈ N ++ T) (hr : m.rp = L.getD i [] :: n.rp) : AdJ w V g r T L v (i + 1) N m :=
  ⟨h.tr, hm, by rw [take_rev hi, hr, h.rp], fun k hk => ⟨(h.nw k hk).1, by rw [hr]; exact (h.nw k hk).2.1.trans (List.suffix_cons _ _), (h.nw k hk).2.2⟩, Nat.le_succ_of_le h.len, h.fr, h.row⟩
theorem AdJ.own (h : AdJ w V g r T L v i N n) {b : Nat} (hb : b = g ∨ b = n.nx ∨ b = n.en) (hlt : b < w.heap.size) : b ∈ fp g T := by
  rcases List.mem_append.1 h.nm with hn | hn
  · have := (h.nw n hn).2.2.2
    rcases hb with rfl | rfl | rfl
    · exact mem_fp.2 (.inl rfl)
    · omega
    · omega
  · rcases hb with rfl | rfl | rfl
    · exact mem_fp.2 (.inl rfl)
    · exact mem_fp.2 (.inr ⟨n, hn, .inl rfl⟩)
    · exact mem_fp.2 (.inr ⟨n, hn, .inr rfl⟩)
theorem AdJ.then (h : AdJ w V g r T L v i N n) (hb : Below V.heap.size V W) : AdJ w W g r T L v i N n :=
  ⟨h.tr.below hb, h.nm, h.rp, h.nw, h.len, h.fr.trans (Fr.of_below (X := []) hb) (fun b hb => by cases hb), h.row.then (Fr.of_below hb)⟩
theorem AdJ.far (h : AdJ w V g r T L v i N n) (hf : Fr [n.nx] V W) : Texts W w.heap.size v L := h.row.fr hf fun k hk hm => by
  obtain ⟨_, _, cs, hc⟩ := h.row.lt k hk
  rw [List.mem_singleton] at hm
  exact (h.tr.th.nx n h.nm).ne (g := k) (u := 9) (cs := cs) hc hm
/-- A new node is laid there. -/
theorem AdJ.more (h : AdJ w V g r T L v i N n) (hi : i < L.length) (hno : ∀ m ∈ N ++ T, m.rp ≠ L.getD i [] :: n.rp) (hl : (L.getD i []).length ≤ maxLen) (hT : (N ++ T).length < maxLen) {k m1 m2 : Nat}
    (hb : Blk V k 61 #[.map (some m1), .map (some m2)]) (h1 : AMap Tryd.prog 9 blKE ptrV V m1 []) (h2 : AMap Tryd.prog 9 strKE entV V m2 []) (hne : m1 ≠ m2) (hs : W1.heap.size ≤ k ∧ W1.heap.size ≤ m1 ∧ W1.heap.size ≤ m2) (hw : w.heap.size ≤ W1.heap.size) (hlt : TrI W1 g (N ++ T) r) :
    ∃ w', (Instr.mapUpdate 58 (.map (some n.nx)) (.string (bs (L.getD i []))) (.pointer (some ⟨k, 0, none⟩))).run Tryd.prog V = .ok () w' ∧ TrB w' g (⟨L.getD i [] :: n.rp, k, m1, m2, []⟩ :: (N ++ T)) r (((N ++ T).length : Int) - 1) ∧ Fr [n.nx] V w' ∧
      AdJ w (w'.setCell ⟨g, 1, none⟩ (.int .i64 ((N ++ T).length : Int))) g r T L v (i + 1) (⟨L.getD i [] :: n.rp, k, m1, m2, []⟩ :: N) ⟨L.getD i [] :: n.rp, k, m1, m2, []⟩ := by
  obtain ⟨w1, hrun, ht, hf⟩ := h.tr.put (m := ⟨L.getD i [] :: n.rp, k, m1, m2, []⟩) h.nm hno hl hT rfl rfl hb h1 h2 hne (fun j hj => by
    have e1 := (hlt.th.nx j hj).lt
    have e2 := (hlt.th.en j hj).lt
    simp only
    omega)
  refine ⟨w1, hrun, ht, hf, ?_⟩
  have hc := ht.count ((N ++ T).length : Int)
  have hf2 : Fr [g] w1 (w1.setCell ⟨g, 1, none⟩ (.int .i64 ((N ++ T).length : Int))) := fr_setCell w1 g 1 _
  refine ⟨?_, List.mem_cons_self .., by rw [take_rev hi, h.rp], fun j hj => ?_, by rw [List.length_cons]; have := h.len; omega, ?_, ?_⟩
  · have e : (((⟨L.getD i [] :: n.rp, k, m1, m2, []⟩ :: N) ++ T).length : Int) - 1 = ((N ++ T).length : Int) := by
      rw [List.cons_append, List.length_cons]
      omega
    show TrB _ _ _ _ _
    rw [e]
    exact hc
  · rcases List.mem_cons.1 hj with rfl | hj
    · exact ⟨rfl, List.suffix_refl _, by simp, Nat.le_trans hw hs.1, Nat.le_trans hw hs.2.1, Nat.le_trans hw hs.2.2⟩
    · exact ⟨(h.nw j hj).1, (h.nw j hj).2.1.trans (List.suffix_cons _ _), (h.nw j hj).2.2⟩
  · refine (h.fr.trans hf fun b hb hlt => ?_).trans hf2 fun b hb hlt => ?_
    · rw [List.mem_singleton] at hb
      exact h.own (.inr (.inl hb)) hlt
    · rw [List.mem_singleton] at hb
      exact mem_fp.2 (.inl hb)
  · refine (h.far hf).fr hf2 fun k' hk' hm => ?_
    obtain ⟨_, _, cs, hc'⟩ := (h.far hf).lt k' hk'
    rw [List.mem_singleton.1 hm] at hc'
    exact ht.blk.other hc' (by decide) rfl
def hasE (T : NL) (y : ByteArray × ByteArray) : Bool := (ents T).any fun e => decide (e = y)
theorem hasE_iff {T : NL} {y : ByteArray × ByteArray} : hasE T y = true ↔ y ∈ ents T := by
  unfold hasE
  simp
/-- What Add says: whether it is new, and what stands then. -/
def AddSays (w : World) (g : Nat) (T : NL) (r : Nat) (f s : ByteArray) (x : Ending) (w' : World) : Prop :=
  ∃ (b : Bool) (T' : NL), x = .returned (.bool b) ∧ b = (filtB f && !hasE T (s, f)) ∧ TrS w' g T' r ∧ (∀ e, e ∈ ents T' ↔ e ∈ ents T ∨ (b = true ∧ e = (s, f))) ∧ T'.length ≤ T.length + (spl (ls f)).length ∧ Fr (fp g T) w w' ∧ Grw w T T'
theorem add_false (h : TrS w g T r) (hb : Below w.heap.size w W) {f s : ByteArray} (hn : (filtB f && !hasE T (s, f)) = false) : AddSays w g T r f s (.returned (.bool false)) W :=
  ⟨false, T, rfl, hn.symm, h.below hb, fun e => by simp, by omega, Fr.of_below hb, fun m hm => .inl ⟨m, hm, rfl, rfl, rfl⟩⟩
/-- It is there. -/
theorem AdJ.there (h : AdJ w V g r T L v i N n) (hS : TrS w g T r) (hi : i = L.length) {f s : ByteArray} (hL : L = spl (ls f)) (hf : filtB f = true) {e : ByteArray × ByteArray} (he : e ∈ n.ends) (hes : e.1 = s) (hb : Below V.heap.size V W) : AddSays w g T r f s (.returned (.bool false)) W := by
  have hnr : n.rp = (spl (ls f)).reverse := by rw [h.rp, hi, List.take_length, hL]
  have hnT : n ∈ T := (List.mem_append.1 h.nm).resolve_left fun hn => by
    rw [(h.nw n hn).1] at he
    cases he
  have hN : N = [] := List.eq_nil_iff_forall_not_mem.2 fun k hk => by
    obtain ⟨j, hj, hjr⟩ := hS.i.tc.up hnT (h.nw k hk).2.1
    have h1 := h.tr.tc.nd
    rw [List.pairwise_append] at h1
    exact h1.2.2 k hk j hj hjr.symm
  subst hN
  have hy : e = (s, f) := by
    have h1 := hS.i.tc.ok n hnT e he
    rw [hnr] at h1
    have h2 : spl (ls e.2) = spl (ls f) := by
      have := congrArg List.reverse h1
      unfold lv at this
      rwa [List.reverse_reverse, List.reverse_reverse] at this
    exact Prod.ext hes (spl_inj h2)
  have hh : hasE T (s, f) = true := hasE_iff.2 (hy ▸ mem_ents.2 ⟨n, hnT, he⟩)
  refine ⟨false, T, rfl, by rw [hh, hf]; rfl, ⟨h.tr.below hb, hS.u, hS.sz⟩, fun e => by simp, by omega, h.fr.trans (Fr.of_below (X := []) hb) (fun b hb => by cases hb), fun m hm => .inl ⟨m, hm, rfl, rfl, rfl⟩⟩
/-- It was not there. -/
theorem AdJ.fin (h : AdJ w V g r T L v i N n) (hS : TrS w g T r) (hi : i = L.length) {f s : ByteArray} (hL : L = spl (ls f)) (hf : filtB f = true) (hno : ∀ e ∈ n.ends, e.1 ≠ s) (hs : s.size ≤ 200) (hfs : f.size ≤ 200) (hlen : n.ends.length < maxLen) :
    ∃ w', (Instr.mapUpdate 59 (.map (some n.en)) (.string s) (.agg #[.string s, .string f])).run Tryd.prog V = .ok () w' ∧ AddSays w g T r f s (.returned (.bool true)) w' := by
  have hnr : n.rp = (spl (ls f)).reverse := by rw [h.rp, hi, List.take_length, hL]
  obtain ⟨w1, hrun, ht, hfr⟩ := h.tr.eput (e := (s, f)) h.nm (Nat.le_trans hs (by unfold maxLen; decide)) hlen hnr.symm hno
  have hent : ∀ e, e ∈ ents (N ++ T) ↔ e ∈ ents T := fun e => by
    unfold ents
    rw [List.flatMap_append, List.mem_append]
    constructor
    · rintro (hx | hx)
      · obtain ⟨k, hk, hx⟩ := List.mem_flatMap.1 hx
        rw [(h.nw k hk).1] at hx
        cases hx
      · exact hx
    · exact .inr
  have hmem : ∀ e, e ∈ ents (setE (N ++ T) n.rp ((s, f) :: n.ends)) ↔ e ∈ ents T ∨ e = (s, f) := fun e => by
    rw [mem_ents_set h.tr.tc h.nm rfl, List.mem_cons, hent]
    constructor
    · rintro ((rfl | hx) | ⟨hx, _⟩)
      · exact .inr rfl
      · exact .inl ((hent e).1 (mem_ents.2 ⟨n, h.nm, hx⟩))
      · exact .inl hx
    · rintro (hx | rfl)
      · rcases Classical.em (lv e = n.rp) with he | he
        · obtain ⟨k, hk, hkr, hxk⟩ := h.tr.tc.lvOf ((hent e).2 hx)
          rw [h.tr.tc.one hk h.nm (hkr.trans he)] at hxk
          exact .inl (.inr hxk)
        · exact .inr ⟨hx, he⟩
      · exact .inl (.inl rfl)
  have hnh : hasE T (s, f) = false := by
    refine Bool.eq_false_iff.2 fun hh => ?_
    have hx := hasE_iff.1 hh
    obtain ⟨k, hk, hkr, hxk⟩ := h.tr.tc.lvOf ((hent _).2 hx)
    have e1 := h.tr.tc.one hk h.nm (hkr.trans hnr.symm)
    subst e1
    exact hno _ hxk rfl
  refine ⟨w1, hrun, true, _, rfl, by rw [hf, hnh]; rfl, ⟨?_, ?_, ?_⟩, fun e => by rw [hmem]; simp, ?_, h.fr.trans hfr fun b hb hlt => ?_, fun m hm => ?_⟩
  · show TrB _ _ _ _ _
    rw [setE_len]
    exact ht
  · intro k hk hk0
    obtain ⟨j, hj, rfl⟩ := mem_setE.1 hk
    rw [setO_rp] at hk0 ⊢
    have hend : (setO n.rp ((s, f) :: n.ends) n).ends ≠ [] := by rw [setO_at rfl]; simp
    rcases List.mem_append.1 hj with hjN | hjT
    · exact ⟨_, mem_setE.2 ⟨n, h.nm, rfl⟩, by rw [setO_rp]; exact (h.nw j hjN).2.1, hend⟩
    · obtain ⟨q, hq, hqs, hqe⟩ := hS.u j hjT hk0
      rcases Classical.em (q.rp = n.rp) with he | he
      · exact ⟨_, mem_setE.2 ⟨n, h.nm, rfl⟩, by rw [setO_rp, ← he]; exact hqs, hend⟩
      · exact ⟨_, mem_setE.2 ⟨q, List.mem_append_right _ hq, rfl⟩, by rw [setO_rp]; exact hqs, by rw [setO_no he]; exact hqe⟩
  · intro e he
    rcases (hmem e).1 he with he | rfl
    · exact hS.sz e he
    · exact ⟨hs, hfs⟩
  · rw [setE_len, List.length_append]
    have := h.len
    rw [← hL]
    omega
  · rw [List.mem_singleton] at hb
    exact h.own (.inr (.inr hb)) hlt
  · obtain ⟨j, hj, rfl⟩ := mem_setE.1 hm
    rw [setO_blk, setO_nx, setO_en]
    rcases List.mem_append.1 hj with hj | hj
    · exact .inr (h.nw j hj).2.2.2
    · exact .inl ⟨j, hj, rfl, rfl, rfl⟩
end
end Go.Proofs.YtebaojbagogniaaDoor
namespace Go.Proofs.YtebaojbagogniaaDoor
open Go.RowKit Go.Extern.Stop Go.Stop Go.Extern Go.Maps Go.Deep
set_option maxRecDepth 100000
theorem ends_le {T : NL} {n : NV} (h : n ∈ T) : n.ends.length ≤ (ents T).length := by
  induction T with
  | nil => cases h
  | cons m T ih =>
    have e : ents (m :: T) = m.ends ++ ents T := by unfold ents; rw [List.flatMap_cons]
    rw [e, List.length_append]
    rcases List.mem_cons.1 h with rfl | h
    · omega
    · have := ih h
      omega
theorem spl_few {f : ByteArray} (h : f.size ≤ 200) : (spl (ls f)).length ≤ 201 := by
  rw [spl_len]
  have := List.count_le_length (a := (47 : UInt8)) (l := ls f)
  rw [ls_size] at this
  omega
theorem lev_small {f : ByteArray} (h : f.size ≤ 200) {L : List BL} (hL : L = spl (ls f)) {i : Nat} (hi : i < L.length) : (L.getD i []).length ≤ maxLen := by
  subst hL
  have := spl_le (getD_mem hi)
  rw [ls_size] at this
  unfold maxLen
  omega
set_option maxHeartbeats 8000000 in
theorem tadd_any {w : World} {g r : Nat} {T : NL} {S : Nat → Addr} (h : TrS w g T r) (f s : ByteArray) (hf : f.size ≤ 200) (hs : s.size ≤ 200) (he : EnvT w S) (hT : T.length ≤ 1000000) (hE : (ents T).length ≤ 1000) :
    Calls Tryd.prog 17 #[.pointer (some ⟨g, 0, none⟩), .string f, .string s] w (AddSays w g T r f s) := by
  have HI := Lib.hid (isnone_no h.i)
  have HN := Lib.hid (isFilter_any f (by omega) he)
  have HL := Lib.hid (fun W => levels_any (w := W) f (by omega))
  have HS := Lib.hid h
  have HB := Lib.hid (And.intro hf (And.intro hs (And.intro hT hE)))
  obtain ⟨L, hL⟩ : ∃ L, L = spl (ls f) := ⟨_, rfl⟩
  have HLL := Lib.hid hL
  have HLN := Lib.hid (spl_few hf)
  rw [← hL] at HL HLN
  clear h he hf hs hT hE hL
  go_enter Tryd.func17, Tryd.ntmps17
  go_wp2_with fail
  refine HI.out.mono ?_
  rintro x W ⟨rfl, rfl⟩
  go_wp2_with fail
  refine HN.out.mono ?_
  rintro x W ⟨rfl, hb⟩
  have HBL := Lib.hid hb
  clear hb HI HN
  cases hfb : filtB f with
  | false =>
    have HX := Lib.hid (add_false (f := f) (s := s) HS.out HBL.out (by rw [hfb]; rfl))
    clear hfb
    go_wp2_with fail
    go_ret
    exact HX.out
  | true =>
    have HFB := Lib.hid hfb
    have c0 := (HS.out.below HBL.out).i.blk.cell 0
    clear hfb
    go_wp2_with fail
    refine (HL.out W).mono ?_
    rintro x W2 ⟨v, rfl, hr, hb2⟩
    obtain ⟨a, c, rfl⟩ := hr.form
    obtain ⟨n0, hn0, hj0⟩ := AdJ.start HS.out.i (HBL.out.trans (hb2.mono HBL.out.size)) (hr.base HBL.out.size)
    have HJ0 := Lib.hid hj0
    have HN0 := Lib.hid hn0
    have hl1 := HLN.out
    obtain ⟨nl, hnl⟩ : ∃ nl, nl = L.length := ⟨_, rfl⟩
    have HNL := Lib.hid hnl
    clear hr hb2 hj0 c0 HL hn0
    rw [← hnl] at hl1 HJ0 ⊢
    clear hnl
    go_wp2_with fail
    go_loopw [7, 27] (fun v7 v27 wr => ∃ (i : Nat) (N : NL) (n : NV), i ≤ nl ∧ v7 = .pointer (some ⟨n.blk, 0, none⟩) ∧ v27 = .int .i64 i ∧ Hid (AdJ w wr g r T L (.slice a nl c) i N n)) (fun _ v27 _ => nl - (intOf v27).toNat)
    case atStart => exact ⟨0, [], n0, Nat.zero_le _, by rw [HN0.out], rfl, HJ0⟩
    case round =>
      obtain ⟨i, N, n, hi, rfl, rfl, HJ⟩ := hrel
      clear HJ0
      by_cases hlt : i < nl
      · have hiL : i < L.length := by have := HNL.out; omega
        have HIL := Lib.hid hiL
        have hrow := HJ.out.row
        obtain ⟨gr, rfl, _, _, hcl⟩ := hrow.at_ (by omega)
        have t1 := hcl i hiL
        have c0 := (HJ.out.tr.th.nb n HJ.out.nm).cell 0
        have HC := Lib.hid (HJ.out.tr.blk.cell 1)
        have HLM := Lib.hid (lev_small HB.out.1 HLL.out hiL)
        have HTL := Lib.hid (show (N ++ T).length < maxLen ∧ (N ++ T).length ≤ 2000000 by
          have h1 := HJ.out.len
          have h2 := HB.out.2.2.1
          rw [List.length_append]
          unfold maxLen
          omega)
        clear hcl hrow hiL
        rcases Classical.em (∃ m ∈ N ++ T, m.rp = L.getD i [] :: n.rp) with ⟨m, hm, hmr⟩ | hno
        · have hlk := nlook_hit HJ.out.tr.th HJ.out.nm hm hmr
          have HJ2 := Lib.hid (HJ.out.hit HIL.out hm hmr)
          clear hm hmr
          generalize bs (L.getD i []) = lb at *
          go_wp2_with fail
          go_roundw
          case rel => exact ⟨i + 1, N, m, by omega, rfl, by go_num, HJ2⟩
          case measure => simp [intOf]; omega
        · have hlk := nlook_miss HJ.out.tr.th HJ.out.nm HLM.out (fun m hm e => hno ⟨m, hm, e⟩)
          have HNO := Lib.hid (show ∀ m ∈ N ++ T, m.rp ≠ L.getD i [] :: n.rp from fun m hm e => hno ⟨m, hm, e⟩)
          have HNN := Lib.hid (newnode_any wr)
          clear hno
          obtain ⟨lb, hlb⟩ : ∃ lb, lb = bs (L.getD i []) := ⟨_, rfl⟩
          rw [← hlb] at t1 hlk
          have HLB := Lib.hid hlb
          clear hlb
          go_wp2_with fail
          refine HNN.out.mono ?_
          rintro x W3 ⟨k, m1, m2, rfl, hb, h1, h2, hne, hs3, hbl⟩
          obtain ⟨W4, hrun, htb, hfr, haj⟩ := (HJ.out.then hbl).more HIL.out HNO.out HLM.out HTL.out.1 hb h1 h2 hne hs3 (HJ.out.fr.size) HJ.out.tr
          rw [← HLB.out] at hrun
          have HJ5 := Lib.hid haj
          have c0 := ((HJ.out.then hbl).tr.th.nb n HJ.out.nm).cell 0
          have c1 := htb.blk.cell 1
          have z1 := htb.blk.frozen 1
          have htl := HTL.out.2
          clear hb h1 h2 hne hs3 hbl htb hfr haj HNN HNO HJ
          generalize (N ++ T).length = tl at *
          go_wp2_with fail
          go_roundw
          case rel => exact ⟨i + 1, _, _, by omega, rfl, by go_num, HJ5⟩
          case measure => simp [intOf]; omega
      · have hin : i = L.length := by have := HNL.out; omega
        have HIN := Lib.hid hin
        have c1 := (HJ.out.tr.th.nb n HJ.out.nm).cell 1
        clear hin
        have HEL := Lib.hid (show n.ends.length < maxLen by
          have h2 := HB.out.2.2.2
          rcases List.mem_append.1 HJ.out.nm with hn | hn
          · rw [(HJ.out.nw n hn).1]
            unfold maxLen
            simp
          · have := ends_le hn
            unfold maxLen
            omega)
        rcases Classical.em (∃ e ∈ n.ends, e.1 = s) with ⟨e, hen, hes⟩ | hno
        · have hlk := elook_hit HJ.out.tr.th HJ.out.nm hen
          rw [hes] at hlk
          have HX := Lib.hid (HJ.out.there HS.out HIN.out HLL.out HFB.out hen hes ((Below.refl _ wr).alloc (Nat.le_refl _) (.cells #[.string s, .string e.2] 46)))
          clear hen
          go_wp2_with fail
          go_ret
          exact HX.out
        · have hlk := elook_miss (s := s) HJ.out.tr.th HJ.out.nm (by have := HB.out.2.1; unfold maxLen; omega) (fun e he hs => hno ⟨e, he, hs⟩)
          have hbl : Below wr.heap.size wr (wr.alloc (.cells #[.string ⟨#[]⟩, .string ⟨#[]⟩] 46)) := (Below.refl _ wr).alloc (Nat.le_refl _) _
          obtain ⟨W5, hrun, hx⟩ := (HJ.out.then hbl).fin HS.out HIN.out HLL.out HFB.out (fun e he hs => hno ⟨e, he, hs⟩) HB.out.2.1 HB.out.1 HEL.out
          have c2 := ((HJ.out.then hbl).tr.th.nb n HJ.out.nm).cell 1
          have HX := Lib.hid hx
          clear hno hbl hx HJ
          go_wp2_with fail
          go_ret
          exact HX.out
end Go.Proofs.YtebaojbagogniaaDoor
namespace Go.Proofs.YtebaojbagogniaaDoor
open Go.RowKit Go.Extern.Stop Go.Stop Go.Extern Go.Maps Go.Deep
set_option maxRecDepth 100000
/-- Levels stand somewhere. -/
def LRd (w : World) (A : Option Addr) (L : List BL) : Prop := 0 < L.length → ∃ g off, A = some ⟨g, off, none⟩ ∧ (∃ cs, w.heap[g]? = some (.cells cs 9 (0, 0))) ∧ ∀ k, k < L.length → w.cell? ⟨g, off + k, none⟩ = some (.string (bs (L.getD k [])))
theorem LRd.of {w : World} {B : Nat} {a : Option Addr} {n c : Nat} {L : List BL} (h : Texts w B (.slice a n c) L) : LRd w a L := fun hl => by
  obtain ⟨g, rfl, _, _, hc⟩ := h.at_ hl
  obtain ⟨_, _, hcs⟩ := h.lt g rfl
  exact ⟨g, 0, rfl, hcs, fun k hk => by rw [Nat.zero_add]; exact hc k hk⟩
theorem LRd.fr {X : List Nat} {w w' : World} {A : Option Addr} {L : List BL} (h : LRd w A L) (hf : Fr X w w') (hX : ∀ b ∈ X, ∀ cs, w.heap[b]? ≠ some (.cells cs 9 (0, 0))) : LRd w' A L := fun hl => by
  obtain ⟨g, off, e, ⟨cs, hcs⟩, hc⟩ := h hl
  have hn : g ∉ X := fun hm => hX g hm cs hcs
  have hlt := lt_of_block hcs
  exact ⟨g, off, e, ⟨cs, (hf.block g hlt hn).trans hcs⟩, fun k hk => (hf.cell hlt hn).trans (hc k hk)⟩
theorem LRd.below {w w' : World} {A : Option Addr} {L : List BL} (h : LRd w A L) (hb : Below w.heap.size w w') : LRd w' A L := h.fr (X := []) (Fr.of_below hb) fun b hm => by cases hm
theorem LRd.tail {w : World} {g off : Nat} {l : BL} {L : List BL} {A : Option Addr} (h : LRd w (some ⟨g, off, none⟩) (l :: L)) (hA : 0 < L.length → A = some ⟨g, off + 1, none⟩) : LRd w A L := fun hl => by
  obtain ⟨g', off', e, hcs, hc⟩ := h (by simp)
  injection e with e
  injection e with e1 e2
  subst e1 e2
  refine ⟨g, off + 1, hA hl, hcs, fun k hk => ?_⟩
  have := hc (k + 1) (by rw [List.length_cons]; omega)
  rw [show off + 1 + k = off + (k + 1) by omega]
  exact this
section
variable {w W w' : World} {g r : Nat} {T : NL} {n m : NV} {p : List BL} {l : BL} {s : ByteArray}
theorem TrB.noText {c : Int} (h : TrB w g T r c) : ∀ b ∈ fp g T, ∀ cs, w.heap[b]? ≠ some (.cells cs 9 (0, 0)) := fun b hb cs hc => by
  rcases mem_fp.1 hb with rfl | ⟨n, hn, rfl | rfl⟩
  · exact h.blk.other hc (by decide) rfl
  · exact (h.th.nx n hn).ne (g := n.nx) (u := 9) (cs := cs) hc rfl
  · exact (h.th.en n hn).ne (g := n.en) (u := 9) (cs := cs) hc rfl
theorem bare_any {c : Int} (h : TrB w g T r c) (hn : n ∈ T) : Calls Tryd.prog 49 #[.pointer (some ⟨n.blk, 0, none⟩)] w fun x w' => x = .returned (.bool (bareB T n.rp)) ∧ w = w' := by
  have c0 := (h.th.nb n hn).cell 0
  have c1 := (h.th.nb n hn).cell 1
  have l0 := (h.th.nx n hn).len Tryd.underlying58 3
  have l1 := (h.th.en n hn).len Tryd.underlying59 3
  rw [List.length_map] at l1
  have hlen := (endsAt_one h.tc hn rfl).length_eq
  have hB : bareB T n.rp = (decide ((kids T n.rp).length = 0) && decide (n.ends.length = 0)) := by
    unfold bareB
    rw [← hlen]
    congr 1
    · cases kids T n.rp <;> rfl
    · cases endsAt T n.rp <;> rfl
  have HB := Lib.hid hB
  clear hB hlen h
  obtain ⟨ka, hka⟩ : ∃ ka, ka = (kids T n.rp).length := ⟨_, rfl⟩
  obtain ⟨kb, hkb⟩ : ∃ kb, kb = n.ends.length := ⟨_, rfl⟩
  rw [← hka, ← hkb] at HB
  rw [← hka] at l0
  rw [← hkb] at l1
  clear hka hkb
  go_enter Tryd.func49, Tryd.ntmps49
  rcases ka with _ | ka
  · rcases kb with _ | kb
    · go_wp2
      go_ret
      exact ⟨by rw [HB.out]; rfl, rfl⟩
    · have h2 : (((kb + 1 : Nat) : Int) == 0) = false := beq_eq_false_iff_ne.2 (by omega)
      go_wp2
      go_ret
      exact ⟨by rw [HB.out]; rfl, rfl⟩
  · have h2 : (((ka + 1 : Nat) : Int) == 0) = false := beq_eq_false_iff_ne.2 (by omega)
    go_wp2
    go_ret
    exact ⟨by rw [HB.out]; rfl, rfl⟩
theorem drop_none (hno : ∀ m ∈ T, m.rp = p → ∀ e ∈ m.ends, e.1 ≠ s) : T.map (dropO p s) = T := by
  conv => rhs; rw [← List.map_id T]
  refine List.map_congr_left fun m hm => ?_
  unfold dropO
  split
  · rename_i hr
    have : woW s m.ends = m.ends := List.filter_eq_self.2 fun e he => decide_eq_true (hno m hm hr e he)
    rw [this]
    rfl
  · rfl
def DropSays (w : World) (g : Nat) (T : NL) (r : Nat) (p L : List BL) (s : ByteArray) (x : Ending) (w' : World) : Prop :=
  ∃ b, x = .returned (.bool b) ∧ b = hasT T (L.reverse ++ p) s ∧ TrI w' g (if b then dropT T p L s else T) r ∧ Fr (fp g T) w w'
set_option maxHeartbeats 8000000 in
theorem tdrop_end (h : TrI w g T r) (hn : n ∈ T) (hp : n.rp = p) {A : Option Addr} {c : Nat} (hs : s.size ≤ 200) :
    Calls Tryd.prog 36 #[.pointer (some ⟨g, 0, none⟩), .pointer (some ⟨n.blk, 0, none⟩), .slice A 0 c, .string s] w (DropSays w g T r p [] s) := by
  have hsm : s.size ≤ maxLen := by unfold maxLen; omega
  subst hp
  have key : ∀ (b : Bool) (cs : Array Value), b = hasT T n.rp s → ∃ w', (Builtin.delete_ #[59, 9] 0 #[.map (some n.en), .string s]).run Tryd.prog (w.alloc (.cells cs 46)) = .ok (.tuple #[]) w' ∧ DropSays w g T r n.rp [] s (.returned (.bool b)) w' := by
    intro b cs hb
    have hbl : Below w.heap.size w (w.alloc (.cells cs 46)) := (Below.refl _ w).alloc (Nat.le_refl _) _
    obtain ⟨w1, hrun, ht, hf⟩ := (h.below hbl).edel hn hsm 0
    refine ⟨w1, hrun, b, rfl, hb, ?_, ((Fr.of_below (X := fp g T) hbl).trans hf fun x hx _ => ?_)⟩
    · cases b with
      | true =>
        rw [if_pos rfl, dropT]
        show TrB _ _ _ _ _
        rw [List.length_map]
        exact ht
      | false =>
        rw [if_neg (by simp)]
        rw [drop_none (fun m hm hr e he hes => by
          have : hasT T n.rp s = true := hasT_iff.2 ⟨m, hm, hr, e, he, hes⟩
          rw [← hb] at this
          cases this)] at ht
        exact ht
    · rw [List.mem_singleton] at hx
      exact mem_fp.2 (.inr ⟨n, hn, .inr hx⟩)
  have c1 := (h.th.nb n hn).cell 1
  have c2 := fun cs => ((h.below ((Below.refl _ w).alloc (Nat.le_refl _) (.cells cs 46))).th.nb n hn).cell 1
  rcases Classical.em (∃ e ∈ n.ends, e.1 = s) with ⟨e, hen, hes⟩ | hno
  · have hlk := elook_hit h.th hn hen
    rw [hes] at hlk
    obtain ⟨w1, hrun, hx⟩ := key true #[.string s, .string e.2] (hasT_iff.2 ⟨n, hn, rfl, e, hen, hes⟩).symm
    have d1 := c2 #[.string s, .string e.2]
    have HX := Lib.hid hx
    clear hen hes hx key c2 h
    go_enter Tryd.func36, Tryd.ntmps36
    go_wp2_with fail
    go_ret
    exact HX.out
  · have hlk := elook_miss (s := s) h.th hn hsm (fun e he hs => hno ⟨e, he, hs⟩)
    obtain ⟨w1, hrun, hx⟩ := key false #[.string ⟨#[]⟩, .string ⟨#[]⟩] (Eq.symm (Bool.eq_false_iff.2 fun hh => by
      obtain ⟨m, hm, hr, e, he, hes⟩ := hasT_iff.1 hh
      rw [h.tc.one hm hn hr] at he
      exact hno ⟨e, he, hes⟩))
    have d1 := c2 #[.string ⟨#[]⟩, .string ⟨#[]⟩]
    have HX := Lib.hid hx
    clear hno hx key c2 h
    go_enter Tryd.func36, Tryd.ntmps36
    go_wp2_with fail
    go_ret
    exact HX.out
end
end Go.Proofs.YtebaojbagogniaaDoor
namespace Go.Proofs.YtebaojbagogniaaDoor
open Go.RowKit Go.Extern.Stop Go.Stop Go.Extern Go.Maps Go.Deep
set_option maxRecDepth 100000
section
variable {w W w' : World} {g r : Nat} {T : NL} {n m : NV} {p L : List BL} {l : BL} {s : ByteArray}
theorem rev_cons (l : BL) (L p : List BL) : (l :: L).reverse ++ p = L.reverse ++ (l :: p) := by
  rw [List.reverse_cons, List.append_assoc]
  rfl
theorem has_none (h : TC T) (hno : ∀ m ∈ T, m.rp ≠ l :: p) : hasT T ((l :: L).reverse ++ p) s = false := by
  refine Bool.eq_false_iff.2 fun hh => ?_
  obtain ⟨m, hm, hr, _⟩ := hasT_iff.1 hh
  obtain ⟨k, hk, hkp⟩ := h.up hm (q := l :: p) (by rw [hr, rev_cons]; exact List.suffix_append _ _)
  exact hno k hk hkp
/-- What stands behind the deeper call, if it found one. -/
structure DrK (w V : World) (g r : Nat) (T : NL) (p L : List BL) (l : BL) (s : ByteArray) (nb mb nnx : Nat) : Prop where
  tr : TrI V g (dropT T (l :: p) L s) r
  dj : DrJ T (dropT T (l :: p) L s) (l :: p) (L.reverse ++ (l :: p)) s
  has : hasT T (L.reverse ++ (l :: p)) s = true
  fr : Fr (fp g T) w V
  nn : ∃ k ∈ dropT T (l :: p) L s, k.rp = p ∧ k.blk = nb ∧ k.nx = nnx
  nm : ∃ k ∈ dropT T (l :: p) L s, k.rp = l :: p ∧ k.blk = mb
theorem DrK.of (h : TrI w g T r) (hu : TU T) (hn : n ∈ T) (hp : n.rp = p) (hm : m ∈ T) (hmp : m.rp = l :: p) (hb : hasT T (L.reverse ++ (l :: p)) s = true) (ht : TrI W g (dropT T (l :: p) L s) r) (hf : Fr (fp g T) w W) : DrK w W g r T p L l s n.blk m.blk n.nx := by
  obtain ⟨k, hk, hr, _⟩ := hasT_iff.1 hb
  have hd := drj_any h.tc hu s L (l :: p) ⟨k, hk, hr⟩
  obtain ⟨k1, hk1, a1, a2, a3, _⟩ := hd.at_ n hn (by rw [hp]; exact List.suffix_cons _ _)
  obtain ⟨k2, hk2, b1, b2, _⟩ := hd.at_ m hm (by rw [hmp]; exact List.suffix_refl _)
  exact ⟨ht, hd, hb, hf, ⟨k1, hk1, by rw [a1, hp], a2, a3⟩, ⟨k2, hk2, by rw [b1, hmp], b2⟩⟩
theorem DrK.stay {nb mb nnx : Nat} (h : DrK w W g r T p L l s nb mb nnx) (hb : bareB (dropT T (l :: p) L s) (l :: p) = false) : DropSays w g T r p (l :: L) s (.returned (.bool true)) W := by
  refine ⟨true, rfl, by rw [rev_cons, h.has], ?_, h.fr⟩
  rw [if_pos rfl]
  have e : dropT T p (l :: L) s = dropT T (l :: p) L s := by rw [dropT, hb]; rfl
  rw [e]
  exact h.tr
theorem DrK.cut {nb mb nnx : Nat} (h : DrK w W g r T p L l s nb mb nnx) (hT : nnx ∈ fp g T) (hb : bareB (dropT T (l :: p) L s) (l :: p) = true) (hl : l.length ≤ maxLen) :
    ∃ w' c, (Builtin.delete_ #[58, 9] 0 #[.map (some nnx), .string (bs l)]).run Tryd.prog W = .ok (.tuple #[]) w' ∧ Blk w' g 33 #[.pointer (some ⟨r, 0, none⟩), .int .i64 (c : Nat)] ∧ c ≤ T.length ∧ 0 < c ∧ Fr [nnx] W w' ∧ DropSays w g T r p (l :: L) s (.returned (.bool true)) (w'.setCell ⟨g, 1, none⟩ (.int .i64 ((c : Int) - 1))) := by
  obtain ⟨k, hk, hkp, _, hkx⟩ := h.nn
  obtain ⟨j, hj, hjp, _⟩ := h.nm
  have hcl := h.tr.tc.cut_len hj hjp
  have hTl := h.dj.len
  subst hkp hkx
  obtain ⟨w1, hrun, ht, hf⟩ := h.tr.kdel hk hb hl 0
  have hc : (((dropT T (l :: k.rp) L s).length : Int) - 1) = (((dropT T (l :: k.rp) L s).length - 1 : Nat) : Int) := by omega
  rw [hc] at ht
  have hpos : 0 < (cutN (dropT T (l :: k.rp) L s) (l :: k.rp)).length := List.length_pos_of_mem (mem_cutN.2 ⟨hk, fun e => suf_self (l := l) (p := k.rp) (by rw [← e]; exact List.suffix_refl _)⟩)
  refine ⟨w1, _, hrun, ht.blk, by omega, by omega, hf, true, rfl, by rw [rev_cons, h.has], ?_, (h.fr.trans hf fun b hb _ => by rw [List.mem_singleton] at hb; rw [hb]; exact hT).trans (fr_setCell w1 g 1 _) fun b hb _ => by rw [List.mem_singleton] at hb; rw [hb]; exact mem_fp.2 (.inl rfl)⟩
  rw [if_pos rfl]
  have e : dropT T k.rp (l :: L) s = cutN (dropT T (l :: k.rp) L s) (l :: k.rp) := by rw [dropT, hb]; rfl
  rw [e]
  have h2 := ht.count (((cutN (dropT T (l :: k.rp) L s) (l :: k.rp)).length : Int) - 1)
  show TrB _ _ _ _ _
  have e2 : (((dropT T (l :: k.rp) L s).length - 1 : Nat) : Int) - 1 = ((cutN (dropT T (l :: k.rp) L s) (l :: k.rp)).length : Int) - 1 := by omega
  rw [e2]
  exact h2
theorem DrK.below {nb mb nnx : Nat} {V : World} (h : DrK w V g r T p L l s nb mb nnx) (hb : Below V.heap.size V W) : DrK w W g r T p L l s nb mb nnx :=
  ⟨h.tr.below hb, h.dj, h.has, h.fr.trans (Fr.of_below (X := []) hb) (fun b hb => by cases hb), h.nn, h.nm⟩
theorem drop_missing (h : TrI w g T r) (hno : ∀ m ∈ T, m.rp ≠ l :: p) (hb : Below w.heap.size w W) : DropSays w g T r p (l :: L) s (.returned (.bool false)) W :=
  ⟨false, rfl, (has_none h.tc hno).symm, by rw [if_neg (by simp)]; exact h.below hb, Fr.of_below hb⟩
theorem drop_not (h : TrI W g T r) (hf : Fr (fp g T) w W) (hb : hasT T (L.reverse ++ (l :: p)) s = false) : DropSays w g T r p (l :: L) s (.returned (.bool false)) W :=
  ⟨false, rfl, by rw [rev_cons, hb], by rw [if_neg (by simp)]; exact h, hf⟩
theorem bvn18 (w : World) (d : Nat) : Below w.heap.size w (w.drewN d) := ⟨rfl, rfl, rfl, Nat.le_refl _, fun _ _ => rfl⟩
set_option maxHeartbeats 8000000 in
theorem tdrop_more (h : TrI w g T r) (hu : TU T) (hn : n ∈ T) (hp : n.rp = p) {A : Option Addr} {c : Nat} (hA : LRd w A (l :: L)) (hl : l.length ≤ maxLen) (hlen : L.length ≤ 1000) (hc : L.length + 1 ≤ c) (hT : T.length ≤ 2000000)
    (ih : ∀ (m : NV) (A : Option Addr) (c : Nat) (W : World), TrI W g T r → m ∈ T → m.rp = l :: p → LRd W A L → L.length ≤ c → Calls Tryd.prog 36 #[.pointer (some ⟨g, 0, none⟩), .pointer (some ⟨m.blk, 0, none⟩), .slice A L.length c, .string s] W (DropSays W g T r (l :: p) L s)) :
    Calls Tryd.prog 36 #[.pointer (some ⟨g, 0, none⟩), .pointer (some ⟨n.blk, 0, none⟩), .slice A (L.length + 1) c, .string s] w (DropSays w g T r p (l :: L) s) := by
  obtain ⟨gr, off, rfl, ⟨cs, hcs⟩, hcl⟩ := hA (by simp)
  have t0 := hcl 0 (by simp)
  rw [Nat.add_zero] at t0
  have d0 : w.cell? ⟨gr, off, none⟩ = some (.string (bs l)) := t0
  have c0 := (h.th.nb n hn).cell 0
  have HH := Lib.hid h
  have HU := Lib.hid hu
  have HN := Lib.hid (And.intro hn hp)
  have HA := Lib.hid hA
  have HLM := Lib.hid hl
  have HT := Lib.hid hT
  have HX := Lib.hid (show n.nx ∈ fp g T from mem_fp.2 (.inr ⟨n, hn, .inl rfl⟩))
  have HTX := Lib.hid h.noText
  rcases Classical.em (∃ m ∈ T, m.rp = l :: p) with ⟨m, hm, hmp⟩ | hno
  · have HM := Lib.hid (And.intro hm hmp)
    have hlk := fun d => nlook_hit ((h.below (bvn18 w d)).th) hn hm (by rw [hp]; exact hmp)
    have HS := Lib.hid ih
    clear h hu hn hA hcs hcl t0 ih hm hT hl
    go_enter Tryd.func36, Tryd.ntmps36
    go_upto_region 5 with fail
    go_quiet (fail)
    have HBW := Lib.hid (bvn18 w nq)
    generalize w.drewN nq = W at *
    obtain ⟨k, hk⟩ : ∃ k, k = L.length := ⟨_, rfl⟩
    have HK := Lib.hid hk
    rw [← hk] at hlen hc ⊢
    clear hlk
    rw [← hk] at HS
    clear hk
    by_cases hc1 : c = 1
    · have hk0 : k = 0 := by omega
      subst hc1 hk0
      go_wp2_with fail
      refine (HS.out m _ _ W (HH.out.below HBW.out) HM.out.1 HM.out.2 (fun hl0 => absurd hl0 (by have := HK.out; omega)) (Nat.zero_le _)).mono ?_
      rintro x V ⟨b, rfl, hb, ht, hf⟩
      have HF := Lib.hid ((Fr.of_below (X := fp g T) HBW.out).trans hf fun b hb _ => hb)
      have HLV := Lib.hid (show LRd V (some ⟨gr, off, none⟩) (l :: L) from (HA.out.below HBW.out).fr hf (HH.out.below HBW.out).noText)
      clear hf HS d0 c0
      cases b with
      | false =>
        have HE := Lib.hid (drop_not (p := p) (L := L) (l := l) (s := s) (w := w) ht HF.out hb.symm)
        clear ht hb
        go_wp2_with fail
        go_ret
        exact HE.out
      | true =>
        rw [if_pos rfl] at ht
        have HD := Lib.hid (DrK.of HH.out HU.out HN.out.1 HN.out.2 HM.out.1 HM.out.2 hb.symm ht HF.out)
        clear ht hb
        obtain ⟨j, hj, hjp, hjb⟩ := HD.out.nm
        have hbb := bare_any HD.out.tr hj
        rw [hjb, hjp] at hbb
        have HBB := Lib.hid hbb
        clear hj hjp hjb hbb
        go_wp2_with fail
        refine HBB.out.mono ?_
        rintro x V2 ⟨rfl, rfl⟩
        cases hbr : bareB (dropT T (l :: p) L s) (l :: p) with
        | false =>
          have HE := Lib.hid (HD.out.stay hbr)
          clear hbr
          go_wp2_with fail
          go_ret
          exact HE.out
        | true =>
          obtain ⟨W9, c9, hrun, hblk, hcle, hcpos, hfr9, hsays⟩ := (HD.out.below (show Below V.heap.size V V.drew from bvn18 V 1)).cut HX.out hbr HLM.out
          obtain ⟨k9, hk9, _, hk9b, hk9x⟩ := HD.out.nn
          have c0 : V.cell? ⟨n.blk, 0, none⟩ = some (.map (some n.nx)) := by
            have := (HD.out.tr.th.nb k9 hk9).cell 0
            rw [hk9b, hk9x] at this
            exact this
          obtain ⟨gr', off', e, _, hcl⟩ := HLV.out (by simp)
          injection e with e
          injection e with e1 e2
          subst e1 e2
          have d0 : V.cell? ⟨gr, off, none⟩ = some (.string (bs l)) := by
            have := hcl 0 (by simp)
            rwa [Nat.add_zero] at this
          have hbk : n.blk < V.heap.size := by rw [← hk9b]; exact (HD.out.tr.th.nb k9 hk9).lt
          have c0' : W9.cell? ⟨n.blk, 0, none⟩ = some (.map (some n.nx)) := (hfr9.cell (w := V.drew) hbk (by
            rw [List.mem_singleton, ← hk9b, ← hk9x]
            exact (HD.out.tr.th.kinds hk9 hk9).1)).trans c0
          obtain ⟨cs0, hcs0⟩ : ∃ cs, V.heap[gr]? = some (.cells cs 9 (0, 0)) := by
            obtain ⟨g5, o5, e5, hcs5, _⟩ := HLV.out (by simp)
            cases e5
            exact hcs5
          have d0' : W9.cell? ⟨gr, off, none⟩ = some (.string (bs l)) := (hfr9.cell (w := V.drew) (lt_of_block hcs0) (by
            rw [List.mem_singleton, ← hk9x]
            exact (HD.out.tr.th.nx k9 hk9).ne (g := gr) (u := 9) (cs := cs0) hcs0)).trans d0
          have HC0 := Lib.hid (And.intro (And.intro c0 d0) (And.intro c0' d0'))
          clear hcs0 hbk hfr9
          have c1 := hblk.cell 1
          have z1 := hblk.frozen 1
          have HC9 := Lib.hid (show c9 ≤ 2000000 from Nat.le_trans hcle HT.out)
          have HSY := Lib.hid hsays
          clear hbr hblk hcl hk9 hk9b hk9x hcle hsays HBB HD HF HLV HA HTX
          go_upto_region 9 with fail
          go_region_held3 (fun W => W.cell? ⟨n.blk, 0, none⟩ = some (.map (some n.nx)) ∧ W.cell? ⟨gr, off, none⟩ = some (.string (bs l)))
            (first | done | with_reducible assumption | exact HC0.out.1 | exact HC0.out.2)
            (fail)
          have hc9 := HC9.out
          go_wp2_with fail
          go_ret
          exact HSY.out
    · have hc2 : 1 < c := by omega
      go_wp2_with fail
      refine (HS.out m _ _ W (HH.out.below HBW.out) HM.out.1 HM.out.2 ((HA.out.below HBW.out).tail fun _ => rfl) (by omega)).mono ?_
      rintro x V ⟨b, rfl, hb, ht, hf⟩
      have HF := Lib.hid ((Fr.of_below (X := fp g T) HBW.out).trans hf fun b hb _ => hb)
      have HLV := Lib.hid (show LRd V (some ⟨gr, off, none⟩) (l :: L) from (HA.out.below HBW.out).fr hf (HH.out.below HBW.out).noText)
      clear hf HS d0 c0
      cases b with
      | false =>
        have HE := Lib.hid (drop_not (p := p) (L := L) (l := l) (s := s) (w := w) ht HF.out hb.symm)
        clear ht hb
        go_wp2_with fail
        go_ret
        exact HE.out
      | true =>
        rw [if_pos rfl] at ht
        have HD := Lib.hid (DrK.of HH.out HU.out HN.out.1 HN.out.2 HM.out.1 HM.out.2 hb.symm ht HF.out)
        clear ht hb
        obtain ⟨j, hj, hjp, hjb⟩ := HD.out.nm
        have hbb := bare_any HD.out.tr hj
        rw [hjb, hjp] at hbb
        have HBB := Lib.hid hbb
        clear hj hjp hjb hbb
        go_wp2_with fail
        refine HBB.out.mono ?_
        rintro x V2 ⟨rfl, rfl⟩
        cases hbr : bareB (dropT T (l :: p) L s) (l :: p) with
        | false =>
          have HE := Lib.hid (HD.out.stay hbr)
          clear hbr
          go_wp2_with fail
          go_ret
          exact HE.out
        | true =>
          obtain ⟨W9, c9, hrun, hblk, hcle, hcpos, hfr9, hsays⟩ := (HD.out.below (show Below V.heap.size V V.drew from bvn18 V 1)).cut HX.out hbr HLM.out
          obtain ⟨k9, hk9, _, hk9b, hk9x⟩ := HD.out.nn
          have c0 : V.cell? ⟨n.blk, 0, none⟩ = some (.map (some n.nx)) := by
            have := (HD.out.tr.th.nb k9 hk9).cell 0
            rw [hk9b, hk9x] at this
            exact this
          obtain ⟨gr', off', e, _, hcl⟩ := HLV.out (by simp)
          injection e with e
          injection e with e1 e2
          subst e1 e2
          have d0 : V.cell? ⟨gr, off, none⟩ = some (.string (bs l)) := by
            have := hcl 0 (by simp)
            rwa [Nat.add_zero] at this
          have hbk : n.blk < V.heap.size := by rw [← hk9b]; exact (HD.out.tr.th.nb k9 hk9).lt
          have c0' : W9.cell? ⟨n.blk, 0, none⟩ = some (.map (some n.nx)) := (hfr9.cell (w := V.drew) hbk (by
            rw [List.mem_singleton, ← hk9b, ← hk9x]
            exact (HD.out.tr.th.kinds hk9 hk9).1)).trans c0
          obtain ⟨cs0, hcs0⟩ : ∃ cs, V.heap[gr]? = some (.cells cs 9 (0, 0)) := by
            obtain ⟨g5, o5, e5, hcs5, _⟩ := HLV.out (by simp)
            cases e5
            exact hcs5
          have d0' : W9.cell? ⟨gr, off, none⟩ = some (.string (bs l)) := (hfr9.cell (w := V.drew) (lt_of_block hcs0) (by
            rw [List.mem_singleton, ← hk9x]
            exact (HD.out.tr.th.nx k9 hk9).ne (g := gr) (u := 9) (cs := cs0) hcs0)).trans d0
          have HC0 := Lib.hid (And.intro (And.intro c0 d0) (And.intro c0' d0'))
          clear hcs0 hbk hfr9
          have c1 := hblk.cell 1
          have z1 := hblk.frozen 1
          have HC9 := Lib.hid (show c9 ≤ 2000000 from Nat.le_trans hcle HT.out)
          have HSY := Lib.hid hsays
          clear hbr hblk hcl hk9 hk9b hk9x hcle hsays HBB HD HF HLV HA HTX
          go_upto_region 9 with fail
          go_region_held3 (fun W => W.cell? ⟨n.blk, 0, none⟩ = some (.map (some n.nx)) ∧ W.cell? ⟨gr, off, none⟩ = some (.string (bs l)))
            (first | done | with_reducible assumption | exact HC0.out.1 | exact HC0.out.2)
            (fail)
          have hc9 := HC9.out
          go_wp2_with fail
          go_ret
          exact HSY.out
  · have hlk := fun d => nlook_miss ((h.below (bvn18 w d)).th) hn hl (fun m hm e => hno ⟨m, hm, by rw [e, hp]⟩)
    have HNO := Lib.hid (show ∀ m ∈ T, m.rp ≠ l :: p from fun m hm e => hno ⟨m, hm, e⟩)
    clear h hu hn hA hcs hcl t0 ih hT hl hno
    go_enter Tryd.func36, Tryd.ntmps36
    go_upto_region 5 with fail
    go_quiet (fail)
    have HE := Lib.hid (drop_missing (L := L) (s := s) HH.out HNO.out (bvn18 w nq))
    generalize w.drewN nq = W at *
    clear hlk
    go_wp2_with fail
    go_ret
    exact HE.out
end
end Go.Proofs.YtebaojbagogniaaDoor
namespace Go.Proofs.YtebaojbagogniaaDoor
open Go.RowKit Go.Extern.Stop Go.Stop Go.Extern Go.Maps Go.Deep
set_option maxRecDepth 100000
section
variable {w W w' : World} {g r : Nat} {T : NL} {n m : NV} {p L : List BL} {l : BL} {f s : ByteArray}
theorem texts_cap {B : Nat} {a : Option Addr} {k c : Nat} {L : List BL} (h : Texts w B (.slice a k c) L) : L.length ≤ c := by
  rcases h.2 with ⟨e, h0⟩ | ⟨gr, cap, cur, e, _, _, h3, _⟩
  · omega
  · injection e with _ _ e
    omega
theorem tdrop_rec (hu : TU T) (hs : s.size ≤ 200) (hT : T.length ≤ 2000000) : ∀ (L p : List BL) (n : NV) (A : Option Addr) (c : Nat) (w : World), TrI w g T r → n ∈ T → n.rp = p → LRd w A L → (∀ x ∈ L, x.length ≤ maxLen) → L.length ≤ 1000 → L.length ≤ c →
    Calls Tryd.prog 36 #[.pointer (some ⟨g, 0, none⟩), .pointer (some ⟨n.blk, 0, none⟩), .slice A L.length c, .string s] w (DropSays w g T r p L s)
  | [], p, n, A, c, w, h, hn, hp, _, _, _, _ => tdrop_end h hn hp hs
  | l :: L, p, n, A, c, w, h, hn, hp, hA, hx, hl, hc => by
    rw [List.length_cons] at hl hc ⊢
    exact tdrop_more h hu hn hp hA (hx l (List.mem_cons_self ..)) (by omega) hc hT fun m A c W hW hm hmp hAL hcl =>
      tdrop_rec hu hs hT L (l :: p) m A c W hW hm hmp hAL (fun x hxm => hx x (List.mem_cons_of_mem _ hxm)) (by omega) hcl
theorem lv_is {e : ByteArray × ByteArray} (h : lv e = lv (s, f)) : e.2 = f := by
  have := congrArg List.reverse h
  unfold lv at this
  rw [List.reverse_reverse, List.reverse_reverse] at this
  exact spl_inj this
theorem hasT_hasE (h : TC T) : hasT T ((spl (ls f)).reverse ++ []) s = hasE T (s, f) := by
  rw [List.append_nil]
  rw [Bool.eq_iff_iff, hasT_iff, hasE_iff]
  constructor
  · rintro ⟨m, hm, hr, e, he, hes⟩
    have h1 : lv e = lv (s, f) := by rw [h.ok m hm e he, hr]; rfl
    have h2 : e = (s, f) := Prod.ext hes (lv_is h1)
    rw [← h2]
    exact mem_ents.2 ⟨m, hm, he⟩
  · intro hx
    obtain ⟨m, hm, hr, he⟩ := h.lvOf hx
    exact ⟨m, hm, hr, _, he, rfl⟩
def TDropSays (w : World) (g : Nat) (T : NL) (r : Nat) (f s : ByteArray) (x : Ending) (w' : World) : Prop :=
  ∃ (b : Bool) (T' : NL), x = .returned (.bool b) ∧ b = (filtB f && hasE T (s, f)) ∧ TrS w' g T' r ∧ (∀ e, e ∈ ents T' ↔ e ∈ ents T ∧ ¬ (b = true ∧ e = (s, f))) ∧ T'.length ≤ T.length ∧ Fr (fp g T) w w' ∧ Grw w T T'
theorem drop_false (h : TrS w g T r) (hb : Fr (fp g T) w W) (hW : TrI W g T r) (hn : (filtB f && hasE T (s, f)) = false) : TDropSays w g T r f s (.returned (.bool false)) W :=
  ⟨false, T, rfl, hn.symm, ⟨hW, h.u, h.sz⟩, fun e => by simp, Nat.le_refl _, hb, fun m hm => .inl ⟨m, hm, rfl, rfl, rfl⟩⟩
theorem drop_true (h : TrS w g T r) (hb : Fr (fp g T) w W) (hW : TrI W g (dropT T [] (spl (ls f)) s) r) (hn : hasT T ((spl (ls f)).reverse ++ []) s = true) (hf : filtB f = true) : TDropSays w g T r f s (.returned (.bool true)) W := by
  obtain ⟨k, hk, hkr, _⟩ := hasT_iff.1 hn
  have hd := drj_any h.i.tc h.u s (spl (ls f)) [] ⟨k, hk, hkr⟩
  have hm : ∀ e, e ∈ ents (dropT T [] (spl (ls f)) s) ↔ e ∈ ents T ∧ ¬ (true = true ∧ e = (s, f)) := fun e => by
    rw [hd.mem, List.append_nil]
    refine and_congr_right fun _ => not_congr ⟨fun ⟨h1, h2⟩ => ⟨rfl, Prod.ext h2 (lv_is (s := s) (h1.trans lv_of.symm))⟩, fun ⟨_, h2⟩ => ?_⟩
    rw [h2]
    exact ⟨rfl, rfl⟩
  refine ⟨true, _, rfl, by rw [← hasT_hasE h.i.tc, hn, hf]; rfl, ⟨hW, drj_used hd, fun e he => h.sz e ((hm e).1 he).1⟩, hm, hd.len, hb, fun m hm => .inl ?_⟩
  obtain ⟨n, hn, _, e1⟩ := hd.sub m hm
  exact ⟨n, hn, e1⟩
set_option maxHeartbeats 8000000 in
theorem tdrop_any {S : Nat → Addr} (h : TrS w g T r) (f s : ByteArray) (hf : f.size ≤ 200) (hs : s.size ≤ 200) (he : EnvT w S) (hT : T.length ≤ 1000000) :
    Calls Tryd.prog 19 #[.pointer (some ⟨g, 0, none⟩), .string f, .string s] w (TDropSays w g T r f s) := by
  have HI := Lib.hid (isnone_no h.i)
  have HN := Lib.hid (isFilter_any f (by omega) he)
  have HS := Lib.hid h
  have HL : Hid (∀ W, Below w.heap.size w W → Calls Tryd.prog 32 #[.string f] W fun x W' => ∃ a c, x = .returned (.slice a (spl (ls f)).length c) ∧ Calls Tryd.prog 36 #[.pointer (some ⟨g, 0, none⟩), .pointer (some ⟨r, 0, none⟩), .slice a (spl (ls f)).length c, .string s] W' (DropSays W' g T r [] (spl (ls f)) s) ∧ Below w.heap.size w W') := Lib.hid fun W hb =>
    (levels_any (w := W) f (by omega)).mono fun x W' ⟨v, hx, hr, hb2⟩ => by
      obtain ⟨a, c, rfl⟩ := hr.form
      obtain ⟨n, hn, hnp, hnb⟩ := h.i.rt
      have hb3 := hb.trans (hb2.mono hb.size)
      have hlen : (spl (ls f)).length ≤ c := texts_cap hr
      have := tdrop_rec (g := g) (r := r) h.u hs (by omega : T.length ≤ 2000000) (spl (ls f)) [] n a c W' (h.i.below hb3) hn hnp (LRd.of hr) (fun x hx => by
        have := spl_le hx
        rw [ls_size] at this
        unfold maxLen
        omega) (by have := spl_few hf; omega) hlen
      rw [hnb] at this
      exact ⟨a, c, hx, this, hb3⟩
  have HX0 := Lib.hid (fun (W : World) (hb : Below w.heap.size w W) (hn : filtB f = false) => drop_false (f := f) (s := s) h (Fr.of_below (X := fp g T) hb) (h.i.below hb) (by rw [hn]; rfl))
  have HX1 := Lib.hid (fun (V W : World) (x : Ending) (hb : Below w.heap.size w V) (hfb : filtB f = true) (hx : DropSays V g T r [] (spl (ls f)) s x W) => show ∃ b, x = .returned (.bool b) ∧ TDropSays w g T r f s (.returned (.bool b)) W ∧ W.cell? ⟨g, 0, none⟩ = some (.pointer (some ⟨r, 0, none⟩)) from by
    obtain ⟨b, rfl, hb2, ht, hfr⟩ := hx
    have hfr2 := (Fr.of_below (X := fp g T) hb).trans hfr fun b hb _ => hb
    refine ⟨b, rfl, ?_⟩
    cases b with
    | false =>
      rw [if_neg (by simp)] at ht
      exact ⟨drop_false h hfr2 ht (by rw [← hasT_hasE h.i.tc, ← hb2, hfb]; rfl), ht.blk.cell 0⟩
    | true =>
      rw [if_pos rfl] at ht
      exact ⟨drop_true h hfr2 ht hb2.symm hfb, ht.blk.cell 0⟩)
  obtain ⟨nl, hnl⟩ : ∃ nl, nl = (spl (ls f)).length := ⟨_, rfl⟩
  have hl1 : nl ≤ 201 := by rw [hnl]; exact spl_few hf
  rw [← hnl] at HL
  clear h he hf hs hT hnl
  go_enter Tryd.func19, Tryd.ntmps19
  go_wp2_with fail
  refine HI.out.mono ?_
  rintro x W ⟨rfl, rfl⟩
  go_wp2_with fail
  refine HN.out.mono ?_
  rintro x W ⟨rfl, hb⟩
  have HBL := Lib.hid hb
  clear HI HN
  cases hfb : filtB f with
  | false =>
    have HX := Lib.hid (HX0.out W hb hfb)
    clear hfb hb HX1 HL HX0
    go_wp2_with fail
    go_ret
    exact HX.out
  | true =>
    have HFB := Lib.hid hfb
    have c0 : W.cell? ⟨g, 0, none⟩ = some (.pointer (some ⟨r, 0, none⟩)) := (HS.out.below hb).i.blk.cell 0
    have HC0 := Lib.hid (fun (V : World) (hv : Below w.heap.size w V) => show V.cell? ⟨g, 0, none⟩ = some (.pointer (some ⟨r, 0, none⟩)) from (HS.out.below hv).i.blk.cell 0)
    have HBD : Hid (Below w.heap.size w W.drew) := Lib.hid (hb.trans ((show Below W.heap.size W W.drew from bvn18 W 1).mono hb.size))
    clear hfb HX0
    go_upto_region 3 with fail
    go_region_held3 (fun W => W.cell? ⟨g, 0, none⟩ = some (.pointer (some ⟨r, 0, none⟩)))
      (first | done | with_reducible assumption | exact HC0.out _ (by assumption) | exact HC0.out _ HBD.out)
      (first
        | (go_at_call 32; (refine (HL.out _ HBD.out).mono ?_); rintro e w7 ⟨a7, c7, rfl, hd7, hb7⟩)
        | (go_at_call 36; (refine hd7.mono ?_); rintro e w8 hd8; obtain ⟨b8, rfl, hs8, hk8⟩ := HX1.out _ _ _ hb7 HFB.out hd8))
    have HE := Lib.hid hs8
    clear hs8 hk8 hd7 hb7 HX1 HL HC0 hb
    go_wp2_with fail
    go_ret
    exact HE.out
end
end Go.Proofs.YtebaojbagogniaaDoor
