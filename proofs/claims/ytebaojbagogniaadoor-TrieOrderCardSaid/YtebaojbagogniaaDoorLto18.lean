/- What is proved here: who takes a topic does not hang on the order in which they came: the statement's walk. Conditions: the two errors that a check names; acts that came in. -/
import Derived.Test.YtebaojbagogniaaDoorLtc18
namespace Go.Proofs.YtebaojbagogniaaDoor
open Go.RowKit Go.Extern.Stop Go.Stop Go.Extern Go.Maps Go.Deep
set_option maxRecDepth 100000
/-- What one trie may change is none of the other's. -/
def Sep (ga : Nat) (Ta : NL) (gb : Nat) (Tb : NL) : Prop := ∀ x ∈ fp ga Ta, x ≠ gb ∧ ∀ n ∈ Tb, x ≠ n.blk ∧ x ≠ n.nx ∧ x ≠ n.en
section
variable {w W W' : World} {ga gb ra rb k : Nat} {Ta Ta' Tb : NL} {Ea Eb : List EV} {c : Int}
theorem Sep.l (h : Sep ga Ta gb Tb) (hg : Grw W Ta Ta') (hb : TrB W gb Tb rb c) : Sep ga Ta' gb Tb := by
  have key : ∀ x, W.heap.size ≤ x → x ≠ gb ∧ ∀ n ∈ Tb, x ≠ n.blk ∧ x ≠ n.nx ∧ x ≠ n.en := fun x hx => by
    have h1 := hb.blk.lt
    refine ⟨by omega, fun n hn => ?_⟩
    have h2 := (hb.th.nb n hn).lt
    have h3 := (hb.th.nx n hn).lt
    have h4 := (hb.th.en n hn).lt
    exact ⟨by omega, by omega, by omega⟩
  intro x hx
  rcases mem_fp.1 hx with rfl | ⟨n, hn, hxn⟩
  · exact h _ (mem_fp.2 (.inl rfl))
  · rcases hg n hn with ⟨m, hm, _, e2, e3⟩ | ⟨_, h2, h3⟩
    · refine h x (mem_fp.2 (.inr ⟨m, hm, ?_⟩))
      rw [← e2, ← e3]
      exact hxn
    · rcases hxn with rfl | rfl
      · exact key _ h2
      · exact key _ h3
theorem Sep.r (h : Sep gb Tb ga Ta) (hg : Grw W Ta Ta') (hb : TrB W gb Tb rb c) : Sep gb Tb ga Ta' := by
  intro x hx
  have hlt := hb.lt x hx
  obtain ⟨h1, h2⟩ := h x hx
  refine ⟨h1, fun n hn => ?_⟩
  rcases hg n hn with ⟨m, hm, e1, e2, e3⟩ | ⟨e1, e2, e3⟩
  · rw [e1, e2, e3]
    exact h2 m hm
  · exact ⟨by omega, by omega, by omega⟩
theorem AdL.fr (h : AdL w W gb Tb rb Eb k) (hf : Fr (fp ga Ta) W W') (hs : Sep ga Ta gb Tb) (hb : Below w.heap.size w W') : AdL w W' gb Tb rb Eb k :=
  ⟨⟨⟨h.te.st.i.fr hf hs, h.te.st.u, h.te.st.sz⟩, hb, h.te.ge, h.te.mem⟩, h.len, h.few, h.fl⟩
def okA (a : AV) (e : EV) : Prop := filtB a.filter = true ∧ e = (a.who, a.filter)
theorem mem_addE {E : List EV} {f s : ByteArray} {e : EV} : e ∈ addE E f s ↔ e ∈ E ∨ (filtB f = true ∧ e = (s, f)) := by
  unfold addE
  cases hb : addB E f s with
  | false =>
    rw [if_neg Bool.false_ne_true]
    constructor
    · exact .inl
    · rintro (h | ⟨hf, rfl⟩)
      · exact h
      · unfold addB at hb
        rw [hf, Bool.true_and, Bool.not_eq_false'] at hb
        exact inE_iff.1 hb
  | true =>
    rw [if_pos rfl, List.mem_cons]
    unfold addB at hb
    rw [Bool.and_eq_true] at hb
    constructor
    · rintro (h | h)
      · exact .inr ⟨hb.1, h⟩
      · exact .inl h
    · rintro (h | ⟨_, h⟩)
      · exact .inr h
      · exact .inl h
/-- Two tries: the one gets the acts from the first on, the other from the last on. -/
structure OrJ (w W : World) (xs : AL) (n k ga ra gb rb : Nat) (Ta : NL) (Ea : List EV) (Tb : NL) (Eb : List EV) (ka : Nat) : Prop where
  a : AdL w W ga Ta ra Ea ka
  b : AdL w W gb Tb rb Eb k
  ab : Sep ga Ta gb Tb
  ba : Sep gb Tb ga Ta
  ma : ∀ e, e ∈ Ea ↔ ∃ j, j < ka ∧ okA (xs.getD j a0) e
  mb : ∀ e, e ∈ Eb ↔ ∃ j, j < k ∧ okA (xs.getD (n - 1 - j) a0) e
theorem lt_more {P : Nat → Prop} {k : Nat} : (∃ j, j < k + 1 ∧ P j) ↔ (∃ j, j < k ∧ P j) ∨ P k := by
  constructor
  · rintro ⟨j, hj, hp⟩
    rcases Nat.lt_succ_iff_lt_or_eq.1 hj with h | rfl
    · exact .inl ⟨j, h, hp⟩
    · exact .inr hp
  · rintro (⟨j, hj, hp⟩ | hp)
    · exact ⟨j, by omega, hp⟩
    · exact ⟨k, by omega, hp⟩
theorem OrJ.same {xs : AL} {n : Nat} (h : OrJ w W xs n n ga ra gb rb Ta Ea Tb Eb n) : ∀ e, e ∈ Ea ↔ e ∈ Eb := fun e => by
  rw [h.ma, h.mb]
  constructor
  · rintro ⟨j, hj, hp⟩
    exact ⟨n - 1 - j, by omega, by rw [show n - 1 - (n - 1 - j) = j by omega]; exact hp⟩
  · rintro ⟨j, hj, hp⟩
    exact ⟨n - 1 - j, by omega, hp⟩
theorem dd_perm {A B : List EV} (h : ∀ e, e ∈ A ↔ e ∈ B) : (dd A).Perm (dd B) := nodup_perm (dd_nodup _) (dd_nodup _) fun e => by rw [mem_dd, mem_dd, h]
theorem take_perm {A B : List EV} (h : ∀ e, e ∈ A ↔ e ∈ B) (s : ByteArray) : (takeE A s).Perm (takeE B s) := by
  unfold takeE
  split
  · exact (dd_perm h).filter _
  · exact List.Perm.refl _
theorem take_nodup (A : List EV) (s : ByteArray) : (takeE A s).Nodup := by
  unfold takeE
  split
  · exact (dd_nodup A).sublist List.filter_sublist
  · exact List.nodup_nil
theorem nodes_same {A B : List EV} (h : ∀ e, e ∈ A ↔ e ∈ B) : nodesE A = nodesE B := by
  unfold nodesE
  refine (nodup_perm (dd_nodup _) (dd_nodup _) fun q => ?_).length_eq
  rw [mem_dd, mem_dd, List.mem_flatMap, List.mem_flatMap]
  simp only [h]
end
set_option maxHeartbeats 16000000 in
theorem trieOrder_walk (S : Nat → Addr) (A : Option Addr) (n c : Nat) (xs : AL) (s : ByteArray) (w : World) (he : EnvT w S) (hn : n ≤ maxLen) (h : ActsN w A n xs) (_ : s.size ≤ maxLen) :
    Calls Tryd.prog 4 #[.slice A n c, .string s] w fun x w' => x = .returned (.bool true) ∧ Below w.heap.size w w' := by
  have HAW := Lib.hid (fun W (hb : Below w.heap.size w W) => (awake18 W (he.later hb)).mono fun x w' hx => show x = .returned (.bool true) ∧ Below w.heap.size w w' from ⟨hx.1, hb.trans (hx.2.mono hb.size)⟩)
  have HE := Lib.hid he
  have HX := Lib.hid h
  have HFW := Lib.hid (few18_any (c := c) h hn)
  have hnm : n ≤ 9223372036854775807 := by unfold maxLen at hn; omega
  clear h he hn
  go_enter Tryd.func4, Tryd.ntmps4
  go_wp2_with fail
  refine HFW.out.mono ?_
  rintro x W ⟨b, rfl, hfew, hb⟩
  have HB := Lib.hid hb
  clear hb HFW
  have HFA : Hid (¬ (b = true ∧ s.size ≤ 200) → True) := Lib.hid fun _ => trivial
  by_cases hgo : b = true ∧ s.size ≤ 200
  · obtain ⟨rfl, hs2⟩ := hgo
    have HF := Lib.hid (hfew rfl)
    have hn40 : n ≤ 40 := by have h1 := HX.out.1; have h2 := HF.out.1; omega
    have HSS := Lib.hid hs2
    have hsd : decide ((s.size : Int) > 200) = false := decide_eq_false (by omega)
    have HN := Lib.hid (te_new W)
    have HN2 := Lib.hid te_new
    clear hfew hnm hs2 HFA
    go_wp2_with fail
    refine HN.out.mono ?_
    rintro x W1 ⟨ga, T1, ra, rfl, h, hl⟩
    have HA1 : Hid (AdL w W1 ga T1 ra [] 0) := Lib.hid (AdL.start ⟨h.st, HB.out.trans (h.bel.mono HB.out.size), ⟨Nat.le_trans HB.out.size h.ge.1, fun m hm => ⟨Nat.le_trans HB.out.size (h.ge.2 m hm).1, Nat.le_trans HB.out.size (h.ge.2 m hm).2.1, Nat.le_trans HB.out.size (h.ge.2 m hm).2.2⟩⟩, h.mem⟩ hl)
    clear h hl HN hsd
    go_wp2_with fail
    refine (HN2.out W1).mono ?_
    rintro x W2 ⟨gb, T2, rb, rfl, h, hl⟩
    have HJ0 : Hid (OrJ w W2 xs n 0 ga ra gb rb T1 [] T2 [] 0) := Lib.hid (by
      have hb1 := HA1.out.te.bel
      have hlow := h.low
      have hlt := HA1.out.te.st.i.lt
      refine ⟨HA1.out.below h.bel, AdL.start ⟨h.st, hb1.trans (h.bel.mono hb1.size), ⟨Nat.le_trans hb1.size h.ge.1, fun m hm => ⟨Nat.le_trans hb1.size (h.ge.2 m hm).1, Nat.le_trans hb1.size (h.ge.2 m hm).2.1, Nat.le_trans hb1.size (h.ge.2 m hm).2.2⟩⟩, h.mem⟩ hl, fun x hx => ?_, fun x hx => ?_, fun e => by simp, fun e => by simp⟩
      · have h1 := hlt x hx
        have h2 := h.ge.1
        refine ⟨by omega, fun m hm => ?_⟩
        obtain ⟨h3, h4, h5⟩ := h.ge.2 m hm
        exact ⟨by omega, by omega, by omega⟩
      · have h1 := hlow x hx
        have h2 := HA1.out.te.st.i.blk.lt
        refine ⟨by omega, fun m hm => ?_⟩
        have h3 := (HA1.out.te.st.i.th.nb m hm).lt
        have h4 := (HA1.out.te.st.i.th.nx m hm).lt
        have h5 := (HA1.out.te.st.i.th.en m hm).lt
        exact ⟨by omega, by omega, by omega⟩)
    clear h hl HN2 HA1
    go_wp2_with fail
    go_loopw [7] (fun i wr => ∃ (k : Nat) (Ta : NL) (Ea : List EV) (Tb : NL) (Eb : List EV), k ≤ n ∧ i = .int .i64 k ∧ Hid (OrJ w wr xs n k ga ra gb rb Ta Ea Tb Eb k)) (fun i _ => n - (intOf i).toNat)
    case atStart => exact ⟨0, T1, [], T2, [], Nat.zero_le _, rfl, HJ0⟩
    case round =>
      obtain ⟨k, Ta, Ea, Tb, Eb, hk, rfl, HJ⟩ := hrel
      clear HJ0
      by_cases hlt : k < n
      · have hkL : k < xs.length := by have := HX.out.1; omega
        have hkM : n - 1 - k < xs.length := by have := HX.out.1; omega
        obtain ⟨g1, off, rfl, hcc⟩ := HX.out.2 (by omega)
        have hcw := hcc k hkL
        have hcv := hcc (n - 1 - k) hkM
        obtain ⟨a, ha⟩ : ∃ a, a = xs.getD k a0 := ⟨_, rfl⟩
        obtain ⟨q, hq⟩ : ∃ q, q = xs.getD (n - 1 - k) a0 := ⟨_, rfl⟩
        rw [← ha] at hcw
        rw [← hq] at hcv
        have HQA := Lib.hid (And.intro ha hq)
        have HSZ := Lib.hid (show (a.filter.size ≤ 200 ∧ a.who.size ≤ 200) ∧ q.filter.size ≤ 200 ∧ q.who.size ≤ 200 from by
          have h1 := HF.out.2 k hkL
          have h2 := HF.out.2 (n - 1 - k) hkM
          rw [← ha] at h1
          rw [← hq] at h2
          exact ⟨⟨h1.1, by omega⟩, h2.1, by omega⟩)
        have HCL := Lib.hid (fun (V : World) (hb : Below w.heap.size w V) => show V.cell? ⟨g1, off + k * 3 + 1, none⟩ = some (.string a.filter) ∧ V.cell? ⟨g1, off + k * 3 + 2, none⟩ = some (.string a.who) from by
          have h1 := hcw.at (hb.block g1 (lt_of_cell' hcw.c0))
          exact ⟨h1.c1, h1.c2⟩)
        have HCV := Lib.hid (fun (V : World) (hb : Below w.heap.size w V) => hcv.at (hb.block g1 (lt_of_cell' hcv.c0)))
        have hbd : Below wr.heap.size wr wr.drew := bvn18 wr 1
        have HAD := Lib.hid ((HJ.out.a.below hbd).step HSZ.out.1.1 HSZ.out.1.2 HE.out (by omega))
        have HCD := Lib.hid (HCL.out wr.drew (HJ.out.a.below hbd).te.bel)
        obtain ⟨d1, d2⟩ := HCL.out wr HJ.out.a.te.bel
        clear hcc hcw hcv ha hq hkL hkM hbd
        go_upto_region 7 with fail
        go_region_held3 (fun V => V.cell? ⟨g1, off + k * 3 + 1, none⟩ = some (.string a.filter) ∧ V.cell? ⟨g1, off + k * 3 + 2, none⟩ = some (.string a.who))
          (first | done | with_reducible assumption | exact HCD.out | exact HCL.out _ hb8)
          (first
            | (go_at_call 17; (refine HAD.out.mono ?_); rintro e w8 ⟨rfl, hb8, hj8⟩))
        obtain ⟨T8, hj, hfr, hgr⟩ := hj8
        have HJ8 : Hid (OrJ w w8 xs n k ga ra gb rb T8 (addE Ea a.filter a.who) Tb Eb (k + 1)) := Lib.hid (by
          have hbw : TrB wr.drew gb Tb rb ((Tb.length : Int) - 1) := HJ.out.b.te.st.i.below (bvn18 wr 1)
          refine ⟨hj, (HJ.out.b.below (bvn18 wr 1)).fr hfr HJ.out.ab hb8, HJ.out.ab.l hgr hbw, HJ.out.ba.r hgr hbw, fun e => ?_, HJ.out.mb⟩
          rw [mem_addE, lt_more (P := fun j => okA (xs.getD j a0) e), HJ.out.ma, ← HQA.out.1]
          rfl)
        have hcq := HCV.out w8 hb8
        obtain ⟨b0, b1, b2⟩ := hcq
        clear hj hb8 hfr hgr HAD HCD d1 d2 HJ
        go_upto_region 9 with fail
        have hbq : Below w8.heap.size w8 (w8.alloc (.cells #[.int .i64 q.kind, .string q.filter, .string q.who] 38)) := (Below.refl _ _).alloc (Nat.le_refl _) _
        have HBD := Lib.hid ((HJ8.out.b.below hbq).step HSZ.out.2.1 HSZ.out.2.2 HE.out (by omega))
        have HA8 := Lib.hid (HJ8.out.a.below hbq)
        clear b0 b1 b2 hbq HCL HCV
        go_wp2_with fail
        refine HBD.out.mono ?_
        rintro x w9 ⟨rfl, hb9, T9, hj, hfr, hgr⟩
        have HJ9 : Hid (OrJ w w9 xs n (k + 1) ga ra gb rb T8 (addE Ea a.filter a.who) T9 (addE Eb q.filter q.who) (k + 1)) := Lib.hid (by
          refine ⟨HA8.out.fr hfr HJ8.out.ba hb9, hj, HJ8.out.ab.r hgr HA8.out.te.st.i, HJ8.out.ba.l hgr HA8.out.te.st.i, HJ8.out.ma, fun e => ?_⟩
          rw [mem_addE, lt_more (P := fun j => okA (xs.getD (n - 1 - j) a0) e), HJ8.out.mb, ← HQA.out.2]
          rfl)
        clear hj hb9 hfr hgr HBD HA8 HJ8
        go_wp2_with fail
        go_roundw
        case rel => exact ⟨k + 1, T8, _, T9, _, by omega, by go_num, HJ9⟩
        case measure => simp [intOf]; omega
      · obtain rfl : k = n := by omega
        have HSM := Lib.hid HJ.out.same
        have HFE := Lib.hid (show Ea.length ≤ 900 ∧ Eb.length ≤ 900 from ⟨by have := HJ.out.a.few; omega, by have := HJ.out.b.few; omega⟩)
        have HTA := Lib.hid HJ.out.a.te
        have HTB := Lib.hid HJ.out.b.te
        have P1 := Lib.hid (te_match HTA.out HSS.out (HE.out.later HTA.out.bel) HFE.out.1)
        clear HJ
        go_wp2_with fail
        refine P1.out.mono ?_
        rintro x W3 ⟨v1, q1, rfl, r1, p1, s1, hb⟩
        have H1 := Lib.hid (And.intro r1 (And.intro p1 s1))
        have HTA3 := Lib.hid (HTA.out.below hb)
        have HTB3 := Lib.hid (HTB.out.below hb)
        have P2 := Lib.hid (te_match HTB3.out HSS.out (HE.out.later HTB3.out.bel) HFE.out.2)
        obtain ⟨A1, c1, rfl⟩ := r1.form
        clear r1 p1 s1 hb P1 HTA HTB
        go_wp2_with fail
        refine P2.out.mono ?_
        rintro x W4 ⟨v2, q2, rfl, r2, p2, s2, hb⟩
        obtain rfl : q1 = q2 := srt_one ((H1.out.2.1.trans (take_perm HSM.out s)).trans p2.symm) (H1.out.2.1.nodup_iff.2 (take_nodup Ea s)) H1.out.2.2 s2
        obtain ⟨A2, c2, rfl⟩ := r2.form
        have hlq : q1.length ≤ 900 := by
          rw [p2.length_eq]
          unfold takeE
          split
          · exact Nat.le_trans (List.length_filter_le _ _) (Nat.le_trans (dd_le _) HFE.out.2)
          · exact Nat.zero_le _
        have HSA := Lib.hid (esame18_any (H1.out.1.below hb) r2 rfl hlq)
        have HTA4 := Lib.hid (HTA3.out.below hb)
        have HTB4 := Lib.hid (HTB3.out.below hb)
        clear r2 p2 s2 hb P2 HTA3 HTB3 H1
        generalize q1.length = l1 at *
        go_wp2_with fail
        refine HSA.out.mono ?_
        rintro x W5 ⟨rfl, hb⟩
        have HTA5 := Lib.hid (HTA4.out.below hb)
        have HTB5 := Lib.hid (HTB4.out.below hb)
        have P3 := Lib.hid (te_all HTA5.out HFE.out.1)
        clear hb HSA HTA4 HTB4 hlq
        go_wp2_with fail
        refine P3.out.mono ?_
        rintro x W6 ⟨v1, q3, rfl, r1, p1, s1, hb⟩
        have H1 := Lib.hid (And.intro r1 (And.intro p1 s1))
        have HTA6 := Lib.hid (HTA5.out.below hb)
        have HTB6 := Lib.hid (HTB5.out.below hb)
        have P4 := Lib.hid (te_all HTB6.out HFE.out.2)
        obtain ⟨A3, c3, rfl⟩ := r1.form
        clear r1 p1 s1 hb P3 HTA5 HTB5
        go_wp2_with fail
        refine P4.out.mono ?_
        rintro x W7 ⟨v2, q4, rfl, r2, p2, s2, hb⟩
        obtain rfl : q3 = q4 := srt_one ((H1.out.2.1.trans (dd_perm HSM.out)).trans p2.symm) (H1.out.2.1.nodup_iff.2 (dd_nodup Ea)) H1.out.2.2 s2
        obtain ⟨A4, c4, rfl⟩ := r2.form
        have hlq : q3.length ≤ 900 := by
          rw [p2.length_eq]
          exact Nat.le_trans (dd_le _) HFE.out.2
        have HSA := Lib.hid (esame18_any (H1.out.1.below hb) r2 rfl hlq)
        have HTA7 := Lib.hid (HTA6.out.below hb)
        have HTB7 := Lib.hid (HTB6.out.below hb)
        clear r2 p2 s2 hb P4 HTA6 HTB6 H1
        generalize q3.length = l3 at *
        go_wp2_with fail
        refine HSA.out.mono ?_
        rintro x W8 ⟨rfl, hb⟩
        have HTA8 := Lib.hid (HTA7.out.below hb)
        have HTB8 := Lib.hid (HTB7.out.below hb)
        have P5 := Lib.hid (te_nodes HTA8.out)
        have P6 := Lib.hid (te_nodes HTB8.out)
        rw [← nodes_same HSM.out] at P6
        have HA := Lib.hid (HAW.out W8 HTA8.out.bel)
        clear hb HSA HTA7 HTB7 hlq
        generalize nodesE Ea = nn at *
        have hnn : ((nn : Int) == nn) = true := by simp
        go_wp2_with fail
        refine P5.out.mono ?_
        rintro x W9 ⟨rfl, rfl⟩
        go_wp2_with fail
        refine P6.out.mono ?_
        rintro x W9 ⟨rfl, rfl⟩
        go_wp2_with fail
        refine HA.out.mono ?_
        rintro x W9 ⟨rfl, hb⟩
        have HB9 := Lib.hid hb
        clear hb HA
        go_wp2_with fail
        go_ret
        exact ⟨rfl, HB9.out⟩
  · have HA := Lib.hid (HAW.out W HB.out)
    clear HAW hfew HFA
    cases b with
    | false =>
      clear hgo
      go_wp2_with fail
      refine HA.out.mono ?_
      rintro x W2 ⟨rfl, hb⟩
      have HB2 := Lib.hid hb
      clear hb
      go_wp2_with fail
      go_ret
      exact ⟨rfl, HB2.out⟩
    | true =>
      have hsd : decide ((s.size : Int) > 200) = true := decide_eq_true (by
        have : ¬ s.size ≤ 200 := fun h => hgo ⟨rfl, h⟩
        omega)
      clear hgo
      go_wp2_with fail
      refine HA.out.mono ?_
      rintro x W2 ⟨rfl, hb⟩
      have HB2 := Lib.hid hb
      clear hb
      go_wp2_with fail
      go_ret
      exact ⟨rfl, HB2.out⟩
end Go.Proofs.YtebaojbagogniaaDoor
