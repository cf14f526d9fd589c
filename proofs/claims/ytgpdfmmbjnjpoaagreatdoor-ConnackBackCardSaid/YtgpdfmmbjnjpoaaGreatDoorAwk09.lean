/- What is proved here, on plain values: what a Connack is encoded to is decoded as it was, with nothing of what its kind has not; and what is decoded is encoded, and decoded, as it was. Conditions: few bytes. What is proved here: a frame that is decoded by connack.Decode. Conditions: the writer is there; what Decode tells. What is proved here: check and Decode of package connack tell what plain functions say. Conditions: few bytes; what the rows list of the package's variables. What is proved here: Encode of package connack, and the document's Bare, tell what plain functions say. Conditions: few bytes, the packet's parts stand where it says; what the rows list of the package's variables. What is proved here: the document's Bare of a Connack. Conditions: the packet's parts stand where it says, few properties. What is proved here: what the statements of layer 9 hold awake. Condition: what the rows list of the package's variables. -/
import Derived.Test.YtgpdfmmbjnjpoaaGreatDoorPar08
import Derived.Test.YtgpdfmmbjnjpoaaGreatDoorDcj08
import Derived.Test.YtgpdfmmbjnjpoaaGreatDoorBrr08
namespace Go.Proofs.YtgpdfmmbjnjpoaaGreatDoor
set_option maxRecDepth 100000
open Go.RowKit Go.Extern.Stop Go.Stop Go.Extern
/-- A Connack. -/
def pkC (present : Bool) (reason : Int) (L : PL) : Pk := ⟨2, 0, reason, L, false, 0, ⟨#[]⟩, false, ⟨#[]⟩, ⟨#[]⟩, 0, false, [], false, ⟨#[]⟩, false, ⟨#[]⟩, present, ⟨#[]⟩, ⟨#[]⟩, 0, false, false, [], [], []⟩
/-- What check tells of the two bytes that were read. -/
def chkC (a b : Nat) (R : RV) : Er :=
  if R.no = 0 then (if 1 < a then ⟨2, 129, 0⟩ else if allowedB 2 b = true then (if a = 1 then (if b = 0 then e00 else ⟨3, 130, 0⟩) else e00) else ⟨2, 129, 1⟩) else ⟨R.no, 129, R.ea⟩
/-- What Decode tells behind check. -/
def dcC2 (s : ByteArray) (a b : Nat) (R : RV) : Er × Pk :=
  if (readF 2 s R).1.no = 0 then
    if (readF 2 s R).2.p < s.size then (⟨2, 129, (readF 2 s R).2.p⟩, pk0) else (e00, pkC (decide (a = 1)) b (readF 2 s R).1.L)
  else (⟨(readF 2 s R).1.no, (readF 2 s R).1.r, (readF 2 s R).1.at_⟩, pk0)
def dcC1 (s : ByteArray) (a b : Nat) (R : RV) : Er × Pk := if (chkC a b R).no = 0 then dcC2 s a b R else (chkC a b R, pk0)
/-- What Decode tells of any bytes. -/
def dcC (first : Int) (s : ByteArray) : Er × Pk :=
  if first = 32 then dcC1 s (rNum s 1 ⟨0, 0, 0⟩).1 (rNum s 1 (rNum s 1 ⟨0, 0, 0⟩).2).1 (rNum s 1 (rNum s 1 ⟨0, 0, 0⟩).2).2 else (⟨2, 129, 0⟩, pk0)
def bit9 (b : Bool) : Nat := if b then 1 else 0
def wrC (p : Pk) : EV := stepW (stepW (stepW w0 (numE 1 (bit9 p.present : Nat))) (numE 1 p.reason)) ⟨0, 0, (encR 2 p.props).L⟩
/-- What Encode tells of any packet. -/
def enC (p : Pk) : FrR :=
  if (encR 2 p.props).no = 0 then frR (wrC p) 32 (dcC 32 ⟨(wrC p).L.toArray⟩).1 else ⟨⟨(encR 2 p.props).no, (encR 2 p.props).r, (encR 2 p.props).at_⟩, 0, ⟨#[]⟩⟩
/-- A packet with nothing of what a Connack has not. -/
def bareC (p : Pk) : Pk := pkC p.present p.reason (plL p.props)
theorem enC_bad {p : Pk} (h : (enC p).e.no ≠ 0) : (enC p).first = 0 ∧ (enC p).s = ⟨#[]⟩ := by
  unfold enC at h ⊢
  by_cases h1 : (encR 2 p.props).no = 0
  · rw [if_pos h1] at h ⊢
    exact frR_bad8 h
  · rw [if_neg h1]
    exact ⟨rfl, rfl⟩
theorem dcC_bad {first : Int} {s : ByteArray} (h : (dcC first s).1.no ≠ 0) : (dcC first s).2 = pk0 := by
  unfold dcC at h ⊢
  by_cases c0 : first = 32
  · rw [if_pos c0] at h ⊢
    unfold dcC1 at h ⊢
    split at h
    · rename_i c1
      rw [if_pos c1]
      unfold dcC2 at h ⊢
      split at h
      · rename_i c2
        rw [if_pos c2]
        split at h
        · rename_i c3
          rw [if_pos c3]
        · exact absurd rfl h
      · rename_i c2
        rw [if_neg c2]
    · rename_i c1
      rw [if_neg c1]
  · rw [if_neg c0]
/-- What stands behind the number of a Connack that is decoded. -/
structure DcC (first : Int) (s : ByteArray) (a b : Nat) (L : PL) : Prop where
  fst : first = 32
  chk : (chkC a b ⟨2, 0, 0⟩).no = 0
  b256 : b < 256
  pk : dcC first s = (e00, pkC (decide (a = 1)) b L)
  ok : RdOk 2 s L
theorem dcC_ok {first : Int} {s : ByteArray} (h : (dcC first s).1.no = 0) : ∃ a b L, DcC first s a b L := by
  unfold dcC at h
  by_cases c0 : first = 32
  · rw [if_pos c0] at h
    have h' := h
    unfold dcC1 at h
    by_cases c1 : (chkC (rNum s 1 ⟨0, 0, 0⟩).1 (rNum s 1 (rNum s 1 ⟨0, 0, 0⟩).2).1 (rNum s 1 (rNum s 1 ⟨0, 0, 0⟩).2).2).no = 0
    · rw [if_pos c1] at h
      have hr : (rNum s 1 (rNum s 1 ⟨0, 0, 0⟩).2).2.no = 0 := by
        by_cases hr : (rNum s 1 (rNum s 1 ⟨0, 0, 0⟩).2).2.no = 0
        · exact hr
        · unfold chkC at c1
          rw [if_neg hr] at c1
          exact absurd c1 hr
      have hr0 : (rNum s 1 ⟨0, 0, 0⟩).2.no = 0 := by
        by_cases hr0 : (rNum s 1 ⟨0, 0, 0⟩).2.no = 0
        · exact hr0
        · rw [rNum_stuck hr0] at hr
          exact absurd hr hr0
      obtain ⟨b1, _⟩ := rNum_is hr0 hr
      refine ⟨(rNum s 1 ⟨0, 0, 0⟩).1, (rNum s 1 (rNum s 1 ⟨0, 0, 0⟩).2).1, (readF 2 s (rNum s 1 (rNum s 1 ⟨0, 0, 0⟩).2).2).1.L, c0, ?_, by simpa using b1, ?_, ?_⟩
      · unfold chkC at c1 ⊢
        rw [if_pos hr] at c1
        rw [if_pos rfl]
        exact c1
      · unfold dcC dcC1 dcC2 at *
        rw [if_pos c0, if_pos c1]
        by_cases c2 : (readF 2 s (rNum s 1 (rNum s 1 ⟨0, 0, 0⟩).2).2).1.no = 0
        · rw [if_pos c2] at h ⊢
          by_cases c3 : (readF 2 s (rNum s 1 (rNum s 1 ⟨0, 0, 0⟩).2).2).2.p < s.size
          · rw [if_pos c3] at h
            exact absurd (show (2 : Nat) = 0 from h) (by decide)
          · rw [if_neg c3]
        · rw [if_neg c2] at h
          exact absurd h c2
      · unfold dcC2 at h
        by_cases c2 : (readF 2 s (rNum s 1 (rNum s 1 ⟨0, 0, 0⟩).2).2).1.no = 0
        · exact rd_ok c2
        · rw [if_neg c2] at h
          exact absurd h c2
    · rw [if_neg c1] at h
      exact absurd h c1
  · rw [if_neg c0] at h
    exact absurd (show (2 : Nat) = 0 from h) (by decide)
/-- What was written is decoded. -/
theorem dcC_wr {n m : Nat} {L : PL} (hn : n < 256) (hm : m < 256) (he : (encR 2 L).no = 0) (hsz : ∀ q ∈ L, q.s.size < 65536 ∧ q.v.size < 65536) (hl : (wrAll (actsL6 L)).L.length ≤ 268435455) {s : ByteArray} (hs : s.data.toList = be 1 n ++ (be 1 m ++ (encR 2 L).L)) :
    dcC 32 s = if (chkC n m ⟨2, 0, 0⟩).no = 0 then (e00, pkC (decide (n = 1)) m (plL L)) else (chkC n m ⟨2, 0, 0⟩, pk0) := by
  have h1 := rNum_ok (s := s) (pre := []) (post := be 1 m ++ (encR 2 L).L) (k := 1) (n := n) (by omega) (by rw [hs]; rfl) 0
  have h2 := rNum_ok (s := s) (pre := be 1 n) (post := (encR 2 L).L) (k := 1) (n := m) (by omega) hs 0
  rw [be_len] at h2
  have h3 := read_enc he hsz hl s (be 1 n ++ be 1 m) [] 0 (by rw [hs]; simp)
  rw [List.length_append, be_len, be_len] at h3
  have hss := slen hs
  rw [List.length_append, List.length_append, be_len, be_len] at hss
  unfold dcC
  rw [if_pos rfl]
  have h1' : rNum s 1 ⟨0, 0, 0⟩ = (n, ⟨1, 0, 0⟩) := h1
  have h2' : rNum s 1 ⟨1, 0, 0⟩ = (m, ⟨2, 0, 0⟩) := h2
  have h3' : readF 2 s ⟨2, 0, 0⟩ = (⟨0, 0, 0, plL L⟩, ⟨2 + (encR 2 L).L.length, 0, 0⟩) := h3
  rw [h1', h2']
  unfold dcC1 dcC2
  simp only
  by_cases c : (chkC n m ⟨2, 0, 0⟩).no = 0
  · rw [if_pos c, if_pos c, h3']
    simp only
    have hlt : ¬ 2 + (encR 2 L).L.length < s.size := by omega
    rw [if_pos trivial, if_neg hlt]
  · rw [if_neg c, if_neg c]
theorem wrC_ok {p : Pk} (h : (wrC p).no = 0) : ∃ m : Nat, p.reason = m ∧ m < 256 ∧ (wrC p).L = be 1 (bit9 p.present) ++ (be 1 m ++ (encR 2 p.props).L) := by
  unfold wrC at h ⊢
  obtain ⟨h1, _, h2⟩ := stepW_no h
  obtain ⟨h3, hn, h4⟩ := stepW_no h1
  obtain ⟨m, hm, hm2, hmL⟩ := numE_ok hn
  refine ⟨m, hm, by simpa using hm2, ?_⟩
  have hb : bit9 p.present < 256 ^ 1 := by unfold bit9; split <;> decide
  rw [h2, h4, hmL, stepW_num (W := w0) rfl hb]
  simp [w0]
/-- What is encoded is decoded as it was. -/
theorem enC_back {p : Pk} (hsz : ∀ q ∈ p.props, q.s.size < 65536 ∧ q.v.size < 65536) (hl : (wrAll (actsL6 p.props)).L.length ≤ 268435455) (h : (enC p).e.no = 0) : dcC (enC p).first (enC p).s = (e00, bareC p) := by
  unfold enC at h ⊢
  by_cases h1 : (encR 2 p.props).no = 0
  · rw [if_pos h1] at h ⊢
    obtain ⟨hV, hd, he⟩ := frR_ok8 h
    rw [he]
    simp only
    obtain ⟨m, hm, hm2, hL⟩ := wrC_ok hV
    have hb : bit9 p.present < 256 := by unfold bit9; split <;> decide
    have hw := dcC_wr (n := bit9 p.present) (m := m) hb hm2 h1 hsz hl (s := ⟨(wrC p).L.toArray⟩) (by rw [arr_list8, hL])
    rw [hw] at hd ⊢
    by_cases c : (chkC (bit9 p.present) m ⟨2, 0, 0⟩).no = 0
    · rw [if_pos c]
      unfold bareC
      rw [hm]
      have e : decide (bit9 p.present = 1) = p.present := by
        unfold bit9
        cases p.present <;> rfl
      rw [e]
    · rw [if_neg c] at hd
      exact absurd hd c
  · rw [if_neg h1] at h
    exact absurd h h1
theorem enC_of {a b : Nat} {L : PL} (hc : (chkC a b ⟨2, 0, 0⟩).no = 0) (hb : b < 256) {s : ByteArray} (ok : RdOk 2 s L) (hss : s.size ≤ 60000) : (enC (pkC (decide (a = 1)) b L)).e.no = 0 := by
  have ha : a ≤ 1 := by
    unfold chkC at hc
    rw [if_pos rfl] at hc
    by_cases h : 1 < a
    · rw [if_pos h] at hc
      exact absurd hc (by decide)
    · omega
  have hbit : bit9 (decide (a = 1)) = a := by
    rcases (show a = 0 ∨ a = 1 by omega) with rfl | rfl <;> rfl
  have hL : (wrC (pkC (decide (a = 1)) b L)) = ⟨0, 0, be 1 a ++ (be 1 b ++ (encR 2 L).L)⟩ := by
    unfold wrC
    show stepW (stepW (stepW w0 (numE 1 (bit9 (decide (a = 1)) : Nat))) (numE 1 (b : Int))) ⟨0, 0, (encR 2 L).L⟩ = _
    rw [hbit, stepW_num (W := w0) (k := 1) (m := a) rfl (by omega), stepW_num (k := 1) (m := b) rfl (by omega), stepW_raw rfl]
    simp [w0]
  unfold enC
  rw [show (pkC (decide (a = 1)) b L).props = L from rfl, if_pos ok.enc, hL]
  have hw := dcC_wr (n := a) (m := b) (by omega) hb ok.enc ok.sz (Nat.le_trans ok.len (by omega)) (s := ⟨(be 1 a ++ (be 1 b ++ (encR 2 L).L)).toArray⟩) (arr_list8 _)
  rw [if_pos hc] at hw
  rw [show (dcC 32 ⟨(EV.L ⟨0, 0, be 1 a ++ (be 1 b ++ (encR 2 L).L)⟩).toArray⟩) = dcC 32 ⟨(be 1 a ++ (be 1 b ++ (encR 2 L).L)).toArray⟩ from rfl, hw]
  rfl
/-- What is decoded has few parts, is encoded, and is decoded as it was. -/
theorem deC_back {first : Int} {s : ByteArray} (hss : s.size ≤ 2048) (h : (dcC first s).1.no = 0) :
    SmallP (dcC first s).2.props ∧ (enC (dcC first s).2).e.no = 0 ∧ dcC (enC (dcC first s).2).first (enC (dcC first s).2).s = (e00, (dcC first s).2) := by
  obtain ⟨a, b, L, hd⟩ := dcC_ok h
  rw [hd.pk]
  have hen := enC_of hd.chk hd.b256 hd.ok (by omega)
  refine ⟨hd.ok.small (by omega), hen, ?_⟩
  rw [enC_back (p := pkC (decide (a = 1)) b L) hd.ok.sz (Nat.le_trans hd.ok.len (by omega)) hen]
  show (e00, pkC (decide (a = 1)) b (plL L)) = _
  rw [hd.ok.pl]
theorem wrC_len {p : Pk} (hS : SmallP p.props) : (wrC p).L.length ≤ 63846 := by
  unfold wrC
  have h1 := stepW_len (stepW (stepW w0 (numE 1 (bit9 p.present : Nat))) (numE 1 p.reason)) ⟨0, 0, (encR 2 p.props).L⟩
  have h2 := stepW_num_len (stepW w0 (numE 1 (bit9 p.present : Nat))) p.reason
  have h3 := stepW_num_len w0 (bit9 p.present : Nat)
  have h4 := encR_len (k := 2) hS
  have h5 : w0.L.length = 0 := rfl
  simp only at h1
  omega
theorem enC_len {p : Pk} (hS : SmallP p.props) : (enC p).s.size ≤ 63846 := by
  unfold enC
  split
  · exact Nat.le_trans frR_len8 (wrC_len hS)
  · exact Nat.zero_le _
theorem dcC_lists (first : Int) (s : ByteArray) : (dcC first s).2.subs = [] ∧ (dcC first s).2.wProps = [] ∧ (dcC first s).2.filters = [] ∧ (dcC first s).2.codes = [] := by
  unfold dcC dcC1 dcC2
  (repeat' split) <;> exact ⟨rfl, rfl, rfl, rfl⟩
end Go.Proofs.YtgpdfmmbjnjpoaaGreatDoor
namespace Go.Proofs.YtgpdfmmbjnjpoaaGreatDoor
set_option maxRecDepth 100000
open Go.RowKit Go.Extern.Stop Go.Stop Go.Extern
section
variable {z w w' : World} {S : Nat → Addr} {B g : Nat} {s : ByteArray} {R : RV} {v : Value} {W : EV}
set_option maxHeartbeats 8000000 in
theorem frame_any09 (first : Int) (h : WObj w S B g v W) {q : Er × Pk} (hdc : ∀ W1 : World, Below w.heap.size w W1 → Calls Tryz.prog 28 #[.agg #[.int .i64 first, .string ⟨W.L.toArray⟩]] W1 (DcSays W1 S q)) :
    Calls Tryz.prog 74 #[.int .i64 first, .pointer (some ⟨g, 0, none⟩), .func (.func 28) #[] #[]] w (FrSays w S (frR W first q.1)) := by
  obtain ⟨f, hf⟩ : ∃ f, f = frR W first q.1 := ⟨_, rfl⟩
  rw [← hf]
  unfold frR at hf
  have hb1 : Below w.heap.size w (w.alloc (.cells #[.int .i64 0, .string ⟨#[]⟩] 33)) := (Below.refl _ _).alloc (Nat.le_refl _) _
  have HW := Lib.hid (wbytes_any (h.below hb1))
  have HK := Lib.hid (Blk.made w 33 #[.int .i64 0, .string ⟨#[]⟩])
  have HB1 := Lib.hid hb1
  have HD := Lib.hid hdc
  have HF := Lib.hid hf
  clear hb1 hdc h hf
  go_enter Tryz.func74, Tryz.ntmps74
  go_wp2_with fail
  refine HW.out.mono ?_
  rintro x w2 ⟨e2, rfl, he2, hb2⟩
  obtain ⟨W0, Wa, WL⟩ := W
  obtain ⟨qe, qp⟩ := q
  simp only at he2 HD HF ⊢
  have k2 := HK.out.below hb2 HK.out.lt
  have hb12 := HB1.out.trans (hb2.mono HB1.out.size)
  have HB2 := Lib.hid hb12
  have HK2 := Lib.hid k2
  have hff := HF.out
  by_cases h0 : W0 = 0
  · subst h0
    rw [if_pos rfl] at hff
    unfold ErrOf at he2
    rw [if_pos rfl] at he2
    subst he2
    obtain ⟨t, ht⟩ : ∃ t : ByteArray, t = ⟨WL.toArray⟩ := ⟨_, rfl⟩
    rw [← ht] at HD hff
    have HFF := Lib.hid hff
    have hb3 : Below w2.heap.size w2 (w2.alloc (.cells #[.int .i64 first, .string t] 33)) := (Below.refl _ _).alloc (Nat.le_refl _) _
    have hb13 := hb12.trans (hb3.mono hb12.size)
    have HDD := Lib.hid (HD.out _ hb13)
    have HB3 := Lib.hid hb13
    have HK3 := Lib.hid (k2.below hb3 k2.lt)
    have HK4 := Lib.hid (Blk.made w2 33 #[.int .i64 first, .string t])
    clear hb2 k2 hb12 hff hb3 hb13 HD HW HF HK HB1 HB2 HK2
    rw [show (⟨(EV.L ⟨0, Wa, WL⟩).toArray⟩ : ByteArray) = t from ht.symm]
    clear ht
    go_wp2_with fail
    refine HDD.out.mono ?_
    rintro x w4 ⟨A4, e4, rfl, _, he4, hb4⟩
    simp only at he4
    obtain ⟨c, hc⟩ : ∃ c, c = qp.cells A4 := ⟨_, rfl⟩
    rw [show Pk.agg (qe, qp).2 A4 = .agg c from by rw [hc]; rfl]
    have hcs : c.size = 26 := by rw [hc]; rfl
    have hst := st_pkt w4 c hcs (by rw [hc]; exact pk_one _ _)
    have hst2 := st_pktc w4 c hcs (by rw [hc]; exact pk_one _ _)
    clear hc
    have hb5 : Below w4.heap.size w4 (w4.alloc (.cells c 29)) := (Below.refl _ _).alloc (Nat.le_refl _) _
    have k3 := (HK3.out.below hb4 HK3.out.lt).below hb5 (HK3.out.below hb4 HK3.out.lt).lt
    have k4 := (HK4.out.below hb4 HK4.out.lt).below hb5 (HK4.out.below hb4 HK4.out.lt).lt
    have hb15 := (HB3.out.trans (hb4.mono HB3.out.size)).trans (hb5.mono (HB3.out.trans (hb4.mono HB3.out.size)).size)
    have c0 := k4.cell 0
    have c1 := k4.cell 1
    have h2 : ∀ {a b : Value}, (#[a, b] : Array Value)[0]? = some a ∧ (#[a, b] : Array Value)[1]? = some b := ⟨rfl, rfl⟩
    rw [h2.1] at c0
    rw [h2.2] at c1
    clear h2
    by_cases hq0 : qe.no = 0
    · have hff := HFF.out
      rw [if_pos hq0] at hff
      unfold ErrOf at he4
      rw [if_pos hq0] at he4
      subst he4
      obtain ⟨⟨z0, z1, y0, y1⟩, ⟨z2, y2⟩, ⟨f0, f1⟩, _⟩ := fr_facts (S := S) k3 (.int .i64 first) (.string t)
      have hbf := (hb15.setCell (p := ⟨w.heap.size, 0, none⟩) (Nat.le_refl _) (.int .i64 first)).setCell (p := ⟨w.heap.size, 1, none⟩) (Nat.le_refl _) (.string t)
      have HX := Lib.hid (show ∀ W, Below w.heap.size w W → FrSays w S f (.returned (.tuple #[.agg #[.int .i64 first, .string t], .nilIface])) W from fun W hb => by
        rw [hff]
        exact ⟨_, rfl, ErrOf.none, hb⟩)
      have HBF := Lib.hid hbf
      clear hff hbf hb5 k3 k4 hb15 hb4 HDD HFF HB3 HK3 HK4
      go_wp2
      exact bodyPost_ret (v := .tuple #[.agg #[.int .i64 first, .string t], .nilIface]) (by simp [results, Tryz.results74, go_sem, f0, f1]) rfl (HX.out _ HBF.out)
    · have hff := HFF.out
      rw [if_neg hq0] at hff
      obtain ⟨t4, u4, rfl⟩ := err_iface he4 hq0
      obtain ⟨⟨z0, z1, y0, y1⟩, ⟨z2, y2⟩, ⟨f0, f1⟩, ferr⟩ := fr_facts (S := S) k3 (.int .i64 0) (.string ⟨#[]⟩)
      have hbf := (hb15.setCell (p := ⟨w.heap.size, 0, none⟩) (Nat.le_refl _) (.int .i64 0)).setCell (p := ⟨w.heap.size, 1, none⟩) (Nat.le_refl _) (.string ⟨#[]⟩)
      have hee := ferr _ _ _ _ (he4.later hb5)
      have HX := Lib.hid (show FrSays w S f (.returned (.tuple #[.agg #[.int .i64 0, .string ⟨#[]⟩], .iface t4 u4])) _ from by
        rw [hff]
        exact ⟨_, rfl, hee, hbf⟩)
      clear hff hbf hb5 k3 k4 hb15 hb4 he4 hee ferr HDD HFF HB3 HK3 HK4
      go_wp2
      exact bodyPost_ret (v := .tuple #[.agg #[.int .i64 0, .string ⟨#[]⟩], .iface t4 u4]) (by simp [results, Tryz.results74, go_sem, f0, f1]) rfl HX.out
  · rw [if_neg h0] at hff
    obtain ⟨t2, u2, rfl⟩ := err_iface he2 h0
    obtain ⟨⟨z0, z1, y0, y1⟩, ⟨z2, y2⟩, ⟨f0, f1⟩, ferr⟩ := fr_facts (S := S) k2 (.int .i64 0) (.string ⟨#[]⟩)
    have hbf := (hb12.setCell (p := ⟨w.heap.size, 0, none⟩) (Nat.le_refl _) (.int .i64 0)).setCell (p := ⟨w.heap.size, 1, none⟩) (Nat.le_refl _) (.string ⟨#[]⟩)
    have hee := ferr _ _ _ _ he2
    have HX := Lib.hid (show FrSays w S f (.returned (.tuple #[.agg #[.int .i64 0, .string ⟨#[]⟩], .iface t2 u2])) _ from by
      rw [hff]
      exact ⟨_, rfl, hee, hbf⟩)
    clear hb2 hb12 hff he2 hbf hee ferr k2 HD HW HF HK HB1 HB2 HK2
    go_wp2
    exact bodyPost_ret (v := .tuple #[.agg #[.int .i64 0, .string ⟨#[]⟩], .iface t2 u2]) (by simp [results, Tryz.results74, go_sem, f0, f1]) rfl HX.out
end
end Go.Proofs.YtgpdfmmbjnjpoaaGreatDoor
namespace Go.Proofs.YtgpdfmmbjnjpoaaGreatDoor
set_option maxRecDepth 100000
open Go.ChangeShapes Go.WideShapes Go.RowKit Go.Deep Go.Extern.Stop Go.Stop Go.Extern
section
variable {w w' : World} {S : Nat → Addr} {g : Nat} {s : ByteArray} {R : RV}
def Ch9Says (w : World) (S : Nat → Addr) (q : Er) (x : Ending) (w' : World) : Prop := ∃ e, x = .returned e ∧ ErrOf w' S q.r q.no q.at_ e ∧ Below w.heap.size w w'
set_option maxHeartbeats 4000000 in
theorem chk09 (hE : Env w S) (ho : RObj w S g s R) (a b : Nat) : Calls Tryz.prog 98 #[.pointer (some ⟨g, 0, none⟩), .int .i64 a, .int .i64 b] w (Ch9Says w S (chkC a b R)) := by
  obtain ⟨q, hq⟩ : ∃ q, q = chkC a b R := ⟨_, rfl⟩
  rw [← hq]
  unfold chkC at hq
  have HRE := Lib.hid (rerr_any ho)
  have kM := hE.kMalformed
  have kP := hE.kProtocol
  have HAL := Lib.hid (rs_allowed 2 b w)
  have HN0 := Lib.hid (new_err (w := w) S 1 129 0)
  have HN1 := Lib.hid (new_err (w := w) S 1 129 1)
  have HN2 := Lib.hid (new_err (w := w) S 2 130 0)
  clear hE ho
  by_cases h0 : R.no = 0
  · rw [if_pos h0] at hq
    by_cases h1 : 1 < a
    · rw [if_pos h1] at hq
      have HQ := Lib.hid hq
      have h1' : (1 : Int) < (a : Int) := by omega
      clear hq HAL HN1 HN2 kP
      go_enter Tryz.func98, Tryz.ntmps98
      go_wp2_with fail
      refine HRE.out.mono ?_
      rintro x w1 ⟨e, rfl, he, rfl⟩
      unfold ErrOf at he
      rw [if_pos h0] at he
      subst he
      go_wp2_with fail
      refine HN0.out.mono ?_
      rintro x w2 ⟨e, rfl, he, hb⟩
      have HX := Lib.hid (show Ch9Says w S q (.returned e) w2 from by
        rw [HQ.out]
        exact ⟨e, rfl, ErrOf.some (no := 2) (by decide) (by decide) he, hb⟩)
      clear he hb HN0 HRE
      go_wp2_with fail
      go_ret
      exact HX.out
    · rw [if_neg h1] at hq
      have h1' : ¬ (1 : Int) < (a : Int) := by omega
      by_cases h2 : allowedB 2 b = true
      · rw [if_pos h2] at hq
        rw [h2] at HAL
        by_cases h3 : a = 1
        · subst h3
          rw [if_pos rfl] at hq
          by_cases h4 : b = 0
          · subst h4
            rw [if_pos rfl] at hq
            have HQ := Lib.hid hq
            clear hq HN0 HN1 HN2 kM kP h1 h1'
            go_enter Tryz.func98, Tryz.ntmps98
            go_wp2_with fail
            refine HRE.out.mono ?_
            rintro x w1 ⟨e, rfl, he, rfl⟩
            unfold ErrOf at he
            rw [if_pos h0] at he
            subst he
            go_wp2_with fail
            refine HAL.out.mono ?_
            rintro x w2 ⟨rfl, rfl⟩
            go_wp2_with fail
            go_ret
            rw [HQ.out]
            exact ⟨_, rfl, ErrOf.none, Below.refl _ _⟩
          · rw [if_neg h4] at hq
            have HQ := Lib.hid hq
            have h4' : ¬ (b : Int) = 0 := by omega
            clear hq HN0 HN1 kM h1 h1' h4
            go_enter Tryz.func98, Tryz.ntmps98
            go_wp2_with fail
            refine HRE.out.mono ?_
            rintro x w1 ⟨e, rfl, he, rfl⟩
            unfold ErrOf at he
            rw [if_pos h0] at he
            subst he
            go_wp2_with fail
            refine HAL.out.mono ?_
            rintro x w2 ⟨rfl, rfl⟩
            go_wp2_with fail
            refine HN2.out.mono ?_
            rintro x w3 ⟨e, rfl, he, hb⟩
            have HX := Lib.hid (show Ch9Says w S q (.returned e) w3 from by
              rw [HQ.out]
              exact ⟨e, rfl, ErrOf.some (no := 3) (by decide) (by decide) he, hb⟩)
            clear he hb HN2 HRE
            go_wp2_with fail
            go_ret
            exact HX.out
        · rw [if_neg h3] at hq
          have HQ := Lib.hid hq
          have h3' : ¬ (a : Int) = 1 := by omega
          clear hq HN0 HN1 HN2 kM kP h1 h3
          go_enter Tryz.func98, Tryz.ntmps98
          go_wp2_with fail
          refine HRE.out.mono ?_
          rintro x w1 ⟨e, rfl, he, rfl⟩
          unfold ErrOf at he
          rw [if_pos h0] at he
          subst he
          go_wp2_with fail
          refine HAL.out.mono ?_
          rintro x w2 ⟨rfl, rfl⟩
          go_wp2_with fail
          go_ret
          rw [HQ.out]
          exact ⟨_, rfl, ErrOf.none, Below.refl _ _⟩
      · rw [if_neg h2] at hq
        have HQ := Lib.hid hq
        have h2f : allowedB 2 b = false := by simpa using h2
        rw [h2f] at HAL
        clear hq HN0 HN2 kP h1 h2 h2f
        go_enter Tryz.func98, Tryz.ntmps98
        go_wp2_with fail
        refine HRE.out.mono ?_
        rintro x w1 ⟨e, rfl, he, rfl⟩
        unfold ErrOf at he
        rw [if_pos h0] at he
        subst he
        go_wp2_with fail
        refine HAL.out.mono ?_
        rintro x w2 ⟨rfl, rfl⟩
        go_wp2_with fail
        refine HN1.out.mono ?_
        rintro x w3 ⟨e, rfl, he, hb⟩
        have HX := Lib.hid (show Ch9Says w S q (.returned e) w3 from by
          rw [HQ.out]
          exact ⟨e, rfl, ErrOf.some (no := 2) (by decide) (by decide) he, hb⟩)
        clear he hb HN1 HRE
        go_wp2_with fail
        go_ret
        exact HX.out
  · rw [if_neg h0] at hq
    have HQ := Lib.hid hq
    clear hq HN0 HN1 HN2 HAL kM kP
    go_enter Tryz.func98, Tryz.ntmps98
    go_wp2_with fail
    refine HRE.out.mono ?_
    rintro x w1 ⟨e, rfl, he, rfl⟩
    obtain ⟨te, ue, rfl⟩ := err_iface he h0
    clear he
    go_wp2_with fail
    refine HRE.out.mono ?_
    rintro x w2 ⟨e, rfl, he, rfl⟩
    have HX := Lib.hid (show Ch9Says w S q (.returned e) w from by
      rw [HQ.out]
      exact ⟨e, rfl, he, Below.refl _ _⟩)
    clear he HRE
    go_wp2_with fail
    go_ret
    exact HX.out
theorem PkIn.ofC {B : Nat} {p : Bool} {r : Int} {L : PL} {a : Option Addr} {c : Nat} (h : PIn w B a L) (hc : L.length ≤ c) : PkIn w B (paR a c) (pkC p r L) :=
  ⟨h, hc, PIn.nil _ _ _, Nat.le_refl _, CIn.nil _ _ _ _, CIn.nil _ _ _ _, CIn.nil _ _ _ _⟩
set_option maxHeartbeats 8000000 in
theorem dec09 (hE : Env w S) (first : Int) (hs : s.size ≤ 900000) : Calls Tryz.prog 28 #[.agg #[.int .i64 first, .string s]] w (DcSays w S (dcC first s)) := by
  have HE := Lib.hid hE
  have HSZ := Lib.hid hs
  obtain ⟨z, hz⟩ : ∃ z, z = pk0.cells pa0 := ⟨_, rfl⟩
  have HZ := Lib.hid hz
  have HZS := Lib.hid (show z.size = 26 by rw [hz]; rfl)
  have HZ1 := Lib.hid (show z.all (·.oneCell') = true by rw [hz]; exact pk_one _ _)
  obtain ⟨q, hq⟩ : ∃ q, q = dcC first s := ⟨_, rfl⟩
  rw [← hq]
  unfold dcC at hq
  obtain ⟨W2, hW2⟩ : ∃ W, W = (w.alloc (.cells #[.int .i64 first, .string s] 33)).alloc (.cells z 29) := ⟨_, rfl⟩
  have a1 : Below w.heap.size w (w.alloc (.cells #[.int .i64 first, .string s] 33)) := (Below.refl _ _).alloc (Nat.le_refl _) _
  have hb2 : Below w.heap.size w W2 := by rw [hW2]; exact a1.trans (((Below.refl (w.alloc (.cells #[.int .i64 first, .string s] 33)).heap.size _).alloc (Nat.le_refl _) (.cells z 29)).mono a1.size)
  have r1 : Blk W2 (w.heap.size + 1) 29 z := by
    have h := Blk.made (w.alloc (.cells #[.int .i64 first, .string s] 33)) 29 z
    rw [World.size_alloc] at h
    rw [hW2]; exact h
  have HW2 := Lib.hid hW2
  have hb3 : Below W2.heap.size W2 (W2.alloc (.cells #[.string s, .int .i64 0, .nilIface] 157)) := (Below.refl _ _).alloc (Nat.le_refl _) _
  have HI := Lib.hid (show DcI w (W2.alloc (.cells #[.string s, .int .i64 0, .nilIface] 157)) S W2.heap.size s ⟨0, 0, 0⟩ z from ⟨hb2.trans (hb3.mono hb2.size), r1.below hb3 r1.lt, RObj.made W2 S s, hb2.size⟩)
  have HB2 := Lib.hid hb2
  have R1 := Lib.hid r1
  have HLO := Lib.hid hb2.size
  by_cases h0 : first = 32
  · subst h0
    rw [if_pos rfl] at hq
    obtain ⟨⟨a, Ra⟩, ha⟩ : ∃ V, V = rNum s 1 ⟨0, 0, 0⟩ := ⟨_, rfl⟩
    rw [← ha] at hq
    simp only at hq
    obtain ⟨⟨b, Rb⟩, hb⟩ : ∃ V, V = rNum s 1 Ra := ⟨_, rfl⟩
    rw [← hb] at hq
    simp only at hq
    have HQ := Lib.hid hq
    have HA := Lib.hid ha
    have HB := Lib.hid hb
    clear hE hz hs hq a1 hb2 r1 hb3 hW2 ha hb
    go_enter Tryz.func28, Tryz.ntmps28
    go_wp2_with (first | refine wpk_alloc HZ.out rfl rfl ?_)
    rw [← HW2.out]
    refine (rnew_any s W2).mono ?_
    rintro x w3 ⟨rfl, hw3⟩
    rw [← hw3] at HI
    clear hw3
    have hu := ru8_any (HE.out.later HI.out.bel) HI.out.rd (by have := HSZ.out; omega)
    rw [← HA.out] at hu
    have HU := Lib.hid hu
    clear hu
    go_wp2_with fail
    refine HU.out.mono ?_
    rintro x w4 ⟨rfl, hn4⟩
    have HI4 := Lib.hid (HI.out.step hn4)
    have hu := ru8_any (HE.out.later HI4.out.bel) HI4.out.rd (by have := HSZ.out; omega)
    rw [← HB.out] at hu
    have HU2 := Lib.hid hu
    clear hu hn4 HU HI HA
    go_wp2_with fail
    refine HU2.out.mono ?_
    rintro x w5 ⟨rfl, hn5⟩
    have HI5 := Lib.hid (HI4.out.step hn5)
    have HCK := Lib.hid (chk09 (HE.out.later HI5.out.bel) HI5.out.rd a b)
    clear hn5 HU2 HI4 HB
    go_wp2_with fail
    refine HCK.out.mono ?_
    rintro x w6 ⟨e6, rfl, he6, hb6⟩
    have HI6 := Lib.hid (HI5.out.below hb6)
    obtain ⟨ce, hce⟩ : ∃ ce, ce = chkC a b Rb := ⟨_, rfl⟩
    rw [← hce] at he6
    have hq := HQ.out
    unfold dcC1 at hq
    rw [← hce] at hq
    clear hb6 HCK HI5 HQ hce
    by_cases h1 : ce.no = 0
    · rw [if_pos h1] at hq
      unfold ErrOf at he6
      rw [if_pos h1] at he6
      subst he6
      unfold dcC2 at hq
      have hrd := pread_any HE.out HI6.out.bel HI6.out.low HI6.out.rd HSZ.out 2
      have hno := readF_no (k := 2) (s := s) (R := Rb)
      obtain ⟨⟨⟨qn, qr, qa, M⟩, R2⟩, hrq⟩ : ∃ q, q = readF 2 s Rb := ⟨_, rfl⟩
      rw [← hrq] at hrd hno hq
      simp only at hno hq
      have HRD := Lib.hid hrd
      have HNO := Lib.hid hno
      have HQ := Lib.hid hq
      clear hrd hno hrq hq
      go_wp2_with fail
      refine HRD.out.mono ?_
      rintro x w7 ⟨v7, e7, rfl, hr7, he7, hn7⟩
      simp only at hr7 he7 hn7
      have HI7 := Lib.hid (HI6.out.step hn7)
      obtain ⟨a7, n7, c7, rfl, hnn7, hcc7⟩ := hr7.some_form
      have hq := HQ.out
      by_cases h2 : qn = 0
      · subst h2
        rw [if_pos rfl] at hq
        unfold ErrOf at he7
        rw [if_pos rfl] at he7
        subst he7
        have HP7 := Lib.hid (hr7.pin (B' := w.heap.size))
        have HN7 := Lib.hid hnn7
        have HC7 := Lib.hid hcc7
        have h20 := HNO.out rfl
        clear hr7 hnn7 hcc7 hn7 HRD HQ HI6 HNO
        by_cases h3 : R2.p < s.size
        · rw [if_pos h3] at hq
          have HD := Lib.hid (rdone_left (HE.out.later HI7.out.bel) HI7.out.rd h20 (by have := HSZ.out; omega) h3)
          have HQ := Lib.hid hq
          clear hq h3
          go_wp2_with fail
          refine HD.out.mono ?_
          rintro x w8 ⟨e8, rfl, he8, hb8⟩
          obtain ⟨t8, u8, rfl⟩ := err_iface he8 (by decide)
          have hi8 := HI7.out.below hb8
          have hX := hi8.bad HZ.out (q := q) (by rw [HQ.out]) (e := .iface t8 u8) (by rw [HQ.out]; exact he8)
          have HR := Lib.hid hi8.res
          have HX := Lib.hid hX
          clear hX hi8 he8 hb8 HD
          go_wp2_with (first | refine wpk_build HZ.out rfl rfl ?_ | refine wpk_store HR.out HZS.out HZS.out HZ1.out _ _ rfl rfl rfl rfl ?_)
          exact bodyPost_ret (v := .tuple #[.agg z, .iface t8 u8]) (res_pkt (i := 2) (j := 3) rfl rfl rfl HX.out.1 HZS.out) rfl HX.out.2
        · rw [if_neg h3] at hq
          have HD := Lib.hid (rdone_end HI7.out.rd h20 (by have := HSZ.out; omega) (by have := HI7.out.rd.le; omega))
          have HQ := Lib.hid hq
          clear hq h3
          go_wp2_with fail
          refine HD.out.mono ?_
          rintro x w8 ⟨rfl, hb8⟩
          have hi8 := HI7.out.below hb8
          obtain ⟨y, hy⟩ : ∃ y, y = (pkC (decide (a = 1)) b M).cells (paR a7 c7) := ⟨_, rfl⟩
          have hX := hi8.good (p := pkC (decide (a = 1)) b M) (PkIn.ofC (HP7.out.below hb8) (by have := HN7.out; have := HC7.out; omega)) hy
          rw [← HQ.out] at hX
          have HR := Lib.hid hi8.res
          have HX := Lib.hid hX
          have HYS := Lib.hid (show y.size = 26 by rw [hy]; rfl)
          have HY1 := Lib.hid (show y.all (·.oneCell') = true by rw [hy]; exact pk_one _ _)
          have HDA : decide ((a : Int) = 1) = decide (a = 1) := decide_eq_decide.2 (by omega)
          have HYY := Lib.hid (show y = #[.int .i64 2, .int .i64 0, .int .i64 b, .slice a7 n7 c7, .bool false, .int .i64 0, .string ⟨#[]⟩, .bool false, .string ⟨#[]⟩, .string ⟨#[]⟩, .int .i64 0, .bool false, .slice none 0 0, .bool false, .string ⟨#[]⟩, .bool false, .string ⟨#[]⟩, .bool (decide ((a : Int) = 1)), .string ⟨#[]⟩, .string ⟨#[]⟩, .int .i64 0, .bool false, .bool false, .slice none 0 0, .slice none 0 0, .slice none 0 0] from by rw [HDA, hy, HN7.out]; rfl)
          clear hX hi8 hb8 HD hy HDA
          go_wp2_with (first | refine wpk_store HR.out HZS.out HYS.out HY1.out _ _ rfl rfl rfl (by rw [HYY.out]; rfl) ?_)
          exact bodyPost_ret (v := .tuple #[.agg y, .nilIface]) (res_pkt (i := 2) (j := 3) rfl rfl rfl HX.out.1 HYS.out) rfl HX.out.2
      · rw [if_neg h2] at hq
        obtain ⟨t7, u7, rfl⟩ := err_iface he7 h2
        have hX := HI7.out.bad HZ.out (q := q) (by rw [hq]) (e := .iface t7 u7) (by rw [hq]; exact he7)
        have HR := Lib.hid HI7.out.res
        have HX := Lib.hid hX
        clear hX he7 hr7 hn7 HRD HQ HNO hq hnn7 hcc7
        go_wp2_with (first | refine wpk_build HZ.out rfl rfl ?_ | refine wpk_store HR.out HZS.out HZS.out HZ1.out _ _ rfl rfl rfl rfl ?_)
        exact bodyPost_ret (v := .tuple #[.agg z, .iface t7 u7]) (res_pkt (i := 2) (j := 3) rfl rfl rfl HX.out.1 HZS.out) rfl HX.out.2
    · rw [if_neg h1] at hq
      obtain ⟨t6, u6, rfl⟩ := err_iface he6 h1
      have hX := HI6.out.bad HZ.out (q := q) (by rw [hq]) (e := .iface t6 u6) (by rw [hq]; exact he6)
      have HR := Lib.hid HI6.out.res
      have HX := Lib.hid hX
      clear hX he6 hq
      go_wp2_with (first | refine wpk_build HZ.out rfl rfl ?_ | refine wpk_store HR.out HZS.out HZS.out HZ1.out _ _ rfl rfl rfl rfl ?_)
      exact bodyPost_ret (v := .tuple #[.agg z, .iface t6 u6]) (res_pkt (i := 2) (j := 3) rfl rfl rfl HX.out.1 HZS.out) rfl HX.out.2
  · rw [if_neg h0] at hq
    have HQ := Lib.hid hq
    have kM := (hE.later hb2).kMalformed
    rw [hW2] at kM
    have HN := Lib.hid (new_err (w := W2) S 1 129 0)
    clear hE hz hs hq a1 hb2 r1 hb3 hW2 HI
    go_enter Tryz.func28, Tryz.ntmps28
    go_wp2_with (first | refine wpk_alloc HZ.out rfl rfl ?_ | refine wpk_build HZ.out rfl rfl ?_)
    rw [← HW2.out]
    refine HN.out.mono ?_
    rintro x w7 ⟨e, rfl, he, hb7⟩
    obtain ⟨te, ue, rfl⟩ := he.iface
    have r1 := R1.out.below hb7 R1.out.lt
    have hb := HB2.out.trans (hb7.mono HB2.out.size)
    have hbf := below_row hb (k := w.heap.size + 1) (by omega) z
    have r3 := setRow_blk r1 z
    have LD := Lib.hid (And.intro r3 HZS.out)
    have HX := Lib.hid (show DcSays w S q (.returned (.tuple #[.agg z, .iface te ue])) (w7.setRow (w.heap.size + 1) z) from by
      rw [HQ.out]
      exact DcSays.bad8 HZ.out rfl (err_row (ErrOf.some (no := 2) (by decide) (by decide) he) r1 z) hbf)
    have HR1 := Lib.hid r1
    clear hb7 hb hbf r1 r3 kM he
    go_wp2_with (first | refine wpk_build HZ.out rfl rfl ?_ | refine wpk_store HR1.out HZS.out HZS.out HZ1.out _ _ rfl rfl rfl rfl ?_)
    exact bodyPost_ret (v := .tuple #[.agg z, .iface te ue]) (res_pkt (i := 2) (j := 3) rfl rfl rfl LD.out.1 LD.out.2) rfl HX.out
end
end Go.Proofs.YtgpdfmmbjnjpoaaGreatDoor
namespace Go.Proofs.YtgpdfmmbjnjpoaaGreatDoor
set_option maxRecDepth 100000
open Go.ChangeShapes Go.WideShapes Go.RowKit Go.Deep Go.Extern.Stop Go.Stop Go.Extern
def SmC (p : Pk) : Prop := SmallP p.props
theorem enC_backS {p : Pk} (h : SmC p) (hno : (enC p).e.no = 0) : dcC (enC p).first (enC p).s = (e00, bareC p) := enC_back (small_mem h).1 (small_mem h).2 hno
theorem enC_lenS {p : Pk} (h : SmC p) : (enC p).s.size ≤ 63846 := enC_len h
theorem bareC_ok {p : Pk} (h : SmC p) : SmOk (bareC p) := ⟨rfl, by show (plL p.props).length ≤ 1000; rw [plL_len]; exact small_few h, Nat.zero_le _, Nat.zero_le _, Nat.zero_le _⟩
theorem deC_backS {first : Int} {s : ByteArray} (hss : s.size ≤ 2048) (h : (dcC first s).1.no = 0) : SmC (dcC first s).2 ∧ (enC (dcC first s).2).e.no = 0 ∧ dcC (enC (dcC first s).2).first (enC (dcC first s).2).s = (e00, (dcC first s).2) ∧ SmOk (dcC first s).2 := by
  obtain ⟨h1, h2, h3⟩ := deC_back hss h
  obtain ⟨l1, l2, l3, l4⟩ := dcC_lists first s
  exact ⟨h1, h2, h3, l1, small_few h1, by rw [l2]; exact Nat.zero_le _, by rw [l3]; exact Nat.zero_le _, by rw [l4]; exact Nat.zero_le _⟩
section
variable {w w' : World} {S : Nat → Addr} {A : PkA} {p : Pk}
set_option maxHeartbeats 8000000 in
theorem enc09 (hE : Env w S) (h : PkIn w w.heap.size A p) (hS : SmC p) : Calls Tryz.prog 25 #[p.agg A] w (FrSays w S (enC p)) := by
  obtain ⟨q, hq⟩ : ∃ q, q = enC p := ⟨_, rfl⟩
  rw [← hq]
  unfold enC at hq
  obtain ⟨c, hc⟩ : ∃ c, c = p.cells A := ⟨_, rfl⟩
  rw [show p.agg A = .agg c from by rw [hc]; rfl]
  have HCS := Lib.hid (show c.size = 26 by rw [hc]; rfl)
  have hc2 : c[2]? = some (.int .i64 p.reason) := by rw [hc]; rfl
  have hc3 : c[3]? = some (.slice A.pa p.props.length A.pc) := by rw [hc]; rfl
  have hc17 : c[17]? = some (.bool p.present) := by rw [hc]; rfl
  obtain ⟨W2, hW2⟩ : ∃ W, W = (w.alloc (.cells c 29)).alloc (.cells #[.int .i64 0, .string ⟨#[]⟩] 33) := ⟨_, rfl⟩
  have a1 : Below w.heap.size w (w.alloc (.cells c 29)) := (Below.refl _ _).alloc (Nat.le_refl _) _
  have hb2 : Below w.heap.size w W2 := by rw [hW2]; exact a1.trans (((Below.refl (w.alloc (.cells c 29)).heap.size _).alloc (Nat.le_refl _) (.cells #[.int .i64 0, .string ⟨#[]⟩] 33)).mono a1.size)
  have r0 : Blk W2 w.heap.size 29 c := by
    rw [hW2]; exact (Blk.made w 29 c).alloc (.cells #[.int .i64 0, .string ⟨#[]⟩] 33)
  have r1 : Blk W2 (w.heap.size + 1) 33 #[.int .i64 0, .string ⟨#[]⟩] := by
    have h := Blk.made (w.alloc (.cells c 29)) 33 #[.int .i64 0, .string ⟨#[]⟩]
    rw [World.size_alloc] at h
    rw [hW2]; exact h
  have HEC := Lib.hid (encode_any (hE.later hb2) 2 p.props.length A.pc rfl ((h.pr.below hb2).mono hb2.size) hS h.pc)
  have HEL := Lib.hid (encR_len (k := 2) hS)
  have hln := wrC_len hS
  obtain ⟨⟨en, er, ea, eb⟩, hE2⟩ : ∃ E, E = encR 2 p.props := ⟨_, rfl⟩
  unfold wrC at hq hln
  rw [← hE2] at HEC HEL hq hln
  simp only at HEC HEL hq hln
  have k3 : W2.cell? ⟨w.heap.size, 3, none⟩ = some (.slice A.pa p.props.length A.pc) := (r0.cell 3).trans hc3
  rw [hW2] at k3
  have HC2 := Lib.hid hc2
  have HC17 := Lib.hid hc17
  have HW2 := Lib.hid hW2
  have HB2 := Lib.hid hb2
  have R0 := Lib.hid r0
  have R1 := Lib.hid r1
  have HE := Lib.hid hE
  have HQ := Lib.hid hq
  have HLN := Lib.hid hln
  clear hq hc hc2 hc3 hc17 a1 hb2 r0 r1 hE hE2 h hS hW2 hln
  go_enter Tryz.func25, Tryz.ntmps25
  go_wp2_with (refine wpk_box HCS.out _ rfl rfl rfl ?_)
  rw [← HW2.out]
  refine HEC.out.mono ?_
  rintro x w3 ⟨e3, rfl, he3, hb3⟩
  simp only at he3 ⊢
  have R03 := Lib.hid (R0.out.below hb3 R0.out.lt)
  have R13 := Lib.hid (R1.out.below hb3 R1.out.lt)
  have HB3 := Lib.hid (HB2.out.trans (hb3.mono HB2.out.size))
  clear k3 HEC R0 R1 hb3
  by_cases h0 : en = 0
  · have hq := HQ.out
    rw [if_pos h0] at hq
    unfold ErrOf at he3
    rw [if_pos h0] at he3
    subst he3
    have HQ2 := Lib.hid hq
    obtain ⟨W4, hW4⟩ : ∃ W, W = w3.alloc (.cells #[.slice none 0 0, .nilIface] 68) := ⟨_, rfl⟩
    have b4 : Below w3.heap.size w3 W4 := by rw [hW4]; exact (Below.refl _ _).alloc (Nat.le_refl _) _
    have ho : WObj W4 S w.heap.size w3.heap.size (.slice none 0 0) w0 := by rw [hW4]; exact WObj.made w3 S HB3.out.size
    have HB4 := Lib.hid (HB3.out.trans (b4.mono HB3.out.size))
    have R04 := Lib.hid (R03.out.below b4 R03.out.lt)
    have R14 := Lib.hid (R13.out.below b4 R13.out.lt)
    have HO := Lib.hid ho
    have k17 : w3.cell? ⟨w.heap.size, 17, none⟩ = some (.bool p.present) := (R03.out.cell 17).trans HC17.out
    have HW4 := Lib.hid hW4
    clear hq b4 ho hW4 HQ
    obtain ⟨pr, hpr⟩ : ∃ pr, pr = p.present := ⟨_, rfl⟩
    rw [← hpr] at k17
    have HPR := Lib.hid hpr
    clear hpr
    cases pr with
    | false =>
      have hsn : ((bit9 p.present : Nat) : Int) = 0 := by rw [← HPR.out]; rfl
      have HSN := Lib.hid hsn
      have HU1 := Lib.hid (wu8_any (HE.out.later HB4.out) HO.out (by decide) 0)
      clear hsn
      go_wp2_with fail
      rw [← HW4.out]
      refine HU1.out.mono ?_
      rintro x w5 ⟨rfl, v5, hn5⟩
      have r05 := hn5.blk HO.out R04.out (by decide) (by decide)
      have r15 := hn5.blk HO.out R14.out (by decide) (by decide)
      have hb5 := hn5.later HO.out HB4.out
      have k2 : w5.cell? ⟨w.heap.size, 2, none⟩ = some (.int .i64 p.reason) := (r05.cell 2).trans HC2.out
      have HU2 := Lib.hid (wu8_any (HE.out.later hb5) hn5.obj (by have := stepW_num_len w0 (0 : Int); have h0 : w0.L.length = 0 := rfl; omega) p.reason)
      have HN5 := Lib.hid hn5
      have R05 := Lib.hid r05
      have R15 := Lib.hid r15
      have HB5 := Lib.hid hb5
      clear k17 HU1 hn5 r05 r15 hb5
      go_wp2_with fail
      refine HU2.out.mono ?_
      rintro x w6 ⟨rfl, v6, hn6⟩
      have hb6 := hn6.later HN5.out.obj HB5.out
      have HW := Lib.hid (wraw_any hn6.obj (by have := stepW_num_len w0 (0 : Int); have := stepW_num_len (stepW w0 (numE 1 (0 : Int))) p.reason; have h0 : w0.L.length = 0 := rfl; omega) ⟨eb.toArray⟩ (by rw [bsize]; have := HEL.out; omega))
      have R16 := Lib.hid (hn6.blk HN5.out.obj R15.out (by decide) (by decide))
      have HN6 := Lib.hid hn6
      have HB6 := Lib.hid hb6
      clear k2 HU2 hn6 hb6 HN5 HB5 R05 R15
      go_wp2_with fail
      refine HW.out.mono ?_
      rintro x w7 ⟨rfl, v7, hn7⟩
      have hb7 := hn7.later HN6.out.obj HB6.out
      have R17 := Lib.hid (hn7.blk HN6.out.obj R16.out (by decide) (by decide))
      have hq := HQ2.out
      rw [HSN.out] at hq
      have hln := HLN.out
      rw [HSN.out] at hln
      obtain ⟨V, hV⟩ : ∃ V, V = stepW (stepW (stepW w0 (numE 1 (0 : Int))) (numE 1 p.reason)) ⟨0, 0, eb⟩ := ⟨_, rfl⟩
      rw [← hV] at hn7
      replace hq : q = frR V 32 (dcC 32 ⟨V.L.toArray⟩).1 := by rw [hV]; exact hq
      replace hln : V.L.length ≤ 63846 := by rw [hV]; exact hln
      have HFA := Lib.hid (frame_any09 32 hn7.obj (fun W1 hb => dec09 (HE.out.later (hb7.trans (hb.mono hb7.size))) 32 (show (⟨V.L.toArray⟩ : ByteArray).size ≤ 900000 from by rw [bsize]; omega)))
      rw [← hq] at HFA
      have HB7 := Lib.hid hb7
      clear hn7 hb7 hq hln hV HW HN6 HB6 R16 HQ2 HLN HSN
      go_wp2_with fail
      refine HFA.out.mono ?_
      rintro x w8 ⟨e8, rfl, he8, hb8⟩
      have r1 := R17.out.below hb8 R17.out.lt
      have hb := HB7.out.trans (hb8.mono HB7.out.size)
      obtain ⟨⟨z0, z1, y0, y1⟩, ⟨z2, y2⟩, ⟨f0, f1⟩, ferr⟩ := fr_facts (S := S) r1 (.int .i64 q.first) (.string q.s)
      have hbf := (hb.setCell (p := ⟨w.heap.size + 1, 0, none⟩) (by show w.heap.size ≤ w.heap.size + 1; omega) (.int .i64 q.first)).setCell (p := ⟨w.heap.size + 1, 1, none⟩) (by show w.heap.size ≤ w.heap.size + 1; omega) (.string q.s)
      have HX := Lib.hid (show FrSays w S q (.returned (.tuple #[.agg #[.int .i64 q.first, .string q.s], e8])) _ from ⟨e8, rfl, ferr _ _ _ _ he8, hbf⟩)
      clear hb8 r1 hb ferr hbf he8 HFA
      go_wp2
      exact bodyPost_ret (v := .tuple #[.agg #[.int .i64 q.first, .string q.s], e8]) (by simp [results, Tryz.results25, go_sem, f0, f1]) rfl HX.out
    | true =>
      have hsn : ((bit9 p.present : Nat) : Int) = 1 := by rw [← HPR.out]; rfl
      have HSN := Lib.hid hsn
      have HU1 := Lib.hid (wu8_any (HE.out.later HB4.out) HO.out (by decide) 1)
      clear hsn
      go_wp2_with fail
      rw [← HW4.out]
      refine HU1.out.mono ?_
      rintro x w5 ⟨rfl, v5, hn5⟩
      have r05 := hn5.blk HO.out R04.out (by decide) (by decide)
      have r15 := hn5.blk HO.out R14.out (by decide) (by decide)
      have hb5 := hn5.later HO.out HB4.out
      have k2 : w5.cell? ⟨w.heap.size, 2, none⟩ = some (.int .i64 p.reason) := (r05.cell 2).trans HC2.out
      have HU2 := Lib.hid (wu8_any (HE.out.later hb5) hn5.obj (by have := stepW_num_len w0 (1 : Int); have h0 : w0.L.length = 0 := rfl; omega) p.reason)
      have HN5 := Lib.hid hn5
      have R05 := Lib.hid r05
      have R15 := Lib.hid r15
      have HB5 := Lib.hid hb5
      clear k17 HU1 hn5 r05 r15 hb5
      go_wp2_with fail
      refine HU2.out.mono ?_
      rintro x w6 ⟨rfl, v6, hn6⟩
      have hb6 := hn6.later HN5.out.obj HB5.out
      have HW := Lib.hid (wraw_any hn6.obj (by have := stepW_num_len w0 (1 : Int); have := stepW_num_len (stepW w0 (numE 1 (1 : Int))) p.reason; have h0 : w0.L.length = 0 := rfl; omega) ⟨eb.toArray⟩ (by rw [bsize]; have := HEL.out; omega))
      have R16 := Lib.hid (hn6.blk HN5.out.obj R15.out (by decide) (by decide))
      have HN6 := Lib.hid hn6
      have HB6 := Lib.hid hb6
      clear k2 HU2 hn6 hb6 HN5 HB5 R05 R15
      go_wp2_with fail
      refine HW.out.mono ?_
      rintro x w7 ⟨rfl, v7, hn7⟩
      have hb7 := hn7.later HN6.out.obj HB6.out
      have R17 := Lib.hid (hn7.blk HN6.out.obj R16.out (by decide) (by decide))
      have hq := HQ2.out
      rw [HSN.out] at hq
      have hln := HLN.out
      rw [HSN.out] at hln
      obtain ⟨V, hV⟩ : ∃ V, V = stepW (stepW (stepW w0 (numE 1 (1 : Int))) (numE 1 p.reason)) ⟨0, 0, eb⟩ := ⟨_, rfl⟩
      rw [← hV] at hn7
      replace hq : q = frR V 32 (dcC 32 ⟨V.L.toArray⟩).1 := by rw [hV]; exact hq
      replace hln : V.L.length ≤ 63846 := by rw [hV]; exact hln
      have HFA := Lib.hid (frame_any09 32 hn7.obj (fun W1 hb => dec09 (HE.out.later (hb7.trans (hb.mono hb7.size))) 32 (show (⟨V.L.toArray⟩ : ByteArray).size ≤ 900000 from by rw [bsize]; omega)))
      rw [← hq] at HFA
      have HB7 := Lib.hid hb7
      clear hn7 hb7 hq hln hV HW HN6 HB6 R16 HQ2 HLN HSN
      go_wp2_with fail
      refine HFA.out.mono ?_
      rintro x w8 ⟨e8, rfl, he8, hb8⟩
      have r1 := R17.out.below hb8 R17.out.lt
      have hb := HB7.out.trans (hb8.mono HB7.out.size)
      obtain ⟨⟨z0, z1, y0, y1⟩, ⟨z2, y2⟩, ⟨f0, f1⟩, ferr⟩ := fr_facts (S := S) r1 (.int .i64 q.first) (.string q.s)
      have hbf := (hb.setCell (p := ⟨w.heap.size + 1, 0, none⟩) (by show w.heap.size ≤ w.heap.size + 1; omega) (.int .i64 q.first)).setCell (p := ⟨w.heap.size + 1, 1, none⟩) (by show w.heap.size ≤ w.heap.size + 1; omega) (.string q.s)
      have HX := Lib.hid (show FrSays w S q (.returned (.tuple #[.agg #[.int .i64 q.first, .string q.s], e8])) _ from ⟨e8, rfl, ferr _ _ _ _ he8, hbf⟩)
      clear hb8 r1 hb ferr hbf he8 HFA
      go_wp2
      exact bodyPost_ret (v := .tuple #[.agg #[.int .i64 q.first, .string q.s], e8]) (by simp [results, Tryz.results25, go_sem, f0, f1]) rfl HX.out
  · have hq := HQ.out
    rw [if_neg h0] at hq
    obtain ⟨te, ue, rfl⟩ := err_iface he3 h0
    obtain ⟨⟨z0, z1, y0, y1⟩, ⟨z2, y2⟩, ⟨f0, f1⟩, ferr⟩ := fr_facts (S := S) R13.out (.int .i64 0) (.string ⟨#[]⟩)
    have hbf := (HB3.out.setCell (p := ⟨w.heap.size + 1, 0, none⟩) (by show w.heap.size ≤ w.heap.size + 1; omega) (.int .i64 0)).setCell (p := ⟨w.heap.size + 1, 1, none⟩) (by show w.heap.size ≤ w.heap.size + 1; omega) (.string ⟨#[]⟩)
    have HX := Lib.hid (show FrSays w S q (.returned (.tuple #[.agg #[.int .i64 0, .string ⟨#[]⟩], .iface te ue])) _ from by
      rw [hq]
      exact ⟨_, rfl, ferr _ _ _ _ he3, hbf⟩)
    clear ferr hbf he3 hq
    go_wp2
    exact bodyPost_ret (v := .tuple #[.agg #[.int .i64 0, .string ⟨#[]⟩], .iface te ue]) (by simp [results, Tryz.results25, go_sem, f0, f1]) rfl HX.out
end
end Go.Proofs.YtgpdfmmbjnjpoaaGreatDoor
namespace Go.Proofs.YtgpdfmmbjnjpoaaGreatDoor
set_option maxRecDepth 100000
open Go.ChangeShapes Go.WideShapes Go.RowKit Go.Deep Go.Extern.Stop Go.Stop Go.Extern
section
variable {w w' : World} {A : PkA} {p : Pk}
set_option maxHeartbeats 8000000 in
theorem bare09 {B : Nat} (h : PkIn w B A p) (hS : SmC p) : Calls Tryz.prog 29 #[p.agg A] w (BrSays w (bareC p)) := by
  have hm : p.props.length ≤ 1000 := small_few hS
  obtain ⟨q, hq⟩ : ∃ q, q = bareC p := ⟨_, rfl⟩
  rw [← hq]
  unfold bareC at hq
  obtain ⟨z, hz⟩ : ∃ z, z = pk0.cells pa0 := ⟨_, rfl⟩
  have HZ := Lib.hid hz
  have HZS := Lib.hid (show z.size = 26 by rw [hz]; rfl)
  obtain ⟨c, hc⟩ : ∃ c, c = p.cells A := ⟨_, rfl⟩
  rw [show p.agg A = .agg c from by rw [hc]; rfl]
  have hcs : c.size = 26 := by rw [hc]; rfl
  have hc2 : c[2]? = some (.int .i64 p.reason) := by rw [hc]; rfl
  have hc3 : c[3]? = some (.slice A.pa p.props.length A.pc) := by rw [hc]; rfl
  have hc17 : c[17]? = some (.bool p.present) := by rw [hc]; rfl
  have HCS := Lib.hid hcs
  have a1 : Below w.heap.size w (w.alloc (.cells c 29)) := (Below.refl _ _).alloc (Nat.le_refl _) _
  obtain ⟨W2, hW2⟩ : ∃ W, W = (w.alloc (.cells c 29)).alloc (.cells z 29) := ⟨_, rfl⟩
  have hb2 : Below w.heap.size w W2 := by rw [hW2]; exact a1.trans (((Below.refl (w.alloc (.cells c 29)).heap.size _).alloc (Nat.le_refl _) (.cells z 29)).mono a1.size)
  have r0 : Blk W2 w.heap.size 29 c := by rw [hW2]; exact (Blk.made w 29 c).alloc (.cells z 29)
  have r1 : Blk W2 (w.heap.size + 1) 29 z := by
    have h := Blk.made (w.alloc (.cells c 29)) 29 z
    rw [World.size_alloc] at h
    rw [hW2]; exact h
  have HI := Lib.hid (show BrIn w c W2 from ⟨hb2, r0, z, r1, HZS.out⟩)
  have HW2 := Lib.hid hW2
  have HP := Lib.hid h
  have HC2 := Lib.hid hc2
  have HC3 := Lib.hid hc3
  have HC17 := Lib.hid hc17
  have HQ := Lib.hid hq
  clear hz hc hcs hc2 hc3 hc17 a1 hb2 r0 r1 hW2 h hq
  obtain ⟨pr, hpr⟩ : ∃ pr, pr = p.present := ⟨_, rfl⟩
  obtain ⟨rs, hrs⟩ : ∃ rs, rs = p.reason := ⟨_, rfl⟩
  rw [← hpr] at HC17
  rw [← hrs] at HC2
  have HPR := Lib.hid hpr
  have HRS := Lib.hid hrs
  clear hpr hrs
  go_enter Tryz.func29, Tryz.ntmps29
  go_wp2_with (first | refine wpk_box HCS.out _ rfl rfl rfl ?_ | refine wpk_alloc HZ.out rfl rfl ?_)
  rw [← HW2.out]
  refine wp_region_held_drew (S := fun W => BrIn w c W) (by kernel_rfl) ?_ (fun hHeld => ?_)
  · first | exact HI.out | exact HI.out.drewN 1
  refine wpAnyH_take (i := 0) (oi := { dst := some 3, op := Op.fieldAddr 29 (Operand.tmp 1) 12, type := 0, pos := _, after := _, guard := none }) (v := .pointer (some ⟨w.heap.size, 17, none⟩)) rfl (by kernel_rfl) (by kernel_rfl) (by kernel_rfl) (fun _ _ _ h => h) (Or.inl ⟨by rfl, fun w' hs => ?_⟩) (by assumption) ?_
  · go_simp
  simp only [Act.put, List.setIfInBounds_toArray, List.set_cons_zero, List.set_cons_succ]
  refine wpAnyH_take (i := 1) (oi := { dst := some 4, op := Op.load 4 (Operand.tmp 3), type := 4, pos := _, after := _, guard := none }) (v := .bool pr) rfl (by kernel_rfl) (by kernel_rfl) (by kernel_rfl) (fun _ _ _ h => h) (Or.inl ⟨by rfl, fun w' hs => ?_⟩) (by assumption) ?_
  · have hh : w'.cell? ⟨w.heap.size, 17, none⟩ = some (.bool pr) := (hs.box.cell 17).trans HC17.out
    go_simp
  simp only [Act.put, List.setIfInBounds_toArray, List.set_cons_zero, List.set_cons_succ]
  refine wpAnyH_take (i := 2) (oi := { dst := some 5, op := Op.fieldAddr 29 (Operand.tmp 1) 2, type := 0, pos := _, after := _, guard := none }) (v := .pointer (some ⟨w.heap.size, 2, none⟩)) rfl (by kernel_rfl) (by kernel_rfl) (by kernel_rfl) (fun _ _ _ h => h) (Or.inl ⟨by rfl, fun w' hs => ?_⟩) (by assumption) ?_
  · go_simp
  simp only [Act.put, List.setIfInBounds_toArray, List.set_cons_zero, List.set_cons_succ]
  refine wpAnyH_take (i := 3) (oi := { dst := some 6, op := Op.load 3 (Operand.tmp 5), type := 3, pos := _, after := _, guard := none }) (v := .int .i64 rs) rfl (by kernel_rfl) (by kernel_rfl) (by kernel_rfl) (fun _ _ _ h => h) (Or.inl ⟨by rfl, fun w' hs => ?_⟩) (by assumption) ?_
  · have hh : w'.cell? ⟨w.heap.size, 2, none⟩ = some (.int .i64 rs) := (hs.box.cell 2).trans HC2.out
    go_simp
  simp only [Act.put, List.setIfInBounds_toArray, List.set_cons_zero, List.set_cons_succ]
  refine wpAnyH_take (i := 4) (oi := { dst := some 7, op := Op.fieldAddr 29 (Operand.tmp 1) 3, type := 0, pos := _, after := _, guard := none }) (v := .pointer (some ⟨w.heap.size, 3, none⟩)) rfl (by kernel_rfl) (by kernel_rfl) (by kernel_rfl) (fun _ _ _ h => h) (Or.inl ⟨by rfl, fun w' hs => ?_⟩) (by assumption) ?_
  · go_simp
  simp only [Act.put, List.setIfInBounds_toArray, List.set_cons_zero, List.set_cons_succ]
  refine wpAnyH_take (i := 5) (oi := { dst := some 8, op := Op.load 22 (Operand.tmp 7), type := 22, pos := _, after := _, guard := none }) (v := .slice A.pa p.props.length A.pc) rfl (by kernel_rfl) (by kernel_rfl) (by kernel_rfl) (fun _ _ _ h => h) (Or.inl ⟨by rfl, fun w' hs => ?_⟩) (by assumption) ?_
  · have hh : w'.cell? ⟨w.heap.size, 3, none⟩ = some (.slice A.pa p.props.length A.pc) := (hs.box.cell 3).trans HC3.out
    go_simp
  simp only [Act.put, List.setIfInBounds_toArray, List.set_cons_zero, List.set_cons_succ]
  refine wpAnyH_ready (rs := [6]) (by kernel_rfl) (by simp) ?_
  refine AllReadyH.cons (o := { dst := some 9, op := Op.call { callee := Callee.value (Operand.func 94), args := #[Operand.tmp 8], argTypes := #[22] }, type := 22, pos := _, after := _, guard := none }) rfl (fun K hK => ?_) AllReadyH.nil
  go_simp
  refine (rplain_any p.props.length A.pc rfl (HP.out.pr.below hHeld.bel) hm).mono ?_
  rintro x w5 ⟨a5, n5, c5, rfl, hn5, hr5, hb5⟩
  have hi5 := hHeld.below hb5
  have HR5 := Lib.hid hr5
  have HN5 := Lib.hid hn5
  clear hn5 hr5 hb5 hHeld
  go_wp2_with fail
  refine hK.out _ _ ?_ (fun hHeld6 => ?_)
  · exact hi5
  clear hK K
  try simp only [Act.put, List.setIfInBounds_toArray, List.set_cons_zero, List.set_cons_succ]
  refine wpAnyH_take (i := 7) (oi := { dst := some 10, op := Op.build 29 #[(0, Operand.const (Value.int IntKind.i64 2)), (12, Operand.tmp 4), (2, Operand.tmp 6), (3, Operand.tmp 9)], type := 29, pos := _, after := _, guard := none }) (v := .agg #[.int .i64 2, .int .i64 0, .int .i64 rs, .slice a5 n5 c5, .bool false, .int .i64 0, .string ⟨#[]⟩, .bool false, .string ⟨#[]⟩, .string ⟨#[]⟩, .int .i64 0, .bool false, .slice none 0 0, .bool false, .string ⟨#[]⟩, .bool false, .string ⟨#[]⟩, .bool pr, .string ⟨#[]⟩, .string ⟨#[]⟩, .int .i64 0, .bool false, .bool false, .slice none 0 0, .slice none 0 0, .slice none 0 0]) rfl (by kernel_rfl) (by kernel_rfl) (by kernel_rfl) (fun _ _ _ h => h) (Or.inl ⟨by rfl, fun w' hs => ?_⟩) (by assumption) ?_
  · go_simp
  simp only [Act.put, List.setIfInBounds_toArray, List.set_cons_zero, List.set_cons_succ]
  refine wpAnyH_ready (rs := [8]) (by kernel_rfl) (by simp) ?_
  refine AllReadyH.cons (o := { dst := none, op := Op.store 29 (Operand.tmp 2) (Operand.tmp 10), type := 0, pos := _, after := _, guard := none }) rfl (fun K hK => ?_) AllReadyH.nil
  obtain ⟨o, ho, hos⟩ := hHeld6.res
  rw [if_pos (by kernel_rfl)]
  obtain ⟨y, hy⟩ : ∃ y, y = (pkC pr rs (plL p.props)).cells (paR a5 c5) := ⟨_, rfl⟩
  have hys : y.size = 26 := by rw [hy]; rfl
  refine wp_store_row 29 (Operand.tmp 2) (Operand.tmp 10) rfl (w.heap.size + 1) y rfl (by rw [hy, HN5.out]; rfl) 29 o ho (by rw [hys]; exact ip_pkt) (by rw [hos, hys]) (by rw [hy]; exact pk_one _ _) ?_
  refine hK _ _ ?_ (fun hHeld8 => ?_)
  · exact hHeld6.row hys
  have r3 := setRow_blk ho y
  have hbf := below_row hHeld6.bel (k := w.heap.size + 1) (by omega) y
  have hpi := (HR5.out.pin (B' := w.heap.size)).row ho (by omega) y
  have hlen : (plL p.props).length ≤ c5 := by
    obtain ⟨a', n', c', e', hn', hc'⟩ := HR5.out.some_form
    injection e' with e1 e2 e3
    omega
  have LD := Lib.hid (And.intro r3 hys)
  have HX := Lib.hid (show BrSays w q (.returned (.agg y)) _ from ⟨paR a5 c5, by rw [HQ.out, ← HPR.out, ← HRS.out, hy]; rfl, by rw [HQ.out]; exact PkIn.ofC hpi hlen, hbf⟩)
  clear hK K r3 hbf hpi hlen hHeld6 hHeld8 ho hos hi5
  refine wpAnyH_done (by kernel_rfl) ?_ _
  go_wp2_with fail
  exact bodyPost_ret (v := .agg y) (res_pkt1 (i := 2) rfl rfl LD.out.1 LD.out.2) rfl HX.out
end
end Go.Proofs.YtgpdfmmbjnjpoaaGreatDoor
namespace Go.Proofs.YtgpdfmmbjnjpoaaGreatDoor
set_option maxRecDepth 100000
open Go.ChangeShapes Go.WideShapes Go.RowKit Go.Deep Go.Extern.Stop Go.Stop Go.Extern
def awC : Pk := pkC false 135 []
theorem aw09_e : enC awC = ⟨e00, 32, ⟨#[0, 135, 0]⟩⟩ := by kernel_rfl
theorem aw09_d : dcC 32 ⟨#[0, 135, 0]⟩ = (e00, awC) := by kernel_rfl
theorem aw09_h : dcC 32 ⟨#[1, 135, 0]⟩ = (⟨3, 130, 0⟩, pk0) := by kernel_rfl
theorem smC_aw : SmC awC := small_of8 (fun p hp => by cases hp) (by decide) (by decide)
theorem okC_aw : SmOk awC := ⟨rfl, Nat.zero_le _, Nat.zero_le _, Nat.zero_le _, Nat.zero_le _⟩
section
variable {w w' : World} {S : Nat → Addr}
set_option maxHeartbeats 8000000 in
theorem awake09 (hE : EnvN w S) : Calls Tryz.prog 24 #[] w fun x w' => x = .returned (.bool true) ∧ Below w.heap.size w w' := by
  have HE := Lib.hid hE
  obtain ⟨z, hz⟩ : ∃ z, z = pk0.cells pa0 := ⟨_, rfl⟩
  have HZ := Lib.hid hz
  have HZS := Lib.hid (show z.size = 26 by rw [hz]; rfl)
  obtain ⟨c1, hc1⟩ : ∃ c, c = awC.cells pa0 := ⟨_, rfl⟩
  have HC1 := Lib.hid hc1
  have HS1 := Lib.hid (show c1.size = 26 by rw [hc1]; rfl)
  have HO1 := Lib.hid (show c1.all (·.oneCell') = true by rw [hc1]; exact pk_one _ _)
  have b1 : Below w.heap.size w (w.alloc (.cells c1 29)) := (Below.refl _ _).alloc (Nat.le_refl _) _
  obtain ⟨W1, hW1⟩ : ∃ W, W = w.alloc (.cells c1 29) := ⟨_, rfl⟩
  rw [← hW1] at b1
  have hp1 : PkIn W1 W1.heap.size pa0 awC := PkIn.ofC (a := none) (c := 0) (PIn.nil _ _ _) (Nat.le_refl _)
  have hen := enc09 (p := awC) (A := pa0) (hE.env.later b1) hp1 smC_aw
  rw [aw09_e, show awC.agg pa0 = .agg c1 from by rw [hc1]; rfl] at hen
  have HEN := Lib.hid hen
  have HB1 := Lib.hid b1
  have HW1 := Lib.hid hW1
  have K1 := Lib.hid (show Blk W1 w.heap.size 29 c1 from by rw [hW1]; exact Blk.made w 29 c1)
  clear hE hz hc1 b1 hen hW1 hp1
  go_enter Tryz.func24, Tryz.ntmps24
  go_wp2_with (first | refine wpk_alloc HZ.out rfl rfl ?_ | refine wpk_store_new HZS.out (c := c1) HS1.out HO1.out _ _ rfl rfl rfl (by rw [HC1.out]; rfl) ?_ | refine wpk_load (Blk.made w 29 c1) HS1.out _ rfl rfl rfl ?_)
  rw [← HW1.out]
  refine HEN.out.mono ?_
  rintro x w2 ⟨e2, rfl, he2, hb2⟩
  obtain rfl := err_zero8 he2 rfl
  simp only
  obtain ⟨W2, hW2⟩ : ∃ W, W = w2.alloc (.cells #[.int .i64 32, .string ⟨#[0, 135, 0]⟩] 33) := ⟨_, rfl⟩
  have hb2' : Below w2.heap.size w2 W2 := by rw [hW2]; exact (Below.refl _ _).alloc (Nat.le_refl _) _
  have HB2 := Lib.hid ((HB1.out.trans (hb2.mono HB1.out.size)).trans (hb2'.mono (HB1.out.trans (hb2.mono HB1.out.size)).size))
  have K12 := Lib.hid ((K1.out.below hb2 K1.out.lt).below hb2' (K1.out.below hb2 K1.out.lt).lt)
  have K22 := Lib.hid (show Blk W2 w2.heap.size 33 #[.int .i64 32, .string ⟨#[0, 135, 0]⟩] from by rw [hW2]; exact Blk.made _ _ _)
  have hde := dec09 (HE.out.env.later HB2.out) (s := ⟨#[0, 135, 0]⟩) 32 (by decide)
  rw [aw09_d] at hde
  have HDE := Lib.hid hde
  have HW2 := Lib.hid hW2
  clear hb2 hb2' hde hW2 HEN HB1 K1
  go_wp2_with fail
  rw [← HW2.out]
  refine HDE.out.mono ?_
  rintro x w3 ⟨A3, e3, rfl, hp3, he3, hb3⟩
  obtain rfl := err_zero8 he3 rfl
  simp only at hp3 ⊢
  obtain ⟨c3, hc3⟩ : ∃ c, c = awC.cells A3 := ⟨_, rfl⟩
  rw [show awC.agg A3 = .agg c3 from by rw [hc3]; rfl]
  have HC3 := Lib.hid hc3
  have HS3 := Lib.hid (show c3.size = 26 by rw [hc3]; rfl)
  have HO3 := Lib.hid (show c3.all (·.oneCell') = true by rw [hc3]; exact pk_one _ _)
  obtain ⟨W3, hW3⟩ : ∃ W, W = w3.alloc (.cells c3 29) := ⟨_, rfl⟩
  have hb3' : Below w3.heap.size w3 W3 := by rw [hW3]; exact (Below.refl _ _).alloc (Nat.le_refl _) _
  have HB3 := Lib.hid ((HB2.out.trans (hb3.mono HB2.out.size)).trans (hb3'.mono (HB2.out.trans (hb3.mono HB2.out.size)).size))
  have K13 := Lib.hid ((K12.out.below hb3 K12.out.lt).below hb3' (K12.out.below hb3 K12.out.lt).lt)
  have K23 := Lib.hid ((K22.out.below hb3 K22.out.lt).below hb3' (K22.out.below hb3 K22.out.lt).lt)
  have K33 := Lib.hid (show Blk W3 w3.heap.size 29 c3 from by rw [hW3]; exact Blk.made _ _ _)
  have P3 := Lib.hid (hp3.below hb3')
  have hde := dec09 (HE.out.env.later HB3.out) (s := ⟨#[1, 135, 0]⟩) 32 (by decide)
  rw [aw09_h] at hde
  have HDE := Lib.hid hde
  have HW3 := Lib.hid hW3
  clear hb3 hb3' hde hW3 hp3 HB2 K12 K22 hc3
  go_wp2_with (first | refine wpk_alloc HZ.out rfl rfl ?_ | refine wpk_store_new HZS.out (c := c3) HS3.out HO3.out _ _ rfl rfl rfl rfl ?_)
  rw [← HW3.out]
  refine HDE.out.mono ?_
  rintro x w5 ⟨A5, e5, rfl, hp5, he5, hb5⟩
  obtain ⟨t5, u5, rfl⟩ := err_iface he5 (show (3 : Nat) ≠ 0 by decide)
  simp only at he5 ⊢
  obtain ⟨c5, hc5⟩ : ∃ c, c = pk0.cells A5 := ⟨_, rfl⟩
  rw [show pk0.agg A5 = .agg c5 from by rw [hc5]; rfl]
  have HS5 := Lib.hid (show c5.size = 26 by rw [hc5]; rfl)
  have HO5 := Lib.hid (show c5.all (·.oneCell') = true by rw [hc5]; exact pk_one _ _)
  obtain ⟨W5, hW5⟩ : ∃ W, W = w5.alloc (.cells c5 29) := ⟨_, rfl⟩
  have hb5' : Below w5.heap.size w5 W5 := by rw [hW5]; exact (Below.refl _ _).alloc (Nat.le_refl _) _
  have HB5 := Lib.hid ((HB3.out.trans (hb5.mono HB3.out.size)).trans (hb5'.mono (HB3.out.trans (hb5.mono HB3.out.size)).size))
  have K15 := Lib.hid ((K13.out.below hb5 K13.out.lt).below hb5' (K13.out.below hb5 K13.out.lt).lt)
  have k25 := (K23.out.below hb5 K23.out.lt).below hb5' (K23.out.below hb5 K23.out.lt).lt
  have K35 := Lib.hid ((K33.out.below hb5 K33.out.lt).below hb5' (K33.out.below hb5 K33.out.lt).lt)
  have P5 := Lib.hid ((P3.out.below hb5).below hb5')
  have E5 := Lib.hid (he5.later hb5')
  have f0 : (w5.alloc (.cells c5 29)).cell? ⟨w2.heap.size, 0, none⟩ = some (.int .i64 32) := by rw [← hW5]; exact k25.cell 0
  have f1 : (w5.alloc (.cells c5 29)).cell? ⟨w2.heap.size, 1, none⟩ = some (.string ⟨#[0, 135, 0]⟩) := by rw [← hW5]; exact k25.cell 1
  have KX3 := Lib.hid (show Blk (w5.alloc (.cells c5 29)) w3.heap.size 29 c3 from by rw [← hW5]; exact K35.out)
  have KX1 := Lib.hid (show Blk (w5.alloc (.cells c5 29)) w.heap.size 29 c1 from by rw [← hW5]; exact K15.out)
  have hsm := same_ok (p := awC) (A2 := pa0) P5.out (PkIn.ofC (a := none) (c := 0) (PIn.nil _ _ _) (Nat.le_refl _) : PkIn W5 W5.heap.size pa0 awC) okC_aw
  rw [show awC.agg A3 = .agg c3 from by rw [HC3.out]; rfl, show awC.agg pa0 = .agg c1 from by rw [HC1.out]; rfl] at hsm
  have HSM := Lib.hid hsm
  have HW5 := Lib.hid hW5
  clear hb5 hb5' hW5 hp5 he5 HB3 K13 K23 K33 P3 hc5 k25 hsm HDE
  go_wp2_with (first | refine wpk_alloc HZ.out rfl rfl ?_ | refine wpk_store_new HZS.out (c := c5) HS5.out HO5.out _ _ rfl rfl rfl rfl ?_ | refine wpk_load_g KX3.out HS3.out _ rfl rfl rfl ?_ | refine wpk_load_g KX1.out HS1.out _ rfl rfl rfl ?_)
  rw [← HW5.out]
  refine HSM.out.mono ?_
  rintro x w6 ⟨rfl, hb6⟩
  have HB6 := Lib.hid (HB5.out.trans (hb6.mono HB5.out.size))
  have HNO := Lib.hid (number_of (HE.out.later HB6.out) (E5.out.later hb6))
  clear hb6 f0 f1 HSM
  go_wp2_with fail
  refine HNO.out.mono ?_
  rintro x w7 ⟨rfl, hb7⟩
  have HB7 := Lib.hid (HB6.out.trans (hb7.mono HB6.out.size))
  clear hb7 HNO
  go_wp2_with fail
  go_ret
  exact ⟨rfl, HB7.out⟩
end
end Go.Proofs.YtgpdfmmbjnjpoaaGreatDoor
