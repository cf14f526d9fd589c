/- What is proved here, on plain values: what a Connack is encoded to is decoded as it was, with nothing of what its kind has not; and what is decoded is encoded, and decoded, as it was. Conditions: few bytes. -/
import Derived.Test.YtinhecggmakbnaaGreatDoorBck08
namespace Go.Proofs.YtinhecggmakbnaaGreatDoor
set_option maxRecDepth 100000
open Go.RowKit Go.Extern.Stop Go.Stop Go.Extern
/-- A Connack. -/
def pkC (present : Bool) (reason : Int) (L : PL) : Pk := ⟨2, 0, reason, L, false, 0, ⟨#[]⟩, false, ⟨#[]⟩, ⟨#[]⟩, 0, false, [], false, ⟨#[]⟩, false, ⟨#[]⟩, present, ⟨#[]⟩, ⟨#[]⟩, 0, false, false, [], [], []⟩
/-- What check tells of the two bytes that were read. -/
def chkC (a b : Nat) (R : RV) : Er :=
  if R.no = 0 then (if 1 < a then ⟨2, 129, 0⟩ else if allowedB 2 b = true then (if a = 1 then (if b = 0 then e00 else ⟨3, 130, 0⟩) else e00) else ⟨2, 129, 1⟩) else ⟨R.no, 129, R.ea⟩
/-- What Decode tells behind check. -/
def dcC2 (s : ByteArray) (a b : Nat) (R : RV) : Er × Pk :=
  if (readF 2 s R).1.no = 0 then
    if (readF 2 s R).2.p < s.size then (⟨2, 129, (readF 2 s R).2.p⟩, pk0) else (e00, pkC (decide (a = 1)) b (readF 2 s R).1.L)
  else (⟨(readF 2 s R).1.no, (readF 2 s R).1.r, (readF 2 s R).1.at_⟩, pk0)
def dcC1 (s : ByteArray) (a b : Nat) (R : RV) : Er × Pk := if (chkC a b R).no = 0 then dcC2 s a b R else (chkC a b R, pk0)
/-- What Decode tells of any bytes. -/
def dcC (first : Int) (s : ByteArray) : Er × Pk :=
  if first = 32 then dcC1 s (rNum s 1 ⟨0, 0, 0⟩).1 (rNum s 1 (rNum s 1 ⟨0, 0, 0⟩).2).1 (rNum s 1 (rNum s 1 ⟨0, 0, 0⟩).2).2 else (⟨2, 129, 0⟩, pk0)
def bit9 (b : Bool) : Nat := if b then 1 else 0
def wrC (p : Pk) : EV := stepW (stepW (stepW w0 (numE 1 (bit9 p.present : Nat))) (numE 1 p.reason)) ⟨0, 0, (encR 2 p.props).L⟩
/-- What Encode tells of any packet. -/
def enC (p : Pk) : FrR :=
  if (encR 2 p.props).no = 0 then frR (wrC p) 32 (dcC 32 ⟨(wrC p).L.toArray⟩).1 else ⟨⟨(encR 2 p.props).no, (encR 2 p.props).r, (encR 2 p.props).at_⟩, 0, ⟨#[]⟩⟩
/-- A packet with nothing of what a Connack has not. -/
def bareC (p : Pk) : Pk := pkC p.present p.reason (plL p.props)
theorem enC_bad {p : Pk} (h : (enC p).e.no ≠ 0) : (enC p).first = 0 ∧ (enC p).s = ⟨#[]⟩ := by
  unfold enC at h ⊢
  by_cases h1 : (encR 2 p.props).no = 0
  · rw [if_pos h1] at h ⊢
    exact frR_bad8 h
  · rw [if_neg h1]
    exact ⟨rfl, rfl⟩
theorem dcC_bad {first : Int} {s : ByteArray} (h : (dcC first s).1.no ≠ 0) : (dcC first s).2 = pk0 := by
  unfold dcC at h ⊢
  by_cases c0 : first = 32
  · rw [if_pos c0] at h ⊢
    unfold dcC1 at h ⊢
    split at h
    · rename_i c1
      rw [if_pos c1]
      unfold dcC2 at h ⊢
      split at h
      · rename_i c2
        rw [if_pos c2]
        split at h
        · rename_i c3
          rw [if_pos c3]
        · exact absurd rfl h
      · rename_i c2
        rw [if_neg c2]
    · rename_i c1
      rw [if_neg c1]
  · rw [if_neg c0]
/-- What stands behind the number of a Connack that is decoded. -/
structure DcC (first : Int) (s : ByteArray) (a b : Nat) (L : PL) : Prop where
  fst : first = 32
  chk : (chkC a b ⟨2, 0, 0⟩).no = 0
  b256 : b < 256
  pk : dcC first s = (e00, pkC (decide (a = 1)) b L)
  ok : RdOk 2 s L
theorem dcC_ok {first : Int} {s : ByteArray} (h : (dcC first s).1.no = 0) : ∃ a b L, DcC first s a b L := by
  unfold dcC at h
  by_cases c0 : first = 32
  · rw [if_pos c0] at h
    have h' := h
    unfold dcC1 at h
    by_cases c1 : (chkC (rNum s 1 ⟨0, 0, 0⟩).1 (rNum s 1 (rNum s 1 ⟨0, 0, 0⟩).2).1 (rNum s 1 (rNum s 1 ⟨0, 0, 0⟩).2).2).no = 0
    · rw [if_pos c1] at h
      have hr : (rNum s 1 (rNum s 1 ⟨0, 0, 0⟩).2).2.no = 0 := by
        by_cases hr : (rNum s 1 (rNum s 1 ⟨0, 0, 0⟩).2).2.no = 0
        · exact hr
        · unfold chkC at c1
          rw [if_neg hr] at c1
          exact absurd c1 hr
      have hr0 : (rNum s 1 ⟨0, 0, 0⟩).2.no = 0 := by
        by_cases hr0 : (rNum s 1 ⟨0, 0, 0⟩).2.no = 0
        · exact hr0
        · rw [rNum_stuck hr0] at hr
          exact absurd hr hr0
      obtain ⟨b1, _⟩ := rNum_is hr0 hr
      refine ⟨(rNum s 1 ⟨0, 0, 0⟩).1, (rNum s 1 (rNum s 1 ⟨0, 0, 0⟩).2).1, (readF 2 s (rNum s 1 (rNum s 1 ⟨0, 0, 0⟩).2).2).1.L, c0, ?_, by simpa using b1, ?_, ?_⟩
      · unfold chkC at c1 ⊢
        rw [if_pos hr] at c1
        rw [if_pos rfl]
        exact c1
      · unfold dcC dcC1 dcC2 at *
        rw [if_pos c0, if_pos c1]
        by_cases c2 : (readF 2 s (rNum s 1 (rNum s 1 ⟨0, 0, 0⟩).2).2).1.no = 0
        · rw [if_pos c2] at h ⊢
          by_cases c3 : (readF 2 s (rNum s 1 (rNum s 1 ⟨0, 0, 0⟩).2).2).2.p < s.size
          · rw [if_pos c3] at h
            exact absurd (show (2 : Nat) = 0 from h) (by decide)
          · rw [if_neg c3]
        · rw [if_neg c2] at h
          exact absurd h c2
      · unfold dcC2 at h
        by_cases c2 : (readF 2 s (rNum s 1 (rNum s 1 ⟨0, 0, 0⟩).2).2).1.no = 0
        · exact rd_ok c2
        · rw [if_neg c2] at h
          exact absurd h c2
    · rw [if_neg c1] at h
      exact absurd h c1
  · rw [if_neg c0] at h
    exact absurd (show (2 : Nat) = 0 from h) (by decide)
/-- What was written is decoded. -/
theorem dcC_wr {n m : Nat} {L : PL} (hn : n < 256) (hm : m < 256) (he : (encR 2 L).no = 0) (hsz : ∀ q ∈ L, q.s.size < 65536 ∧ q.v.size < 65536) (hl : (wrAll (actsL6 L)).L.length ≤ 268435455) {s : ByteArray} (hs : s.data.toList = be 1 n ++ (be 1 m ++ (encR 2 L).L)) :
    dcC 32 s = if (chkC n m ⟨2, 0, 0⟩).no = 0 then (e00, pkC (decide (n = 1)) m (plL L)) else (chkC n m ⟨2, 0, 0⟩, pk0) := by
  have h1 := rNum_ok (s := s) (pre := []) (post := be 1 m ++ (encR 2 L).L) (k := 1) (n := n) (by omega) (by rw [hs]; rfl) 0
  have h2 := rNum_ok (s := s) (pre := be 1 n) (post := (encR 2 L).L) (k := 1) (n := m) (by omega) hs 0
  rw [be_len] at h2
  have h3 := read_enc he hsz hl s (be 1 n ++ be 1 m) [] 0 (by rw [hs]; simp)
  rw [List.length_append, be_len, be_len] at h3
  have hss := slen hs
  rw [List.length_append, List.length_append, be_len, be_len] at hss
  unfold dcC
  rw [if_pos rfl]
  have h1' : rNum s 1 ⟨0, 0, 0⟩ = (n, ⟨1, 0, 0⟩) := h1
  have h2' : rNum s 1 ⟨1, 0, 0⟩ = (m, ⟨2, 0, 0⟩) := h2
  have h3' : readF 2 s ⟨2, 0, 0⟩ = (⟨0, 0, 0, plL L⟩, ⟨2 + (encR 2 L).L.length, 0, 0⟩) := h3
  rw [h1', h2']
  unfold dcC1 dcC2
  simp only
  by_cases c : (chkC n m ⟨2, 0, 0⟩).no = 0
  · rw [if_pos c, if_pos c, h3']
    simp only
    have hlt : ¬ 2 + (encR 2 L).L.length < s.size := by omega
    rw [if_pos trivial, if_neg hlt]
  · rw [if_neg c, if_neg c]
theorem wrC_ok {p : Pk} (h : (wrC p).no = 0) : ∃ m : Nat, p.reason = m ∧ m < 256 ∧ (wrC p).L = be 1 (bit9 p.present) ++ (be 1 m ++ (encR 2 p.props).L) := by
  unfold wrC at h ⊢
  obtain ⟨h1, _, h2⟩ := stepW_no h
  obtain ⟨h3, hn, h4⟩ := stepW_no h1
  obtain ⟨m, hm, hm2, hmL⟩ := numE_ok hn
  refine ⟨m, hm, by simpa using hm2, ?_⟩
  have hb : bit9 p.present < 256 ^ 1 := by unfold bit9; split <;> decide
  rw [h2, h4, hmL, stepW_num (W := w0) rfl hb]
  simp [w0]
/-- What is encoded is decoded as it was. -/
theorem enC_back {p : Pk} (hsz : ∀ q ∈ p.props, q.s.size < 65536 ∧ q.v.size < 65536) (hl : (wrAll (actsL6 p.props)).L.length ≤ 268435455) (h : (enC p).e.no = 0) : dcC (enC p).first (enC p).s = (e00, bareC p) := by
  unfold enC at h ⊢
  by_cases h1 : (encR 2 p.props).no = 0
  · rw [if_pos h1] at h ⊢
    obtain ⟨hV, hd, he⟩ := frR_ok8 h
    rw [he]
    simp only
    obtain ⟨m, hm, hm2, hL⟩ := wrC_ok hV
    have hb : bit9 p.present < 256 := by unfold bit9; split <;> decide
    have hw := dcC_wr (n := bit9 p.present) (m := m) hb hm2 h1 hsz hl (s := ⟨(wrC p).L.toArray⟩) (by rw [arr_list8, hL])
    rw [hw] at hd ⊢
    by_cases c : (chkC (bit9 p.present) m ⟨2, 0, 0⟩).no = 0
    · rw [if_pos c]
      unfold bareC
      rw [hm]
      have e : decide (bit9 p.present = 1) = p.present := by
        unfold bit9
        cases p.present <;> rfl
      rw [e]
    · rw [if_neg c] at hd
      exact absurd hd c
  · rw [if_neg h1] at h
    exact absurd h h1
theorem enC_of {a b : Nat} {L : PL} (hc : (chkC a b ⟨2, 0, 0⟩).no = 0) (hb : b < 256) {s : ByteArray} (ok : RdOk 2 s L) (hss : s.size ≤ 60000) : (enC (pkC (decide (a = 1)) b L)).e.no = 0 := by
  have ha : a ≤ 1 := by
    unfold chkC at hc
    rw [if_pos rfl] at hc
    by_cases h : 1 < a
    · rw [if_pos h] at hc
      exact absurd hc (by decide)
    · omega
  have hbit : bit9 (decide (a = 1)) = a := by
    rcases (show a = 0 ∨ a = 1 by omega) with rfl | rfl <;> rfl
  have hL : (wrC (pkC (decide (a = 1)) b L)) = ⟨0, 0, be 1 a ++ (be 1 b ++ (encR 2 L).L)⟩ := by
    unfold wrC
    show stepW (stepW (stepW w0 (numE 1 (bit9 (decide (a = 1)) : Nat))) (numE 1 (b : Int))) ⟨0, 0, (encR 2 L).L⟩ = _
    rw [hbit, stepW_num (W := w0) (k := 1) (m := a) rfl (by omega), stepW_num (k := 1) (m := b) rfl (by omega), stepW_raw rfl]
    simp [w0]
  unfold enC
  rw [show (pkC (decide (a = 1)) b L).props = L from rfl, if_pos ok.enc, hL]
  have hw := dcC_wr (n := a) (m := b) (by omega) hb ok.enc ok.sz (Nat.le_trans ok.len (by omega)) (s := ⟨(be 1 a ++ (be 1 b ++ (encR 2 L).L)).toArray⟩) (arr_list8 _)
  rw [if_pos hc] at hw
  rw [show (dcC 32 ⟨(EV.L ⟨0, 0, be 1 a ++ (be 1 b ++ (encR 2 L).L)⟩).toArray⟩) = dcC 32 ⟨(be 1 a ++ (be 1 b ++ (encR 2 L).L)).toArray⟩ from rfl, hw]
  rfl
/-- What is decoded has few parts, is encoded, and is decoded as it was. -/
theorem deC_back {first : Int} {s : ByteArray} (hss : s.size ≤ 2048) (h : (dcC first s).1.no = 0) :
    SmallP (dcC first s).2.props ∧ (enC (dcC first s).2).e.no = 0 ∧ dcC (enC (dcC first s).2).first (enC (dcC first s).2).s = (e00, (dcC first s).2) := by
  obtain ⟨a, b, L, hd⟩ := dcC_ok h
  rw [hd.pk]
  have hen := enC_of hd.chk hd.b256 hd.ok (by omega)
  refine ⟨hd.ok.small (by omega), hen, ?_⟩
  rw [enC_back (p := pkC (decide (a = 1)) b L) hd.ok.sz (Nat.le_trans hd.ok.len (by omega)) hen]
  show (e00, pkC (decide (a = 1)) b (plL L)) = _
  rw [hd.ok.pl]
theorem wrC_len {p : Pk} (hS : SmallP p.props) : (wrC p).L.length ≤ 63846 := by
  unfold wrC
  have h1 := stepW_len (stepW (stepW w0 (numE 1 (bit9 p.present : Nat))) (numE 1 p.reason)) ⟨0, 0, (encR 2 p.props).L⟩
  have h2 := stepW_num_len (stepW w0 (numE 1 (bit9 p.present : Nat))) p.reason
  have h3 := stepW_num_len w0 (bit9 p.present : Nat)
  have h4 := encR_len (k := 2) hS
  have h5 : w0.L.length = 0 := rfl
  simp only at h1
  omega
theorem enC_len {p : Pk} (hS : SmallP p.props) : (enC p).s.size ≤ 63846 := by
  unfold enC
  split
  · exact Nat.le_trans frR_len8 (wrC_len hS)
  · exact Nat.zero_le _
theorem dcC_lists (first : Int) (s : ByteArray) : (dcC first s).2.subs = [] ∧ (dcC first s).2.wProps = [] ∧ (dcC first s).2.filters = [] ∧ (dcC first s).2.codes = [] := by
  unfold dcC dcC1 dcC2
  (repeat' split) <;> exact ⟨rfl, rfl, rfl, rfl⟩
end Go.Proofs.YtinhecggmakbnaaGreatDoor
