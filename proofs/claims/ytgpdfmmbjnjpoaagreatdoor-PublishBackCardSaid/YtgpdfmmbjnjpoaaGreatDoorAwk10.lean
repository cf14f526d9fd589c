/- What is proved here, on plain values: what a Publish is encoded to is decoded as it was, with nothing of what its kind has not; and what is decoded is encoded, and decoded, as it was. Conditions: few bytes. What is proved here: the small functions of package publish tell what plain functions say. Conditions: the QoS has two bits; what the rows list of the package's variables. What is proved here: a frame that is decoded by publish.Decode. Conditions: the writer is there; what Decode tells. What is proved here: Decode of package publish tells what a plain function says. Conditions: few bytes; what the rows list of the package's variables. What is proved here: Decode of package publish tells what a plain function says, where the first byte may be. Conditions: few bytes; what the rows list of the package's variables. What is proved here: Encode of package publish tells what a plain function says. Conditions: few bytes, the packet's parts stand where it says; what the rows list of the package's variables. What is proved here: the document's Bare of a Publish. Conditions: the packet's parts stand where it says, few of them. What is proved here: what the statements of layer 10 hold awake. Condition: what the rows list of the package's variables. -/
import Derived.Test.YtgpdfmmbjnjpoaaGreatDoorPar08
import Derived.Test.YtgpdfmmbjnjpoaaGreatDoorDcj08
import Derived.Test.YtgpdfmmbjnjpoaaGreatDoorBrr08
import Derived.Test.YtgpdfmmbjnjpoaaGreatDoorBra08
namespace Go.Proofs.YtgpdfmmbjnjpoaaGreatDoor
set_option maxRecDepth 100000
open Go.RowKit Go.Extern.Stop Go.Stop Go.Extern
/-- A Publish. -/
def pkP (id : Int) (L : PL) (topic payload : ByteArray) (qos : Int) (retain dup : Bool) : Pk := ⟨3, id, 0, L, false, 0, ⟨#[]⟩, false, ⟨#[]⟩, ⟨#[]⟩, 0, false, [], false, ⟨#[]⟩, false, ⟨#[]⟩, false, topic, payload, qos, retain, dup, [], [], []⟩
def qosF (f : Nat) : Nat := f / 2 % 4
def dupF (f : Nat) : Bool := decide (f / 8 % 2 = 1)
def retF (f : Nat) : Bool := decide (f % 2 = 1)
/-- May a Publish begin with this byte? -/
def mayF (f : Nat) : Bool := decide (48 ≤ f) && decide (f ≤ 63) && !decide (qosF f = 3) && !(dupF f && decide (qosF f = 0))
/-- What is told behind the number. -/
def dcP3 (s : ByteArray) (f : Nat) (t : ByteArray) (id : Nat) (R : RV) : Er × Pk :=
  if (readF 3 s R).1.no = 0 then (e00, pkP id (readF 3 s R).1.L t (rTake s (s.size - (readF 3 s R).2.p) (readF 3 s R).2).1 (qosF f) (retF f) (dupF f))
  else (⟨(readF 3 s R).1.no, (readF 3 s R).1.r, (readF 3 s R).1.at_⟩, pk0)
/-- What is told behind the topic. -/
def dcP2 (s : ByteArray) (f : Nat) (t : ByteArray) (R : RV) : Er × Pk :=
  if qosF f = 0 then dcP3 s f t 0 R
  else if (rNum s 2 R).2.no = 0 then
    if (rNum s 2 R).1 = 0 then (⟨3, 130, R.p⟩, pk0) else dcP3 s f t (rNum s 2 R).1 (rNum s 2 R).2
  else (⟨(rNum s 2 R).2.no, 129, (rNum s 2 R).2.ea⟩, pk0)
def dcP1 (s : ByteArray) (f : Nat) : Er × Pk := if mayF f = true then dcP2 s f (rText s ⟨0, 0, 0⟩).1 (rText s ⟨0, 0, 0⟩).2 else (⟨2, 129, 0⟩, pk0)
/-- What Decode tells of any bytes. -/
def dcP (first : Int) (s : ByteArray) : Er × Pk := if 48 ≤ first ∧ first ≤ 63 then dcP1 s first.toNat else (⟨2, 129, 0⟩, pk0)
def fstP (q : Nat) (dup retain : Bool) : Nat := 48 + 2 * q + (if dup then 8 else 0) + (if retain then 1 else 0)
def wrP0 (p : Pk) : EV := if p.qos = 1 ∨ p.qos = 2 then stepW (stepW w0 (textE p.topic)) (numE 2 p.id) else stepW w0 (textE p.topic)
def wrP (p : Pk) : EV := stepW (stepW (wrP0 p) ⟨0, 0, (encR 3 p.props).L⟩) ⟨0, 0, p.payload.data.toList⟩
/-- What Encode tells of any packet. -/
def enP (p : Pk) : FrR :=
  if p.qos < 0 ∨ 3 < p.qos then ⟨⟨2, 129, 0⟩, 0, ⟨#[]⟩⟩
  else if (encR 3 p.props).no = 0 then frR (wrP p) (fstP p.qos.toNat p.dup p.retain : Nat) (dcP (fstP p.qos.toNat p.dup p.retain : Nat) ⟨(wrP p).L.toArray⟩).1
  else ⟨⟨(encR 3 p.props).no, (encR 3 p.props).r, (encR 3 p.props).at_⟩, 0, ⟨#[]⟩⟩
/-- A packet with nothing of what a Publish has not. -/
def bareP (p : Pk) : Pk := pkP (if 0 < p.qos then p.id else 0) (plL p.props) p.topic p.payload p.qos p.retain p.dup
theorem enP_bad {p : Pk} (h : (enP p).e.no ≠ 0) : (enP p).first = 0 ∧ (enP p).s = ⟨#[]⟩ := by
  unfold enP at h ⊢
  by_cases h0 : p.qos < 0 ∨ 3 < p.qos
  · rw [if_pos h0]
    exact ⟨rfl, rfl⟩
  · rw [if_neg h0] at h ⊢
    by_cases h1 : (encR 3 p.props).no = 0
    · rw [if_pos h1] at h ⊢
      exact frR_bad8 h
    · rw [if_neg h1]
      exact ⟨rfl, rfl⟩
theorem dcP_bad {first : Int} {s : ByteArray} (h : (dcP first s).1.no ≠ 0) : (dcP first s).2 = pk0 := by
  have h3 : ∀ f t id R, (dcP3 s f t id R).1.no ≠ 0 → (dcP3 s f t id R).2 = pk0 := by
    intro f t id R h
    unfold dcP3 at h ⊢
    split
    · rename_i c
      rw [if_pos c] at h
      exact absurd rfl h
    · rfl
  have h2 : ∀ f t R, (dcP2 s f t R).1.no ≠ 0 → (dcP2 s f t R).2 = pk0 := by
    intro f t R h
    unfold dcP2 at h ⊢
    by_cases c : qosF f = 0
    · rw [if_pos c] at h ⊢
      exact h3 _ _ _ _ h
    · rw [if_neg c] at h ⊢
      by_cases c1 : (rNum s 2 R).2.no = 0
      · rw [if_pos c1] at h ⊢
        by_cases c2 : (rNum s 2 R).1 = 0
        · rw [if_pos c2]
        · rw [if_neg c2] at h ⊢
          exact h3 _ _ _ _ h
      · rw [if_neg c1]
  unfold dcP dcP1 at h ⊢
  split
  · rename_i c
    rw [if_pos c] at h
    split
    · rename_i c1
      rw [if_pos c1] at h
      exact h2 _ _ _ h
    · rfl
  · rfl
/-- What a Publish that is decoded is. -/
structure DcP (first : Int) (s : ByteArray) (f : Nat) (t pay : ByteArray) (id : Nat) (L : PL) : Prop where
  fst : first = f
  may : mayF f = true
  id0 : qosF f = 0 → id = 0
  id1 : ¬ qosF f = 0 → id ≠ 0 ∧ id < 65536
  tx : (checkOf t).1 = 0
  ts : t.size ≤ s.size ∧ pay.size ≤ s.size
  pk : dcP first s = (e00, pkP id L t pay (qosF f) (retF f) (dupF f))
  ok : RdOk 3 s L
theorem dcP_ok {first : Int} {s : ByteArray} (h : (dcP first s).1.no = 0) : ∃ f t pay id L, DcP first s f t pay id L := by
  unfold dcP at h
  by_cases c0 : 48 ≤ first ∧ first ≤ 63
  · rw [if_pos c0] at h
    have hf : first = (first.toNat : Int) := by omega
    unfold dcP1 at h
    by_cases c1 : mayF first.toNat = true
    · rw [if_pos c1] at h
      have h3 : ∀ (id : Nat) (R : RV), (dcP3 s first.toNat (rText s ⟨0, 0, 0⟩).1 id R).1.no = 0 → (readF 3 s R).1.no = 0 := by
        intro id R h
        unfold dcP3 at h
        by_cases c : (readF 3 s R).1.no = 0
        · exact c
        · rw [if_neg c] at h
          exact absurd h c
      have htx : ∀ R : RV, R.no = 0 → R = (rText s ⟨0, 0, 0⟩).2 → (checkOf (rText s ⟨0, 0, 0⟩).1).1 = 0 ∧ (rText s ⟨0, 0, 0⟩).1.size ≤ s.size := by
        intro R hR he
        rw [he] at hR
        obtain ⟨k1, k2, k3⟩ := rText_is (R := ⟨0, 0, 0⟩) rfl hR
        have := rText_le (s := s) (R := ⟨0, 0, 0⟩) (Nat.zero_le _)
        exact ⟨k1, by omega⟩
      have hno : ∀ R : RV, (readF 3 s R).1.no = 0 → R.no = 0 := by
        intro R h
        by_cases c : R.no = 0
        · exact c
        · rw [readF_stuck c] at h
          exact absurd h c
      have hps : ∀ R : RV, (rTake s (s.size - R.p) R).1.size ≤ s.size := by
        intro R
        unfold rTake
        split
        · split
          · exact Nat.zero_le _
          · rw [ByteArray.size_extract]
            omega
        · exact Nat.zero_le _
      have key : ∀ (id : Nat) (R : RV), (qosF first.toNat = 0 → id = 0) → (¬ qosF first.toNat = 0 → id ≠ 0 ∧ id < 65536) → (checkOf (rText s ⟨0, 0, 0⟩).1).1 = 0 ∧ (rText s ⟨0, 0, 0⟩).1.size ≤ s.size →
          dcP2 s first.toNat (rText s ⟨0, 0, 0⟩).1 (rText s ⟨0, 0, 0⟩).2 = dcP3 s first.toNat (rText s ⟨0, 0, 0⟩).1 id R → (readF 3 s R).1.no = 0 → ∃ f t pay id L, DcP first s f t pay id L := by
        intro id R i0 i1 htt he hr
        refine ⟨first.toNat, (rText s ⟨0, 0, 0⟩).1, (rTake s (s.size - (readF 3 s R).2.p) (readF 3 s R).2).1, id, (readF 3 s R).1.L, hf, c1, i0, i1, htt.1, ⟨htt.2, hps _⟩, ?_, rd_ok hr⟩
        unfold dcP
        rw [if_pos c0]
        unfold dcP1
        rw [if_pos c1, he]
        unfold dcP3
        rw [if_pos hr]
      by_cases c2 : qosF first.toNat = 0
      · have he : dcP2 s first.toNat (rText s ⟨0, 0, 0⟩).1 (rText s ⟨0, 0, 0⟩).2 = dcP3 s first.toNat (rText s ⟨0, 0, 0⟩).1 0 (rText s ⟨0, 0, 0⟩).2 := by
          unfold dcP2
          rw [if_pos c2]
        rw [he] at h
        have hr := h3 _ _ h
        exact key 0 _ (fun _ => rfl) (fun h => absurd c2 h) (htx _ (hno _ hr) rfl) he hr
      · by_cases c3 : (rNum s 2 (rText s ⟨0, 0, 0⟩).2).2.no = 0
        · by_cases c4 : (rNum s 2 (rText s ⟨0, 0, 0⟩).2).1 = 0
          · exfalso
            unfold dcP2 at h
            rw [if_neg c2, if_pos c3, if_pos c4] at h
            exact absurd (show (3 : Nat) = 0 from h) (by decide)
          · have he : dcP2 s first.toNat (rText s ⟨0, 0, 0⟩).1 (rText s ⟨0, 0, 0⟩).2 = dcP3 s first.toNat (rText s ⟨0, 0, 0⟩).1 (rNum s 2 (rText s ⟨0, 0, 0⟩).2).1 (rNum s 2 (rText s ⟨0, 0, 0⟩).2).2 := by
              unfold dcP2
              rw [if_neg c2, if_pos c3, if_neg c4]
            rw [he] at h
            have hr := h3 _ _ h
            have ht0 : (rText s ⟨0, 0, 0⟩).2.no = 0 := by
              by_cases c : (rText s ⟨0, 0, 0⟩).2.no = 0
              · exact c
              · rw [rNum_stuck c] at c3
                exact absurd c3 c
            exact key _ _ (fun h => absurd h c2) (fun _ => ⟨c4, (rNum_is ht0 c3).1⟩) (htx _ ht0 rfl) he hr
        · exfalso
          unfold dcP2 at h
          rw [if_neg c2, if_neg c3] at h
          exact absurd h c3
    · rw [if_neg c1] at h
      exact absurd (show (2 : Nat) = 0 from h) (by decide)
  · rw [if_neg c0] at h
    exact absurd (show (2 : Nat) = 0 from h) (by decide)
/-- The bytes of a Publish. -/
def byP (f : Nat) (t : ByteArray) (id : Nat) (E : List UInt8) (pay : ByteArray) : List UInt8 :=
  (be 2 t.size ++ t.data.toList) ++ ((if qosF f = 0 then [] else be 2 id) ++ (E ++ pay.data.toList))
theorem rTake_rest {s : ByteArray} {pre : List UInt8} {pay : ByteArray} (hs : s.data.toList = pre ++ pay.data.toList) (ea : Nat) : (rTake s (s.size - pre.length) ⟨pre.length, 0, ea⟩).1 = pay := by
  have hss := slen hs
  rw [List.length_append, bLen] at hss
  have h := rTake_ok (s := s) (pre := pre) (x := pay.data.toList) (post := []) (by rw [hs, List.append_nil]) ea
  rw [bLen] at h
  rw [show s.size - pre.length = pay.size by omega, h]
/-- What was written is decoded. -/
theorem dcP_wr {f : Nat} {t pay : ByteArray} {id : Nat} {L : PL} (hm : mayF f = true) (ht : (checkOf t).1 = 0) (hid : id < 65536) (he : (encR 3 L).no = 0) (hsz : ∀ q ∈ L, q.s.size < 65536 ∧ q.v.size < 65536) (hl : (wrAll (actsL6 L)).L.length ≤ 268435455) {s : ByteArray} (hs : s.data.toList = byP f t id (encR 3 L).L pay) :
    dcP f s = if qosF f = 0 then (e00, pkP 0 (plL L) t pay (qosF f) (retF f) (dupF f)) else if id = 0 then (⟨3, 130, 2 + t.size⟩, pk0) else (e00, pkP id (plL L) t pay (qosF f) (retF f) (dupF f)) := by
  have h1 : rText s ⟨0, 0, 0⟩ = (t, ⟨2 + t.size, 0, 0⟩) := by
    have h := rText_ok (s := s) (x := t) (pre := []) (post := (if qosF f = 0 then [] else be 2 id) ++ ((encR 3 L).L ++ pay.data.toList)) ht (by rw [hs]; rfl) 0
    simpa using h
  have hfb : (48 : Int) ≤ (f : Int) ∧ (f : Int) ≤ 63 := by
    unfold mayF at hm
    simp only [Bool.and_eq_true, decide_eq_true_eq] at hm
    omega
  have hpl : (be 2 t.size ++ t.data.toList).length = 2 + t.size := by rw [List.length_append, be_len, bLen]
  unfold dcP dcP1
  rw [if_pos hfb, Int.toNat_natCast, if_pos hm, h1]
  unfold dcP2
  simp only
  by_cases c : qosF f = 0
  · rw [if_pos c, if_pos c]
    have h3 := read_enc he hsz hl s (be 2 t.size ++ t.data.toList) pay.data.toList 0 (by rw [hs]; unfold byP; rw [if_pos c]; rfl)
    rw [hpl] at h3
    unfold dcP3
    rw [h3]
    simp only
    rw [if_pos trivial]
    have h4 := rTake_rest (s := s) (pre := (be 2 t.size ++ t.data.toList) ++ (encR 3 L).L) (pay := pay) (by rw [hs]; unfold byP; rw [if_pos c]; simp) 0
    rw [List.length_append, hpl] at h4
    rw [h4]
    rfl
  · rw [if_neg c, if_neg c]
    have h2 := rNum_ok (s := s) (pre := be 2 t.size ++ t.data.toList) (post := (encR 3 L).L ++ pay.data.toList) (k := 2) (n := id) (by omega) (by rw [hs]; unfold byP; rw [if_neg c]) 0
    rw [hpl] at h2
    rw [h2]
    simp only
    rw [if_pos trivial]
    by_cases c2 : id = 0
    · rw [if_pos c2, if_pos c2]
    · rw [if_neg c2, if_neg c2]
      have hp2 : ((be 2 t.size ++ t.data.toList) ++ be 2 id).length = 2 + t.size + 2 := by rw [List.length_append, hpl, be_len]
      have h3 := read_enc he hsz hl s ((be 2 t.size ++ t.data.toList) ++ be 2 id) pay.data.toList 0 (by rw [hs]; unfold byP; rw [if_neg c]; simp)
      rw [hp2] at h3
      unfold dcP3
      rw [h3]
      simp only
      rw [if_pos trivial]
      have h4 := rTake_rest (s := s) (pre := ((be 2 t.size ++ t.data.toList) ++ be 2 id) ++ (encR 3 L).L) (pay := pay) (by rw [hs]; unfold byP; rw [if_neg c]; simp) 0
      rw [List.length_append, hp2] at h4
      rw [h4]
theorem fst_cases : ∀ q, q < 4 → ∀ d r : Bool, qosF (fstP q d r) = q ∧ dupF (fstP q d r) = d ∧ retF (fstP q d r) = r ∧ 48 ≤ fstP q d r ∧ fstP q d r ≤ 63 := by decide
theorem fst_back : ∀ f, f < 64 → mayF f = true → fstP (qosF f) (dupF f) (retF f) = f := by decide
theorem qosF_lt (f : Nat) : qosF f < 4 := Nat.mod_lt _ (by decide)
/-- What was written, if nothing failed. -/
theorem wrP_ok {p : Pk} (hq : 0 ≤ p.qos ∧ p.qos < 3) (h : (wrP p).no = 0) : ∃ m : Nat, (¬ p.qos = 0 → p.id = m) ∧ m < 65536 ∧ (checkOf p.topic).1 = 0 ∧ (wrP p).L = byP (fstP p.qos.toNat p.dup p.retain) p.topic m (encR 3 p.props).L p.payload := by
  unfold wrP at h ⊢
  obtain ⟨h1, _, h2⟩ := stepW_no h
  obtain ⟨h3, _, h4⟩ := stepW_no h1
  have hf := (fst_cases p.qos.toNat (by omega) p.dup p.retain).1
  rw [h2, h4]
  unfold wrP0 at h3 ⊢
  by_cases c : p.qos = 0
  · rw [if_neg (by omega)] at h3 ⊢
    obtain ⟨_, ht, h5⟩ := stepW_no h3
    obtain ⟨ht1, ht2⟩ := textE_ok ht
    refine ⟨0, fun h => absurd c h, by decide, ht1, ?_⟩
    unfold byP
    rw [hf, if_pos (by omega), h5, ht2]
    simp [w0]
  · rw [if_pos (by omega)] at h3 ⊢
    obtain ⟨h6, hn, h5⟩ := stepW_no h3
    obtain ⟨_, ht, h7⟩ := stepW_no h6
    obtain ⟨ht1, ht2⟩ := textE_ok ht
    obtain ⟨m, hm, hm2, hmL⟩ := numE_ok hn
    refine ⟨m, fun _ => hm, by simpa using hm2, ht1, ?_⟩
    unfold byP
    rw [hf, if_neg (by omega), h5, h7, ht2, hmL]
    simp [w0]
/-- What is encoded is decoded as it was. -/
theorem enP_back {p : Pk} (hsz : ∀ q ∈ p.props, q.s.size < 65536 ∧ q.v.size < 65536) (hl : (wrAll (actsL6 p.props)).L.length ≤ 268435455) (h : (enP p).e.no = 0) : dcP (enP p).first (enP p).s = (e00, bareP p) := by
  unfold enP at h ⊢
  by_cases h0 : p.qos < 0 ∨ 3 < p.qos
  · rw [if_pos h0] at h
    exact absurd (show (2 : Nat) = 0 from h) (by decide)
  · rw [if_neg h0] at h ⊢
    by_cases h1 : (encR 3 p.props).no = 0
    · rw [if_pos h1] at h ⊢
      obtain ⟨hV, hd, he⟩ := frR_ok8 h
      rw [he]
      simp only
      obtain ⟨c1, c2, c3, c4, c5⟩ := fst_cases p.qos.toNat (by omega) p.dup p.retain
      have hmay : mayF (fstP p.qos.toNat p.dup p.retain) = true := by
        by_cases hm : mayF (fstP p.qos.toNat p.dup p.retain) = true
        · exact hm
        · exfalso
          unfold dcP at hd
          rw [if_pos (by omega), Int.toNat_natCast] at hd
          unfold dcP1 at hd
          rw [if_neg hm] at hd
          exact absurd (show (2 : Nat) = 0 from hd) (by decide)
      have hq3 : ¬ p.qos = 3 := by
        intro hq
        have hm := hmay
        unfold mayF at hm
        rw [c1] at hm
        simp [hq] at hm
      obtain ⟨m, hm, hm2, htx, hL⟩ := wrP_ok (p := p) (by omega) hV
      have hw := dcP_wr (f := fstP p.qos.toNat p.dup p.retain) (t := p.topic) (pay := p.payload) (id := m) hmay htx hm2 h1 hsz hl (s := ⟨(wrP p).L.toArray⟩) (by rw [arr_list8, hL])
      rw [hw] at hd ⊢
      have hqq : ((p.qos.toNat : Nat) : Int) = p.qos := by omega
      unfold bareP
      rw [c1, c2, c3, hqq] at *
      by_cases c : p.qos.toNat = 0
      · have hq0 : ¬ 0 < p.qos := by omega
        rw [if_pos c, if_neg hq0]
      · have hq0 : 0 < p.qos := by omega
        rw [if_neg c] at hd ⊢
        by_cases cm : m = 0
        · rw [if_pos cm] at hd
          exact absurd (show (3 : Nat) = 0 from hd) (by decide)
        · rw [if_neg cm, if_pos hq0, hm (by omega)]
    · rw [if_neg h1] at h
      exact absurd h h1
theorem enP_of {f : Nat} {t pay : ByteArray} {id : Nat} {L : PL} (hm : mayF f = true) (ht : (checkOf t).1 = 0) (i0 : qosF f = 0 → id = 0) (i1 : ¬ qosF f = 0 → id ≠ 0 ∧ id < 65536) {s : ByteArray} (ok : RdOk 3 s L) (hss : s.size ≤ 60000) :
    (enP (pkP id L t pay (qosF f) (retF f) (dupF f))).e.no = 0 := by
  have hf64 : f < 64 := by
    unfold mayF at hm
    simp only [Bool.and_eq_true, decide_eq_true_eq] at hm
    omega
  have hq := qosF_lt f
  have hb := fst_back f hf64 hm
  have htE : textE t = ⟨0, 0, be 2 t.size ++ t.data.toList⟩ := by
    unfold textE binE
    rw [if_pos ht]
  have hq3 : ¬ qosF f = 3 := by
    intro h
    unfold mayF at hm
    simp [h] at hm
  have hL : wrP (pkP id L t pay (qosF f) (retF f) (dupF f)) = ⟨0, 0, byP f t id (encR 3 L).L pay⟩ := by
    unfold wrP
    have h0 : wrP0 (pkP id L t pay (qosF f) (retF f) (dupF f)) = ⟨0, 0, (be 2 t.size ++ t.data.toList) ++ (if qosF f = 0 then [] else be 2 id)⟩ := by
      unfold wrP0
      show (if ((qosF f : Nat) : Int) = 1 ∨ ((qosF f : Nat) : Int) = 2 then stepW (stepW w0 (textE t)) (numE 2 (id : Int)) else stepW w0 (textE t)) = _
      by_cases c : qosF f = 0
      · rw [if_neg (by omega), if_pos c, htE, stepW_raw rfl]
        simp [w0]
      · rw [if_pos (by omega), if_neg c, htE, stepW_raw (W := w0) rfl, stepW_num (k := 2) (m := id) rfl (by have := (i1 c).2; omega)]
        simp [w0]
    rw [h0]
    show stepW (stepW _ ⟨0, 0, (encR 3 L).L⟩) ⟨0, 0, pay.data.toList⟩ = _
    rw [stepW_raw (W := ⟨0, 0, (be 2 t.size ++ t.data.toList) ++ (if qosF f = 0 then [] else be 2 id)⟩) rfl, stepW_raw rfl]
    unfold byP
    simp
  unfold enP
  rw [show (pkP id L t pay (qosF f) (retF f) (dupF f)).qos = ((qosF f : Nat) : Int) from rfl, show (pkP id L t pay (qosF f) (retF f) (dupF f)).props = L from rfl, show (pkP id L t pay (qosF f) (retF f) (dupF f)).dup = dupF f from rfl, show (pkP id L t pay (qosF f) (retF f) (dupF f)).retain = retF f from rfl,
    if_neg (by omega), if_pos ok.enc, hL, Int.toNat_natCast, hb]
  have hw := dcP_wr (f := f) (t := t) (pay := pay) (id := id) hm ht (by
    by_cases c : qosF f = 0
    · rw [i0 c]; decide
    · exact (i1 c).2) ok.enc ok.sz (Nat.le_trans ok.len (by omega)) (s := ⟨(byP f t id (encR 3 L).L pay).toArray⟩) (arr_list8 _)
  rw [show dcP f ⟨(EV.L ⟨0, 0, byP f t id (encR 3 L).L pay⟩).toArray⟩ = dcP f ⟨(byP f t id (encR 3 L).L pay).toArray⟩ from rfl, hw]
  by_cases c : qosF f = 0
  · rw [if_pos c]
    rfl
  · rw [if_neg c, if_neg (i1 c).1]
    rfl
/-- What is decoded has few parts, is encoded, and is decoded as it was. -/
theorem deP_back {first : Int} {s : ByteArray} (hss : s.size ≤ 2048) (h : (dcP first s).1.no = 0) :
    (SmallP (dcP first s).2.props ∧ (dcP first s).2.topic.size ≤ 2048 ∧ (dcP first s).2.payload.size ≤ 2048) ∧ (enP (dcP first s).2).e.no = 0 ∧ dcP (enP (dcP first s).2).first (enP (dcP first s).2).s = (e00, (dcP first s).2) := by
  obtain ⟨f, t, pay, id, L, hd⟩ := dcP_ok h
  rw [hd.pk]
  have hen := enP_of (pay := pay) hd.may hd.tx hd.id0 hd.id1 hd.ok (by omega)
  refine ⟨⟨hd.ok.small (by omega), Nat.le_trans hd.ts.1 hss, Nat.le_trans hd.ts.2 hss⟩, hen, ?_⟩
  rw [enP_back (p := pkP id L t pay (qosF f) (retF f) (dupF f)) hd.ok.sz (Nat.le_trans hd.ok.len (by omega)) hen]
  show (e00, pkP (if 0 < ((qosF f : Nat) : Int) then (id : Int) else 0) (plL L) t pay (qosF f) (retF f) (dupF f)) = _
  rw [hd.ok.pl]
  by_cases c : qosF f = 0
  · rw [if_neg (by omega), hd.id0 c]
    rfl
  · rw [if_pos (by omega)]
theorem wrP_len {p : Pk} (hS : SmallP p.props) (ht : p.topic.size ≤ 65535) (hp : p.payload.size ≤ 65535) : (wrP p).L.length ≤ 200000 := by
  unfold wrP
  have h1 := stepW_len (stepW (wrP0 p) ⟨0, 0, (encR 3 p.props).L⟩) ⟨0, 0, p.payload.data.toList⟩
  have h2 := stepW_len (wrP0 p) ⟨0, 0, (encR 3 p.props).L⟩
  have h4 := encR_len (k := 3) hS
  have h3 : (wrP0 p).L.length ≤ 65539 := by
    have h5 : (textE p.topic).L.length ≤ 65537 := by
      unfold textE binE
      split
      · rw [List.length_append, be_len, bLen]; omega
      · exact Nat.zero_le _
    have h6 := stepW_len w0 (textE p.topic)
    have h7 : w0.L.length = 0 := rfl
    unfold wrP0
    split
    · have h8 := stepW_len (stepW w0 (textE p.topic)) (numE 2 p.id)
      have h9 := numE_len 2 p.id
      omega
    · omega
  simp only [bLen] at h1 h2
  omega
theorem enP_len {p : Pk} (hS : SmallP p.props) (ht : p.topic.size ≤ 65535) (hp : p.payload.size ≤ 65535) : (enP p).s.size ≤ 200000 := by
  unfold enP
  split
  · exact Nat.zero_le _
  · split
    · exact Nat.le_trans frR_len8 (wrP_len hS ht hp)
    · exact Nat.zero_le _
theorem dcP_lists (first : Int) (s : ByteArray) : (dcP first s).2.subs = [] ∧ (dcP first s).2.wProps = [] ∧ (dcP first s).2.filters = [] ∧ (dcP first s).2.codes = [] := by
  unfold dcP dcP1 dcP2 dcP3
  (repeat' split) <;> exact ⟨rfl, rfl, rfl, rfl⟩
end Go.Proofs.YtgpdfmmbjnjpoaaGreatDoor
namespace Go.Proofs.YtgpdfmmbjnjpoaaGreatDoor
set_option maxRecDepth 100000
open Go.ChangeShapes Go.WideShapes Go.RowKit Go.Deep Go.Extern.Stop Go.Stop Go.Extern
section
variable {w w' : World} {S : Nat → Addr}
def MfSays (w : World) (S : Nat → Addr) (x : Ending) (w' : World) : Prop := ∃ e, x = .returned e ∧ ErrOf w' S 129 2 0 e ∧ Below w.heap.size w w'
theorem mal10 (hE : Env w S) : Calls Tryz.prog 99 #[] w (MfSays w S) := by
  have kM := hE.kMalformed
  have HN := Lib.hid (new_err (w := w) S 1 129 0)
  clear hE
  go_enter Tryz.func99, Tryz.ntmps99
  go_wp2_with fail
  refine HN.out.mono ?_
  rintro x w1 ⟨e, rfl, he, hb⟩
  have HX := Lib.hid (show MfSays w S (.returned e) w1 from ⟨e, rfl, ErrOf.some (no := 2) (by decide) (by decide) he, hb⟩)
  clear he hb HN kM
  go_wp2_with fail
  go_ret
  exact HX.out
theorem has10 (q : Int) (w : World) : Calls Tryz.prog 100 #[.int .i64 q] w fun x w' => x = .returned (.bool (decide (q = 1) || decide (q = 2))) ∧ w = w' := by
  by_cases h1 : q = 1
  · subst h1
    go_enter Tryz.func100, Tryz.ntmps100
    go_wp2
    go_ret
    exact ⟨rfl, rfl⟩
  · by_cases h2 : q = 2
    · subst h2
      go_enter Tryz.func100, Tryz.ntmps100
      go_wp2
      go_ret
      exact ⟨rfl, rfl⟩
    · have e : (decide (q = 1) || decide (q = 2)) = false := by rw [decide_eq_false h1, decide_eq_false h2]; rfl
      rw [e]
      go_enter Tryz.func100, Tryz.ntmps100
      go_wp2
      go_ret
      exact ⟨by simp [h1, h2], rfl⟩
set_option maxHeartbeats 8000000 in
theorem fst10 (A : PkA) (p : Pk) (q : Nat) (hq : q < 4) (hp : p.qos = q) (w : World) : Calls Tryz.prog 101 #[p.agg A] w fun x w' => x = .returned (.int .i64 (fstP q p.dup p.retain : Nat)) ∧ Below w.heap.size w w' := by
  obtain ⟨c, hc⟩ : ∃ c, c = p.cells A := ⟨_, rfl⟩
  rw [show p.agg A = .agg c from by rw [hc]; rfl]
  have HCS := Lib.hid (show c.size = 26 by rw [hc]; rfl)
  have hc20 : c[20]? = some (.int .i64 p.qos) := by rw [hc]; rfl
  have hc21 : c[21]? = some (.bool p.retain) := by rw [hc]; rfl
  have hc22 : c[22]? = some (.bool p.dup) := by rw [hc]; rfl
  obtain ⟨W2, hW2⟩ : ∃ W, W = w.alloc (.cells c 29) := ⟨_, rfl⟩
  have hb2 : Below w.heap.size w W2 := by rw [hW2]; exact (Below.refl _ _).alloc (Nat.le_refl _) _
  have r0 : Blk W2 w.heap.size 29 c := by rw [hW2]; exact Blk.made w _ c
  rw [hp] at hc20
  generalize p.dup = dp at *
  generalize p.retain = rt at *
  have k20 : W2.cell? ⟨w.heap.size, 20, none⟩ = some (.int .i64 q) := (r0.cell 20).trans hc20
  have k21 : W2.cell? ⟨w.heap.size, 21, none⟩ = some (.bool rt) := (r0.cell 21).trans hc21
  have k22 : W2.cell? ⟨w.heap.size, 22, none⟩ = some (.bool dp) := (r0.cell 22).trans hc22
  have HB2 := Lib.hid hb2
  rw [hW2] at k20 k21 k22 HB2
  clear hc hc20 hc21 hc22 hb2 r0 hW2 hp
  obtain rfl | rfl | rfl | rfl : q = 0 ∨ q = 1 ∨ q = 2 ∨ q = 3 := by omega
  all_goals
    clear hq
    cases dp <;> cases rt
    all_goals
      go_enter Tryz.func101, Tryz.ntmps101
      go_wp2_with (refine wpk_box HCS.out _ rfl rfl rfl ?_)
      go_ret
      exact ⟨rfl, HB2.out⟩
end
end Go.Proofs.YtgpdfmmbjnjpoaaGreatDoor
namespace Go.Proofs.YtgpdfmmbjnjpoaaGreatDoor
set_option maxRecDepth 100000
open Go.RowKit Go.Extern.Stop Go.Stop Go.Extern
section
variable {z w w' : World} {S : Nat → Addr} {B g : Nat} {s : ByteArray} {R : RV} {v : Value} {W : EV}
set_option maxHeartbeats 8000000 in
theorem frame_any10 (first : Int) (h : WObj w S B g v W) {q : Er × Pk} (hdc : ∀ W1 : World, Below w.heap.size w W1 → Calls Tryz.prog 32 #[.agg #[.int .i64 first, .string ⟨W.L.toArray⟩]] W1 (DcSays W1 S q)) :
    Calls Tryz.prog 74 #[.int .i64 first, .pointer (some ⟨g, 0, none⟩), .func (.func 32) #[] #[]] w (FrSays w S (frR W first q.1)) := by
  obtain ⟨f, hf⟩ : ∃ f, f = frR W first q.1 := ⟨_, rfl⟩
  rw [← hf]
  unfold frR at hf
  have hb1 : Below w.heap.size w (w.alloc (.cells #[.int .i64 0, .string ⟨#[]⟩] 33)) := (Below.refl _ _).alloc (Nat.le_refl _) _
  have HW := Lib.hid (wbytes_any (h.below hb1))
  have HK := Lib.hid (Blk.made w 33 #[.int .i64 0, .string ⟨#[]⟩])
  have HB1 := Lib.hid hb1
  have HD := Lib.hid hdc
  have HF := Lib.hid hf
  clear hb1 hdc h hf
  go_enter Tryz.func74, Tryz.ntmps74
  go_wp2_with fail
  refine HW.out.mono ?_
  rintro x w2 ⟨e2, rfl, he2, hb2⟩
  obtain ⟨W0, Wa, WL⟩ := W
  obtain ⟨qe, qp⟩ := q
  simp only at he2 HD HF ⊢
  have k2 := HK.out.below hb2 HK.out.lt
  have hb12 := HB1.out.trans (hb2.mono HB1.out.size)
  have HB2 := Lib.hid hb12
  have HK2 := Lib.hid k2
  have hff := HF.out
  by_cases h0 : W0 = 0
  · subst h0
    rw [if_pos rfl] at hff
    unfold ErrOf at he2
    rw [if_pos rfl] at he2
    subst he2
    obtain ⟨t, ht⟩ : ∃ t : ByteArray, t = ⟨WL.toArray⟩ := ⟨_, rfl⟩
    rw [← ht] at HD hff
    have HFF := Lib.hid hff
    have hb3 : Below w2.heap.size w2 (w2.alloc (.cells #[.int .i64 first, .string t] 33)) := (Below.refl _ _).alloc (Nat.le_refl _) _
    have hb13 := hb12.trans (hb3.mono hb12.size)
    have HDD := Lib.hid (HD.out _ hb13)
    have HB3 := Lib.hid hb13
    have HK3 := Lib.hid (k2.below hb3 k2.lt)
    have HK4 := Lib.hid (Blk.made w2 33 #[.int .i64 first, .string t])
    clear hb2 k2 hb12 hff hb3 hb13 HD HW HF HK HB1 HB2 HK2
    rw [show (⟨(EV.L ⟨0, Wa, WL⟩).toArray⟩ : ByteArray) = t from ht.symm]
    clear ht
    go_wp2_with fail
    refine HDD.out.mono ?_
    rintro x w4 ⟨A4, e4, rfl, _, he4, hb4⟩
    simp only at he4
    obtain ⟨c, hc⟩ : ∃ c, c = qp.cells A4 := ⟨_, rfl⟩
    rw [show Pk.agg (qe, qp).2 A4 = .agg c from by rw [hc]; rfl]
    have hcs : c.size = 26 := by rw [hc]; rfl
    have hst := st_pkt w4 c hcs (by rw [hc]; exact pk_one _ _)
    have hst2 := st_pktc w4 c hcs (by rw [hc]; exact pk_one _ _)
    clear hc
    have hb5 : Below w4.heap.size w4 (w4.alloc (.cells c 29)) := (Below.refl _ _).alloc (Nat.le_refl _) _
    have k3 := (HK3.out.below hb4 HK3.out.lt).below hb5 (HK3.out.below hb4 HK3.out.lt).lt
    have k4 := (HK4.out.below hb4 HK4.out.lt).below hb5 (HK4.out.below hb4 HK4.out.lt).lt
    have hb15 := (HB3.out.trans (hb4.mono HB3.out.size)).trans (hb5.mono (HB3.out.trans (hb4.mono HB3.out.size)).size)
    have c0 := k4.cell 0
    have c1 := k4.cell 1
    have h2 : ∀ {a b : Value}, (#[a, b] : Array Value)[0]? = some a ∧ (#[a, b] : Array Value)[1]? = some b := ⟨rfl, rfl⟩
    rw [h2.1] at c0
    rw [h2.2] at c1
    clear h2
    by_cases hq0 : qe.no = 0
    · have hff := HFF.out
      rw [if_pos hq0] at hff
      unfold ErrOf at he4
      rw [if_pos hq0] at he4
      subst he4
      obtain ⟨⟨z0, z1, y0, y1⟩, ⟨z2, y2⟩, ⟨f0, f1⟩, _⟩ := fr_facts (S := S) k3 (.int .i64 first) (.string t)
      have hbf := (hb15.setCell (p := ⟨w.heap.size, 0, none⟩) (Nat.le_refl _) (.int .i64 first)).setCell (p := ⟨w.heap.size, 1, none⟩) (Nat.le_refl _) (.string t)
      have HX := Lib.hid (show ∀ W, Below w.heap.size w W → FrSays w S f (.returned (.tuple #[.agg #[.int .i64 first, .string t], .nilIface])) W from fun W hb => by
        rw [hff]
        exact ⟨_, rfl, ErrOf.none, hb⟩)
      have HBF := Lib.hid hbf
      clear hff hbf hb5 k3 k4 hb15 hb4 HDD HFF HB3 HK3 HK4
      go_wp2
      exact bodyPost_ret (v := .tuple #[.agg #[.int .i64 first, .string t], .nilIface]) (by simp [results, Tryz.results74, go_sem, f0, f1]) rfl (HX.out _ HBF.out)
    · have hff := HFF.out
      rw [if_neg hq0] at hff
      obtain ⟨t4, u4, rfl⟩ := err_iface he4 hq0
      obtain ⟨⟨z0, z1, y0, y1⟩, ⟨z2, y2⟩, ⟨f0, f1⟩, ferr⟩ := fr_facts (S := S) k3 (.int .i64 0) (.string ⟨#[]⟩)
      have hbf := (hb15.setCell (p := ⟨w.heap.size, 0, none⟩) (Nat.le_refl _) (.int .i64 0)).setCell (p := ⟨w.heap.size, 1, none⟩) (Nat.le_refl _) (.string ⟨#[]⟩)
      have hee := ferr _ _ _ _ (he4.later hb5)
      have HX := Lib.hid (show FrSays w S f (.returned (.tuple #[.agg #[.int .i64 0, .string ⟨#[]⟩], .iface t4 u4])) _ from by
        rw [hff]
        exact ⟨_, rfl, hee, hbf⟩)
      clear hff hbf hb5 k3 k4 hb15 hb4 he4 hee ferr HDD HFF HB3 HK3 HK4
      go_wp2
      exact bodyPost_ret (v := .tuple #[.agg #[.int .i64 0, .string ⟨#[]⟩], .iface t4 u4]) (by simp [results, Tryz.results74, go_sem, f0, f1]) rfl HX.out
  · rw [if_neg h0] at hff
    obtain ⟨t2, u2, rfl⟩ := err_iface he2 h0
    obtain ⟨⟨z0, z1, y0, y1⟩, ⟨z2, y2⟩, ⟨f0, f1⟩, ferr⟩ := fr_facts (S := S) k2 (.int .i64 0) (.string ⟨#[]⟩)
    have hbf := (hb12.setCell (p := ⟨w.heap.size, 0, none⟩) (Nat.le_refl _) (.int .i64 0)).setCell (p := ⟨w.heap.size, 1, none⟩) (Nat.le_refl _) (.string ⟨#[]⟩)
    have hee := ferr _ _ _ _ he2
    have HX := Lib.hid (show FrSays w S f (.returned (.tuple #[.agg #[.int .i64 0, .string ⟨#[]⟩], .iface t2 u2])) _ from by
      rw [hff]
      exact ⟨_, rfl, hee, hbf⟩)
    clear hb2 hb12 hff he2 hbf hee ferr k2 HD HW HF HK HB1 HB2 HK2
    go_wp2
    exact bodyPost_ret (v := .tuple #[.agg #[.int .i64 0, .string ⟨#[]⟩], .iface t2 u2]) (by simp [results, Tryz.results74, go_sem, f0, f1]) rfl HX.out
end
end Go.Proofs.YtgpdfmmbjnjpoaaGreatDoor
namespace Go.Proofs.YtgpdfmmbjnjpoaaGreatDoor
set_option maxRecDepth 100000
open Go.ChangeShapes Go.WideShapes Go.RowKit Go.Deep Go.Extern.Stop Go.Stop Go.Extern
theorem bits_q : ∀ f : Nat, f < 64 → bits BinOp.and IntKind.i64 ((f : Int) / 2) 3 = ((qosF f : Nat) : Int) := by decide +kernel
theorem bits_d : ∀ f : Nat, f < 64 → bits BinOp.and IntKind.i64 (f : Int) 8 = if dupF f then 8 else 0 := by decide +kernel
theorem bits_r : ∀ f : Nat, f < 64 → bits BinOp.and IntKind.i64 (f : Int) 1 = if retF f then 1 else 0 := by decide +kernel
def y10 (q : Nat) (rt dp : Bool) : Array Value := #[.int .i64 3, .int .i64 0, .int .i64 0, .slice none 0 0, .bool false, .int .i64 0, .string ⟨#[]⟩, .bool false, .string ⟨#[]⟩, .string ⟨#[]⟩, .int .i64 0, .bool false, .slice none 0 0, .bool false, .string ⟨#[]⟩, .bool false, .string ⟨#[]⟩, .bool false, .string ⟨#[]⟩, .string ⟨#[]⟩, .int .i64 q, .bool rt, .bool dp, .slice none 0 0, .slice none 0 0, .slice none 0 0]
theorem PkIn.ofP {w : World} {B : Nat} {id qos : Int} {L : PL} {t pay : ByteArray} {rt dp : Bool} {a : Option Addr} {c : Nat} (h : PIn w B a L) (hc : L.length ≤ c) : PkIn w B (paR a c) (pkP id L t pay qos rt dp) :=
  ⟨h, hc, PIn.nil _ _ _, Nat.le_refl _, CIn.nil _ _ _ _, CIn.nil _ _ _ _, CIn.nil _ _ _ _⟩
section
variable {w w' : World} {S : Nat → Addr} {s : ByteArray}
set_option maxHeartbeats 8000000 in
theorem dec10_bad (hE : Env w S) (first : Int) (hbad : dcP first s = (⟨2, 129, 0⟩, pk0)) (hf : (first < 48 ∨ 63 < first) ∨ ∃ f : Nat, first = f ∧ f < 64 ∧ (qosF f = 3 ∨ (dupF f = true ∧ qosF f = 0))) : Calls Tryz.prog 32 #[.agg #[.int .i64 first, .string s]] w (DcSays w S (dcP first s)) := by
  rw [hbad]
  obtain ⟨z, hz⟩ : ∃ z, z = pk0.cells pa0 := ⟨_, rfl⟩
  have HZ := Lib.hid hz
  have HZS := Lib.hid (show z.size = 26 by rw [hz]; rfl)
  have HZ1 := Lib.hid (show z.all (·.oneCell') = true by rw [hz]; exact pk_one _ _)
  obtain ⟨W2, hW2⟩ : ∃ W, W = (w.alloc (.cells #[.int .i64 first, .string s] 33)).alloc (.cells z 29) := ⟨_, rfl⟩
  have a1 : Below w.heap.size w (w.alloc (.cells #[.int .i64 first, .string s] 33)) := (Below.refl _ _).alloc (Nat.le_refl _) _
  have hb2 : Below w.heap.size w W2 := by rw [hW2]; exact a1.trans (((Below.refl (w.alloc (.cells #[.int .i64 first, .string s] 33)).heap.size _).alloc (Nat.le_refl _) (.cells z 29)).mono a1.size)
  have r1 : Blk W2 (w.heap.size + 1) 29 z := by
    have h := Blk.made (w.alloc (.cells #[.int .i64 first, .string s] 33)) 29 z
    rw [World.size_alloc] at h
    rw [hW2]; exact h
  have f0 : W2.cell? ⟨w.heap.size, 0, none⟩ = some (.int .i64 first) := by
    have h := ((Blk.made w 33 #[.int .i64 first, .string s]).alloc (.cells z 29)).cell 0
    rw [hW2]; exact h
  have HB2 := Lib.hid hb2
  have R1 := Lib.hid r1
  have HMF := Lib.hid (fun (W : World) (h : Below w.heap.size w W) => mal10 (hE.later h))
  have HW2 := Lib.hid hW2
  clear hE hz a1 hb2 r1 hW2 hbad
  rcases hf with (h | h) | ⟨f, rfl, hf, h | ⟨h, h2⟩⟩
  case' inl.inl =>
    go_enter Tryz.func32, Tryz.ntmps32
    go_wp2_with (first | refine wpk_alloc HZ.out rfl rfl ?_)
    rw [← HW2.out]
    go_quiet (fail)
    go_wp2_with (first | refine wpk_build HZ.out rfl rfl ?_)
  case' inl.inr =>
    have h2 : ¬ first < 48 := by omega
    go_enter Tryz.func32, Tryz.ntmps32
    go_wp2_with (first | refine wpk_alloc HZ.out rfl rfl ?_)
    rw [← HW2.out]
    go_quiet (fail)
    go_wp2_with (first | refine wpk_build HZ.out rfl rfl ?_)
  case' inr.inl =>
    have hq := bits_q f hf
    rw [h] at hq
    replace hq : bits BinOp.and IntKind.i64 ((f : Int) / 2) 3 = 3 := hq
    go_enter Tryz.func32, Tryz.ntmps32
    go_wp2_with (first | refine wpk_alloc HZ.out rfl rfl ?_)
    rw [← HW2.out]
    by_cases h48 : (f : Int) < 48
    case' pos =>
      go_quiet (fail)
      go_wp2_with (first | refine wpk_build HZ.out rfl rfl ?_)
    case' neg =>
      have h63 : ¬ (63 : Int) < (f : Int) := by omega
      go_quiet (fail)
      go_wp2_with (first | refine wpk_build HZ.out rfl rfl ?_)
  case' inr.inr =>
    have hq := bits_q f hf
    rw [h2] at hq
    replace hq : bits BinOp.and IntKind.i64 ((f : Int) / 2) 3 = 0 := hq
    have hd := bits_d f hf
    rw [h, if_pos rfl] at hd
    go_enter Tryz.func32, Tryz.ntmps32
    go_wp2_with (first | refine wpk_alloc HZ.out rfl rfl ?_)
    rw [← HW2.out]
    by_cases h48 : (f : Int) < 48
    case' pos =>
      go_quiet (fail)
      go_wp2_with (first | refine wpk_build HZ.out rfl rfl ?_)
    case' neg =>
      have h63 : ¬ (63 : Int) < (f : Int) := by omega
      go_quiet (fail)
      go_wp2_with (first | refine wpk_build HZ.out rfl rfl ?_)
  all_goals
    have hd3 := below_drewN (Below.refl W2.heap.size W2) nq
    have hb3 := HB2.out.trans (hd3.mono HB2.out.size)
    have R3 := Lib.hid (R1.out.below hd3 R1.out.lt)
    have HB3 := Lib.hid hb3
    generalize W2.drewN nq = W3 at *
    clear hd3 hb3
    refine (HMF.out _ HB3.out).mono ?_
    rintro x w7 ⟨e, rfl, he, hb7⟩
    obtain ⟨te, ue, rfl⟩ := err_iface he (by decide)
    have r1 := R3.out.below hb7 R3.out.lt
    have hb := HB3.out.trans (hb7.mono HB3.out.size)
    have hbf := below_row hb (k := w.heap.size + 1) (by omega) z
    have r3 := setRow_blk r1 z
    have LD := Lib.hid (And.intro r3 HZS.out)
    have HX := Lib.hid (show DcSays w S (⟨2, 129, 0⟩, pk0) (.returned (.tuple #[.agg z, .iface te ue])) (w7.setRow (w.heap.size + 1) z) from DcSays.bad8 HZ.out rfl (err_row he r1 z) hbf)
    have HR1 := Lib.hid r1
    clear hb7 hb hbf r1 r3 he
    go_wp2_with (first | refine wpk_build HZ.out rfl rfl ?_ | refine wpk_store HR1.out HZS.out HZS.out HZ1.out _ _ rfl rfl rfl rfl ?_)
    exact bodyPost_ret (v := .tuple #[.agg z, .iface te ue]) (res_pkt (i := 2) (j := 3) rfl rfl rfl LD.out.1 LD.out.2) rfl HX.out
end
end Go.Proofs.YtgpdfmmbjnjpoaaGreatDoor
namespace Go.Proofs.YtgpdfmmbjnjpoaaGreatDoor
set_option maxRecDepth 100000
open Go.ChangeShapes Go.WideShapes Go.RowKit Go.Deep Go.Extern.Stop Go.Stop Go.Extern
section
variable {w w' : World} {S : Nat → Addr} {s : ByteArray}
set_option maxHeartbeats 16000000 in
theorem dec10_good (hE : Env w S) (f : Nat) (hm : mayF f = true) (hs : s.size ≤ 900000) : Calls Tryz.prog 32 #[.agg #[.int .i64 f, .string s]] w (DcSays w S (dcP2 s f (rText s ⟨0, 0, 0⟩).1 (rText s ⟨0, 0, 0⟩).2)) := by
  have hm' := hm
  unfold mayF at hm'
  simp only [Bool.and_eq_true, decide_eq_true_eq, Bool.not_eq_true', decide_eq_false_iff_not, Bool.and_eq_false_imp] at hm'
  obtain ⟨⟨⟨m1, m2⟩, m3⟩, m4⟩ := hm'
  have hbq := bits_q f (by omega)
  have hbd := bits_d f (by omega)
  have hbr := bits_r f (by omega)
  have hq4 := qosF_lt f
  obtain ⟨Q, hQ⟩ : ∃ Q, Q = dcP2 s f (rText s ⟨0, 0, 0⟩).1 (rText s ⟨0, 0, 0⟩).2 := ⟨_, rfl⟩
  rw [← hQ]
  unfold dcP2 dcP3 at hQ
  obtain ⟨q, hq⟩ : ∃ q, q = qosF f := ⟨_, rfl⟩
  obtain ⟨dp, hdp⟩ : ∃ d, d = dupF f := ⟨_, rfl⟩
  obtain ⟨rt, hrt⟩ : ∃ d, d = retF f := ⟨_, rfl⟩
  rw [← hq] at hQ hbq m3 m4 hq4
  rw [← hdp] at hQ hbd m4
  rw [← hrt] at hQ hbr
  obtain ⟨⟨t, R1⟩, ht⟩ : ∃ V, V = rText s ⟨0, 0, 0⟩ := ⟨_, rfl⟩
  rw [← ht] at hQ
  simp only at hQ
  obtain ⟨z, hz⟩ : ∃ z, z = pk0.cells pa0 := ⟨_, rfl⟩
  have HZ := Lib.hid hz
  have HZS := Lib.hid (show z.size = 26 by rw [hz]; rfl)
  have HZ1 := Lib.hid (show z.all (·.oneCell') = true by rw [hz]; exact pk_one _ _)
  obtain ⟨y0, hy0⟩ : ∃ y, y = y10 q rt dp := ⟨_, rfl⟩
  have HY0 := Lib.hid hy0
  have HYS := Lib.hid (show y0.size = 26 by rw [hy0]; rfl)
  have HY1 := Lib.hid (show y0.all (·.oneCell') = true by rw [hy0]; simp [y10, Value.oneCell'])
  obtain ⟨W2, hW2⟩ : ∃ W, W = (w.alloc (.cells #[.int .i64 f, .string s] 33)).alloc (.cells z 29) := ⟨_, rfl⟩
  have a1 : Below w.heap.size w (w.alloc (.cells #[.int .i64 f, .string s] 33)) := (Below.refl _ _).alloc (Nat.le_refl _) _
  have hb2 : Below w.heap.size w W2 := by rw [hW2]; exact a1.trans (((Below.refl (w.alloc (.cells #[.int .i64 f, .string s] 33)).heap.size _).alloc (Nat.le_refl _) (.cells z 29)).mono a1.size)
  have r0 : Blk W2 w.heap.size 33 #[.int .i64 f, .string s] := by
    rw [hW2]; exact (Blk.made w 33 #[.int .i64 f, .string s]).alloc (.cells z 29)
  have r1 : Blk W2 (w.heap.size + 1) 29 z := by
    have h := Blk.made (w.alloc (.cells #[.int .i64 f, .string s] 33)) 29 z
    rw [World.size_alloc] at h
    rw [hW2]; exact h
  have hsz : W2.heap.size = w.heap.size + 1 + 1 := by rw [hW2, World.size_alloc, World.size_alloc]
  have f0 : W2.cell? ⟨w.heap.size, 0, none⟩ = some (.int .i64 f) := r0.cell 0
  have f1 : W2.cell? ⟨w.heap.size, 1, none⟩ = some (.string s) := r0.cell 1
  have HB2 := Lib.hid hb2
  have R1' := Lib.hid r1
  have HW2 := Lib.hid hW2
  have HE := Lib.hid hE
  have HSZ := Lib.hid hs
  have HSZ2 := Lib.hid hsz
  have HQ := Lib.hid hQ
  have HT := Lib.hid ht
  have HQF := Lib.hid (show q = 0 ∨ q = 1 ∨ q = 2 by omega)
  have HM4 := Lib.hid m4
  have h48 : ¬ (f : Int) < 48 := by omega
  have h63 : ¬ (63 : Int) < (f : Int) := by omega
  clear hE hz hy0 a1 hb2 r0 r1 hW2 hs hsz hQ ht hq hdp hrt m1 m2 m3 m4 hq4 hm
  have R0' : True := trivial
  clear R0'
  by_cases hq0 : q = 0
  case pos =>
    subst hq0
    have hdp : dp = false := by
      cases dp
      · rfl
      · exact absurd rfl (HM4.out rfl)
    subst hdp
    have hQ := HQ.out
    rw [if_pos rfl] at hQ
    replace HQ := Lib.hid hQ
    replace hbq : bits BinOp.and IntKind.i64 ((f : Int) / 2) 3 = 0 := hbq
    replace hbd : bits BinOp.and IntKind.i64 (f : Int) 8 = 0 := hbd
    clear hQ HM4 HQF
    cases rt <;> (first
      | replace hbr : bits BinOp.and IntKind.i64 (f : Int) 1 = 0 := hbr
      | replace hbr : bits BinOp.and IntKind.i64 (f : Int) 1 = 1 := hbr)
    all_goals
      go_enter Tryz.func32, Tryz.ntmps32
      go_wp2_with (first | refine wpk_alloc HZ.out rfl rfl ?_)
      rw [← HW2.out]
      go_quiet (fail)
      have hd3 := below_drewN (Below.refl W2.heap.size W2) nq
      have hb3 := HB2.out.trans (hd3.mono HB2.out.size)
      have r3 := R1'.out.below hd3 R1'.out.lt
      have g0 : (W2.drewN nq).cell? ⟨w.heap.size, 0, none⟩ = some (.int .i64 f) := f0
      have g1 : (W2.drewN nq).cell? ⟨w.heap.size, 1, none⟩ = some (.string s) := f1
      have hs3 : (W2.drewN nq).heap.size = w.heap.size + 1 + 1 := HSZ2.out
      generalize W2.drewN nq = W3 at *
      have bk := Blk.made W3 29 y0
      have hb4 : Below W3.heap.size W3 (W3.alloc (.cells y0 29)) := (Below.refl _ _).alloc (Nat.le_refl _) _
      have g14 : (W3.alloc (.cells y0 29)).cell? ⟨w.heap.size, 1, none⟩ = some (.string s) := (World.cell?_of_block (hb4.block w.heap.size (by omega))).trans g1
      obtain ⟨W4, hW4⟩ : ∃ W, W = W3.alloc (.cells y0 29) := ⟨_, rfl⟩
      have hb5 : Below W4.heap.size W4 (W4.alloc (.cells #[.string s, .int .i64 0, .nilIface] 157)) := (Below.refl _ _).alloc (Nat.le_refl _) _
      rw [← hW4] at bk hb4
      have hb34 := hb3.trans (hb4.mono hb3.size)
      have r34 := r3.below hb4 r3.lt
      have HJ := Lib.hid (show DcJ w (W4.alloc (.cells #[.string s, .int .i64 0, .nilIface] 157)) S W4.heap.size s ⟨0, 0, 0⟩ z W3.heap.size y0 from
        ⟨⟨hb34.trans (hb5.mono hb34.size), r34.below hb5 r34.lt, RObj.made W4 S s, hb34.size⟩, bk.below hb5 bk.lt, by omega⟩)
      have HW4 := Lib.hid hW4
      have HK3 := Lib.hid hs3
      clear hd3 hb3 r3 hs3 bk hb4 hb5 hb34 r34 hW4 f0 f1 HB2 R1' HW2 HSZ2
      go_wp2_with (first | refine wpk_alloc HZ.out rfl rfl ?_ | refine wpk_store_new HZS.out (c := y0) HYS.out HY1.out _ _ rfl rfl rfl (by rw [HY0.out]; rfl) ?_)
      rw [← HW4.out]
      refine (rnew_any s W4).mono ?_
      rintro x w5 ⟨rfl, hw5⟩
      rw [← hw5] at HJ
      clear hw5 hbq hbd hbr h48 h63 g0 g1 g14
      have htx := rdtext_any (env_cl HE.out HJ.out.inn.bel HJ.out.inn.low) HJ.out.inn.rd HSZ.out
      rw [← HT.out] at htx
      have HTX := Lib.hid htx
      clear htx HT HW4
      go_wp2_with fail
      refine HTX.out.mono ?_
      rintro x w6 ⟨rfl, hn6⟩
      have hj6 := HJ.out.step hn6
      have c18 : w6.cell? ⟨W3.heap.size, 18, none⟩ = some (.string ⟨#[]⟩) := hj6.get (by rw [HY0.out]; rfl)
      have f18 := hj6.box.frozen 18
      have hj7 := hj6.cell 18 (.string t)
      obtain ⟨y1, hy1⟩ : ∃ y, y = y0.setIfInBounds 18 (.string t) := ⟨_, rfl⟩
      rw [← hy1] at hj7
      have HJ7 := Lib.hid hj7
      have HY1' := Lib.hid hy1
      clear hn6 hj6 hj7 hy1 HTX HJ
      go_wp2_with fail
      refine (has10 0 _).mono ?_
      rintro x wA ⟨rfl, rfl⟩
      have HQA := HQ
      obtain ⟨RA, hRA⟩ : ∃ R, R = R1 := ⟨_, rfl⟩
      rw [← hRA] at HQA HJ7
      clear hRA
      obtain ⟨yA, hyA⟩ : ∃ y, y = y1 := ⟨_, rfl⟩
      rw [← hyA] at HJ7
      have YA : yA = y0.setIfInBounds 18 (.string t) := by rw [hyA, HY1'.out]
      have HJA := HJ7
      clear hyA HJ7 HQ HY1'
      have hrd := pread_any HE.out HJA.out.inn.bel HJA.out.inn.low HJA.out.inn.rd HSZ.out 3
      have hno := readF_no (k := 3) (s := s) (R := RA)
      have hQ := HQA.out
      obtain ⟨⟨⟨qn, qr, qa, M⟩, R3⟩, hrq⟩ : ∃ V, V = readF 3 s RA := ⟨_, rfl⟩
      rw [← hrq] at hrd hno hQ
      simp only at hno hQ
      have HRD := Lib.hid hrd
      have HNO := Lib.hid hno
      have HQB := Lib.hid hQ
      clear hrd hno hrq hQ HQA
      go_wp2_with fail
      refine HRD.out.mono ?_
      rintro x wB ⟨vB, eB, rfl, hrB, heB, hnB⟩
      simp only at hrB heB hnB
      have hjB := HJA.out.step hnB
      obtain ⟨aB, nB, cB, rfl, hnnB, hccB⟩ := hrB.some_form
      have c3 : wB.cell? ⟨W3.heap.size, 3, none⟩ = some (.slice none 0 0) := hjB.get (by rw [YA, HY0.out]; rfl)
      have f3 := hjB.box.frozen 3
      have hjC := hjB.cell 3 (.slice aB nB cB)
      have hpB := hjB.pin (Nat.le_refl _) (hrB.pin (B' := w.heap.size)) 3 (.slice aB nB cB)
      have heC := hjB.err heB 3 (.slice aB nB cB)
      obtain ⟨yC, hyC⟩ : ∃ y, y = yA.setIfInBounds 3 (.slice aB nB cB) := ⟨_, rfl⟩
      rw [← hyC] at hjC
      have HJC := Lib.hid hjC
      have HYC := Lib.hid hyC
      have HPC := Lib.hid hpB
      have HEC := Lib.hid heC
      have HNN := Lib.hid hnnB
      have HCC := Lib.hid hccB
      clear hrB hnB hjB hjC hpB heC hyC hnnB hccB HRD HJA
      by_cases h2 : qn = 0
      · subst h2
        have hQ := HQB.out
        rw [if_pos rfl] at hQ
        unfold ErrOf at heB
        rw [if_pos rfl] at heB
        subst heB
        have hrs := rrest_any (HE.out.later HJC.out.inn.bel) HJC.out.inn.rd HSZ.out
        obtain ⟨⟨pay, R4⟩, hpay⟩ : ∃ V, V = rTake s (s.size - R3.p) R3 := ⟨_, rfl⟩
        rw [← hpay] at hrs hQ
        simp only at hQ
        have HRS := Lib.hid hrs
        have HQC := Lib.hid hQ
        clear hrs hpay hQ HQB HNO HEC
        go_wp2_with fail
        refine HRS.out.mono ?_
        rintro x wD ⟨rfl, hnD⟩
        have hpD := HPC.out.rnext HJC.out.inn.low HJC.out.inn.rd hnD
        have hjD := HJC.out.step hnD
        have c19 : wD.cell? ⟨W3.heap.size, 19, none⟩ = some (.string ⟨#[]⟩) := hjD.get (by rw [HYC.out, YA, HY0.out]; rfl)
        have f19 := hjD.box.frozen 19
        have hjE := hjD.cell 19 (.string pay)
        have hpE := hjD.pin (Nat.le_refl _) hpD 19 (.string pay)
        obtain ⟨yE, hyE⟩ : ∃ y, y = yC.setIfInBounds 19 (.string pay) := ⟨_, rfl⟩
        rw [← hyE] at hjE
        have eyE : yE = Q.2.cells (paR aB cB) := by
          rw [hyE, HYC.out, YA, HY0.out, HQC.out, HNN.out]; rfl
        have hX := hjE.inn.good (p := Q.2) (by rw [HQC.out]; exact PkIn.ofP hpE (by have := HNN.out; have := HCC.out; omega)) eyE
        rw [show (e00, Q.2) = Q from by rw [HQC.out]] at hX
        have HX := Lib.hid hX
        have HES := Lib.hid (show yE.size = 26 by rw [eyE]; rfl)
        have HE1 := Lib.hid (show yE.all (·.oneCell') = true by rw [eyE]; exact pk_one _ _)
        have HBX := Lib.hid hjE.box
        have HRX := Lib.hid hjE.inn.res
        clear hnD hpD hjD hjE hpE hyE eyE hX HRS HQC
        go_wp2_with (first | refine wpk_load HBX.out HES.out _ rfl rfl rfl ?_ | refine wpk_store HRX.out HZS.out HES.out HE1.out _ _ rfl rfl rfl rfl ?_)
        exact bodyPost_ret (v := .tuple #[.agg yE, .nilIface]) (res_pkt (i := 2) (j := 3) rfl rfl rfl HX.out.1 HES.out) rfl HX.out.2
      · have hQ := HQB.out
        rw [if_neg h2] at hQ
        obtain ⟨tB, uB, rfl⟩ := err_iface heB h2
        have hX := HJC.out.inn.bad HZ.out (q := Q) (by rw [hQ]) (e := .iface tB uB) (by rw [hQ]; exact HEC.out)
        have HRX := Lib.hid HJC.out.inn.res
        have HX := Lib.hid hX
        clear hX heB hQ HQB HNO
        go_wp2_with (first | refine wpk_build HZ.out rfl rfl ?_ | refine wpk_store HRX.out HZS.out HZS.out HZ1.out _ _ rfl rfl rfl rfl ?_)
        exact bodyPost_ret (v := .tuple #[.agg z, .iface tB uB]) (res_pkt (i := 2) (j := 3) rfl rfl rfl HX.out.1 HZS.out) rfl HX.out.2
  case neg =>
    have hQ := HQ.out
    rw [if_neg hq0] at hQ
    replace HQ := Lib.hid hQ
    have hq0i : ¬ (q : Int) = 0 := by omega
    have hq3i : ¬ (q : Int) = 3 := by have := HQF.out; omega
    have hq3b : ((q : Int) == 3) = false := beq_eq_false_iff_ne.2 hq3i
    have hq0b : ((q : Int) == 0) = false := beq_eq_false_iff_ne.2 hq0i
    clear hQ HM4
    cases dp <;> cases rt <;> (first
      | replace hbd : bits BinOp.and IntKind.i64 (f : Int) 8 = 0 := hbd
      | replace hbd : bits BinOp.and IntKind.i64 (f : Int) 8 = 8 := hbd) <;> (first
      | replace hbr : bits BinOp.and IntKind.i64 (f : Int) 1 = 0 := hbr
      | replace hbr : bits BinOp.and IntKind.i64 (f : Int) 1 = 1 := hbr)
    all_goals
      go_enter Tryz.func32, Tryz.ntmps32
      go_wp2_with (first | refine wpk_alloc HZ.out rfl rfl ?_)
      rw [← HW2.out]
      go_quiet (fail)
      have hd3 := below_drewN (Below.refl W2.heap.size W2) nq
      have hb3 := HB2.out.trans (hd3.mono HB2.out.size)
      have r3 := R1'.out.below hd3 R1'.out.lt
      have g0 : (W2.drewN nq).cell? ⟨w.heap.size, 0, none⟩ = some (.int .i64 f) := f0
      have g1 : (W2.drewN nq).cell? ⟨w.heap.size, 1, none⟩ = some (.string s) := f1
      have hs3 : (W2.drewN nq).heap.size = w.heap.size + 1 + 1 := HSZ2.out
      generalize W2.drewN nq = W3 at *
      have bk := Blk.made W3 29 y0
      have hb4 : Below W3.heap.size W3 (W3.alloc (.cells y0 29)) := (Below.refl _ _).alloc (Nat.le_refl _) _
      have g14 : (W3.alloc (.cells y0 29)).cell? ⟨w.heap.size, 1, none⟩ = some (.string s) := (World.cell?_of_block (hb4.block w.heap.size (by omega))).trans g1
      obtain ⟨W4, hW4⟩ : ∃ W, W = W3.alloc (.cells y0 29) := ⟨_, rfl⟩
      have hb5 : Below W4.heap.size W4 (W4.alloc (.cells #[.string s, .int .i64 0, .nilIface] 157)) := (Below.refl _ _).alloc (Nat.le_refl _) _
      rw [← hW4] at bk hb4
      have hb34 := hb3.trans (hb4.mono hb3.size)
      have r34 := r3.below hb4 r3.lt
      have HJ := Lib.hid (show DcJ w (W4.alloc (.cells #[.string s, .int .i64 0, .nilIface] 157)) S W4.heap.size s ⟨0, 0, 0⟩ z W3.heap.size y0 from
        ⟨⟨hb34.trans (hb5.mono hb34.size), r34.below hb5 r34.lt, RObj.made W4 S s, hb34.size⟩, bk.below hb5 bk.lt, by omega⟩)
      have HW4 := Lib.hid hW4
      have HK3 := Lib.hid hs3
      clear hd3 hb3 r3 hs3 bk hb4 hb5 hb34 r34 hW4 f0 f1 HB2 R1' HW2 HSZ2
      go_wp2_with (first | refine wpk_alloc HZ.out rfl rfl ?_ | refine wpk_store_new HZS.out (c := y0) HYS.out HY1.out _ _ rfl rfl rfl (by rw [HY0.out]; rfl) ?_)
      rw [← HW4.out]
      refine (rnew_any s W4).mono ?_
      rintro x w5 ⟨rfl, hw5⟩
      rw [← hw5] at HJ
      clear hw5 hbq hbd hbr h48 h63 g0 g1 g14
      have htx := rdtext_any (env_cl HE.out HJ.out.inn.bel HJ.out.inn.low) HJ.out.inn.rd HSZ.out
      rw [← HT.out] at htx
      have HTX := Lib.hid htx
      clear htx HT HW4
      go_wp2_with fail
      refine HTX.out.mono ?_
      rintro x w6 ⟨rfl, hn6⟩
      have hj6 := HJ.out.step hn6
      have c18 : w6.cell? ⟨W3.heap.size, 18, none⟩ = some (.string ⟨#[]⟩) := hj6.get (by rw [HY0.out]; rfl)
      have f18 := hj6.box.frozen 18
      have hj7 := hj6.cell 18 (.string t)
      obtain ⟨y1, hy1⟩ : ∃ y, y = y0.setIfInBounds 18 (.string t) := ⟨_, rfl⟩
      rw [← hy1] at hj7
      have HJ7 := Lib.hid hj7
      have HY1' := Lib.hid hy1
      clear hn6 hj6 hj7 hy1 HTX HJ
      go_wp2_with fail
      refine (has10 q _).mono ?_
      rintro x wA ⟨rfl, rfl⟩
      rw [show (decide ((q : Int) = 1) || decide ((q : Int) = 2)) = true from by have := HQF.out; rcases this with h | h | h <;> first | omega | (rw [h]; rfl)]
      have hid := id_any HE.out HJ7.out.inn.bel HJ7.out.inn.low HJ7.out.inn.rd HSZ.out
      unfold idR at hid
      have hQ := HQ.out
      obtain ⟨⟨id, RI⟩, hrn⟩ : ∃ V, V = rNum s 2 R1 := ⟨_, rfl⟩
      rw [← hrn] at hid hQ
      simp only at hid hQ
      obtain ⟨⟨ie, iv, iR⟩, hie⟩ : ∃ V : Er × Nat × RV, V = (if RI.no = 0 then if id = 0 then (⟨3, 130, R1.p⟩, 0, RI) else (e00, id, RI) else (⟨RI.no, 129, RI.ea⟩, 0, RI)) := ⟨_, rfl⟩
      rw [← hie] at hid
      have HID := Lib.hid hid
      have HIE := Lib.hid hie
      have HQI := Lib.hid hQ
      clear hid hQ hrn hie HQ
      go_wp2_with fail
      refine HID.out.mono ?_
      rintro x wI ⟨eI, rfl, heI, hnI⟩
      simp only at heI hnI
      have hjI := HJ7.out.step hnI
      have c1 : wI.cell? ⟨W3.heap.size, 1, none⟩ = some (.int .i64 0) := hjI.get (by rw [HY1'.out, HY0.out]; rfl)
      have f1 := hjI.box.frozen 1
      have hjA := hjI.cell 1 (.int .i64 iv)
      have heA := hjI.err heI 1 (.int .i64 iv)
      obtain ⟨yA, hyA⟩ : ∃ y, y = y1.setIfInBounds 1 (.int .i64 iv) := ⟨_, rfl⟩
      rw [← hyA] at hjA
      have YA : yA = (y0.setIfInBounds 18 (.string t)).setIfInBounds 1 (.int .i64 iv) := by rw [hyA, HY1'.out]
      have HJA := Lib.hid hjA
      have HEA := Lib.hid heA
      clear hnI hjI hjA heA hyA HID HJ7 HY1'
      have hie := HIE.out
      have hQ := HQI.out
      by_cases h0 : RI.no = 0 ∧ ¬ id = 0
      case neg =>
        have hie2 : ie.no ≠ 0 ∧ Q = (ie, pk0) := by
          by_cases hr : RI.no = 0
          · have h00 : id = 0 := by
              by_cases hh : id = 0
              · exact hh
              · exact absurd ⟨hr, hh⟩ h0
            rw [if_pos hr, if_pos h00] at hie hQ
            obtain ⟨e1, e2⟩ := Prod.mk.inj hie
            rw [e1]
            exact ⟨show (3 : Nat) ≠ 0 by decide, hQ⟩
          · rw [if_neg hr] at hie hQ
            obtain ⟨e1, e2⟩ := Prod.mk.inj hie
            rw [e1]
            exact ⟨hr, hQ⟩
        obtain ⟨tI, uI, rfl⟩ := err_iface heI hie2.1
        have hX := HJA.out.inn.bad HZ.out (q := Q) (by rw [hie2.2]) (e := .iface tI uI) (by rw [hie2.2]; exact HEA.out)
        have HRX := Lib.hid HJA.out.inn.res
        have HX := Lib.hid hX
        clear hX heI hQ hie hie2 HIE HQI YA HEA
        go_wp2_with (first | refine wpk_build HZ.out rfl rfl ?_ | refine wpk_store HRX.out HZS.out HZS.out HZ1.out _ _ rfl rfl rfl rfl ?_)
        exact bodyPost_ret (v := .tuple #[.agg z, .iface tI uI]) (res_pkt (i := 2) (j := 3) rfl rfl rfl HX.out.1 HZS.out) rfl HX.out.2
      case pos =>
        rw [if_pos h0.1, if_neg h0.2] at hie hQ
        obtain ⟨e1, e23⟩ := Prod.mk.inj hie
        obtain ⟨e2, e3⟩ := Prod.mk.inj e23
        subst e2 e3
        rw [e1] at heI
        obtain rfl : eI = .nilIface := by
          unfold ErrOf at heI
          rw [if_pos (show e00.no = 0 from rfl)] at heI
          exact heI
        have HQA := Lib.hid hQ
        obtain ⟨RA, hRA⟩ : ∃ R, R = iR := ⟨_, rfl⟩
        rw [← hRA] at HQA HJA
        clear hRA hie e1 e23 heI hQ h0 HIE HQI HEA
        have hrd := pread_any HE.out HJA.out.inn.bel HJA.out.inn.low HJA.out.inn.rd HSZ.out 3
        have hno := readF_no (k := 3) (s := s) (R := RA)
        have hQ := HQA.out
        obtain ⟨⟨⟨qn, qr, qa, M⟩, R3⟩, hrq⟩ : ∃ V, V = readF 3 s RA := ⟨_, rfl⟩
        rw [← hrq] at hrd hno hQ
        simp only at hno hQ
        have HRD := Lib.hid hrd
        have HNO := Lib.hid hno
        have HQB := Lib.hid hQ
        clear hrd hno hrq hQ HQA
        go_wp2_with fail
        refine HRD.out.mono ?_
        rintro x wB ⟨vB, eB, rfl, hrB, heB, hnB⟩
        simp only at hrB heB hnB
        have hjB := HJA.out.step hnB
        obtain ⟨aB, nB, cB, rfl, hnnB, hccB⟩ := hrB.some_form
        have c3 : wB.cell? ⟨W3.heap.size, 3, none⟩ = some (.slice none 0 0) := hjB.get (by rw [YA, HY0.out]; rfl)
        have f3 := hjB.box.frozen 3
        have hjC := hjB.cell 3 (.slice aB nB cB)
        have hpB := hjB.pin (Nat.le_refl _) (hrB.pin (B' := w.heap.size)) 3 (.slice aB nB cB)
        have heC := hjB.err heB 3 (.slice aB nB cB)
        obtain ⟨yC, hyC⟩ : ∃ y, y = yA.setIfInBounds 3 (.slice aB nB cB) := ⟨_, rfl⟩
        rw [← hyC] at hjC
        have HJC := Lib.hid hjC
        have HYC := Lib.hid hyC
        have HPC := Lib.hid hpB
        have HEC := Lib.hid heC
        have HNN := Lib.hid hnnB
        have HCC := Lib.hid hccB
        clear hrB hnB hjB hjC hpB heC hyC hnnB hccB HRD HJA
        by_cases h2 : qn = 0
        · subst h2
          have hQ := HQB.out
          rw [if_pos rfl] at hQ
          unfold ErrOf at heB
          rw [if_pos rfl] at heB
          subst heB
          have hrs := rrest_any (HE.out.later HJC.out.inn.bel) HJC.out.inn.rd HSZ.out
          obtain ⟨⟨pay, R4⟩, hpay⟩ : ∃ V, V = rTake s (s.size - R3.p) R3 := ⟨_, rfl⟩
          rw [← hpay] at hrs hQ
          simp only at hQ
          have HRS := Lib.hid hrs
          have HQC := Lib.hid hQ
          clear hrs hpay hQ HQB HNO HEC
          go_wp2_with fail
          refine HRS.out.mono ?_
          rintro x wD ⟨rfl, hnD⟩
          have hpD := HPC.out.rnext HJC.out.inn.low HJC.out.inn.rd hnD
          have hjD := HJC.out.step hnD
          have c19 : wD.cell? ⟨W3.heap.size, 19, none⟩ = some (.string ⟨#[]⟩) := hjD.get (by rw [HYC.out, YA, HY0.out]; rfl)
          have f19 := hjD.box.frozen 19
          have hjE := hjD.cell 19 (.string pay)
          have hpE := hjD.pin (Nat.le_refl _) hpD 19 (.string pay)
          obtain ⟨yE, hyE⟩ : ∃ y, y = yC.setIfInBounds 19 (.string pay) := ⟨_, rfl⟩
          rw [← hyE] at hjE
          have eyE : yE = Q.2.cells (paR aB cB) := by
            rw [hyE, HYC.out, YA, HY0.out, HQC.out, HNN.out]; rfl
          have hX := hjE.inn.good (p := Q.2) (by rw [HQC.out]; exact PkIn.ofP hpE (by have := HNN.out; have := HCC.out; omega)) eyE
          rw [show (e00, Q.2) = Q from by rw [HQC.out]] at hX
          have HX := Lib.hid hX
          have HES := Lib.hid (show yE.size = 26 by rw [eyE]; rfl)
          have HE1 := Lib.hid (show yE.all (·.oneCell') = true by rw [eyE]; exact pk_one _ _)
          have HBX := Lib.hid hjE.box
          have HRX := Lib.hid hjE.inn.res
          clear hnD hpD hjD hjE hpE hyE eyE hX HRS HQC
          go_wp2_with (first | refine wpk_load HBX.out HES.out _ rfl rfl rfl ?_ | refine wpk_store HRX.out HZS.out HES.out HE1.out _ _ rfl rfl rfl rfl ?_)
          exact bodyPost_ret (v := .tuple #[.agg yE, .nilIface]) (res_pkt (i := 2) (j := 3) rfl rfl rfl HX.out.1 HES.out) rfl HX.out.2
        · have hQ := HQB.out
          rw [if_neg h2] at hQ
          obtain ⟨tB, uB, rfl⟩ := err_iface heB h2
          have hX := HJC.out.inn.bad HZ.out (q := Q) (by rw [hQ]) (e := .iface tB uB) (by rw [hQ]; exact HEC.out)
          have HRX := Lib.hid HJC.out.inn.res
          have HX := Lib.hid hX
          clear hX heB hQ HQB HNO
          go_wp2_with (first | refine wpk_build HZ.out rfl rfl ?_ | refine wpk_store HRX.out HZS.out HZS.out HZ1.out _ _ rfl rfl rfl rfl ?_)
          exact bodyPost_ret (v := .tuple #[.agg z, .iface tB uB]) (res_pkt (i := 2) (j := 3) rfl rfl rfl HX.out.1 HZS.out) rfl HX.out.2
end
end Go.Proofs.YtgpdfmmbjnjpoaaGreatDoor
namespace Go.Proofs.YtgpdfmmbjnjpoaaGreatDoor
set_option maxRecDepth 100000
open Go.ChangeShapes Go.WideShapes Go.RowKit Go.Deep Go.Extern.Stop Go.Stop Go.Extern
def SmQ (p : Pk) : Prop := SmallP p.props ∧ p.topic.size ≤ 65535 ∧ p.payload.size ≤ 65535
theorem enP_backS {p : Pk} (h : SmQ p) (hno : (enP p).e.no = 0) : dcP (enP p).first (enP p).s = (e00, bareP p) := enP_back (small_mem h.1).1 (small_mem h.1).2 hno
theorem enP_lenS {p : Pk} (h : SmQ p) : (enP p).s.size ≤ 200000 := enP_len h.1 h.2.1 h.2.2
theorem bareP_ok {p : Pk} (h : SmQ p) : SmOk (bareP p) := ⟨rfl, by show (plL p.props).length ≤ 1000; rw [plL_len]; exact small_few h.1, Nat.zero_le _, Nat.zero_le _, Nat.zero_le _⟩
theorem deP_backS {first : Int} {s : ByteArray} (hss : s.size ≤ 2048) (h : (dcP first s).1.no = 0) : SmQ (dcP first s).2 ∧ (enP (dcP first s).2).e.no = 0 ∧ dcP (enP (dcP first s).2).first (enP (dcP first s).2).s = (e00, (dcP first s).2) ∧ SmOk (dcP first s).2 := by
  obtain ⟨⟨h1, ha, hb⟩, h2, h3⟩ := deP_back hss h
  obtain ⟨l1, l2, l3, l4⟩ := dcP_lists first s
  exact ⟨⟨h1, by omega, by omega⟩, h2, h3, l1, small_few h1, by rw [l2]; exact Nat.zero_le _, by rw [l3]; exact Nat.zero_le _, by rw [l4]; exact Nat.zero_le _⟩
section
variable {w w' : World} {S : Nat → Addr} {A : PkA} {p : Pk} {s : ByteArray}
theorem dec10 (hE : Env w S) (first : Int) (hs : s.size ≤ 900000) : Calls Tryz.prog 32 #[.agg #[.int .i64 first, .string s]] w (DcSays w S (dcP first s)) := by
  by_cases h1 : 48 ≤ first ∧ first ≤ 63
  · obtain ⟨f, rfl⟩ : ∃ f : Nat, first = f := ⟨first.toNat, by omega⟩
    by_cases hm : mayF f = true
    · have e : dcP f s = dcP2 s f (rText s ⟨0, 0, 0⟩).1 (rText s ⟨0, 0, 0⟩).2 := by
        unfold dcP dcP1
        rw [if_pos h1, Int.toNat_natCast, if_pos hm]
      rw [e]
      exact dec10_good hE f hm hs
    · refine dec10_bad hE _ ?_ (.inr ⟨f, rfl, by omega, ?_⟩)
      · unfold dcP dcP1
        rw [if_pos h1, Int.toNat_natCast, if_neg hm]
      · by_cases h3 : qosF f = 3
        · exact .inl h3
        · refine .inr ?_
          by_cases h4 : dupF f = true ∧ qosF f = 0
          · exact h4
          · exfalso
            apply hm
            unfold mayF
            have h5 : (dupF f && decide (qosF f = 0)) = false := by
              cases hd : dupF f
              · rfl
              · have : ¬ qosF f = 0 := fun hh => h4 ⟨hd, hh⟩
                rw [decide_eq_false this]
                rfl
            rw [h5, decide_eq_true (show 48 ≤ f by omega), decide_eq_true (show f ≤ 63 by omega), decide_eq_false h3]
            rfl
  · refine dec10_bad hE _ ?_ (.inl (by omega))
    unfold dcP
    rw [if_neg h1]
set_option maxHeartbeats 8000000 in
theorem enc10 (hE : Env w S) (h : PkIn w w.heap.size A p) (hS : SmQ p) : Calls Tryz.prog 31 #[p.agg A] w (FrSays w S (enP p)) := by
  obtain ⟨q, hq⟩ : ∃ q, q = enP p := ⟨_, rfl⟩
  rw [← hq]
  unfold enP at hq
  obtain ⟨c, hc⟩ : ∃ c, c = p.cells A := ⟨_, rfl⟩
  rw [show p.agg A = .agg c from by rw [hc]; rfl]
  have HCS := Lib.hid (show c.size = 26 by rw [hc]; rfl)
  have hc1 : c[1]? = some (.int .i64 p.id) := by rw [hc]; rfl
  have hc3 : c[3]? = some (.slice A.pa p.props.length A.pc) := by rw [hc]; rfl
  have hc18 : c[18]? = some (.string p.topic) := by rw [hc]; rfl
  have hc19 : c[19]? = some (.string p.payload) := by rw [hc]; rfl
  have hc20 : c[20]? = some (.int .i64 p.qos) := by rw [hc]; rfl
  obtain ⟨W2, hW2⟩ : ∃ W, W = (w.alloc (.cells c 29)).alloc (.cells #[.int .i64 0, .string ⟨#[]⟩] 33) := ⟨_, rfl⟩
  have a1 : Below w.heap.size w (w.alloc (.cells c 29)) := (Below.refl _ _).alloc (Nat.le_refl _) _
  have hb2 : Below w.heap.size w W2 := by rw [hW2]; exact a1.trans (((Below.refl (w.alloc (.cells c 29)).heap.size _).alloc (Nat.le_refl _) (.cells #[.int .i64 0, .string ⟨#[]⟩] 33)).mono a1.size)
  have r0 : Blk W2 w.heap.size 29 c := by
    rw [hW2]; exact (Blk.made w 29 c).alloc (.cells #[.int .i64 0, .string ⟨#[]⟩] 33)
  have r1 : Blk W2 (w.heap.size + 1) 33 #[.int .i64 0, .string ⟨#[]⟩] := by
    have h := Blk.made (w.alloc (.cells c 29)) 33 #[.int .i64 0, .string ⟨#[]⟩]
    rw [World.size_alloc] at h
    rw [hW2]; exact h
  have k20 : W2.cell? ⟨w.heap.size, 20, none⟩ = some (.int .i64 p.qos) := (r0.cell 20).trans hc20
  have k3 : W2.cell? ⟨w.heap.size, 3, none⟩ = some (.slice A.pa p.props.length A.pc) := (r0.cell 3).trans hc3
  have HMF := Lib.hid (mal10 (hE.later hb2))
  have HEC := Lib.hid (encode_any (hE.later hb2) 3 p.props.length A.pc rfl ((h.pr.below hb2).mono hb2.size) hS.1 h.pc)
  have HEL := Lib.hid (encR_len (k := 3) hS.1)
  have HSM := Lib.hid hS
  have HCE := Lib.hid hc
  have HC1 := Lib.hid hc1
  have HC18 := Lib.hid hc18
  have HC19 := Lib.hid hc19
  have HC20 := Lib.hid hc20
  have HW2 := Lib.hid hW2
  have HB2 := Lib.hid hb2
  have R0 := Lib.hid r0
  have R1 := Lib.hid r1
  have HE := Lib.hid hE
  have HQ := Lib.hid hq
  rw [hW2] at k20 k3
  clear hq hc hc1 hc3 hc18 hc19 hc20 a1 hb2 r0 r1 hE h hS hW2
  by_cases hqq : p.qos < 0 ∨ 3 < p.qos
  · have hq := HQ.out
    rw [if_pos hqq] at hq
    have HQ2 := Lib.hid hq
    have HR : ∀ (x : Value) (w3 : World) (e : Value), ErrOf w3 S 129 2 0 e → Below W2.heap.size W2 w3 → True := fun _ _ _ _ _ => trivial
    clear hq HR
    generalize p.qos = qs at *
    rcases hqq with h1 | h1
    case' inl =>
      go_enter Tryz.func31, Tryz.ntmps31
      go_wp2_with (refine wpk_box HCS.out _ rfl rfl rfl ?_)
    case' inr =>
      have h2 : ¬ qs < 0 := by omega
      go_enter Tryz.func31, Tryz.ntmps31
      go_wp2_with (refine wpk_box HCS.out _ rfl rfl rfl ?_)
    all_goals
      rw [← HW2.out]
      refine HMF.out.mono ?_
      rintro x w3 ⟨e, rfl, he, hb3⟩
      obtain ⟨te, ue, rfl⟩ := err_iface he (by decide)
      have r13 := R1.out.below hb3 R1.out.lt
      have hb := HB2.out.trans (hb3.mono HB2.out.size)
      obtain ⟨⟨z0, z1, y0, y1⟩, ⟨z2, y2⟩, ⟨f0, f1⟩, ferr⟩ := fr_facts (S := S) r13 (.int .i64 0) (.string ⟨#[]⟩)
      have hbf := (hb.setCell (p := ⟨w.heap.size + 1, 0, none⟩) (by show w.heap.size ≤ w.heap.size + 1; omega) (.int .i64 0)).setCell (p := ⟨w.heap.size + 1, 1, none⟩) (by show w.heap.size ≤ w.heap.size + 1; omega) (.string ⟨#[]⟩)
      have HX := Lib.hid (show FrSays w S q (.returned (.tuple #[.agg #[.int .i64 0, .string ⟨#[]⟩], .iface te ue])) _ from by
        rw [HQ2.out]
        exact ⟨_, rfl, ferr _ _ _ _ he, hbf⟩)
      clear ferr hbf he hb hb3 r13 k20 k3
      go_wp2
      exact bodyPost_ret (v := .tuple #[.agg #[.int .i64 0, .string ⟨#[]⟩], .iface te ue]) (by simp [results, Tryz.results31, go_sem, f0, f1]) rfl HX.out
  · have hq := HQ.out
    rw [if_neg hqq] at hq
    have hln := wrP_len HSM.out.1 HSM.out.2.1 HSM.out.2.2
    obtain ⟨qn, hqn⟩ : ∃ qn : Nat, p.qos = qn := ⟨p.qos.toNat, by omega⟩
    have hq4 : qn < 4 := by omega
    have hfo := fun W => fst10 A p qn hq4 hqn W
    rw [show p.agg A = .agg c from by rw [HCE.out]; rfl] at hfo
    obtain ⟨fb, hfb⟩ : ∃ fb, fb = fstP qn p.dup p.retain := ⟨_, rfl⟩
    rw [← hfb] at hfo
    rw [hqn, Int.toNat_natCast, ← hfb] at hq
    have HFB := Lib.hid (show fb ≤ 63 ∧ 48 ≤ fb by have := fst_cases qn hq4 p.dup p.retain; rw [hfb]; omega)
    unfold wrP at hq hln
    obtain ⟨⟨en, er, ea, eb⟩, hE2⟩ : ∃ E, E = encR 3 p.props := ⟨_, rfl⟩
    rw [← hE2] at hq hln
    have hec := HEC.out
    have hel := HEL.out
    rw [← hE2] at hec hel
    simp only at hec hel hq hln
    have HEC2 := Lib.hid hec
    have HEL2 := Lib.hid hel
    have HQ2 := Lib.hid hq
    have HLN := Lib.hid hln
    have HFO := Lib.hid hfo
    have HQN := Lib.hid hqn
    rw [hqn] at k20
    have HC20' := Lib.hid (show c[20]? = some (.int .i64 qn) by rw [HC20.out, hqn])
    have hqn0 : ¬ (qn : Int) < 0 := by omega
    have hqn3 : ¬ (3 : Int) < (qn : Int) := by omega
    have HID3 := Lib.hid hqn3
    clear hq hqq hec hel hE2 hln hfo hqn hfb HEC HEL HQ HMF HC20 HCE
    go_enter Tryz.func31, Tryz.ntmps31
    go_wp2_with (refine wpk_box HCS.out _ rfl rfl rfl ?_)
    rw [← HW2.out]
    refine HEC2.out.mono ?_
    rintro x w3 ⟨e3, rfl, he3, hb3⟩
    simp only at he3 ⊢
    have R03 := Lib.hid (R0.out.below hb3 R0.out.lt)
    have R13 := Lib.hid (R1.out.below hb3 R1.out.lt)
    have HB3 := Lib.hid (HB2.out.trans (hb3.mono HB2.out.size))
    clear k3 k20 HEC2 R0 R1 hb3 HB2 HW2 hqn0 hqn3
    by_cases h0 : en = 0
    · have hq := HQ2.out
      rw [if_pos h0] at hq
      unfold ErrOf at he3
      rw [if_pos h0] at he3
      subst he3
      have HQ3 := Lib.hid hq
      obtain ⟨W4, hW4⟩ : ∃ W, W = w3.alloc (.cells #[.slice none 0 0, .nilIface] 68) := ⟨_, rfl⟩
      have b4 : Below w3.heap.size w3 W4 := by rw [hW4]; exact (Below.refl _ _).alloc (Nat.le_refl _) _
      have ho : WObj W4 S w.heap.size w3.heap.size (.slice none 0 0) w0 := by rw [hW4]; exact WObj.made w3 S HB3.out.size
      have HB4 := Lib.hid (HB3.out.trans (b4.mono HB3.out.size))
      have r04 := R03.out.below b4 R03.out.lt
      have R04 := Lib.hid r04
      have R14 := Lib.hid (R13.out.below b4 R13.out.lt)
      have HO := Lib.hid ho
      have HTX := Lib.hid (wtext_any (HE.out.later HB4.out) ho (by decide) p.topic HSM.out.2.1)
      have k18 : (w3.alloc (.cells #[.slice none 0 0, .nilIface] 68)).cell? ⟨w.heap.size, 18, none⟩ = some (.string p.topic) := by rw [← hW4]; exact (r04.cell 18).trans HC18.out
      have HW4 := Lib.hid hW4
      clear hq b4 ho hW4 HQ2 r04 h0
      go_wp2_with fail
      rw [← HW4.out]
      refine HTX.out.mono ?_
      rintro x w5 ⟨rfl, v5, hn5⟩
      have r05 := hn5.blk HO.out R04.out (by decide) (by decide)
      have r15 := hn5.blk HO.out R14.out (by decide) (by decide)
      have hb5 := hn5.later HO.out HB4.out
      have k20 : w5.cell? ⟨w.heap.size, 20, none⟩ = some (.int .i64 qn) := (r05.cell 20).trans HC20'.out
      have hl1 : (stepW w0 (textE p.topic)).L.length ≤ 65537 := by
        have h1 := stepW_len w0 (textE p.topic)
        have h2 := textE_len p.topic
        have h3 : w0.L.length = 0 := rfl
        have := HSM.out.2.1
        omega
      have HL1 := Lib.hid hl1
      have HN5 := Lib.hid hn5
      have R05 := Lib.hid r05
      have R15 := Lib.hid r15
      have HB5 := Lib.hid hb5
      clear k18 HTX hn5 r05 r15 hb5 hl1 R04 R14 HB4 HW4
      go_wp2_with fail
      refine (has10 qn _).mono ?_
      rintro x w5' ⟨rfl, rfl⟩
      have hq := HQ3.out
      have hln := HLN.out
      unfold wrP0 at hq hln
      by_cases hi : p.qos = 1 ∨ p.qos = 2
      case' pos =>
        rw [if_pos hi] at hq hln
        have hi2 : (decide ((qn : Int) = 1) || decide ((qn : Int) = 2)) = true := by
          have := HQN.out
          rcases hi with hh | hh <;> rw [← this, hh] <;> rfl
        rw [hi2]
        have k1 : w5.cell? ⟨w.heap.size, 1, none⟩ = some (.int .i64 p.id) := (R05.out.cell 1).trans HC1.out
        have HU := Lib.hid (wu16_any (HE.out.later HB5.out) HN5.out.obj (by have := HL1.out; omega) p.id)
        clear hi hi2 k20
        go_wp2_with fail
        refine HU.out.mono ?_
        rintro x w6 ⟨rfl, v6, hn6⟩
        obtain ⟨V6, hV6⟩ : ∃ V, V = stepW (stepW w0 (textE p.topic)) (numE 2 p.id) := ⟨_, rfl⟩
        rw [← hV6] at hn6 hq hln
        have hl6 : V6.L.length ≤ 65540 := by
          have h1 := stepW_len (stepW w0 (textE p.topic)) (numE 2 p.id)
          have h2 := numE_len 2 p.id
          have := HL1.out
          rw [hV6]
          omega
        have R06 := Lib.hid (hn6.blk HN5.out.obj R05.out (by decide) (by decide))
        have R16 := Lib.hid (hn6.blk HN5.out.obj R15.out (by decide) (by decide))
        have HB6 := Lib.hid (hn6.later HN5.out.obj HB5.out)
        have HN6 := Lib.hid hn6.obj
        clear k1 HU hn6 hV6
      case' neg =>
        rw [if_neg hi] at hq hln
        have hi2 : (decide ((qn : Int) = 1) || decide ((qn : Int) = 2)) = false := by
          have := HQN.out
          rw [decide_eq_false (by omega), decide_eq_false (by omega)]
          rfl
        rw [hi2]
        obtain ⟨v6, hv6⟩ : ∃ v6, v6 = v5 := ⟨_, rfl⟩
        obtain ⟨w6, hw6⟩ : ∃ w6, w6 = w5 := ⟨_, rfl⟩
        obtain ⟨V6, hV6⟩ : ∃ V, V = stepW w0 (textE p.topic) := ⟨_, rfl⟩
        rw [← hV6] at hq hln
        have hl6 : V6.L.length ≤ 65540 := by
          have := HL1.out
          rw [hV6]
          omega
        have R06 := Lib.hid (show Blk w6 w.heap.size 29 c by rw [hw6]; exact R05.out)
        have R16 := Lib.hid (show Blk w6 (w.heap.size + 1) 33 #[.int .i64 0, .string ⟨#[]⟩] by rw [hw6]; exact R15.out)
        have HB6 := Lib.hid (show Below w.heap.size w w6 by rw [hw6]; exact HB5.out)
        have HN6 := Lib.hid (show WObj w6 S w.heap.size w3.heap.size v6 V6 by rw [hw6, hv6, hV6]; exact HN5.out.obj)
        rw [← hw6]
        clear hi hi2 k20 hw6 hv6 hV6
      all_goals
        have HL6 := Lib.hid hl6
        have HQ4 := Lib.hid hq
        have HLN2 := Lib.hid hln
        have HRW := Lib.hid (wraw_any HN6.out (by omega) ⟨eb.toArray⟩ (by rw [bsize]; have := HEL2.out; omega))
        clear hq hln hl6 HQ3 HLN HN5 HB5 R05 R15
        go_wp2_with fail
        refine HRW.out.mono ?_
        rintro x w7 ⟨rfl, v7, hn7⟩
        have r07 := hn7.blk HN6.out R06.out (by decide) (by decide)
        have R07 := Lib.hid r07
        have R17 := Lib.hid (hn7.blk HN6.out R16.out (by decide) (by decide))
        have HB7 := Lib.hid (hn7.later HN6.out HB6.out)
        have k19 : w7.cell? ⟨w.heap.size, 19, none⟩ = some (.string p.payload) := (r07.cell 19).trans HC19.out
        obtain ⟨V7, hV7⟩ : ∃ V, V = stepW V6 ⟨0, 0, eb⟩ := ⟨_, rfl⟩
        rw [← hV7] at hn7
        have hq := HQ4.out
        have hln := HLN2.out
        rw [← hV7] at hq hln
        have hl7 : V7.L.length ≤ 140000 := by
          have h1 := stepW_len V6 ⟨0, 0, eb⟩
          have := HL6.out
          have := HEL2.out
          rw [hV7]
          simp only at h1
          omega
        have HPW := Lib.hid (wraw_any hn7.obj (by omega) p.payload HSM.out.2.2)
        have HN7 := Lib.hid hn7.obj
        have HQ5 := Lib.hid hq
        have HLN3 := Lib.hid hln
        clear hn7 r07 hV7 hq hln hl7 HRW HN6 HB6 R06 R16 HQ4 HLN2 HL6 HL1
        go_wp2_with fail
        refine HPW.out.mono ?_
        rintro x w8 ⟨rfl, v8, hn8⟩
        have R08 := Lib.hid (hn8.blk HN7.out R07.out (by decide) (by decide))
        have R18 := Lib.hid (hn8.blk HN7.out R17.out (by decide) (by decide))
        have HB8 := Lib.hid (hn8.later HN7.out HB7.out)
        obtain ⟨V8, hV8⟩ : ∃ V, V = stepW V7 ⟨0, 0, p.payload.data.toList⟩ := ⟨_, rfl⟩
        rw [← hV8] at hn8
        have hq := HQ5.out
        have hln := HLN3.out
        rw [← hV8] at hq hln
        have HN8 := Lib.hid hn8.obj
        have HQ6 := Lib.hid hq
        have HLN4 := Lib.hid hln
        clear k19 hn8 hV8 hq hln HPW HN7 HB7 R07 R17 HQ5 HLN3
        go_wp2_with (refine wpk_load R08.out HCS.out _ rfl rfl rfl ?_)
        refine (HFO.out w8).mono ?_
        rintro x w9 ⟨rfl, hb9⟩
        have hb89 := HB8.out.trans (hb9.mono HB8.out.size)
        have HFA := Lib.hid (frame_any10 fb (HN8.out.below hb9) (fun W1 hb => dec10 (HE.out.later (hb89.trans (hb.mono hb89.size))) fb (show (⟨V8.L.toArray⟩ : ByteArray).size ≤ 900000 from by rw [bsize]; have := HLN4.out; omega)))
        rw [← HQ6.out] at HFA
        have HB9 := Lib.hid hb89
        have R19 := Lib.hid (R18.out.below hb9 R18.out.lt)
        clear hb9 hb89 HQ6 HLN4 HN8 R08 R18
        go_wp2_with fail
        refine HFA.out.mono ?_
        rintro x wA ⟨e8, rfl, he8, hb8⟩
        have r1 := R19.out.below hb8 R19.out.lt
        have hb := HB9.out.trans (hb8.mono HB9.out.size)
        obtain ⟨⟨z0, z1, y0, y1⟩, ⟨z2, y2⟩, ⟨f0, f1⟩, ferr⟩ := fr_facts (S := S) r1 (.int .i64 q.first) (.string q.s)
        have hbf := (hb.setCell (p := ⟨w.heap.size + 1, 0, none⟩) (by show w.heap.size ≤ w.heap.size + 1; omega) (.int .i64 q.first)).setCell (p := ⟨w.heap.size + 1, 1, none⟩) (by show w.heap.size ≤ w.heap.size + 1; omega) (.string q.s)
        have HX := Lib.hid (show FrSays w S q (.returned (.tuple #[.agg #[.int .i64 q.first, .string q.s], e8])) _ from ⟨e8, rfl, ferr _ _ _ _ he8, hbf⟩)
        clear hb8 r1 hb ferr hbf he8 HFA
        go_wp2
        exact bodyPost_ret (v := .tuple #[.agg #[.int .i64 q.first, .string q.s], e8]) (by simp [results, Tryz.results31, go_sem, f0, f1]) rfl HX.out
    · have hq := HQ2.out
      rw [if_neg h0] at hq
      obtain ⟨te, ue, rfl⟩ := err_iface he3 h0
      obtain ⟨⟨z0, z1, y0, y1⟩, ⟨z2, y2⟩, ⟨f0, f1⟩, ferr⟩ := fr_facts (S := S) R13.out (.int .i64 0) (.string ⟨#[]⟩)
      have hbf := (HB3.out.setCell (p := ⟨w.heap.size + 1, 0, none⟩) (by show w.heap.size ≤ w.heap.size + 1; omega) (.int .i64 0)).setCell (p := ⟨w.heap.size + 1, 1, none⟩) (by show w.heap.size ≤ w.heap.size + 1; omega) (.string ⟨#[]⟩)
      have HX := Lib.hid (show FrSays w S q (.returned (.tuple #[.agg #[.int .i64 0, .string ⟨#[]⟩], .iface te ue])) _ from by
        rw [hq]
        exact ⟨_, rfl, ferr _ _ _ _ he3, hbf⟩)
      clear ferr hbf he3 hq
      go_wp2
      exact bodyPost_ret (v := .tuple #[.agg #[.int .i64 0, .string ⟨#[]⟩], .iface te ue]) (by simp [results, Tryz.results31, go_sem, f0, f1]) rfl HX.out
end
end Go.Proofs.YtgpdfmmbjnjpoaaGreatDoor
namespace Go.Proofs.YtgpdfmmbjnjpoaaGreatDoor
set_option maxRecDepth 100000
open Go.ChangeShapes Go.WideShapes Go.RowKit Go.Deep Go.Extern.Stop Go.Stop Go.Extern
section
variable {w w' : World} {A : PkA} {p : Pk}
set_option maxHeartbeats 16000000 in
theorem bare10 {B : Nat} (h : PkIn w B A p) (_hBw : B ≤ w.heap.size) (hS : SmQ p) : Calls Tryz.prog 33 #[p.agg A] w (BrSays w (bareP p)) := by
  have hm : p.props.length ≤ 1000 := small_few hS.1
  obtain ⟨q, hq⟩ : ∃ q, q = bareP p := ⟨_, rfl⟩
  rw [← hq]
  unfold bareP at hq
  obtain ⟨z, hz⟩ : ∃ z, z = pk0.cells pa0 := ⟨_, rfl⟩
  have HZ := Lib.hid hz
  have HZS := Lib.hid (show z.size = 26 by rw [hz]; rfl)
  obtain ⟨c, hc⟩ : ∃ c, c = p.cells A := ⟨_, rfl⟩
  rw [show p.agg A = .agg c from by rw [hc]; rfl]
  have hcs : c.size = 26 := by rw [hc]; rfl
  have hc1 : c[1]? = some (.int .i64 p.id) := by rw [hc]; rfl
  have hc3 : c[3]? = some (.slice A.pa p.props.length A.pc) := by rw [hc]; rfl
  have hc18 : c[18]? = some (.string p.topic) := by rw [hc]; rfl
  have hc19 : c[19]? = some (.string p.payload) := by rw [hc]; rfl
  have hc20 : c[20]? = some (.int .i64 p.qos) := by rw [hc]; rfl
  have hc21 : c[21]? = some (.bool p.retain) := by rw [hc]; rfl
  have hc22 : c[22]? = some (.bool p.dup) := by rw [hc]; rfl
  have HCS := Lib.hid hcs
  have a1 : Below w.heap.size w (w.alloc (.cells c 29)) := (Below.refl _ _).alloc (Nat.le_refl _) _
  obtain ⟨W2, hW2⟩ : ∃ W, W = (w.alloc (.cells c 29)).alloc (.cells z 29) := ⟨_, rfl⟩
  have hb2 : Below w.heap.size w W2 := by rw [hW2]; exact a1.trans (((Below.refl (w.alloc (.cells c 29)).heap.size _).alloc (Nat.le_refl _) (.cells z 29)).mono a1.size)
  have r0 : Blk W2 w.heap.size 29 c := by rw [hW2]; exact (Blk.made w 29 c).alloc (.cells z 29)
  have r1 : Blk W2 (w.heap.size + 1) 29 z := by
    have h := Blk.made (w.alloc (.cells c 29)) 29 z
    rw [World.size_alloc] at h
    rw [hW2]; exact h
  have HI := Lib.hid (show BrIn w c W2 from ⟨hb2, r0, z, r1, HZS.out⟩)
  have HW2 := Lib.hid hW2
  have HP := Lib.hid h
  have HC1 := Lib.hid hc1
  have HC3 := Lib.hid hc3
  have HC18 := Lib.hid hc18
  have HC19 := Lib.hid hc19
  have HC20 := Lib.hid hc20
  have HC21 := Lib.hid hc21
  have HC22 := Lib.hid hc22
  have HQ := Lib.hid hq
  clear hz hc hcs hc1 hc3 hc18 hc19 hc20 hc21 hc22 a1 hb2 r0 r1 hW2 h hq
  obtain ⟨tp, htp⟩ : ∃ x, x = p.topic := ⟨_, rfl⟩
  rw [← htp] at HC18
  have HTP := Lib.hid htp
  clear htp
  obtain ⟨py, hpy⟩ : ∃ x, x = p.payload := ⟨_, rfl⟩
  rw [← hpy] at HC19
  have HPY := Lib.hid hpy
  clear hpy
  obtain ⟨qs, hqs⟩ : ∃ x, x = p.qos := ⟨_, rfl⟩
  rw [← hqs] at HC20
  have HQS := Lib.hid hqs
  clear hqs
  obtain ⟨rt, hrt⟩ : ∃ x, x = p.retain := ⟨_, rfl⟩
  rw [← hrt] at HC21
  have HRT := Lib.hid hrt
  clear hrt
  obtain ⟨dp, hdp⟩ : ∃ x, x = p.dup := ⟨_, rfl⟩
  rw [← hdp] at HC22
  have HDP := Lib.hid hdp
  clear hdp
  go_enter Tryz.func33, Tryz.ntmps33
  go_wp2_with (first | refine wpk_box HCS.out _ rfl rfl rfl ?_ | refine wpk_alloc HZ.out rfl rfl ?_)
  rw [← HW2.out]
  refine wp_region_held_drew (S := fun W => BrIn w c W) (by kernel_rfl) ?_ (fun hHeld => ?_)
  · first | exact HI.out | exact HI.out.drewN 1
  refine wpAnyH_take (i := 0) (oi := { dst := some 4, op := Op.fieldAddr 29 (Operand.tmp 1) 13, type := 0, pos := _, after := _, guard := none }) (v := .pointer (some ⟨w.heap.size, 18, none⟩)) rfl (by kernel_rfl) (by kernel_rfl) (by kernel_rfl) (fun _ _ _ h => h) (Or.inl ⟨by rfl, fun w' hs => ?_⟩) (by assumption) ?_
  · go_simp
  simp only [Act.put, List.setIfInBounds_toArray, List.set_cons_zero, List.set_cons_succ]
  refine wpAnyH_take (i := 1) (oi := { dst := some 5, op := Op.load 9 (Operand.tmp 4), type := 9, pos := _, after := _, guard := none }) (v := .string tp) rfl (by kernel_rfl) (by kernel_rfl) (by kernel_rfl) (fun _ _ _ h => h) (Or.inl ⟨by rfl, fun w' hs => ?_⟩) (by assumption) ?_
  · have hh : w'.cell? ⟨w.heap.size, 18, none⟩ = some (.string tp) := (hs.box.cell 18).trans HC18.out
    go_simp
  simp only [Act.put, List.setIfInBounds_toArray, List.set_cons_zero, List.set_cons_succ]
  refine wpAnyH_take (i := 2) (oi := { dst := some 6, op := Op.fieldAddr 29 (Operand.tmp 1) 15, type := 0, pos := _, after := _, guard := none }) (v := .pointer (some ⟨w.heap.size, 20, none⟩)) rfl (by kernel_rfl) (by kernel_rfl) (by kernel_rfl) (fun _ _ _ h => h) (Or.inl ⟨by rfl, fun w' hs => ?_⟩) (by assumption) ?_
  · go_simp
  simp only [Act.put, List.setIfInBounds_toArray, List.set_cons_zero, List.set_cons_succ]
  refine wpAnyH_take (i := 3) (oi := { dst := some 7, op := Op.load 3 (Operand.tmp 6), type := 3, pos := _, after := _, guard := none }) (v := .int .i64 qs) rfl (by kernel_rfl) (by kernel_rfl) (by kernel_rfl) (fun _ _ _ h => h) (Or.inl ⟨by rfl, fun w' hs => ?_⟩) (by assumption) ?_
  · have hh : w'.cell? ⟨w.heap.size, 20, none⟩ = some (.int .i64 qs) := (hs.box.cell 20).trans HC20.out
    go_simp
  simp only [Act.put, List.setIfInBounds_toArray, List.set_cons_zero, List.set_cons_succ]
  refine wpAnyH_take (i := 4) (oi := { dst := some 8, op := Op.fieldAddr 29 (Operand.tmp 1) 17, type := 0, pos := _, after := _, guard := none }) (v := .pointer (some ⟨w.heap.size, 22, none⟩)) rfl (by kernel_rfl) (by kernel_rfl) (by kernel_rfl) (fun _ _ _ h => h) (Or.inl ⟨by rfl, fun w' hs => ?_⟩) (by assumption) ?_
  · go_simp
  simp only [Act.put, List.setIfInBounds_toArray, List.set_cons_zero, List.set_cons_succ]
  refine wpAnyH_take (i := 5) (oi := { dst := some 9, op := Op.load 4 (Operand.tmp 8), type := 4, pos := _, after := _, guard := none }) (v := .bool dp) rfl (by kernel_rfl) (by kernel_rfl) (by kernel_rfl) (fun _ _ _ h => h) (Or.inl ⟨by rfl, fun w' hs => ?_⟩) (by assumption) ?_
  · have hh : w'.cell? ⟨w.heap.size, 22, none⟩ = some (.bool dp) := (hs.box.cell 22).trans HC22.out
    go_simp
  simp only [Act.put, List.setIfInBounds_toArray, List.set_cons_zero, List.set_cons_succ]
  refine wpAnyH_take (i := 6) (oi := { dst := some 10, op := Op.fieldAddr 29 (Operand.tmp 1) 16, type := 0, pos := _, after := _, guard := none }) (v := .pointer (some ⟨w.heap.size, 21, none⟩)) rfl (by kernel_rfl) (by kernel_rfl) (by kernel_rfl) (fun _ _ _ h => h) (Or.inl ⟨by rfl, fun w' hs => ?_⟩) (by assumption) ?_
  · go_simp
  simp only [Act.put, List.setIfInBounds_toArray, List.set_cons_zero, List.set_cons_succ]
  refine wpAnyH_take (i := 7) (oi := { dst := some 11, op := Op.load 4 (Operand.tmp 10), type := 4, pos := _, after := _, guard := none }) (v := .bool rt) rfl (by kernel_rfl) (by kernel_rfl) (by kernel_rfl) (fun _ _ _ h => h) (Or.inl ⟨by rfl, fun w' hs => ?_⟩) (by assumption) ?_
  · have hh : w'.cell? ⟨w.heap.size, 21, none⟩ = some (.bool rt) := (hs.box.cell 21).trans HC21.out
    go_simp
  simp only [Act.put, List.setIfInBounds_toArray, List.set_cons_zero, List.set_cons_succ]
  refine wpAnyH_take (i := 8) (oi := { dst := some 12, op := Op.fieldAddr 29 (Operand.tmp 1) 14, type := 0, pos := _, after := _, guard := none }) (v := .pointer (some ⟨w.heap.size, 19, none⟩)) rfl (by kernel_rfl) (by kernel_rfl) (by kernel_rfl) (fun _ _ _ h => h) (Or.inl ⟨by rfl, fun w' hs => ?_⟩) (by assumption) ?_
  · go_simp
  simp only [Act.put, List.setIfInBounds_toArray, List.set_cons_zero, List.set_cons_succ]
  refine wpAnyH_take (i := 9) (oi := { dst := some 13, op := Op.load 9 (Operand.tmp 12), type := 9, pos := _, after := _, guard := none }) (v := .string py) rfl (by kernel_rfl) (by kernel_rfl) (by kernel_rfl) (fun _ _ _ h => h) (Or.inl ⟨by rfl, fun w' hs => ?_⟩) (by assumption) ?_
  · have hh : w'.cell? ⟨w.heap.size, 19, none⟩ = some (.string py) := (hs.box.cell 19).trans HC19.out
    go_simp
  simp only [Act.put, List.setIfInBounds_toArray, List.set_cons_zero, List.set_cons_succ]
  refine wpAnyH_take (i := 10) (oi := { dst := some 14, op := Op.fieldAddr 29 (Operand.tmp 1) 3, type := 0, pos := _, after := _, guard := none }) (v := .pointer (some ⟨w.heap.size, 3, none⟩)) rfl (by kernel_rfl) (by kernel_rfl) (by kernel_rfl) (fun _ _ _ h => h) (Or.inl ⟨by rfl, fun w' hs => ?_⟩) (by assumption) ?_
  · go_simp
  simp only [Act.put, List.setIfInBounds_toArray, List.set_cons_zero, List.set_cons_succ]
  refine wpAnyH_take (i := 11) (oi := { dst := some 15, op := Op.load 22 (Operand.tmp 14), type := 22, pos := _, after := _, guard := none }) (v := .slice A.pa p.props.length A.pc) rfl (by kernel_rfl) (by kernel_rfl) (by kernel_rfl) (fun _ _ _ h => h) (Or.inl ⟨by rfl, fun w' hs => ?_⟩) (by assumption) ?_
  · have hh : w'.cell? ⟨w.heap.size, 3, none⟩ = some (.slice A.pa p.props.length A.pc) := (hs.box.cell 3).trans HC3.out
    go_simp
  simp only [Act.put, List.setIfInBounds_toArray, List.set_cons_zero, List.set_cons_succ]
  refine wpAnyH_ready (rs := [12, 14]) (by kernel_rfl) (by simp) ?_
  refine AllReadyH.cons (o := { dst := some 16, op := Op.call { callee := Callee.value (Operand.func 94), args := #[Operand.tmp 15], argTypes := #[22] }, type := 22, pos := _, after := _, guard := none }) rfl (fun K hK => ?_) (AllReadyH.cons (o := { dst := some 3, op := Op.alloc 29, type := 0, pos := _, after := _, guard := none }) rfl (fun K hK => ?_) AllReadyH.nil)
  case' refine_1 =>
    go_simp
    refine (rplain_any p.props.length A.pc rfl (HP.out.pr.below hHeld.bel) hm).mono ?_
    rintro x w5 ⟨a5, n5, c5, rfl, hn5, hr5, hb5⟩
    have hi5 := hHeld.below hb5
    have HR5 := Lib.hid hr5
    have HN5 := Lib.hid hn5
    clear hb5
    clear hn5 hr5
    go_wp2_with fail
    refine hK.out _ _ ?_ (fun hHeld6 => ?_)
    · exact hi5
    clear hK K
    try simp only [Act.put, List.setIfInBounds_toArray, List.set_cons_zero, List.set_cons_succ]
    refine wpAnyH_take (i := 13) (oi := { dst := some 17, op := Op.build 29 #[(0, Operand.const (Value.int IntKind.i64 3)), (13, Operand.tmp 5), (15, Operand.tmp 7), (17, Operand.tmp 9), (16, Operand.tmp 11), (14, Operand.tmp 13), (3, Operand.tmp 16)], type := 29, pos := _, after := _, guard := none }) (v := .agg #[.int .i64 3, .int .i64 0, .int .i64 0, .slice a5 n5 c5, .bool false, .int .i64 0, .string ⟨#[]⟩, .bool false, .string ⟨#[]⟩, .string ⟨#[]⟩, .int .i64 0, .bool false, .slice none 0 0, .bool false, .string ⟨#[]⟩, .bool false, .string ⟨#[]⟩, .bool false, .string tp, .string py, .int .i64 qs, .bool rt, .bool dp, .slice none 0 0, .slice none 0 0, .slice none 0 0]) rfl (by kernel_rfl) (by kernel_rfl) (by kernel_rfl) (fun _ _ _ h => h) (Or.inl ⟨by rfl, fun w' hs => ?_⟩) (by assumption) ?_
    · go_simp
    simp only [Act.put, List.setIfInBounds_toArray, List.set_cons_zero, List.set_cons_succ]
    refine wpAnyH_ready (rs := [14]) (by kernel_rfl) (by simp) ?_
    refine AllReadyH.cons (o := { dst := some 3, op := Op.alloc 29, type := 0, pos := _, after := _, guard := none }) rfl (fun K hK => ?_) AllReadyH.nil
    rw [if_pos (by kernel_rfl)]
    unfold Oper.wp execOp
    simp only [Instr.alloc, Sem.run_bind, zv_pkt, Result.andThen_ok, newVar, nr_pkt, Value.cells, Sem.run_pure]
    rw [← HZ.out]
    obtain ⟨k, hk, hk2, hi6, bk⟩ := hi5.made z
    refine hK _ _ ?_ (fun hHeld7 => ?_)
    · exact hi6
    clear hK K
    try simp only [Act.put, List.setIfInBounds_toArray, List.set_cons_zero, List.set_cons_succ]
    refine wpAnyH_ready (rs := [15]) (by kernel_rfl) (by simp) ?_
    refine AllReadyH.cons (o := { dst := none, op := Op.store 29 (Operand.tmp 3) (Operand.tmp 17), type := 0, pos := _, after := _, guard := none }) rfl (fun K hK => ?_) AllReadyH.nil
    rw [if_pos (by kernel_rfl)]
    obtain ⟨y, hy⟩ : ∃ y : Array Value, y = #[.int .i64 3, .int .i64 0, .int .i64 0, .slice a5 n5 c5, .bool false, .int .i64 0, .string ⟨#[]⟩, .bool false, .string ⟨#[]⟩, .string ⟨#[]⟩, .int .i64 0, .bool false, .slice none 0 0, .bool false, .string ⟨#[]⟩, .bool false, .string ⟨#[]⟩, .bool false, .string tp, .string py, .int .i64 qs, .bool rt, .bool dp, .slice none 0 0, .slice none 0 0, .slice none 0 0] := ⟨_, rfl⟩
    have hys : y.size = 26 := by rw [hy]; rfl
    have hy1 : y.all (·.oneCell') = true := by rw [hy]; simp [Value.oneCell']
    refine wp_store_row 29 (Operand.tmp 3) (Operand.tmp 17) rfl k y (by rw [hk]; rfl) (by rw [hy]; rfl) 29 z bk (by rw [hys]; exact ip_pkt) (by rw [HZS.out, hys]) hy1 ?_
    have hi8 := hi6.far hk2 y
    refine hK _ _ ?_ (fun hHeld8 => ?_)
    · exact hi8
    have r3 := setRow_blk bk y
    have hpi := ((HR5.out.pin (B' := w.heap.size)).below ((Below.refl _ _).alloc (Nat.le_refl _) (.cells z 29))).row bk (by omega) y
    have HIF := Lib.hid hi8
    have HRF := Lib.hid r3
    have HPF := Lib.hid hpi
    have HKF := Lib.hid hk2
    have HYF := Lib.hid hy
    refine wpAnyH_done (by kernel_rfl) ?_ _
    generalize hWF : World.setRow _ k y = WF at HIF HRF HPF ⊢
    first | rw [← hk] | rw [show W2.heap.size = k from hk.symm]
    clear hK K hpi r3 hi8 hi5 hHeld hHeld6 hHeld7 hHeld8 bk hi6 hk2 hWF hk hy
  case' refine_2 =>
    rw [if_pos (by kernel_rfl)]
    unfold Oper.wp execOp
    simp only [Instr.alloc, Sem.run_bind, zv_pkt, Result.andThen_ok, newVar, nr_pkt, Value.cells, Sem.run_pure]
    rw [← HZ.out]
    obtain ⟨k, hk, hk2, hi6, bk⟩ := hHeld.made z
    refine hK _ _ ?_ (fun hHeld7 => ?_)
    · exact hi6
    clear hK K
    try simp only [Act.put, List.setIfInBounds_toArray, List.set_cons_zero, List.set_cons_succ]
    refine wpAnyH_ready (rs := [12]) (by kernel_rfl) (by simp) ?_
    refine AllReadyH.cons (o := { dst := some 16, op := Op.call { callee := Callee.value (Operand.func 94), args := #[Operand.tmp 15], argTypes := #[22] }, type := 22, pos := _, after := _, guard := none }) rfl (fun K hK => ?_) AllReadyH.nil
    go_simp
    refine (rplain_any p.props.length A.pc rfl (HP.out.pr.below hi6.bel) hm).mono ?_
    rintro x w5 ⟨a5, n5, c5, rfl, hn5, hr5, hb5⟩
    have hi5 := hi6.below hb5
    have HR5 := Lib.hid hr5
    have HN5 := Lib.hid hn5
    have bk5 := bk.below hb5 bk.lt
    clear hb5
    clear hn5 hr5
    go_wp2_with fail
    refine hK.out _ _ ?_ (fun hHeld6 => ?_)
    · exact hi5
    clear hK K
    try simp only [Act.put, List.setIfInBounds_toArray, List.set_cons_zero, List.set_cons_succ]
    refine wpAnyH_take (i := 13) (oi := { dst := some 17, op := Op.build 29 #[(0, Operand.const (Value.int IntKind.i64 3)), (13, Operand.tmp 5), (15, Operand.tmp 7), (17, Operand.tmp 9), (16, Operand.tmp 11), (14, Operand.tmp 13), (3, Operand.tmp 16)], type := 29, pos := _, after := _, guard := none }) (v := .agg #[.int .i64 3, .int .i64 0, .int .i64 0, .slice a5 n5 c5, .bool false, .int .i64 0, .string ⟨#[]⟩, .bool false, .string ⟨#[]⟩, .string ⟨#[]⟩, .int .i64 0, .bool false, .slice none 0 0, .bool false, .string ⟨#[]⟩, .bool false, .string ⟨#[]⟩, .bool false, .string tp, .string py, .int .i64 qs, .bool rt, .bool dp, .slice none 0 0, .slice none 0 0, .slice none 0 0]) rfl (by kernel_rfl) (by kernel_rfl) (by kernel_rfl) (fun _ _ _ h => h) (Or.inl ⟨by rfl, fun w' hs => ?_⟩) (by assumption) ?_
    · go_simp
    simp only [Act.put, List.setIfInBounds_toArray, List.set_cons_zero, List.set_cons_succ]
    refine wpAnyH_ready (rs := [15]) (by kernel_rfl) (by simp) ?_
    refine AllReadyH.cons (o := { dst := none, op := Op.store 29 (Operand.tmp 3) (Operand.tmp 17), type := 0, pos := _, after := _, guard := none }) rfl (fun K hK => ?_) AllReadyH.nil
    rw [if_pos (by kernel_rfl)]
    obtain ⟨y, hy⟩ : ∃ y : Array Value, y = #[.int .i64 3, .int .i64 0, .int .i64 0, .slice a5 n5 c5, .bool false, .int .i64 0, .string ⟨#[]⟩, .bool false, .string ⟨#[]⟩, .string ⟨#[]⟩, .int .i64 0, .bool false, .slice none 0 0, .bool false, .string ⟨#[]⟩, .bool false, .string ⟨#[]⟩, .bool false, .string tp, .string py, .int .i64 qs, .bool rt, .bool dp, .slice none 0 0, .slice none 0 0, .slice none 0 0] := ⟨_, rfl⟩
    have hys : y.size = 26 := by rw [hy]; rfl
    have hy1 : y.all (·.oneCell') = true := by rw [hy]; simp [Value.oneCell']
    refine wp_store_row 29 (Operand.tmp 3) (Operand.tmp 17) rfl k y (by rw [hk]; rfl) (by rw [hy]; rfl) 29 z bk5 (by rw [hys]; exact ip_pkt) (by rw [HZS.out, hys]) hy1 ?_
    have hi8 := hi5.far hk2 y
    refine hK _ _ ?_ (fun hHeld8 => ?_)
    · exact hi8
    have r3 := setRow_blk bk5 y
    have hpi := (HR5.out.pin (B' := w.heap.size)).row bk5 (by omega) y
    have HIF := Lib.hid hi8
    have HRF := Lib.hid r3
    have HPF := Lib.hid hpi
    have HKF := Lib.hid hk2
    have HYF := Lib.hid hy
    refine wpAnyH_done (by kernel_rfl) ?_ _
    generalize hWF : World.setRow _ k y = WF at HIF HRF HPF ⊢
    first | rw [← hk] | rw [show W2.heap.size = k from hk.symm]
    clear hK K hpi r3 hi8 hi5 hHeld hHeld6 hHeld7 hHeld8 bk bk5 hi6 hk2 hWF hk hy
  all_goals
    have hlen : (plL p.props).length ≤ c5 := by
      obtain ⟨a', n', c', e', hn', hc'⟩ := HR5.out.some_form
      injection e' with e1 e2 e3
      omega
    have HLN := Lib.hid hlen
    have k20 : WF.cell? ⟨w.heap.size, 20, none⟩ = some (.int .i64 qs) := (HIF.out.box.cell 20).trans HC20.out
    clear hlen HI
    have hq := HQ.out
    rw [← HQS.out, ← HTP.out, ← HPY.out, ← HRT.out, ← HDP.out] at hq
    by_cases h0 : 0 < qs
    · rw [if_pos h0] at hq
      have k1 : WF.cell? ⟨w.heap.size, 1, none⟩ = some (.int .i64 p.id) := (HIF.out.box.cell 1).trans HC1.out
      have x1 : WF.cell? ⟨k, 1, none⟩ = some (.int .i64 0) := (HRF.out.cell 1).trans (by rw [HYF.out]; rfl)
      have f1 := HRF.out.frozen 1
      have hi9 := HIF.out.farc HKF.out 1 (.int .i64 p.id)
      have hr9 := HRF.out.store 1 (.int .i64 p.id)
      have hp9 := HPF.out.cell HRF.out (by have := HKF.out; omega) 1 (.int .i64 p.id)
      obtain ⟨y2, hy2⟩ : ∃ y2, y2 = y.setIfInBounds 1 (.int .i64 p.id) := ⟨_, rfl⟩
      rw [← hy2] at hr9
      have ey : y2 = q.cells (paR a5 c5) := by rw [hy2, HYF.out, hq, HN5.out]; rfl
      have hX := hi9.good (r := q) (A' := paR a5 c5) (by
        rw [hq]
        exact PkIn.ofP hp9 HLN.out) ey
      obtain ⟨o, ho, hos⟩ := hi9.res
      have HO := Lib.hid ho
      have HOS := Lib.hid hos
      have HX := Lib.hid hX
      have HBX := Lib.hid hr9
      have HYS := Lib.hid (show y2.size = 26 by rw [ey]; rfl)
      have HY1 := Lib.hid (show y2.all (·.oneCell') = true by rw [ey]; exact pk_one _ _)
      clear hi9 hr9 hp9 hy2 ey hX ho hos hq HPF HRF HIF
      go_wp2_with (first | refine wpk_load HBX.out HYS.out _ rfl rfl rfl ?_ | refine wpk_store HO.out HOS.out HYS.out HY1.out _ _ rfl rfl rfl rfl ?_)
      exact bodyPost_ret (v := .agg y2) (res_pkt1 (i := 2) rfl rfl HX.out.1 HYS.out) rfl HX.out.2
    · rw [if_neg h0] at hq
      have ey : y = q.cells (paR a5 c5) := by rw [HYF.out, hq, HN5.out]; rfl
      have hX := HIF.out.good (r := q) (A' := paR a5 c5) (by
        rw [hq]
        exact PkIn.ofP HPF.out HLN.out) ey
      obtain ⟨o, ho, hos⟩ := HIF.out.res
      have HO := Lib.hid ho
      have HOS := Lib.hid hos
      have HX := Lib.hid hX
      have HYS := Lib.hid (show y.size = 26 by rw [ey]; rfl)
      have HY1 := Lib.hid (show y.all (·.oneCell') = true by rw [ey]; exact pk_one _ _)
      clear ey hX ho hos hq
      go_wp2_with (first | refine wpk_load HRF.out HYS.out _ rfl rfl rfl ?_ | refine wpk_store HO.out HOS.out HYS.out HY1.out _ _ rfl rfl rfl rfl ?_)
      exact bodyPost_ret (v := .agg y) (res_pkt1 (i := 2) rfl rfl HX.out.1 HYS.out) rfl HX.out.2
end
end Go.Proofs.YtgpdfmmbjnjpoaaGreatDoor
namespace Go.Proofs.YtgpdfmmbjnjpoaaGreatDoor
set_option maxRecDepth 100000
open Go.ChangeShapes Go.WideShapes Go.RowKit Go.Deep Go.Extern.Stop Go.Stop Go.Extern
def awQ : Pk := pkP 7 [] ⟨#[116]⟩ ⟨#[120]⟩ 1 false false
theorem aw10_e : enP awQ = ⟨e00, 50, ⟨#[0, 1, 116, 0, 7, 0, 120]⟩⟩ := by kernel_rfl
theorem aw10_d : dcP 50 ⟨#[0, 1, 116, 0, 7, 0, 120]⟩ = (e00, awQ) := by kernel_rfl
theorem aw10_h : dcP 50 ⟨#[0, 1, 116, 0, 0, 0]⟩ = (⟨3, 130, 3⟩, pk0) := by kernel_rfl
theorem smQ_aw : SmQ awQ := ⟨small_of8 (fun p hp => by cases hp) (by decide) (by decide), by decide, by decide⟩
theorem okQ_aw : SmOk awQ := ⟨rfl, Nat.zero_le _, Nat.zero_le _, Nat.zero_le _, Nat.zero_le _⟩
section
variable {w w' : World} {S : Nat → Addr}
set_option maxHeartbeats 8000000 in
theorem awake10 (hE : EnvN w S) : Calls Tryz.prog 30 #[] w fun x w' => x = .returned (.bool true) ∧ Below w.heap.size w w' := by
  have HE := Lib.hid hE
  obtain ⟨z, hz⟩ : ∃ z, z = pk0.cells pa0 := ⟨_, rfl⟩
  have HZ := Lib.hid hz
  have HZS := Lib.hid (show z.size = 26 by rw [hz]; rfl)
  obtain ⟨c1, hc1⟩ : ∃ c, c = awQ.cells pa0 := ⟨_, rfl⟩
  have HC1 := Lib.hid hc1
  have HS1 := Lib.hid (show c1.size = 26 by rw [hc1]; rfl)
  have HO1 := Lib.hid (show c1.all (·.oneCell') = true by rw [hc1]; exact pk_one _ _)
  have b1 : Below w.heap.size w (w.alloc (.cells c1 29)) := (Below.refl _ _).alloc (Nat.le_refl _) _
  obtain ⟨W1, hW1⟩ : ∃ W, W = w.alloc (.cells c1 29) := ⟨_, rfl⟩
  rw [← hW1] at b1
  have hp1 : PkIn W1 W1.heap.size pa0 awQ := PkIn.ofP (a := none) (c := 0) (PIn.nil _ _ _) (Nat.le_refl _)
  have hen := enc10 (p := awQ) (A := pa0) (hE.env.later b1) hp1 smQ_aw
  rw [aw10_e, show awQ.agg pa0 = .agg c1 from by rw [hc1]; rfl] at hen
  have HEN := Lib.hid hen
  have HB1 := Lib.hid b1
  have HW1 := Lib.hid hW1
  have K1 := Lib.hid (show Blk W1 w.heap.size 29 c1 from by rw [hW1]; exact Blk.made w 29 c1)
  clear hE hz hc1 b1 hen hW1 hp1
  go_enter Tryz.func30, Tryz.ntmps30
  go_wp2_with (first | refine wpk_alloc HZ.out rfl rfl ?_ | refine wpk_store_new HZS.out (c := c1) HS1.out HO1.out _ _ rfl rfl rfl (by rw [HC1.out]; rfl) ?_ | refine wpk_load (Blk.made w 29 c1) HS1.out _ rfl rfl rfl ?_)
  rw [← HW1.out]
  refine HEN.out.mono ?_
  rintro x w2 ⟨e2, rfl, he2, hb2⟩
  obtain rfl := err_zero8 he2 rfl
  simp only
  obtain ⟨W2, hW2⟩ : ∃ W, W = w2.alloc (.cells #[.int .i64 50, .string ⟨#[0, 1, 116, 0, 7, 0, 120]⟩] 33) := ⟨_, rfl⟩
  have hb2' : Below w2.heap.size w2 W2 := by rw [hW2]; exact (Below.refl _ _).alloc (Nat.le_refl _) _
  have HB2 := Lib.hid ((HB1.out.trans (hb2.mono HB1.out.size)).trans (hb2'.mono (HB1.out.trans (hb2.mono HB1.out.size)).size))
  have K12 := Lib.hid ((K1.out.below hb2 K1.out.lt).below hb2' (K1.out.below hb2 K1.out.lt).lt)
  have K22 := Lib.hid (show Blk W2 w2.heap.size 33 #[.int .i64 50, .string ⟨#[0, 1, 116, 0, 7, 0, 120]⟩] from by rw [hW2]; exact Blk.made _ _ _)
  have hde := dec10 (HE.out.env.later HB2.out) (s := ⟨#[0, 1, 116, 0, 7, 0, 120]⟩) 50 (by decide)
  rw [aw10_d] at hde
  have HDE := Lib.hid hde
  have HW2 := Lib.hid hW2
  clear hb2 hb2' hde hW2 HEN HB1 K1
  go_wp2_with fail
  rw [← HW2.out]
  refine HDE.out.mono ?_
  rintro x w3 ⟨A3, e3, rfl, hp3, he3, hb3⟩
  obtain rfl := err_zero8 he3 rfl
  simp only at hp3 ⊢
  obtain ⟨c3, hc3⟩ : ∃ c, c = awQ.cells A3 := ⟨_, rfl⟩
  rw [show awQ.agg A3 = .agg c3 from by rw [hc3]; rfl]
  have HC3 := Lib.hid hc3
  have HS3 := Lib.hid (show c3.size = 26 by rw [hc3]; rfl)
  have HO3 := Lib.hid (show c3.all (·.oneCell') = true by rw [hc3]; exact pk_one _ _)
  obtain ⟨W3, hW3⟩ : ∃ W, W = w3.alloc (.cells c3 29) := ⟨_, rfl⟩
  have hb3' : Below w3.heap.size w3 W3 := by rw [hW3]; exact (Below.refl _ _).alloc (Nat.le_refl _) _
  have HB3 := Lib.hid ((HB2.out.trans (hb3.mono HB2.out.size)).trans (hb3'.mono (HB2.out.trans (hb3.mono HB2.out.size)).size))
  have K13 := Lib.hid ((K12.out.below hb3 K12.out.lt).below hb3' (K12.out.below hb3 K12.out.lt).lt)
  have K23 := Lib.hid ((K22.out.below hb3 K22.out.lt).below hb3' (K22.out.below hb3 K22.out.lt).lt)
  have K33 := Lib.hid (show Blk W3 w3.heap.size 29 c3 from by rw [hW3]; exact Blk.made _ _ _)
  have P3 := Lib.hid (hp3.below hb3')
  have hde := dec10 (HE.out.env.later HB3.out) (s := ⟨#[0, 1, 116, 0, 0, 0]⟩) 50 (by decide)
  rw [aw10_h] at hde
  have HDE := Lib.hid hde
  have HW3 := Lib.hid hW3
  clear hb3 hb3' hde hW3 hp3 HB2 K12 K22 hc3
  go_wp2_with (first | refine wpk_alloc HZ.out rfl rfl ?_ | refine wpk_store_new HZS.out (c := c3) HS3.out HO3.out _ _ rfl rfl rfl rfl ?_)
  rw [← HW3.out]
  refine HDE.out.mono ?_
  rintro x w5 ⟨A5, e5, rfl, hp5, he5, hb5⟩
  obtain ⟨t5, u5, rfl⟩ := err_iface he5 (show (3 : Nat) ≠ 0 by decide)
  simp only at he5 ⊢
  obtain ⟨c5, hc5⟩ : ∃ c, c = pk0.cells A5 := ⟨_, rfl⟩
  rw [show pk0.agg A5 = .agg c5 from by rw [hc5]; rfl]
  have HS5 := Lib.hid (show c5.size = 26 by rw [hc5]; rfl)
  have HO5 := Lib.hid (show c5.all (·.oneCell') = true by rw [hc5]; exact pk_one _ _)
  obtain ⟨W5, hW5⟩ : ∃ W, W = w5.alloc (.cells c5 29) := ⟨_, rfl⟩
  have hb5' : Below w5.heap.size w5 W5 := by rw [hW5]; exact (Below.refl _ _).alloc (Nat.le_refl _) _
  have HB5 := Lib.hid ((HB3.out.trans (hb5.mono HB3.out.size)).trans (hb5'.mono (HB3.out.trans (hb5.mono HB3.out.size)).size))
  have K15 := Lib.hid ((K13.out.below hb5 K13.out.lt).below hb5' (K13.out.below hb5 K13.out.lt).lt)
  have k25 := (K23.out.below hb5 K23.out.lt).below hb5' (K23.out.below hb5 K23.out.lt).lt
  have K35 := Lib.hid ((K33.out.below hb5 K33.out.lt).below hb5' (K33.out.below hb5 K33.out.lt).lt)
  have P5 := Lib.hid ((P3.out.below hb5).below hb5')
  have E5 := Lib.hid (he5.later hb5')
  have f0 : (w5.alloc (.cells c5 29)).cell? ⟨w2.heap.size, 0, none⟩ = some (.int .i64 50) := by rw [← hW5]; exact k25.cell 0
  have f1 : (w5.alloc (.cells c5 29)).cell? ⟨w2.heap.size, 1, none⟩ = some (.string ⟨#[0, 1, 116, 0, 7, 0, 120]⟩) := by rw [← hW5]; exact k25.cell 1
  have KX3 := Lib.hid (show Blk (w5.alloc (.cells c5 29)) w3.heap.size 29 c3 from by rw [← hW5]; exact K35.out)
  have KX1 := Lib.hid (show Blk (w5.alloc (.cells c5 29)) w.heap.size 29 c1 from by rw [← hW5]; exact K15.out)
  have hsm := same_ok (p := awQ) (A2 := pa0) P5.out (PkIn.ofP (a := none) (c := 0) (PIn.nil _ _ _) (Nat.le_refl _) : PkIn W5 W5.heap.size pa0 awQ) okQ_aw
  rw [show awQ.agg A3 = .agg c3 from by rw [HC3.out]; rfl, show awQ.agg pa0 = .agg c1 from by rw [HC1.out]; rfl] at hsm
  have HSM := Lib.hid hsm
  have HW5 := Lib.hid hW5
  clear hb5 hb5' hW5 hp5 he5 HB3 K13 K23 K33 P3 hc5 k25 hsm HDE
  go_wp2_with (first | refine wpk_alloc HZ.out rfl rfl ?_ | refine wpk_store_new HZS.out (c := c5) HS5.out HO5.out _ _ rfl rfl rfl rfl ?_ | refine wpk_load_g KX3.out HS3.out _ rfl rfl rfl ?_ | refine wpk_load_g KX1.out HS1.out _ rfl rfl rfl ?_)
  rw [← HW5.out]
  refine HSM.out.mono ?_
  rintro x w6 ⟨rfl, hb6⟩
  have HB6 := Lib.hid (HB5.out.trans (hb6.mono HB5.out.size))
  have HNO := Lib.hid (number_of (HE.out.later HB6.out) (E5.out.later hb6))
  have E6 := Lib.hid (E5.out.later hb6)
  clear hb6 f0 f1 HSM
  go_wp2_with fail
  refine HNO.out.mono ?_
  rintro x w6' ⟨rfl, hb6⟩
  have HB6' := Lib.hid (HB6.out.trans (hb6.mono HB6.out.size))
  have HAT := Lib.hid (at_err (HE.out.env.later HB6'.out) ((E6.out.later hb6).is (show (3 : Nat) ≠ 0 by decide)))
  clear hb6 HNO
  go_wp2_with fail
  refine HAT.out.mono ?_
  rintro x w7 ⟨rfl, hb7⟩
  have HB7 := Lib.hid (HB6'.out.trans (hb7.mono HB6'.out.size))
  clear hb7 HAT
  go_wp2_with fail
  go_ret
  exact ⟨rfl, HB7.out⟩
end
end Go.Proofs.YtgpdfmmbjnjpoaaGreatDoor
