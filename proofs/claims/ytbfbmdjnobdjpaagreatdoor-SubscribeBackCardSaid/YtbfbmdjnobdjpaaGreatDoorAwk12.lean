/- What is proved here, on plain values: what a Subscribe or a Suback is encoded to is decoded as it was, with nothing of what its kind has not; and what is decoded is encoded, and decoded, as it was. Conditions: few bytes. What is proved here: what making, storing and loading a whole subscription does, as laws for a walk; what the small functions of package subscribe tell. Conditions: the reader is there, with few bytes; what the rows list of the package's variables. What is proved here: a subscription is read. Conditions: the reader is there, with few bytes; what the rows list of the package's variables. What is proved here: parts that follow one another are read: subscriptions. Conditions: the reader is there, with few bytes; what the rows list of the package's variables. What is proved here: a frame that is decoded by subscribe.Decode. Conditions: the writer is there; what Decode tells. What is proved here: Decode of package subscribe tells what a plain function says. Conditions: few bytes; what the rows list of the package's variables. What is proved here: Encode of package subscribe tells what a plain function says. Conditions: few bytes, the packet's parts stand where it says; what the rows list of the package's variables. What is proved here: the document's Bare of a Subscribe or a Suback. Conditions: the packet's parts stand where it says, few of them. What is proved here: a packet with subscriptions is the same as itself, wherever its lists stand, to the document's function. Conditions: its lists stand where it says, few of them. What is proved here: what the statements of layer 12 hold awake. Condition: what the rows list of the package's variables. -/
import Derived.Test.YtbfbmdjnobdjpaaGreatDoorPar08
import Derived.Test.YtbfbmdjnobdjpaaGreatDoorCod13
import Derived.Test.YtbfbmdjnobdjpaaGreatDoorBra08
namespace Go.Proofs.YtbfbmdjnobdjpaaGreatDoor
set_option maxRecDepth 100000
open Go.RowKit Go.Extern.Stop Go.Stop Go.Extern
/-- The options of a subscription. -/
def opN (q : Nat) (nl ai : Bool) (r : Nat) : Nat := q + 16 * r + (if nl then 4 else 0) + (if ai then 8 else 0)
def opI (x : SV) : Int := if x.qos < 0 ∨ 3 < x.qos ∨ x.retain < 0 ∨ 3 < x.retain then -1 else ((opN x.qos.toNat x.noLocal x.asIs x.retain.toNat : Nat) : Int)
def svO (t : ByteArray) (n : Nat) : SV := ⟨t, (n % 4 : Nat), decide (n / 4 % 2 = 1), decide (n / 8 % 2 = 1), (n / 16 : Nat)⟩
/-- A subscription as a part. -/
def rdS (s : ByteArray) (R : RV) : Er × SV × RV :=
  if (rNum s 1 (rText s R).2).2.no = 0 then
    if 63 < (rNum s 1 (rText s R).2).1 then (⟨2, 129, (rText s R).2.p⟩, sv0, (rNum s 1 (rText s R).2).2)
    else if (rNum s 1 (rText s R).2).1 % 4 = 3 ∨ (rNum s 1 (rText s R).2).1 / 16 = 3 then (⟨3, 130, (rText s R).2.p⟩, sv0, (rNum s 1 (rText s R).2).2)
    else (e00, svO (rText s R).1 (rNum s 1 (rText s R).2).1, (rNum s 1 (rText s R).2).2)
  else (⟨(rNum s 1 (rText s R).2).2.no, 129, (rNum s 1 (rText s R).2).2.ea⟩, sv0, (rNum s 1 (rText s R).2).2)
def stS (W : EV) (x : SV) : EV := stepW (stepW W (textE x.filter)) (numE 1 (opI x))
def preS (x : SV) : Prop := (checkOf x.filter).1 = 0 ∧ ¬ (x.qos < 0 ∨ 3 < x.qos ∨ x.retain < 0 ∨ 3 < x.retain)
def postS (s : ByteArray) (x : SV) : Prop := preS x ∧ ¬ x.qos = 3 ∧ ¬ x.retain = 3 ∧ x.filter.size ≤ s.size
def byS8 (x : SV) : List UInt8 := (be 2 x.filter.size ++ x.filter.data.toList) ++ be 1 (opN x.qos.toNat x.noLocal x.asIs x.retain.toNat)
theorem op_cases : ∀ q, q < 4 → ∀ r, r < 4 → ∀ a b : Bool, opN q a b r < 64 ∧ opN q a b r % 4 = q ∧ opN q a b r / 16 = r ∧ decide (opN q a b r / 4 % 2 = 1) = a ∧ decide (opN q a b r / 8 % 2 = 1) = b := by decide +kernel
theorem op_back : ∀ n, n < 64 → opN (n % 4) (decide (n / 4 % 2 = 1)) (decide (n / 8 % 2 = 1)) (n / 16) = n := by decide +kernel
theorem pre_op {x : SV} (h : preS x) : opI x = ((opN x.qos.toNat x.noLocal x.asIs x.retain.toNat : Nat) : Int) ∧ opN x.qos.toNat x.noLocal x.asIs x.retain.toNat < 64 ∧ svO x.filter (opN x.qos.toNat x.noLocal x.asIs x.retain.toNat) = x ∧ opN x.qos.toNat x.noLocal x.asIs x.retain.toNat % 4 = x.qos.toNat ∧ opN x.qos.toNat x.noLocal x.asIs x.retain.toNat / 16 = x.retain.toNat := by
  obtain ⟨_, h2⟩ := h
  obtain ⟨c1, c2, c3, c4, c5⟩ := op_cases x.qos.toNat (by omega) x.retain.toNat (by omega) x.noLocal x.asIs
  refine ⟨by unfold opI; rw [if_neg h2], c1, ?_, c2, c3⟩
  unfold svO
  rw [c2, c3, c4, c5]
  obtain ⟨f, q, a, b, r⟩ := x
  simp only at h2 ⊢
  rw [show ((q.toNat : Nat) : Int) = q by omega, show ((r.toNat : Nat) : Int) = r by omega]
theorem partS (s : ByteArray) : PartK (rdS s) s stS byS8 preS (postS s) where
  st_no W x h := by
    unfold stS at h ⊢
    obtain ⟨h1, m, hm, hm2, hs⟩ := stepW_num_no h
    obtain ⟨h0, ht, hs1⟩ := stepW_text_no h1
    have hp : preS x := ⟨ht, fun hh => by
      unfold opI at hm
      rw [if_pos hh] at hm
      omega⟩
    refine ⟨h0, hp, ?_⟩
    obtain ⟨e1, e2, _⟩ := pre_op hp
    rw [e1] at hm
    obtain rfl : opN x.qos.toNat x.noLocal x.asIs x.retain.toNat = m := by omega
    rw [hs, hs1]
    unfold byS8
    rw [List.append_assoc]
  st_of W x h hp := by
    obtain ⟨e1, e2, _⟩ := pre_op hp
    unfold stS
    rw [stepW_text h hp.1, e1, stepW_num rfl (by omega)]
    unfold byS8
    rw [List.append_assoc]
  pos x := by
    unfold byS8
    rw [List.length_append, List.length_append, be_len]
    omega
  rd_of R x l hc hp h := by
    obtain ⟨e1, e2, e3, e4, e5⟩ := pre_op hp
    unfold byS8 at hc
    rw [List.append_assoc] at hc
    obtain ⟨R1, t1, _, c1⟩ := hc.text hp.1
    obtain ⟨R2, t2, _, c2⟩ := c1.num (k := 1) (n := opN x.qos.toNat x.noLocal x.asIs x.retain.toNat) (by omega)
    refine ⟨R2, ?_, c2⟩
    unfold rdS at h ⊢
    rw [t1] at h ⊢
    simp only at h ⊢
    rw [t2] at h ⊢
    simp only at h ⊢
    rw [if_pos c2.no, if_neg (by omega)] at h ⊢
    by_cases c : opN x.qos.toNat x.noLocal x.asIs x.retain.toNat % 4 = 3 ∨ opN x.qos.toNat x.noLocal x.asIs x.retain.toNat / 16 = 3
    · rw [if_pos c] at h
      exact absurd (show (3 : Nat) = 0 from h) (by decide)
    · rw [if_neg c, e3]
  rd_no R x l hc hp := by
    obtain ⟨e1, e2, e3, e4, e5⟩ := pre_op hp.1
    unfold byS8 at hc
    rw [List.append_assoc] at hc
    obtain ⟨R1, t1, _, c1⟩ := hc.text hp.1.1
    obtain ⟨R2, t2, _, c2⟩ := c1.num (k := 1) (n := opN x.qos.toNat x.noLocal x.asIs x.retain.toNat) (by omega)
    unfold rdS
    rw [t1]
    simp only
    rw [t2]
    simp only
    obtain ⟨h1, h2, h3, _⟩ := hp
    have h4 := h1.2
    rw [if_pos c2.no, if_neg (by omega), if_neg (by rw [e4, e5]; omega)]
    rfl
  of_rd R h0 hp h := by
    unfold rdS at h ⊢
    by_cases c : (rNum s 1 (rText s R).2).2.no = 0
    · rw [if_pos c] at h ⊢
      by_cases c1 : 63 < (rNum s 1 (rText s R).2).1
      · rw [if_pos c1] at h
        exact absurd (show (2 : Nat) = 0 from h) (by decide)
      · rw [if_neg c1] at h ⊢
        by_cases c2 : (rNum s 1 (rText s R).2).1 % 4 = 3 ∨ (rNum s 1 (rText s R).2).1 / 16 = 3
        · rw [if_pos c2] at h
          exact absurd (show (3 : Nat) = 0 from h) (by decide)
        · rw [if_neg c2]
          have ht : (rText s R).2.no = 0 := no_of c fun hh => by rw [rNum_stuck hh]
          obtain ⟨k1, k2, k3⟩ := rText_sz h0 (by omega) ht
          refine ⟨⟨⟨k1, ?_⟩, ?_, ?_, k2⟩, c, (rTake_le k3).1⟩
          · unfold svO; simp only; omega
          · unfold svO; simp only; omega
          · unfold svO; simp only; omega
    · rw [if_neg c] at h
      exact absurd h c
  pre_of x h := h.1
def kS (first : Int) : Int := if first = 130 then 8 else if first = 144 then 9 else 0
def fS (kind : Int) : Int := if kind = 8 then 130 else if kind = 9 then 144 else 0
theorem kS_of {first : Int} (h : ¬ kS first = 0) : (first = 130 ∧ kS first = 8) ∨ (first = 144 ∧ kS first = 9) := by
  unfold kS at h ⊢
  by_cases h1 : first = 130
  · exact .inl ⟨h1, by rw [if_pos h1]⟩
  · rw [if_neg h1] at h
    by_cases h2 : first = 144
    · exact .inr ⟨h2, by rw [if_neg h1, if_pos h2]⟩
    · rw [if_neg h2] at h
      exact absurd rfl h
theorem fS_of {kind : Int} (h : ¬ fS kind = 0) : (kind = 8 ∧ fS kind = 130 ∧ kS (fS kind) = 8) ∨ (kind = 9 ∧ fS kind = 144 ∧ kS (fS kind) = 9) := by
  unfold fS at h ⊢
  by_cases h1 : kind = 8
  · subst h1; exact .inl ⟨rfl, rfl, rfl⟩
  · rw [if_neg h1] at h
    by_cases h2 : kind = 9
    · subst h2; exact .inr ⟨rfl, rfl, rfl⟩
    · rw [if_neg h2] at h
      exact absurd rfl h
def dcS_a (t : TH) (q : Er × List SV) : Er × Pk := if q.1.no = 0 then (e00, pkS 8 t.id t.L q.2 [] []) else (q.1, pk0)
def dcS_b (t : TH) (q : Er × List Int) : Er × Pk := if q.1.no = 0 then (e00, pkS 9 t.id t.L [] [] q.2) else (q.1, pk0)
/-- What Decode tells of any bytes. -/
def dcS (first : Int) (s : ByteArray) : Er × Pk :=
  if kS first = 0 then (⟨2, 129, 0⟩, pk0)
  else if (thF (kS first) s).e.no = 0 then
    if kS first = 8 then dcS_a (thF 8 s) (ptL (rdS s) s 32 [] (thF 8 s).R) else dcS_b (thF 9 s) (ptL (rdC 9 s) s 32 [] (thF 9 s).R)
  else ((thF (kS first) s).e, pk0)
def wrS (p : Pk) : EV := if p.kind = 8 then p.subs.foldl stS (phW p) else p.codes.foldl stC (phW p)
/-- What Encode tells of any packet. -/
def enS (p : Pk) : FrR :=
  if fS p.kind = 0 then ⟨⟨7, 128, 0⟩, 0, ⟨#[]⟩⟩
  else if (encR p.kind p.props).no = 0 then frR (wrS p) (fS p.kind) (dcS (fS p.kind) ⟨(wrS p).L.toArray⟩).1
  else ⟨⟨(encR p.kind p.props).no, (encR p.kind p.props).r, (encR p.kind p.props).at_⟩, 0, ⟨#[]⟩⟩
/-- A packet with nothing of what its kind has not. -/
def bareS (p : Pk) : Pk := if p.kind = 8 then pkS p.kind p.id (plL p.props) p.subs [] [] else pkS p.kind p.id (plL p.props) [] [] p.codes
theorem bareS_a {p : Pk} (h : p.kind = 8) : bareS p = pkS p.kind p.id (plL p.props) p.subs [] [] := by unfold bareS; rw [if_pos h]
theorem bareS_b {p : Pk} (h : ¬ p.kind = 8) : bareS p = pkS p.kind p.id (plL p.props) [] [] p.codes := by unfold bareS; rw [if_neg h]
theorem enS_bad {p : Pk} (h : (enS p).e.no ≠ 0) : (enS p).first = 0 ∧ (enS p).s = ⟨#[]⟩ := by
  unfold enS at h ⊢
  by_cases h0 : fS p.kind = 0
  · rw [if_pos h0]
    exact ⟨rfl, rfl⟩
  · rw [if_neg h0] at h ⊢
    by_cases h1 : (encR p.kind p.props).no = 0
    · rw [if_pos h1] at h ⊢
      exact frR_bad8 h
    · rw [if_neg h1]
      exact ⟨rfl, rfl⟩
theorem dcS_bad {first : Int} {s : ByteArray} (h : (dcS first s).1.no ≠ 0) : (dcS first s).2 = pk0 := by
  unfold dcS at h ⊢
  by_cases c0 : kS first = 0
  · rw [if_pos c0]
  · rw [if_neg c0] at h ⊢
    by_cases c1 : (thF (kS first) s).e.no = 0
    · rw [if_pos c1] at h ⊢
      unfold dcS_a dcS_b at h ⊢
      by_cases c2 : kS first = 8
      · rw [if_pos c2] at h ⊢
        by_cases c3 : (ptL (rdS s) s 32 [] (thF 8 s).R).1.no = 0
        · rw [if_pos c3] at h
          exact absurd rfl h
        · rw [if_neg c3]
      · rw [if_neg c2] at h ⊢
        by_cases c3 : (ptL (rdC 9 s) s 32 [] (thF 9 s).R).1.no = 0
        · rw [if_pos c3] at h
          exact absurd rfl h
        · rw [if_neg c3]
    · rw [if_neg c1]
/-- What is decoded. -/
structure DcS (first : Int) (s : ByteArray) (k : Int) (id : Nat) (L : PL) (F : List SV) (C : List Int) : Prop where
  fst : first = fS k
  idk : id ≠ 0 ∧ id < 65536
  ok : RdOk k s L
  pk : dcS first s = (e00, pkS k id L F [] C)
  parts : (k = 8 ∧ C = [] ∧ F ≠ [] ∧ F.length ≤ 32 ∧ ∀ x ∈ F, postS s x) ∨ (k = 9 ∧ F = [] ∧ C ≠ [] ∧ C.length ≤ 32 ∧ ∀ x ∈ C, postC 9 x)
theorem dcS_ok {first : Int} {s : ByteArray} (h : (dcS first s).1.no = 0) : ∃ k id L F C, DcS first s k id L F C := by
  have h' := h
  unfold dcS at h
  by_cases c0 : kS first = 0
  · rw [if_pos c0] at h
    exact absurd (show (2 : Nat) = 0 from h) (by decide)
  · rw [if_neg c0] at h
    by_cases c1 : (thF (kS first) s).e.no = 0
    · rw [if_pos c1] at h
      have ht := th_ok c1
      rcases kS_of c0 with ⟨hf, hk⟩ | ⟨hf, hk⟩
      · rw [if_pos hk] at h
        rw [hk] at ht c1
        unfold dcS_a at h
        by_cases c3 : (ptL (rdS s) s 32 [] (thF 8 s).R).1.no = 0
        · obtain ⟨P, p1, p2, p3, p4⟩ := (partS s).rdo 32 [] _ ht.no ht.le c3
          refine ⟨8, _, _, P, [], hf, ht.id, ht.ok, ?_, .inl ⟨rfl, rfl, p3, p4, p2⟩⟩
          unfold dcS
          rw [if_neg c0, hk, if_pos c1, if_pos rfl, p1]
          unfold dcS_a
          rw [if_pos (show e00.no = 0 from rfl)]
          rfl
        · rw [if_neg c3] at h
          exact absurd h c3
      · rw [if_neg (by rw [hk]; decide)] at h
        rw [hk] at ht c1
        unfold dcS_b at h
        by_cases c3 : (ptL (rdC 9 s) s 32 [] (thF 9 s).R).1.no = 0
        · obtain ⟨P, p1, p2, p3, p4⟩ := (partC 9 s).rdo 32 [] _ ht.no ht.le c3
          refine ⟨9, _, _, [], P, hf, ht.id, ht.ok, ?_, .inr ⟨rfl, rfl, p3, p4, p2⟩⟩
          unfold dcS
          rw [if_neg c0, hk, if_pos c1, if_neg (by decide), p1]
          unfold dcS_b
          rw [if_pos (show e00.no = 0 from rfl)]
          rfl
        · rw [if_neg c3] at h
          exact absurd h c3
    · rw [if_neg c1] at h
      exact absurd h c1
/-- What is encoded is decoded as it was. -/
theorem enS_back {p : Pk} (hsz : ∀ q ∈ p.props, q.s.size < 65536 ∧ q.v.size < 65536) (hl : (wrAll (actsL6 p.props)).L.length ≤ 268435455) (h : (enS p).e.no = 0) : dcS (enS p).first (enS p).s = (e00, bareS p) := by
  unfold enS at h ⊢
  by_cases h0 : fS p.kind = 0
  · rw [if_pos h0] at h
    exact absurd (show (7 : Nat) = 0 from h) (by decide)
  · rw [if_neg h0] at h ⊢
    by_cases h1 : (encR p.kind p.props).no = 0
    · rw [if_pos h1] at h ⊢
      obtain ⟨hV, hd, he⟩ := frR_ok8 h
      rw [he]
      simp only
      have key : ∀ (id : Nat) (l : List UInt8), id < 65536 → (wrS p).L = be 2 id ++ ((encR p.kind p.props).L ++ l) → ∀ k, kS (fS p.kind) = k → p.kind = k → (¬ k = 0) → ∃ R, (thF k ⟨(wrS p).L.toArray⟩) = ⟨e00, id, plL p.props, R⟩ ∧ Cur ⟨(wrS p).L.toArray⟩ R l := by
        intro id l hid hL k hk hpk hk0
        rw [hpk] at h1 hL
        have hw := th_wr (k := k) (s := ⟨(wrS p).L.toArray⟩) (l := l) hid h1 hsz hl (by rw [arr_list8, hL])
        by_cases c : id = 0
        · rw [if_pos c] at hw
          exfalso
          unfold dcS at hd
          rw [hk, if_neg hk0, if_neg (by rw [hw]; decide)] at hd
          simp only at hd
          rw [hw] at hd
          exact absurd hd (by decide)
        · rw [if_neg c] at hw
          exact hw
      rcases fS_of h0 with ⟨hk, hf, hkf⟩ | ⟨hk, hf, hkf⟩
      · have hW : wrS p = p.subs.foldl stS (phW p) := by unfold wrS; rw [if_pos hk]
        have hV2 := hV
        rw [hW] at hV2
        obtain ⟨w1, w2, w3⟩ := (partS ⟨(wrS p).L.toArray⟩).fold_no p.subs (phW p) hV2
        obtain ⟨m, hm, hm2, hpL⟩ := phW_no w1
        have hL : (wrS p).L = be 2 m ++ ((encR p.kind p.props).L ++ p.subs.flatMap byS8) := by
          rw [hW, w3]
          show (phW p).L ++ _ = _
          rw [hpL, List.append_assoc]
        obtain ⟨R, e, hc⟩ := key m _ hm2 hL 8 hkf hk (by decide)
        unfold dcS at hd ⊢
        rw [hkf, if_neg (by decide), if_pos (by rw [e]; rfl), if_pos rfl, e] at hd ⊢
        unfold dcS_a at hd ⊢
        by_cases c3 : (ptL (rdS ⟨(wrS p).L.toArray⟩) ⟨(wrS p).L.toArray⟩ 32 [] R).1.no = 0
        · have h4 := (partS ⟨(wrS p).L.toArray⟩).wr p.subs 32 [] R hc w2 c3
          rw [List.nil_append] at h4
          unfold bareS
          rw [if_pos hk, hk, hm]
          simp only
          rw [h4, if_pos (show e00.no = 0 from rfl)]
        · simp only at hd
          rw [if_neg c3] at hd
          exact absurd hd c3
      · have hk10 : ¬ p.kind = 8 := by rw [hk]; decide
        have hW : wrS p = p.codes.foldl stC (phW p) := by unfold wrS; rw [if_neg hk10]
        have hV2 := hV
        rw [hW] at hV2
        obtain ⟨w1, w2, w3⟩ := (partC 9 ⟨(wrS p).L.toArray⟩).fold_no p.codes (phW p) hV2
        obtain ⟨m, hm, hm2, hpL⟩ := phW_no w1
        have hL : (wrS p).L = be 2 m ++ ((encR p.kind p.props).L ++ p.codes.flatMap byC8) := by
          rw [hW, w3]
          show (phW p).L ++ _ = _
          rw [hpL, List.append_assoc]
        obtain ⟨R, e, hc⟩ := key m _ hm2 hL 9 hkf hk (by decide)
        unfold dcS at hd ⊢
        rw [hkf, if_neg (by decide), if_pos (by rw [e]; rfl), if_neg (by decide), e] at hd ⊢
        unfold dcS_b at hd ⊢
        by_cases c3 : (ptL (rdC 9 ⟨(wrS p).L.toArray⟩) ⟨(wrS p).L.toArray⟩ 32 [] R).1.no = 0
        · have h4 := (partC 9 ⟨(wrS p).L.toArray⟩).wr p.codes 32 [] R hc w2 c3
          rw [List.nil_append] at h4
          unfold bareS
          rw [if_neg hk10, hk, hm]
          simp only
          rw [h4, if_pos (show e00.no = 0 from rfl)]
        · simp only at hd
          rw [if_neg c3] at hd
          exact absurd hd c3
    · rw [if_neg h1] at h
      exact absurd h h1
theorem wrS_a {p : Pk} (h : p.kind = 8) : wrS p = p.subs.foldl stS (phW p) := by unfold wrS; rw [if_pos h]
theorem wrS_b {p : Pk} (h : ¬ p.kind = 8) : wrS p = p.codes.foldl stC (phW p) := by unfold wrS; rw [if_neg h]
theorem enS_of {first : Int} {s : ByteArray} {k : Int} {id : Nat} {L : PL} {F : List SV} {C : List Int} (hd : DcS first s k id L F C) (hss : s.size ≤ 60000) : (enS (pkS k id L F [] C)).e.no = 0 := by
  have hl := Nat.le_trans hd.ok.len (show s.size ≤ 268435455 by omega)
  have hid := hd.idk
  rcases hd.parts with ⟨rfl, rfl, hne, hle, hps⟩ | ⟨rfl, rfl, hne, hle, hps⟩
  · have hW : wrS (pkS 8 id L F [] []) = ⟨0, 0, be 2 id ++ ((encR 8 L).L ++ F.flatMap byS8)⟩ := by
      rw [wrS_a (p := pkS 8 id L F [] []) rfl, show (pkS 8 id L F [] []).subs = F from rfl, phW_of hid.2, (partS s).fold_of F _ rfl fun x hx => (hps x hx).1, List.append_assoc]
    unfold enS
    rw [show (pkS 8 id L F [] []).kind = 8 from rfl, show (pkS 8 id L F [] []).props = L from rfl, show fS 8 = 130 from rfl, if_neg (by decide), if_pos hd.ok.enc, hW]
    obtain ⟨s2, hs2⟩ : ∃ s2 : ByteArray, s2 = ⟨(be 2 id ++ ((encR 8 L).L ++ F.flatMap byS8)).toArray⟩ := ⟨_, rfl⟩
    have hw := th_wr (k := 8) (s := s2) (l := F.flatMap byS8) hid.2 hd.ok.enc hd.ok.sz hl (by rw [hs2, arr_list8])
    rw [if_neg hid.1] at hw
    obtain ⟨R, e, hc⟩ := hw
    have hz : ∀ x ∈ F, postS s2 x := fun x hx => ⟨(hps x hx).1, (hps x hx).2.1, (hps x hx).2.2.1, by
      have h1 : (F.flatMap byS8).length ≤ s2.size := by
        rw [hs2, bsize, List.length_append, List.length_append]
        omega
      have h2 : (byS8 x).length ≤ (F.flatMap byS8).length := by
        obtain ⟨a, b, rfl⟩ := List.append_of_mem hx
        rw [List.flatMap_append, List.flatMap_cons, List.length_append, List.length_append]
        omega
      have h3 : (byS8 x).length = 2 + x.filter.size + 1 := by
        unfold byS8
        rw [List.length_append, List.length_append, be_len, bLen, be_len]
      omega⟩
    have h4 := (partS s2).of F 32 [] R hc hz (by simpa using hne) hle
    have h5 : (dcS 130 s2).1.no = 0 := by
      unfold dcS
      rw [show kS 130 = 8 from rfl, if_neg (by decide), if_pos (by rw [e]; rfl), if_pos rfl, e]
      unfold dcS_a
      simp only
      rw [if_pos h4]
      rfl
    rw [show (⟨(EV.L ⟨0, 0, be 2 id ++ ((encR 8 L).L ++ F.flatMap byS8)⟩).toArray⟩ : ByteArray) = s2 from hs2.symm, frR_of8 rfl h5]
    rfl
  · have hW : wrS (pkS 9 id L [] [] C) = ⟨0, 0, be 2 id ++ ((encR 9 L).L ++ C.flatMap byC8)⟩ := by
      rw [wrS_b (p := pkS 9 id L [] [] C) (show ¬ (9 : Int) = 8 by decide), show (pkS 9 id L [] [] C).codes = C from rfl, phW_of hid.2, (partC 9 s).fold_of C _ rfl fun x hx => (hps x hx).2, List.append_assoc]
    unfold enS
    rw [show (pkS 9 id L [] [] C).kind = 9 from rfl, show (pkS 9 id L [] [] C).props = L from rfl, show fS 9 = 144 from rfl, if_neg (by decide), if_pos hd.ok.enc, hW]
    obtain ⟨s2, hs2⟩ : ∃ s2 : ByteArray, s2 = ⟨(be 2 id ++ ((encR 9 L).L ++ C.flatMap byC8)).toArray⟩ := ⟨_, rfl⟩
    have hw := th_wr (k := 9) (s := s2) (l := C.flatMap byC8) hid.2 hd.ok.enc hd.ok.sz hl (by rw [hs2, arr_list8])
    rw [if_neg hid.1] at hw
    obtain ⟨R, e, hc⟩ := hw
    have h4 := (partC 9 s2).of C 32 [] R hc hps (by simpa using hne) hle
    have h5 : (dcS 144 s2).1.no = 0 := by
      unfold dcS
      rw [show kS 144 = 9 from rfl, if_neg (by decide), if_pos (by rw [e]; rfl), if_neg (by decide), e]
      unfold dcS_b
      simp only
      rw [if_pos h4]
      rfl
    rw [show (⟨(EV.L ⟨0, 0, be 2 id ++ ((encR 9 L).L ++ C.flatMap byC8)⟩).toArray⟩ : ByteArray) = s2 from hs2.symm, frR_of8 rfl h5]
    rfl
/-- Few filters and codes, of few bytes. -/
def SmS (p : Pk) : Prop := SmallP p.props ∧ p.subs.length ≤ 40 ∧ p.codes.length ≤ 40 ∧ ∀ x ∈ p.subs, x.filter.size ≤ 2048
/-- What is decoded has few parts, is encoded, and is decoded as it was. -/
theorem deS_back {first : Int} {s : ByteArray} (hss : s.size ≤ 2048) (h : (dcS first s).1.no = 0) :
    SmS (dcS first s).2 ∧ (enS (dcS first s).2).e.no = 0 ∧ dcS (enS (dcS first s).2).first (enS (dcS first s).2).s = (e00, (dcS first s).2) := by
  obtain ⟨k, id, L, F, C, hd⟩ := dcS_ok h
  rw [hd.pk]
  have hen := enS_of hd (by omega)
  have hF : F.length ≤ 40 ∧ C.length ≤ 40 ∧ ∀ x ∈ F, x.filter.size ≤ 2048 := by
    rcases hd.parts with ⟨_, rfl, _, hle, hps⟩ | ⟨_, rfl, _, hle, hps⟩
    · exact ⟨by omega, Nat.zero_le _, fun x hx => Nat.le_trans (hps x hx).2.2.2 hss⟩
    · exact ⟨Nat.zero_le _, by omega, fun x hx => by cases hx⟩
  refine ⟨⟨hd.ok.small (by omega), hF⟩, hen, ?_⟩
  rw [enS_back (p := pkS k id L F [] C) hd.ok.sz (Nat.le_trans hd.ok.len (by omega)) hen]
  rcases hd.parts with ⟨rfl, rfl, _⟩ | ⟨rfl, rfl, _⟩
  · rw [bareS_a (p := pkS 8 id L F [] []) rfl]
    show (e00, pkS 8 id (plL L) F [] []) = _
    rw [hd.ok.pl]
  · rw [bareS_b (p := pkS 9 id L [] [] C) (show ¬ (9 : Int) = 8 by decide)]
    show (e00, pkS 9 id (plL L) [] [] C) = _
    rw [hd.ok.pl]
theorem phW_len12 {p : Pk} (hS : SmallP p.props) : (phW p).L.length ≤ 63846 := by
  unfold phW
  have h1 := stepW_len (stepW w0 (numE 2 p.id)) ⟨0, 0, (encR p.kind p.props).L⟩
  have h2 := stepW_len w0 (numE 2 p.id)
  have h3 := numE_len 2 p.id
  have h4 := encR_len (k := p.kind) hS
  have h5 : w0.L.length = 0 := rfl
  simp only at h1
  omega
theorem foldS_len : ∀ (F : List SV) (W : EV), (∀ x ∈ F, x.filter.size ≤ 2048) → (F.foldl stS W).L.length ≤ W.L.length + F.length * 2051 := by
  intro F
  induction F with
  | nil => intro W _; exact Nat.le_add_right _ _
  | cons x F ih =>
    intro W h
    rw [List.foldl_cons, List.length_cons, Nat.succ_mul]
    have h1 := ih (stS W x) fun y hy => h y (List.mem_cons_of_mem _ hy)
    have h2 := stepW_len W (textE x.filter)
    have h3 := textE_len x.filter
    have h4 := h x (List.mem_cons_self ..)
    have h5 := stepW_len (stepW W (textE x.filter)) (numE 1 (opI x))
    have h6 := numE_len 1 (opI x)
    unfold stS at h1 ⊢
    omega
theorem foldC_len12 : ∀ (C : List Int) (W : EV), (C.foldl stC W).L.length ≤ W.L.length + C.length := by
  intro C
  induction C with
  | nil => intro W; exact Nat.le_add_right _ _
  | cons x C ih =>
    intro W
    rw [List.foldl_cons, List.length_cons]
    have h1 := ih (stC W x)
    have h2 := stepW_len W (numE 1 x)
    have h3 := numE_len 1 x
    unfold stC at h1 ⊢
    omega
theorem wrS_len {p : Pk} (hS : SmS p) : (wrS p).L.length ≤ 150000 := by
  obtain ⟨h1, h2, h3, h4⟩ := hS
  have h5 := phW_len12 h1
  unfold wrS
  split
  · have := foldS_len p.subs (phW p) h4
    omega
  · have := foldC_len12 p.codes (phW p)
    omega
theorem enS_len {p : Pk} (hS : SmS p) : (enS p).s.size ≤ 150000 := by
  unfold enS
  split
  · exact Nat.zero_le _
  · split
    · exact Nat.le_trans frR_len8 (wrS_len hS)
    · exact Nat.zero_le _
theorem dcS_lists (first : Int) (s : ByteArray) : (dcS first s).2.filters = [] ∧ (dcS first s).2.wProps = [] := by
  unfold dcS dcS_a dcS_b
  (repeat' split) <;> exact ⟨rfl, rfl⟩
end Go.Proofs.YtbfbmdjnobdjpaaGreatDoor
namespace Go.Proofs.YtbfbmdjnobdjpaaGreatDoor
set_option maxRecDepth 100000
open Go.ChangeShapes Go.WideShapes Go.RowKit Go.Deep Go.Extern.Stop Go.Stop Go.Extern
theorem ip_sub8 : (Tryz.prog.info? 58).map (·.size) = some 5 := by kernel_rfl
theorem zv_sub8 (w : World) : (zeroValue 58).run Tryz.prog w = .ok (.agg (sv0.cells.toArray)) w :=
  (zero_of_info (P := Tryz.prog) (t := 58) (v := .agg (sv0.cells.toArray)) (n := 5) (by kernel_rfl)).1 w
section
variable {ops : Array Oper} {rest : List Oper} {op : Oper} {a : Act} {w : World} {Q : Exit → Act → World → Prop} {z c old : Array Value} {k : Nat}
/-- A subscription is made. -/
theorem wpv_alloc (hz : z = sv0.cells.toArray) (hgd : op.guard = none) (ho : op.op = .alloc 58)
    (h : wpList Tryz.prog ops Q rest (a.put op.dst (.pointer (some ⟨w.heap.size, 0, none⟩))) (w.alloc (.cells z 58))) : wpList Tryz.prog ops Q (op :: rest) a w :=
  wpList_plain hgd fun _ hK => by
    subst hz
    unfold Oper.wp execOp
    simp only [ho, Instr.alloc, Sem.run_bind, zv_sub8, Result.andThen_ok, newVar, nr_pkt, Value.cells, Sem.run_pure]
    exact hK _ _ h
theorem wpv_build (hz : z = sv0.cells.toArray) (hgd : op.guard = none) (ho : op.op = .build 58 #[])
    (h : wpList Tryz.prog ops Q rest (a.put op.dst (.agg z)) w) : wpList Tryz.prog ops Q (op :: rest) a w :=
  wpList_build hgd _ _ ho (by kernel_rfl) (by
    have e : Tryz.prog.built 58 [] = some (sv0.cells.toArray) := by kernel_rfl
    subst hz
    simpa [e] using h)
/-- A subscription is stored. -/
theorem wpv_store (hb : Blk w k 58 old) (ho' : old.size = 5) (hs : c.size = 5) (h1 : c.all (·.oneCell') = true) (x y : Operand) (hgd : op.guard = none) (ho : op.op = .store 58 x y)
    (hx : a.eval x = .pointer (some ⟨k, 0, none⟩)) (hy : a.eval y = .agg c)
    (h : wpList Tryz.prog ops Q rest (a.put op.dst undef) (w.setRow k c)) : wpList Tryz.prog ops Q (op :: rest) a w :=
  wpList_plain hgd fun _ hK => wp_store_row 58 x y ho k c hx hy 58 old hb (by rw [hs]; exact ip_sub8) (by rw [ho', hs]) h1 (hK _ _ h)
/-- Into the block that was made last. -/
theorem wpv_store_new (ho' : old.size = 5) (hs : c.size = 5) (h1 : c.all (·.oneCell') = true) (x y : Operand) (hgd : op.guard = none) (ho : op.op = .store 58 x y)
    (hx : a.eval x = .pointer (some ⟨w.heap.size, 0, none⟩)) (hy : a.eval y = .agg c)
    (h : wpList Tryz.prog ops Q rest (a.put op.dst undef) (w.alloc (.cells c 58))) : wpList Tryz.prog ops Q (op :: rest) a (w.alloc (.cells old 58)) :=
  wpv_store (Blk.made w _ old) ho' hs h1 x y hgd ho hx hy (by rw [World.setRow_alloc_new]; exact h)
/-- A subscription is loaded. -/
theorem wpv_load (hb : Blk w k 58 c) (hs : c.size = 5) (x : Operand) (hgd : op.guard = none) (ho : op.op = .load 58 x)
    (hx : a.eval x = .pointer (some ⟨k, 0, none⟩)) (h : wpList Tryz.prog ops Q rest (a.put op.dst (.agg c)) w) : wpList Tryz.prog ops Q (op :: rest) a w := by
  have hl := wpList_load_mid (P := Tryz.prog) (ops := ops) (rest := rest) (op := op) (a := a) (w := w) (Q := Q) hgd 58 x ho k 0 hx c.toList _ (fun j v hv => by
    rw [Nat.zero_add, hb.cell j]
    simpa using hv) Tryz.underlying58 rfl (by rw [Array.length_toList, hs]; exact ip_sub8)
  refine hl ?_
  simpa using h
/-- A subscription that came in is put into a block. -/
theorem wpv_box (_hs : c.size = 5) (x : Operand) (hgd : op.guard = none) (ho : op.op = .box 58 x) (hx : a.eval x = .agg c)
    (h : wpList Tryz.prog ops Q rest (a.put op.dst (.pointer (some ⟨w.heap.size, 0, none⟩))) (w.alloc (.cells c 58))) : wpList Tryz.prog ops Q (op :: rest) a w :=
  wpList_plain hgd fun _ hK => by
    unfold Oper.wp execOp
    simp only [ho, hx, Instr.box, Sem.run_bind, newVar, nr_pkt, Value.cells, Result.andThen_ok, Sem.run_pure]
    exact hK _ _ h
end
section
variable {w : World} {k : Nat} {c old : Array Value}
theorem setRow_blkv (hb : Blk w k 58 old) (c : Array Value) : Blk (w.setRow k c) k 58 c := by
  unfold Blk at hb ⊢
  simp [World.setRow, Array.getElem?_modify, hb]
theorem ldv_sub8 (hb : Blk w k 58 c) (hs : c.size = 5) : (loadVar 58 ⟨k, 0, none⟩).run Tryz.prog w = .ok (.agg c) w := by
  have h := run_loadVar_mid (P := Tryz.prog) w k 0 58 c.toList _ (fun j v hv => by
    rw [Nat.zero_add, hb.cell j]
    simpa using hv) Tryz.underlying58 rfl (by rw [Array.length_toList, hs]; exact ip_sub8)
  simpa using h
/-- A subscription and what stands in a slot, as results. -/
theorem res_sub8 {fn : Func} {tmps : Array Value} {i j : Nat} (hr : fn.results = #[.cell i 58, .tmp j]) (hi : tmps.getD i undef = .pointer (some ⟨k, 0, none⟩)) {v : Value} (hj : tmps.getD j undef = v) (hb : Blk w k 58 c) (hs : c.size = 5) :
    (results fn tmps).run Tryz.prog w = .ok (.tuple #[.agg c, v]) w := by
  subst hj
  have h := ldv_sub8 hb hs
  have hi' : tmps[i]?.getD undef = .pointer (some ⟨k, 0, none⟩) := by simpa using hi
  simp [results, hr, hi', asAddr, h]
end
/-- A subscription as a value. -/
def SV.agg (x : SV) : Value := .agg x.cells.toArray
theorem sv_size (x : SV) : x.cells.toArray.size = 5 := rfl
theorem sv_one (x : SV) : x.cells.toArray.all (·.oneCell') = true := by simp [SV.cells, Value.oneCell']
section
variable {z' w w' W W' : World} {S : Nat → Addr} {g : Nat} {s : ByteArray} {R : RV}
set_option maxHeartbeats 8000000 in
theorem opt12_bad (x : SV) (w : World) (h : x.qos < 0 ∨ 3 < x.qos ∨ x.retain < 0 ∨ 3 < x.retain) : Calls Tryz.prog 88 #[x.agg] w fun r w' => r = .returned (.int .i64 (-1)) ∧ Below w.heap.size w w' := by
  obtain ⟨f, q, a, b, r⟩ := x
  simp only at h
  show Calls Tryz.prog 88 #[.agg #[.string f, .int .i64 q, .bool a, .bool b, .int .i64 r]] w _
  by_cases h1 : q < 0
  · clear h
    go_enter Tryz.func88, Tryz.ntmps88
    go_wp2
    go_ret
    exact ⟨rfl, (Below.refl _ _).alloc (Nat.le_refl _) _⟩
  · by_cases h2 : 3 < q
    · clear h
      go_enter Tryz.func88, Tryz.ntmps88
      go_wp2
      go_ret
      exact ⟨rfl, (Below.refl _ _).alloc (Nat.le_refl _) _⟩
    · by_cases h3 : r < 0
      · clear h
        go_enter Tryz.func88, Tryz.ntmps88
        go_wp2
        go_ret
        exact ⟨rfl, (Below.refl _ _).alloc (Nat.le_refl _) _⟩
      · have h4 : 3 < r := by omega
        clear h
        go_enter Tryz.func88, Tryz.ntmps88
        go_wp2
        go_ret
        exact ⟨rfl, (Below.refl _ _).alloc (Nat.le_refl _) _⟩
set_option maxHeartbeats 16000000 in
theorem opt12_good (f : ByteArray) (q : Nat) (a b : Bool) (r : Nat) (w : World) (hq : q < 4) (hr : r < 4) : Calls Tryz.prog 88 #[.agg #[.string f, .int .i64 q, .bool a, .bool b, .int .i64 r]] w fun x w' => x = .returned (.int .i64 (opN q a b r : Nat)) ∧ Below w.heap.size w w' := by
  obtain rfl | rfl | rfl | rfl : q = 0 ∨ q = 1 ∨ q = 2 ∨ q = 3 := by omega
  all_goals
    obtain rfl | rfl | rfl | rfl : r = 0 ∨ r = 1 ∨ r = 2 ∨ r = 3 := by omega
    all_goals
      clear hq hr
      cases a <;> cases b
      all_goals
        go_enter Tryz.func88, Tryz.ntmps88
        go_wp2
        go_ret
        exact ⟨rfl, (Below.refl _ _).alloc (Nat.le_refl _) _⟩
theorem opt12 (x : SV) (w : World) : Calls Tryz.prog 88 #[x.agg] w fun r w' => r = .returned (.int .i64 (opI x)) ∧ Below w.heap.size w w' := by
  by_cases h : x.qos < 0 ∨ 3 < x.qos ∨ x.retain < 0 ∨ 3 < x.retain
  · unfold opI
    rw [if_pos h]
    exact opt12_bad x w h
  · unfold opI
    rw [if_neg h]
    obtain ⟨f, q, a, b, r⟩ := x
    simp only at h ⊢
    have h1 := opt12_good f q.toNat a b r.toNat w (by omega) (by omega)
    rw [show ((q.toNat : Nat) : Int) = q by omega, show ((r.toNat : Nat) : Int) = r by omega] at h1
    exact h1
end
end Go.Proofs.YtbfbmdjnobdjpaaGreatDoor
namespace Go.Proofs.YtbfbmdjnobdjpaaGreatDoor
set_option maxRecDepth 100000
open Go.ChangeShapes Go.WideShapes Go.RowKit Go.Deep Go.Extern.Stop Go.Stop Go.Extern
theorem bits_s3 : ∀ n : Nat, n < 64 → bits BinOp.and IntKind.i64 (n : Int) 3 = ((n % 4 : Nat) : Int) := by decide +kernel
theorem bits_s4 : ∀ n : Nat, n < 64 → bits BinOp.and IntKind.i64 (n : Int) 4 = if n / 4 % 2 = 1 then 4 else 0 := by decide +kernel
theorem bits_s8 : ∀ n : Nat, n < 64 → bits BinOp.and IntKind.i64 (n : Int) 8 = if n / 8 % 2 = 1 then 8 else 0 := by decide +kernel
section
variable {z' w w' W W' : World} {S : Nat → Addr} {g k : Nat} {s : ByteArray} {R R' : RV} {c old : Array Value} {r : Int} {no at_ : Nat} {e : Value}
theorem sv_nof (hb : Blk w k 58 old) : NoF w [k] := NoF.of fun j hj => by
  rw [List.mem_singleton] at hj
  subst hj
  exact ⟨_, _, hb, by decide⟩
theorem rd_ne8v (ho : RObj W S g s R) (hb : Blk W k 58 c) : k ≠ g := fun h => by
  obtain ⟨e, h1, _⟩ := ho.blk
  exact hb.other h1 (by decide) h
theorem Blk.rnextv (hb : Blk W k 58 c) (ho : RObj W S g s R) (hn : RNext W W' S g s R') : Blk W' k 58 c :=
  hb.fr hn.fr fun hm => by
    rw [List.mem_singleton] at hm
    exact rd_ne8v ho hb hm
theorem err_rowv (h : ErrOf w S r no at_ e) (hb : Blk w k 58 old) (c : Array Value) : ErrOf (w.setRow k c) S r no at_ e := err_fr h (setRow_fr w k c) (sv_nof hb)
theorem RNext.rowv (h : RNext w W S g s R) (hb : Blk W k 58 old) (hk : w.heap.size ≤ k) (y : Array Value) : RNext w (W.setRow k y) S g s R :=
  ⟨h.obj.fr (setRow_fr W k y) (fun hm => by
    rw [List.mem_singleton] at hm
    exact rd_ne8v h.obj hb hm.symm) (sv_nof hb), h.fr.trans (setRow_fr W k y) fun j hj hlt => by
    rw [List.mem_singleton] at hj
    omega⟩
def SuSays (w : World) (S : Nat → Addr) (g : Nat) (s : ByteArray) (q : Er × SV × RV) (x : Ending) (w' : World) : Prop := ∃ e, x = .returned (.tuple #[q.2.1.agg, e]) ∧ ErrOf w' S q.1.r q.1.no q.1.at_ e ∧ RNext w w' S g s q.2.2
set_option maxHeartbeats 8000000 in
theorem sub12 (hE : Env z' S) (hz : Below z'.heap.size z' w) (hg : z'.heap.size ≤ g) (ho : RObj w S g s R) (hs : s.size ≤ 900000) :
    Calls Tryz.prog 94 #[.pointer (some ⟨g, 0, none⟩)] w (SuSays w S g s (rdS s R)) := by
  obtain ⟨z, hzz⟩ : ∃ z, z = sv0.cells.toArray := ⟨_, rfl⟩
  have HZ := Lib.hid hzz
  have HZS := Lib.hid (show z.size = 5 by rw [hzz]; rfl)
  have HZ1 := Lib.hid (show z.all (·.oneCell') = true by rw [hzz]; exact sv_one _)
  obtain ⟨q, hq⟩ : ∃ q, q = rdS s R := ⟨_, rfl⟩
  rw [← hq]
  unfold rdS at hq
  obtain ⟨W1, hW1⟩ : ∃ W, W = w.alloc (.cells z 58) := ⟨_, rfl⟩
  have b1 : Below w.heap.size w W1 := by rw [hW1]; exact (Below.refl _ _).alloc (Nat.le_refl _) _
  have r1 : Blk W1 w.heap.size 58 z := by rw [hW1]; exact Blk.made _ _ _
  have hz1 := hz.trans (b1.mono hz.size)
  have hn1 := ho.step b1
  have htx := rdtext_any (env_cl hE hz1 hg) hn1.obj hs
  obtain ⟨⟨t, R1⟩, ht⟩ : ∃ V, V = rText s R := ⟨_, rfl⟩
  rw [← ht] at htx hq
  simp only at htx hq
  have HTX := Lib.hid htx
  have HQ := Lib.hid hq
  have HE := Lib.hid hE
  have HZZ := Lib.hid hz1
  have HG := Lib.hid hg
  have HN1 := Lib.hid hn1
  have RR1 := Lib.hid r1
  have HSZ := Lib.hid hs
  have HW1 := Lib.hid hW1
  clear hE hz hg ho hs hzz hq b1 r1 hz1 hn1 htx ht hW1
  go_enter Tryz.func94, Tryz.ntmps94
  go_wp2_with (first | refine wpv_alloc HZ.out rfl rfl ?_)
  rw [← HW1.out]
  refine HTX.out.mono ?_
  rintro x w2 ⟨rfl, hn2⟩
  have hz2 := hn2.later HG.out HZZ.out.size HZZ.out
  have HN2 := Lib.hid (HN1.out.trans hn2)
  have RR2 := Lib.hid (RR1.out.rnextv HN1.out.obj hn2)
  have HAT := Lib.hid (rat_any hn2.obj)
  have hu8 := ru8_any (HE.out.later hz2) hn2.obj (by have := HSZ.out; omega)
  obtain ⟨⟨n, R2⟩, hn⟩ : ∃ V, V = rNum s 1 R1 := ⟨_, rfl⟩
  have hlt : R2.no = 0 → n < 256 := fun h0 => by
    have h1 : R1.no = 0 := no_of (show (rNum s 1 R1).2.no = 0 by rw [← hn]; exact h0) fun hh => by rw [rNum_stuck hh]
    have := (rNum_is (s := s) (n := 1) h1 (by rw [← hn]; exact h0)).1
    rw [← hn] at this
    omega
  rw [← hn] at hu8
  have hq := HQ.out
  rw [← hn] at hq
  simp only at hu8 hq
  have HU8 := Lib.hid hu8
  have HQ2 := Lib.hid hq
  have HZ2 := Lib.hid hz2
  have HLT := Lib.hid hlt
  clear hn2 hz2 hu8 hq hn hlt HQ HTX HN1 RR1 HZZ
  go_wp2_with fail
  refine HAT.out.mono ?_
  rintro x w2' ⟨rfl, rfl⟩
  clear HAT
  go_wp2_with fail
  refine HU8.out.mono ?_
  rintro x w3 ⟨rfl, hn3⟩
  have HZ3 := Lib.hid (hn3.later HG.out HZ2.out.size HZ2.out)
  have HN3 := Lib.hid (HN2.out.trans hn3)
  have RR3 := Lib.hid (RR2.out.rnextv HN2.out.obj hn3)
  have HRE := Lib.hid (rerr_any hn3.obj)
  clear hn3 HU8 HN2 RR2 HZ2
  go_wp2_with fail
  refine HRE.out.mono ?_
  rintro x w3' ⟨e3, rfl, he3, rfl⟩
  clear HRE
  have hq := HQ2.out
  by_cases h0 : R2.no = 0
  · rw [if_pos h0] at hq
    unfold ErrOf at he3
    rw [if_pos h0] at he3
    subst he3
    have hnb := HLT.out h0
    by_cases h63 : 63 < n
    · rw [if_pos h63] at hq
      have hni : (63 : Int) < n := by omega
      have kM := (HE.out.later HZ3.out).kMalformed
      have HNE := Lib.hid (new_err (w := w3) S 1 129 (R1.p : Int))
      have HQ3 := Lib.hid hq
      clear hq HQ2 HLT
      go_wp2_with (first | refine wpv_build HZ.out rfl rfl ?_)
      refine HNE.out.mono ?_
      rintro x w4 ⟨e, rfl, he, hb4⟩
      have RR4 := Lib.hid (RR3.out.below hb4 RR3.out.lt)
      have hn4 := HN3.out.below hb4
      have HX := Lib.hid (show SuSays w S g s q (.returned (.tuple #[.agg z, e])) (w4.setRow w.heap.size z) from by
        rw [HQ3.out, HZ.out]
        exact ⟨e, rfl, err_rowv (ErrOf.some (no := 2) (by decide) (by decide) he) RR4.out _, hn4.rowv RR4.out (Nat.le_refl _) _⟩)
      have HL := Lib.hid (setRow_blkv RR4.out z)
      clear he hb4 hn4 HNE kM
      go_wp2_with (first | refine wpv_store RR4.out HZS.out HZS.out HZ1.out _ _ rfl rfl rfl rfl ?_)
      exact bodyPost_ret (v := .tuple #[.agg z, e]) (res_sub8 (i := 2) (j := 3) rfl rfl rfl HL.out HZS.out) rfl HX.out
    · rw [if_neg h63] at hq
      have hni : ¬ (63 : Int) < n := by omega
      have hb3 := bits_s3 n (by omega)
      have hb4 := bits_s4 n (by omega)
      have hb8 := bits_s8 n (by omega)
      have hrt : (n : Int) / 16 = ((n / 16 : Nat) : Int) := rfl
      obtain ⟨y, hy⟩ : ∃ y, y = (svO t n).cells.toArray := ⟨_, rfl⟩
      have hyy : y = #[.string t, .int .i64 ((n % 4 : Nat) : Int), .bool (decide (n / 4 % 2 = 1)), .bool (decide (n / 8 % 2 = 1)), .int .i64 ((n / 16 : Nat) : Int)] := by rw [hy]; rfl
      have HYS := Lib.hid (show y.size = 5 by rw [hy]; rfl)
      have HY1 := Lib.hid (show y.all (·.oneCell') = true by rw [hy]; exact sv_one _)
      have k1 : (w3.alloc (.cells y 58)).cell? ⟨w3.heap.size, 1, none⟩ = some (.int .i64 ((n % 4 : Nat) : Int)) := ((Blk.made w3 58 y).cell 1).trans (by rw [hyy]; rfl)
      have k4 : (w3.alloc (.cells y 58)).cell? ⟨w3.heap.size, 4, none⟩ = some (.int .i64 ((n / 16 : Nat) : Int)) := ((Blk.made w3 58 y).cell 4).trans (by rw [hyy]; rfl)
      have a3 : Below w3.heap.size w3 (w3.alloc (.cells y 58)) := (Below.refl _ _).alloc (Nat.le_refl _) _
      have HY := Lib.hid hy
      have HQ3 := Lib.hid hq
      have RR4 := Lib.hid (RR3.out.below a3 RR3.out.lt)
      have HN4 := Lib.hid (HN3.out.below a3)
      have HZ4 := Lib.hid (HZ3.out.trans (a3.mono HZ3.out.size))
      generalize hqq : n % 4 = qq at *
      generalize hrr : n / 16 = rr at *
      clear hy hq HQ2 HLT a3
      obtain ⟨m4, hm4⟩ : ∃ m : Int, m = if n / 4 % 2 = 1 then 4 else 0 := ⟨_, rfl⟩
      rw [← hm4] at hb4
      obtain ⟨m8, hm8⟩ : ∃ m : Int, m = if n / 8 % 2 = 1 then 8 else 0 := ⟨_, rfl⟩
      rw [← hm8] at hb8
      have e4 : decide (n / 4 % 2 = 1) = (m4 != 0) := by
        rw [hm4]
        by_cases d : n / 4 % 2 = 1
        · rw [if_pos d, decide_eq_true d]; rfl
        · rw [if_neg d, decide_eq_false d]; rfl
      have e8 : decide (n / 8 % 2 = 1) = (m8 != 0) := by
        rw [hm8]
        by_cases d : n / 8 % 2 = 1
        · rw [if_pos d, decide_eq_true d]; rfl
        · rw [if_neg d, decide_eq_false d]; rfl
      rw [e4, e8] at hyy
      have HYY := Lib.hid hyy
      clear hm4 hm8 hyy e4 e8
      by_cases hc : qq = 3 ∨ rr = 3
      · have hq := HQ3.out
        rw [if_pos hc] at hq
        have HQ4 := Lib.hid hq
        have kM := (HE.out.later HZ4.out).kProtocol
        have HNE := Lib.hid (new_err (w := w3.alloc (.cells y 58)) S 2 130 (R1.p : Int))
        have hX : ∀ (w4 : World) (e : Value), ErrIs w4 S 2 130 (R1.p : Int) e → Below (w3.alloc (.cells y 58)).heap.size (w3.alloc (.cells y 58)) w4 → Blk w4 w.heap.size 58 z ∧ SuSays w S g s q (.returned (.tuple #[.agg z, e])) (w4.setRow w.heap.size z) := fun w4 e he hb4 => by
          have r4 := RR4.out.below hb4 RR4.out.lt
          refine ⟨r4, ?_⟩
          rw [HQ4.out, HZ.out]
          exact ⟨e, rfl, err_rowv (ErrOf.some (no := 3) (by decide) (by decide) he) r4 _, (HN4.out.below hb4).rowv r4 (Nat.le_refl _) _⟩
        have HXX := Lib.hid hX
        clear hq hX
        by_cases hq3 : qq = 3
        all_goals
          first
            | (have hqi : (qq : Int) = 3 := by omega
               have hy3 := HYY.out
               rw [hqi] at hy3)
            | (have hqi : ¬ (qq : Int) = 3 := by omega
               have hri : (rr : Int) = 3 := by omega
               have hy3 := HYY.out
               rw [hri] at hy3)
          have HY3 := Lib.hid hy3
          clear hc hq3 hy3
          go_wp2_with (first | refine wpv_alloc HZ.out rfl rfl ?_ | refine wpv_store_new HZS.out HYS.out HY1.out _ _ rfl rfl rfl (congrArg Value.agg HY3.out.symm) ?_ | refine wpv_build HZ.out rfl rfl ?_)
          refine HNE.out.mono ?_
          rintro x w4 ⟨e, rfl, he, hb4⟩
          obtain ⟨r4, hx⟩ := HXX.out _ _ he hb4
          have RR5 := Lib.hid r4
          have HX := Lib.hid hx
          have HL := Lib.hid (setRow_blkv RR5.out z)
          clear he hb4 r4 hx
          go_wp2_with (first | refine wpv_store RR5.out HZS.out HZS.out HZ1.out _ _ rfl rfl rfl rfl ?_)
          exact bodyPost_ret (v := .tuple #[.agg z, e]) (res_sub8 (i := 2) (j := 3) rfl rfl rfl HL.out HZS.out) rfl HX.out
      · have hq := HQ3.out
        rw [if_neg hc] at hq
        have hqi : ¬ (qq : Int) = 3 := by omega
        have hri : ¬ (rr : Int) = 3 := by omega
        have hqb : ((qq : Int) == 3) = false := beq_eq_false_iff_ne.2 hqi
        have hrb : ((rr : Int) == 3) = false := beq_eq_false_iff_ne.2 hri
        have HX := Lib.hid (show SuSays w S g s q (.returned (.tuple #[.agg y, .nilIface])) ((w3.alloc (.cells y 58)).setRow w.heap.size y) from by
          rw [hq, HY.out]
          exact ⟨_, rfl, ErrOf.none, by rw [← HY.out]; exact HN4.out.rowv RR4.out (Nat.le_refl _) _⟩)
        have HL := Lib.hid (setRow_blkv RR4.out y)
        clear hq hc
        go_wp2_with (first | refine wpv_alloc HZ.out rfl rfl ?_ | refine wpv_store_new HZS.out HYS.out HY1.out _ _ rfl rfl rfl (congrArg Value.agg HYY.out.symm) ?_ | refine wpv_load (Blk.made w3 58 y) HYS.out _ rfl rfl rfl ?_ | refine wpv_store RR4.out HZS.out HYS.out HY1.out _ _ rfl rfl rfl rfl ?_)
        exact bodyPost_ret (v := .tuple #[.agg y, .nilIface]) (res_sub8 (i := 2) (j := 3) rfl rfl rfl HL.out HYS.out) rfl HX.out
  · rw [if_neg h0] at hq
    obtain ⟨t3, u3, rfl⟩ := err_iface he3 h0
    have HX := Lib.hid (show SuSays w S g s q (.returned (.tuple #[.agg z, .iface t3 u3])) (w3.setRow w.heap.size z) from by
      rw [hq, HZ.out]
      exact ⟨_, rfl, err_rowv he3 RR3.out _, HN3.out.rowv RR3.out (Nat.le_refl _) _⟩)
    have HL := Lib.hid (setRow_blkv RR3.out z)
    clear hq he3 HQ2 HLT
    go_wp2_with (first | refine wpv_build HZ.out rfl rfl ?_ | refine wpv_store RR3.out HZS.out HZS.out HZ1.out _ _ rfl rfl rfl rfl ?_)
    exact bodyPost_ret (v := .tuple #[.agg z, .iface t3 u3]) (res_sub8 (i := 2) (j := 3) rfl rfl rfl HL.out HZS.out) rfl HX.out
end
end Go.Proofs.YtbfbmdjnobdjpaaGreatDoor
namespace Go.Proofs.YtbfbmdjnobdjpaaGreatDoor
set_option maxRecDepth 100000
open Go.ChangeShapes Go.WideShapes Go.RowKit Go.Deep Go.Extern.Stop Go.Stop Go.Extern
section
variable {z' w w' W W' : World} {S : Nat → Addr} {g : Nat} {s : ByteArray} {R : RV}
/-- What Parts tells of subscriptions. -/
def PtV (w : World) (S : Nat → Addr) (g : Nat) (s : ByteArray) (q : Er × List SV) (x : Ending) (w' : World) : Prop :=
  ∃ v e, x = .returned (.tuple #[v, e]) ∧ V8Row w' w.heap.size v q.2 ∧ ErrOf w' S q.1.r q.1.no q.1.at_ e ∧ ∃ R', RNext w w' S g s R'
/-- What its loop holds. -/
structure PvIn (z' w W : World) (S : Nat → Addr) (g : Nat) (s : ByteArray) (R : RV) (u : Value) (L : List SV) : Prop where
  rd : RObj W S g s R
  row : V8Row W w.heap.size u L
  bel : Below z'.heap.size z' W
  fr : Fr [g] w W
  gz : z'.heap.size ≤ g
  glt : g < w.heap.size
  zw : z'.heap.size ≤ w.heap.size
section
variable {u u' : Value} {L L' : List SV} {R' : RV}
theorem PvIn.below (h : PvIn z' w W S g s R u L) (hb : Below W.heap.size W W') : PvIn z' w W' S g s R u L :=
  ⟨h.rd.below hb, h.row.below hb, h.bel.trans (hb.mono h.bel.size), h.fr.trans (Y := []) (Fr.of_below hb) (fun k hk => by cases hk), h.gz, h.glt, h.zw⟩
theorem PvIn.step (h : PvIn z' w W S g s R u L) (hn : RNext W W' S g s R') : PvIn z' w W' S g s R' u L := by
  refine ⟨hn.obj, h.row.fr hn.fr fun k hk hm => ?_, hn.later h.gz h.bel.size h.bel, h.fr.trans hn.fr fun k hk _ => hk, h.gz, h.glt, h.zw⟩
  rw [List.mem_singleton] at hm
  subst hm
  have := (h.row.lt k hk).1
  have := h.glt
  omega
theorem PvIn.app (h : PvIn z' w W S g s R u L) (hn : V8Next W W' w.heap.size u u' L') : PvIn z' w W' S g s R u' L' := by
  have hf : Fr u.ownBlock.toList W W' := (Fr.refl _ W).grown hn.grown fun k hk => .inl (own_list.2 hk)
  refine ⟨h.rd.fr hf (fun hm => ?_) h.row.nof, hn.row, hf.later h.bel (fun b hm => ?_) h.bel.size, h.fr.trans hf fun k hk hlt => ?_, h.gz, h.glt, h.zw⟩
  · have := (h.row.lt _ (own_list.1 hm)).1
    have := h.glt
    omega
  · have := (h.row.lt b (own_list.1 hm)).1
    have := h.zw
    omega
  · have := (h.row.lt k (own_list.1 hk)).1
    omega
end
set_option maxHeartbeats 8000000 in
theorem partsS_any (hE : Env z' S) (hz : Below z'.heap.size z' w) (hg : z'.heap.size ≤ g) (ho : RObj w S g s R) (h0 : R.no = 0) (hs : s.size ≤ 900000) :
    Calls Tryz.prog 93 #[.pointer (some ⟨g, 0, none⟩), .func (.func 94) #[] #[]] w (PtV w S g s (ptL (rdS s) s 32 [] R)) := by
  obtain ⟨q, hq⟩ : ∃ q, q = ptL (rdS s) s 32 [] R := ⟨_, rfl⟩
  rw [← hq]
  have HE := Lib.hid hE
  have HI0 := Lib.hid (show PvIn z' w w S g s R (.slice none 0 0) [] from ⟨ho, V8Row.nil _ _, hz, Fr.refl _ _, hg, ho.lt, hz.size⟩)
  have HQ := Lib.hid hq
  have HSZ := Lib.hid hs
  have HFI := Lib.hid (fun (W : World) (R1 : RV) (hb : Below z'.heap.size z' W) (ho : RObj W S g s R1) => sub12 hE hb hg ho hs)
  have H00 := Lib.hid h0
  clear hE hz hg ho hs hq h0
  go_enter Tryz.func93, Tryz.ntmps93
  go_wp2_with fail
  go_loopg [6] 33 (fun f u wr => ∃ (L : List SV) (Rt : RV), f + L.length = 33 ∧ 0 < f ∧ Rt.no = 0 ∧ Hid (PvIn z' w wr S g s Rt u L ∧ q = ptL (rdS s) s (f - 1) L Rt))
  case atStart => exact ⟨[], R, rfl, by decide, H00.out, Lib.hid ⟨HI0.out, HQ.out⟩⟩
  case round =>
    obtain ⟨L, Rt, hf, hf0, hno, HJ⟩ := hrel
    obtain ⟨hi, hqq⟩ := HJ.out
    obtain ⟨av, nv, cv, rfl, hnv, hcap⟩ := hi.row.some_form
    have hL32 : L.length ≤ 32 := by omega
    subst hnv
    have HI := Lib.hid hi
    have HL := Lib.hid (rleft_any hi.rd (by have := HSZ.out; omega))
    obtain ⟨lf, hlf⟩ : ∃ lf, lf = s.size - Rt.p := ⟨_, rfl⟩
    rw [← hlf] at HL
    obtain ⟨f, rfl⟩ : ∃ f, gk = f + 1 := ⟨gk - 1, by omega⟩
    rw [show f + 1 - 1 = f from rfl] at hqq
    by_cases hend : s.size ≤ Rt.p
    · obtain rfl : lf = 0 := by omega
      have hq2 : q = if L.length = 0 then (⟨3, 130, Rt.p⟩, []) else (e00, L) := by
        cases f <;> (unfold ptL at hqq; rw [if_pos hend] at hqq; exact hqq)
      have HQ2 := Lib.hid hq2
      clear hqq hi HJ HI0 HQ hlf hend hq2
      go_wp2_with fail
      refine HL.out.mono ?_
      rintro x w4 ⟨rfl, hb4⟩
      have HI4 := Lib.hid (HI.out.below hb4)
      clear hb4 HI HL
      by_cases hl0 : L.length = 0
      · have hq2 := HQ2.out
        rw [if_pos hl0] at hq2
        have HQ3 := Lib.hid hq2
        obtain ⟨pp, hpp⟩ : ∃ pp, pp = Rt.p := ⟨_, rfl⟩
        rw [← hpp] at HQ3
        have HPP := Lib.hid hpp
        have HN := Lib.hid (fun W : World => new_err (w := W) S 2 130 (pp : Int))
        clear hq2 HQ2 hpp
        go_wp2_with fail
        refine wp_region_held_drew (S := fun W => PvIn z' w W S g s Rt (.slice av L.length cv) L) (by kernel_rfl) ?_ (fun hHeld => ?_)
        · exact HI4.out.below (below_drewN (Below.refl _ _) 1)
        refine wpAnyH_take (i := 0) (oi := { dst := some 35, op := Op.move (Operand.tmp 0), type := 83, pos := _, after := _, guard := none }) (v := .pointer (some ⟨g, 0, none⟩)) rfl (by kernel_rfl) (by kernel_rfl) (by kernel_rfl) (fun _ _ _ h => h) (Or.inl ⟨by rfl, fun w' hs => ?_⟩) (by assumption) ?_
        · go_simp
        simp only [Act.put, List.setIfInBounds_toArray, List.set_cons_zero, List.set_cons_succ]
        refine wpAnyH_take (i := 2) (oi := { dst := some 37, op := Op.load 35 (Operand.global 3), type := 35, pos := _, after := _, guard := none }) (v := .iface 235 (.pointer (some (S 2)))) rfl (by kernel_rfl) (by kernel_rfl) (by kernel_rfl) (fun _ _ _ h => h) (Or.inl ⟨by rfl, fun w' hs => ?_⟩) (by assumption) ?_
        · have kk := (HE.out.later hs.bel).kProtocol
          go_simp
        simp only [Act.put, List.setIfInBounds_toArray, List.set_cons_zero, List.set_cons_succ]
        refine wpAnyH_ready (rs := [1]) (by kernel_rfl) (by simp) ?_
        refine AllReadyH.cons (o := { dst := some 36, op := Op.call { callee := Callee.value (Operand.func 145), args := #[Operand.tmp 35], argTypes := #[83] }, type := 3, pos := _, after := _, guard := none }) rfl (fun K hK => ?_) AllReadyH.nil
        go_simp
        have hat := rat_any hHeld.rd
        rw [← HPP.out] at hat
        refine hat.mono ?_
        rintro x w5 ⟨rfl, rfl⟩
        go_wp2_with fail
        refine hK.out _ _ ?_ (fun hHeld5 => ?_)
        · exact hHeld
        clear hK K
        try simp only [Act.put, List.setIfInBounds_toArray, List.set_cons_zero, List.set_cons_succ]
        refine wpAnyH_ready (rs := [3]) (by kernel_rfl) (by simp) ?_
        refine AllReadyH.cons (o := { dst := some 38, op := Op.call { callee := Callee.value (Operand.func 83), args := #[Operand.const (Value.int IntKind.i64 130), Operand.tmp 36, Operand.tmp 37], argTypes := #[3, 3, 35] }, type := 35, pos := _, after := _, guard := none }) rfl (fun K hK => ?_) AllReadyH.nil
        go_simp
        refine (HN.out _).mono ?_
        rintro x w6 ⟨e, rfl, he, hb⟩
        have hi6 := hHeld5.below hb
        go_wp2_with fail
        refine hK.out _ _ ?_ (fun hHeld6 => ?_)
        · exact hi6
        clear hK K
        try simp only [Act.put, List.setIfInBounds_toArray, List.set_cons_zero, List.set_cons_succ]
        refine wpAnyH_take (i := 4) (oi := { dst := some 4, op := Op.assign (Operand.const (Value.slice none 0 0)), type := 25, pos := _, after := _, guard := none }) (v := .slice none 0 0) rfl (by kernel_rfl) (by kernel_rfl) (by kernel_rfl) (fun _ _ _ h => h) (Or.inl ⟨by rfl, fun w' hs => ?_⟩) (by assumption) ?_
        · go_simp
        simp only [Act.put, List.setIfInBounds_toArray, List.set_cons_zero, List.set_cons_succ]
        refine wpAnyH_take (i := 5) (oi := { dst := some 5, op := Op.assign (Operand.tmp 38), type := 35, pos := _, after := _, guard := none }) (v := e) rfl (by kernel_rfl) (by kernel_rfl) (by kernel_rfl) (fun _ _ _ h => h) (Or.inl ⟨by rfl, fun w' hs => ?_⟩) (by assumption) ?_
        · go_simp
        simp only [Act.put, List.setIfInBounds_toArray, List.set_cons_zero, List.set_cons_succ]
        have HX := Lib.hid (show PtV w S g s q (.returned (.tuple #[.slice none 0 0, e])) w6 from by
          rw [HQ3.out]
          exact ⟨_, _, rfl, V8Row.nil _ _, ErrOf.some (no := 3) (by decide) (by decide) he, _, hi6.rd, hi6.fr⟩)
        clear he hb hi6 hHeld hHeld5 hHeld6 hat
        refine wpAnyH_done (by kernel_rfl) ?_ _
        go_wp2_with fail
        exact bodyPost_ret (v := .tuple #[.slice none 0 0, e]) (by simp [results, Tryz.results93, go_sem]) rfl HX.out
      · have hq2 := HQ2.out
        rw [if_neg hl0] at hq2
        have HX := Lib.hid (show PtV w S g s q (.returned (.tuple #[.slice av L.length cv, .nilIface])) w4 from by
          rw [hq2]
          exact ⟨_, _, rfl, HI4.out.row, ErrOf.none, _, HI4.out.rd, HI4.out.fr⟩)
        clear hq2 HQ2
        go_wp2_with fail
        exact bodyPost_ret (v := .tuple #[.slice av L.length cv, .nilIface]) (by simp [results, Tryz.results93, go_sem]) rfl HX.out
    · have hlf0 : 0 < (lf : Int) := by omega
      have hlfn : 0 < lf := by omega
      have HQ0 := Lib.hid hqq
      clear hi hqq HJ HI0 HQ hlf
      go_wp2_with fail
      refine HL.out.mono ?_
      rintro x w4 ⟨rfl, hb4⟩
      have HI4 := Lib.hid (HI.out.below hb4)
      clear hb4 HI HL
      by_cases hl32 : L.length = 32
      · have hq2 := HQ0.out
        obtain rfl : f = 0 := by omega
        unfold ptL at hq2
        rw [if_neg hend] at hq2
        have HQ3 := Lib.hid hq2
        have hli : (L.length : Int) = 32 := by omega
        obtain ⟨pp, hpp⟩ : ∃ pp, pp = Rt.p := ⟨_, rfl⟩
        rw [← hpp] at HQ3
        have HPP := Lib.hid hpp
        have HN := Lib.hid (fun W : World => new_err (w := W) S 3 149 (pp : Int))
        clear hq2 HQ0 hpp hend
        go_wp2_with fail
        refine wp_region_held_drew (S := fun W => PvIn z' w W S g s Rt (.slice av L.length cv) L) (by kernel_rfl) ?_ (fun hHeld => ?_)
        · exact HI4.out.below (below_drewN (Below.refl _ _) 1)
        refine wpAnyH_take (i := 0) (oi := { dst := some 15, op := Op.move (Operand.tmp 0), type := 83, pos := _, after := _, guard := none }) (v := .pointer (some ⟨g, 0, none⟩)) rfl (by kernel_rfl) (by kernel_rfl) (by kernel_rfl) (fun _ _ _ h => h) (Or.inl ⟨by rfl, fun w' hs => ?_⟩) (by assumption) ?_
        · go_simp
        simp only [Act.put, List.setIfInBounds_toArray, List.set_cons_zero, List.set_cons_succ]
        refine wpAnyH_take (i := 2) (oi := { dst := some 17, op := Op.load 35 (Operand.global 4), type := 35, pos := _, after := _, guard := none }) (v := .iface 235 (.pointer (some (S 3)))) rfl (by kernel_rfl) (by kernel_rfl) (by kernel_rfl) (fun _ _ _ h => h) (Or.inl ⟨by rfl, fun w' hs => ?_⟩) (by assumption) ?_
        · have kk := (HE.out.later hs.bel).kTooLarge
          go_simp
        simp only [Act.put, List.setIfInBounds_toArray, List.set_cons_zero, List.set_cons_succ]
        refine wpAnyH_ready (rs := [1]) (by kernel_rfl) (by simp) ?_
        refine AllReadyH.cons (o := { dst := some 16, op := Op.call { callee := Callee.value (Operand.func 145), args := #[Operand.tmp 15], argTypes := #[83] }, type := 3, pos := _, after := _, guard := none }) rfl (fun K hK => ?_) AllReadyH.nil
        go_simp
        have hat := rat_any hHeld.rd
        rw [← HPP.out] at hat
        refine hat.mono ?_
        rintro x w5 ⟨rfl, rfl⟩
        go_wp2_with fail
        refine hK.out _ _ ?_ (fun hHeld5 => ?_)
        · exact hHeld
        clear hK K
        try simp only [Act.put, List.setIfInBounds_toArray, List.set_cons_zero, List.set_cons_succ]
        refine wpAnyH_ready (rs := [3]) (by kernel_rfl) (by simp) ?_
        refine AllReadyH.cons (o := { dst := some 18, op := Op.call { callee := Callee.value (Operand.func 83), args := #[Operand.const (Value.int IntKind.i64 149), Operand.tmp 16, Operand.tmp 17], argTypes := #[3, 3, 35] }, type := 35, pos := _, after := _, guard := none }) rfl (fun K hK => ?_) AllReadyH.nil
        go_simp
        refine (HN.out _).mono ?_
        rintro x w6 ⟨e, rfl, he, hb⟩
        have hi6 := hHeld5.below hb
        go_wp2_with fail
        refine hK.out _ _ ?_ (fun hHeld6 => ?_)
        · exact hi6
        clear hK K
        try simp only [Act.put, List.setIfInBounds_toArray, List.set_cons_zero, List.set_cons_succ]
        refine wpAnyH_take (i := 4) (oi := { dst := some 4, op := Op.assign (Operand.const (Value.slice none 0 0)), type := 25, pos := _, after := _, guard := none }) (v := .slice none 0 0) rfl (by kernel_rfl) (by kernel_rfl) (by kernel_rfl) (fun _ _ _ h => h) (Or.inl ⟨by rfl, fun w' hs => ?_⟩) (by assumption) ?_
        · go_simp
        simp only [Act.put, List.setIfInBounds_toArray, List.set_cons_zero, List.set_cons_succ]
        refine wpAnyH_take (i := 5) (oi := { dst := some 5, op := Op.assign (Operand.tmp 18), type := 35, pos := _, after := _, guard := none }) (v := e) rfl (by kernel_rfl) (by kernel_rfl) (by kernel_rfl) (fun _ _ _ h => h) (Or.inl ⟨by rfl, fun w' hs => ?_⟩) (by assumption) ?_
        · go_simp
        simp only [Act.put, List.setIfInBounds_toArray, List.set_cons_zero, List.set_cons_succ]
        have HX := Lib.hid (show PtV w S g s q (.returned (.tuple #[.slice none 0 0, e])) w6 from by
          rw [HQ3.out]
          exact ⟨_, _, rfl, V8Row.nil _ _, ErrOf.some (no := 4) (by decide) (by decide) he, _, hi6.rd, hi6.fr⟩)
        clear he hb hi6 hHeld hHeld5 hHeld6 hat
        refine wpAnyH_done (by kernel_rfl) ?_ _
        go_wp2_with fail
        exact bodyPost_ret (v := .tuple #[.slice none 0 0, e]) (by simp [results, Tryz.results93, go_sem]) rfl HX.out
      · obtain ⟨f', rfl⟩ : ∃ f', f = f' + 1 := ⟨f - 1, by omega⟩
        have hq2 := HQ0.out
        rw [ptL, if_neg hend] at hq2
        have hli : ¬ (L.length : Int) = 32 := by omega
        have hfi := HFI.out _ Rt HI4.out.bel HI4.out.rd
        unfold SuSays at hfi
        have hrn := ((partS s).of_rd Rt hno (by omega))
        obtain ⟨⟨e1, ⟨f1, q1, b1, d1, t1⟩, R1⟩, ht⟩ : ∃ V, V = rdS s Rt := ⟨_, rfl⟩
        rw [← ht] at hfi hq2 hrn
        simp only at hfi hq2 hrn
        rw [show SV.agg ⟨f1, q1, b1, d1, t1⟩ = .agg #[.string f1, .int .i64 q1, .bool b1, .bool d1, .int .i64 t1] from rfl] at hfi
        have HF2 := Lib.hid hfi
        have HQ3 := Lib.hid hq2
        have HRN := Lib.hid hrn
        clear hfi hq2 ht HQ0 hend hrn
        go_wp2_with fail
        refine HF2.out.mono ?_
        rintro x w5 ⟨e5, rfl, he5, hn5⟩
        have a5 : Below w5.heap.size w5 (w5.alloc (.cells #[.string f1, .int .i64 q1, .bool b1, .bool d1, .int .i64 t1] 58)) := (Below.refl _ _).alloc (Nat.le_refl _) _
        have HI5 := Lib.hid ((HI4.out.step hn5).below a5)
        clear hn5 HF2 HI4
        by_cases h1 : e1.no = 0
        · have hq2 := HQ3.out
          rw [if_pos h1] at hq2
          unfold ErrOf at he5
          rw [if_pos h1] at he5
          subst he5
          have hr1 : R1.no = 0 := (HRN.out h1).2.1
          have HQ4 := Lib.hid hq2
          have HS6 := Lib.hid HI5.out.fr.size
          have HDL := Lib.hid (show L.length ≤ 1000 from by omega)
          clear hq2 HQ3 a5
          go_wp2_with (at_builtin; go_must (refine V8_append ⟨f1, q1, b1, d1, t1⟩ rfl _ _ rfl HI5.out.row HS6.out rfl _ 1 rfl (by first | rfl | simp [World.size_alloc]) HDL.out rfl ?_))
          intro v7 w7 hn7
          have HI7 := Lib.hid (HI5.out.app hn7)
          clear hn7
          go_wp2_with fail
          go_roundg (f' + 1)
          case rel => exact ⟨L ++ [(⟨f1, q1, b1, d1, t1⟩ : SV)], R1, by rw [List.length_append, List.length_singleton]; omega, by omega, hr1, Lib.hid ⟨HI7.out, HQ4.out⟩⟩
          case measure => omega
        · have hq2 := HQ3.out
          rw [if_neg h1] at hq2
          obtain ⟨t5, u5', rfl⟩ := err_iface he5 h1
          have HX := Lib.hid (show PtV w S g s q (.returned (.tuple #[.slice none 0 0, .iface t5 u5'])) (w5.alloc (.cells #[.string f1, .int .i64 q1, .bool b1, .bool d1, .int .i64 t1] 58)) from by
            rw [hq2]
            exact ⟨_, _, rfl, V8Row.nil _ _, he5.later a5, _, HI5.out.rd, HI5.out.fr⟩)
          clear hq2 he5 HQ3 a5
          go_wp2_with fail
          exact bodyPost_ret (v := .tuple #[.slice none 0 0, .iface t5 u5']) (by simp [results, Tryz.results93, go_sem]) rfl HX.out
end
end Go.Proofs.YtbfbmdjnobdjpaaGreatDoor
namespace Go.Proofs.YtbfbmdjnobdjpaaGreatDoor
set_option maxRecDepth 100000
open Go.RowKit Go.Extern.Stop Go.Stop Go.Extern
section
variable {z w w' : World} {S : Nat → Addr} {B g : Nat} {s : ByteArray} {R : RV} {v : Value} {W : EV}
set_option maxHeartbeats 8000000 in
theorem frame_any12 (first : Int) (h : WObj w S B g v W) {q : Er × Pk} (hdc : ∀ W1 : World, Below w.heap.size w W1 → Calls Tryz.prog 32 #[.agg #[.int .i64 first, .string ⟨W.L.toArray⟩]] W1 (DcSays W1 S q)) :
    Calls Tryz.prog 59 #[.int .i64 first, .pointer (some ⟨g, 0, none⟩), .func (.func 32) #[] #[]] w (FrSays w S (frR W first q.1)) := by
  obtain ⟨f, hf⟩ : ∃ f, f = frR W first q.1 := ⟨_, rfl⟩
  rw [← hf]
  unfold frR at hf
  have hb1 : Below w.heap.size w (w.alloc (.cells #[.int .i64 0, .string ⟨#[]⟩] 33)) := (Below.refl _ _).alloc (Nat.le_refl _) _
  have HW := Lib.hid (wbytes_any (h.below hb1))
  have HK := Lib.hid (Blk.made w 33 #[.int .i64 0, .string ⟨#[]⟩])
  have HB1 := Lib.hid hb1
  have HD := Lib.hid hdc
  have HF := Lib.hid hf
  clear hb1 hdc h hf
  go_enter Tryz.func59, Tryz.ntmps59
  go_wp2_with fail
  refine HW.out.mono ?_
  rintro x w2 ⟨e2, rfl, he2, hb2⟩
  obtain ⟨W0, Wa, WL⟩ := W
  obtain ⟨qe, qp⟩ := q
  simp only at he2 HD HF ⊢
  have k2 := HK.out.below hb2 HK.out.lt
  have hb12 := HB1.out.trans (hb2.mono HB1.out.size)
  have HB2 := Lib.hid hb12
  have HK2 := Lib.hid k2
  have hff := HF.out
  by_cases h0 : W0 = 0
  · subst h0
    rw [if_pos rfl] at hff
    unfold ErrOf at he2
    rw [if_pos rfl] at he2
    subst he2
    obtain ⟨t, ht⟩ : ∃ t : ByteArray, t = ⟨WL.toArray⟩ := ⟨_, rfl⟩
    rw [← ht] at HD hff
    have HFF := Lib.hid hff
    have hb3 : Below w2.heap.size w2 (w2.alloc (.cells #[.int .i64 first, .string t] 33)) := (Below.refl _ _).alloc (Nat.le_refl _) _
    have hb13 := hb12.trans (hb3.mono hb12.size)
    have HDD := Lib.hid (HD.out _ hb13)
    have HB3 := Lib.hid hb13
    have HK3 := Lib.hid (k2.below hb3 k2.lt)
    have HK4 := Lib.hid (Blk.made w2 33 #[.int .i64 first, .string t])
    clear hb2 k2 hb12 hff hb3 hb13 HD HW HF HK HB1 HB2 HK2
    rw [show (⟨(EV.L ⟨0, Wa, WL⟩).toArray⟩ : ByteArray) = t from ht.symm]
    clear ht
    go_wp2_with fail
    refine HDD.out.mono ?_
    rintro x w4 ⟨A4, e4, rfl, _, he4, hb4⟩
    simp only at he4
    obtain ⟨c, hc⟩ : ∃ c, c = qp.cells A4 := ⟨_, rfl⟩
    rw [show Pk.agg (qe, qp).2 A4 = .agg c from by rw [hc]; rfl]
    have hcs : c.size = 26 := by rw [hc]; rfl
    have hst := st_pkt w4 c hcs (by rw [hc]; exact pk_one _ _)
    have hst2 := st_pktc w4 c hcs (by rw [hc]; exact pk_one _ _)
    clear hc
    have hb5 : Below w4.heap.size w4 (w4.alloc (.cells c 29)) := (Below.refl _ _).alloc (Nat.le_refl _) _
    have k3 := (HK3.out.below hb4 HK3.out.lt).below hb5 (HK3.out.below hb4 HK3.out.lt).lt
    have k4 := (HK4.out.below hb4 HK4.out.lt).below hb5 (HK4.out.below hb4 HK4.out.lt).lt
    have hb15 := (HB3.out.trans (hb4.mono HB3.out.size)).trans (hb5.mono (HB3.out.trans (hb4.mono HB3.out.size)).size)
    have c0 := k4.cell 0
    have c1 := k4.cell 1
    have h2 : ∀ {a b : Value}, (#[a, b] : Array Value)[0]? = some a ∧ (#[a, b] : Array Value)[1]? = some b := ⟨rfl, rfl⟩
    rw [h2.1] at c0
    rw [h2.2] at c1
    clear h2
    by_cases hq0 : qe.no = 0
    · have hff := HFF.out
      rw [if_pos hq0] at hff
      unfold ErrOf at he4
      rw [if_pos hq0] at he4
      subst he4
      obtain ⟨⟨z0, z1, y0, y1⟩, ⟨z2, y2⟩, ⟨f0, f1⟩, _⟩ := fr_facts (S := S) k3 (.int .i64 first) (.string t)
      have hbf := (hb15.setCell (p := ⟨w.heap.size, 0, none⟩) (Nat.le_refl _) (.int .i64 first)).setCell (p := ⟨w.heap.size, 1, none⟩) (Nat.le_refl _) (.string t)
      have HX := Lib.hid (show ∀ W, Below w.heap.size w W → FrSays w S f (.returned (.tuple #[.agg #[.int .i64 first, .string t], .nilIface])) W from fun W hb => by
        rw [hff]
        exact ⟨_, rfl, ErrOf.none, hb⟩)
      have HBF := Lib.hid hbf
      clear hff hbf hb5 k3 k4 hb15 hb4 HDD HFF HB3 HK3 HK4
      go_wp2
      exact bodyPost_ret (v := .tuple #[.agg #[.int .i64 first, .string t], .nilIface]) (by simp [results, Tryz.results59, go_sem, f0, f1]) rfl (HX.out _ HBF.out)
    · have hff := HFF.out
      rw [if_neg hq0] at hff
      obtain ⟨t4, u4, rfl⟩ := err_iface he4 hq0
      obtain ⟨⟨z0, z1, y0, y1⟩, ⟨z2, y2⟩, ⟨f0, f1⟩, ferr⟩ := fr_facts (S := S) k3 (.int .i64 0) (.string ⟨#[]⟩)
      have hbf := (hb15.setCell (p := ⟨w.heap.size, 0, none⟩) (Nat.le_refl _) (.int .i64 0)).setCell (p := ⟨w.heap.size, 1, none⟩) (Nat.le_refl _) (.string ⟨#[]⟩)
      have hee := ferr _ _ _ _ (he4.later hb5)
      have HX := Lib.hid (show FrSays w S f (.returned (.tuple #[.agg #[.int .i64 0, .string ⟨#[]⟩], .iface t4 u4])) _ from by
        rw [hff]
        exact ⟨_, rfl, hee, hbf⟩)
      clear hff hbf hb5 k3 k4 hb15 hb4 he4 hee ferr HDD HFF HB3 HK3 HK4
      go_wp2
      exact bodyPost_ret (v := .tuple #[.agg #[.int .i64 0, .string ⟨#[]⟩], .iface t4 u4]) (by simp [results, Tryz.results59, go_sem, f0, f1]) rfl HX.out
  · rw [if_neg h0] at hff
    obtain ⟨t2, u2, rfl⟩ := err_iface he2 h0
    obtain ⟨⟨z0, z1, y0, y1⟩, ⟨z2, y2⟩, ⟨f0, f1⟩, ferr⟩ := fr_facts (S := S) k2 (.int .i64 0) (.string ⟨#[]⟩)
    have hbf := (hb12.setCell (p := ⟨w.heap.size, 0, none⟩) (Nat.le_refl _) (.int .i64 0)).setCell (p := ⟨w.heap.size, 1, none⟩) (Nat.le_refl _) (.string ⟨#[]⟩)
    have hee := ferr _ _ _ _ he2
    have HX := Lib.hid (show FrSays w S f (.returned (.tuple #[.agg #[.int .i64 0, .string ⟨#[]⟩], .iface t2 u2])) _ from by
      rw [hff]
      exact ⟨_, rfl, hee, hbf⟩)
    clear hb2 hb12 hff he2 hbf hee ferr k2 HD HW HF HK HB1 HB2 HK2
    go_wp2
    exact bodyPost_ret (v := .tuple #[.agg #[.int .i64 0, .string ⟨#[]⟩], .iface t2 u2]) (by simp [results, Tryz.results59, go_sem, f0, f1]) rfl HX.out
end
end Go.Proofs.YtbfbmdjnobdjpaaGreatDoor
namespace Go.Proofs.YtbfbmdjnobdjpaaGreatDoor
set_option maxRecDepth 100000
open Go.ChangeShapes Go.WideShapes Go.RowKit Go.Deep Go.Extern.Stop Go.Stop Go.Extern
section
variable {w w' : World} {S : Nat → Addr} {s : ByteArray}
set_option maxHeartbeats 8000000 in
theorem dec12_bad (hE : Env w S) (first : Int) (h1 : ¬ first = 130) (h2 : ¬ first = 144) : Calls Tryz.prog 32 #[.agg #[.int .i64 first, .string s]] w (DcSays w S (dcS first s)) := by
  obtain ⟨z, hz⟩ : ∃ z, z = pk0.cells pa0 := ⟨_, rfl⟩
  have HZ := Lib.hid hz
  have HZS := Lib.hid (show z.size = 26 by rw [hz]; rfl)
  have HZ1 := Lib.hid (show z.all (·.oneCell') = true by rw [hz]; exact pk_one _ _)
  obtain ⟨q, hq⟩ : ∃ q, q = dcS first s := ⟨_, rfl⟩
  rw [← hq]
  unfold dcS at hq
  rw [if_pos (by unfold kS; rw [if_neg h1, if_neg h2])] at hq
  have HQ := Lib.hid hq
  obtain ⟨W2, hW2⟩ : ∃ W, W = (w.alloc (.cells #[.int .i64 first, .string s] 33)).alloc (.cells z 29) := ⟨_, rfl⟩
  have a1 : Below w.heap.size w (w.alloc (.cells #[.int .i64 first, .string s] 33)) := (Below.refl _ _).alloc (Nat.le_refl _) _
  have hb2 : Below w.heap.size w W2 := by rw [hW2]; exact a1.trans (((Below.refl (w.alloc (.cells #[.int .i64 first, .string s] 33)).heap.size _).alloc (Nat.le_refl _) (.cells z 29)).mono a1.size)
  have r1 : Blk W2 (w.heap.size + 1) 29 z := by
    have h := Blk.made (w.alloc (.cells #[.int .i64 first, .string s] 33)) 29 z
    rw [World.size_alloc] at h
    rw [hW2]; exact h
  have kM := (hE.later hb2).kMalformed
  have R1 := Lib.hid r1
  have HB2 := Lib.hid hb2
  have HN := Lib.hid (new_err (w := W2) S 1 129 0)
  have HW2 := Lib.hid hW2
  rw [hW2] at kM
  clear hE hz hq a1 hb2 r1 hW2
  go_enter Tryz.func32, Tryz.ntmps32
  go_wp2_with (first | refine wpk_alloc HZ.out rfl rfl ?_ | refine wpk_build HZ.out rfl rfl ?_)
  rw [← HW2.out]
  refine HN.out.mono ?_
  rintro x w7 ⟨e, rfl, he, hb7⟩
  obtain ⟨te, ue, rfl⟩ := he.iface
  have r1 := R1.out.below hb7 R1.out.lt
  have hb := HB2.out.trans (hb7.mono HB2.out.size)
  have hbf := below_row hb (k := w.heap.size + 1) (by omega) z
  have r3 := setRow_blk r1 z
  have LD := Lib.hid (And.intro r3 HZS.out)
  have HX := Lib.hid (show DcSays w S q (.returned (.tuple #[.agg z, .iface te ue])) (w7.setRow (w.heap.size + 1) z) from by
    rw [HQ.out]
    exact DcSays.bad8 HZ.out rfl (err_row (ErrOf.some (no := 2) (by decide) (by decide) he) r1 z) hbf)
  have HR1 := Lib.hid r1
  clear hb7 hb hbf r1 r3 kM he
  go_wp2_with (first | refine wpk_build HZ.out rfl rfl ?_ | refine wpk_store HR1.out HZS.out HZS.out HZ1.out _ _ rfl rfl rfl rfl ?_)
  exact bodyPost_ret (v := .tuple #[.agg z, .iface te ue]) (res_pkt (i := 2) (j := 3) rfl rfl rfl LD.out.1 LD.out.2) rfl HX.out
set_option maxHeartbeats 16000000 in
theorem dec12_130 (hE : Env w S) (hs : s.size ≤ 900000) : Calls Tryz.prog 32 #[.agg #[.int .i64 130, .string s]] w (DcSays w S (dcS 130 s)) := by
  have HE := Lib.hid hE
  have HSZ := Lib.hid hs
  obtain ⟨z, hz⟩ : ∃ z, z = pk0.cells pa0 := ⟨_, rfl⟩
  have HZ := Lib.hid hz
  have HZS := Lib.hid (show z.size = 26 by rw [hz]; rfl)
  have HZ1 := Lib.hid (show z.all (·.oneCell') = true by rw [hz]; exact pk_one _ _)
  obtain ⟨Q, hQ⟩ : ∃ Q, Q = dcS 130 s := ⟨_, rfl⟩
  rw [← hQ]
  unfold dcS at hQ
  rw [show kS 130 = 8 from rfl, if_neg (by decide), if_pos (show (8 : Int) = 8 from rfl)] at hQ
  obtain ⟨W2, hW2⟩ : ∃ W, W = (w.alloc (.cells #[.int .i64 130, .string s] 33)).alloc (.cells z 29) := ⟨_, rfl⟩
  have a1 : Below w.heap.size w (w.alloc (.cells #[.int .i64 130, .string s] 33)) := (Below.refl _ _).alloc (Nat.le_refl _) _
  have hb2 : Below w.heap.size w W2 := by rw [hW2]; exact a1.trans (((Below.refl (w.alloc (.cells #[.int .i64 130, .string s] 33)).heap.size _).alloc (Nat.le_refl _) (.cells z 29)).mono a1.size)
  have r1 : Blk W2 (w.heap.size + 1) 29 z := by
    have h := Blk.made (w.alloc (.cells #[.int .i64 130, .string s] 33)) 29 z
    rw [World.size_alloc] at h
    rw [hW2]; exact h
  have HSZ2 := Lib.hid (show W2.heap.size = w.heap.size + 1 + 1 by rw [hW2, World.size_alloc, World.size_alloc])
  have hb3 : Below W2.heap.size W2 (W2.alloc (.cells #[.string s, .int .i64 0, .nilIface] 151)) := (Below.refl _ _).alloc (Nat.le_refl _) _
  have HI := Lib.hid (show DcI w (W2.alloc (.cells #[.string s, .int .i64 0, .nilIface] 151)) S W2.heap.size s ⟨0, 0, 0⟩ z from ⟨hb2.trans (hb3.mono hb2.size), r1.below hb3 r1.lt, RObj.made W2 S s, hb2.size⟩)
  have HW2 := Lib.hid hW2
  have hth := th_any hE HI.out.bel HI.out.low HI.out.rd hs 8
  have hthn := fun hh => th_ok (k := 8) (s := s) hh
  obtain ⟨T, hT⟩ : ∃ T, T = thF 8 s := ⟨_, rfl⟩
  have hTP := fun hh => (hthn hh).no
  rw [← hT] at hth hQ hTP
  have HTH := Lib.hid hth
  have HTP := Lib.hid hTP
  have HQ := Lib.hid hQ
  clear hE hz hs hQ a1 hb2 r1 hb3 hW2 hth hthn hT hTP
  go_enter Tryz.func32, Tryz.ntmps32
  go_wp2_with (first | refine wpk_alloc HZ.out rfl rfl ?_)
  rw [← HW2.out]
  refine (rnew_any s W2).mono ?_
  rintro x w3 ⟨rfl, hw3⟩
  rw [← hw3] at HI HTH
  have HS3 := Lib.hid (show w3.heap.size = w.heap.size + 1 + 1 + 1 by rw [hw3, World.size_alloc, HSZ2.out])
  clear hw3
  go_wp2_with fail
  refine HTH.out.mono ?_
  rintro x w4 ⟨A4, e4, rfl, hp4, he4, hn4⟩
  have hsz4 := hn4.fr.size
  obtain ⟨c4, hc4⟩ : ∃ c, c = (thP 8 T).cells A4 := ⟨_, rfl⟩
  rw [show (thP 8 T).agg A4 = .agg c4 from by rw [hc4]; rfl]
  have HC4 := Lib.hid hc4
  have HCS := Lib.hid (show c4.size = 26 by rw [hc4]; rfl)
  have HC1 := Lib.hid (show c4.all (·.oneCell') = true by rw [hc4]; exact pk_one _ _)
  have hi4 := HI.out.step hn4
  obtain ⟨W5, hW5⟩ : ∃ W, W = w4.alloc (.cells c4 29) := ⟨_, rfl⟩
  have hb5 : Below w4.heap.size w4 W5 := by rw [hW5]; exact (Below.refl _ _).alloc (Nat.le_refl _) _
  have HJ := Lib.hid (show DcJ w W5 S W2.heap.size s T.R z w4.heap.size c4 from ⟨hi4.below hb5, by rw [hW5]; exact Blk.made _ _ _, by have := HS3.out; omega⟩)
  have HP5 := Lib.hid ((hp4 w.heap.size (by have := HS3.out; omega)).below hb5)
  have HE5 := Lib.hid (he4.later hb5)
  have HHI := Lib.hid (show w.heap.size ≤ w3.heap.size by have := HS3.out; omega)
  have HW5 := Lib.hid hW5
  clear hn4 hi4 hb5 hp4 hW5 hc4 HTH HI
  have hq := HQ.out
  by_cases h0 : T.e.no = 0
  · rw [if_pos h0] at hq
    unfold ErrOf at he4
    rw [if_pos h0] at he4
    subst he4
    have hp5 := HP5.out
    have hcc := HC4.out
    have eth : thP 8 T = pkS 8 T.id T.L [] [] [] := by unfold thP; rw [if_pos h0]
    rw [eth] at hp5 hcc
    have hpt := partsS_any (z' := w) HE.out HJ.out.inn.bel HJ.out.inn.low HJ.out.inn.rd (HTP.out h0) HSZ.out
    obtain ⟨⟨pe, P⟩, hpp⟩ : ∃ V, V = ptL (rdS s) s 32 [] T.R := ⟨_, rfl⟩
    rw [← hpp] at hpt hq
    have HPT := Lib.hid hpt
    have HQ2 := Lib.hid hq
    have HPK := Lib.hid (And.intro hp5.pr hp5.pc)
    have HCC := Lib.hid hcc
    clear hp5 hcc eth hpt hpp hq HP5 HC4 HQ HE5 h0 HTP
    go_wp2_with (first | refine wpk_alloc HZ.out rfl rfl ?_ | refine wpk_store_new HZS.out (c := c4) HCS.out HC1.out _ _ rfl rfl rfl rfl ?_)
    rw [← HW5.out]
    refine HPT.out.mono ?_
    rintro x w6 ⟨v6, e6, rfl, hr6, he6, R6, hn6⟩
    simp only at hr6 he6
    obtain ⟨a6, n6, c6, rfl, hnn6, hcc6⟩ := hr6.some_form
    have hsz5 := HJ.out.inn.bel.size
    have hj6 := HJ.out.step hn6
    have hpr6 := HPK.out.1.rnext HJ.out.inn.low HJ.out.inn.rd hn6
    have cX : w6.cell? ⟨w4.heap.size, 23, none⟩ = some (.slice A4.sa 0 A4.sc) := hj6.get (by rw [HCC.out]; rfl)
    have fX := hj6.box.frozen 23
    have hj7 := hj6.cell 23 (.slice a6 n6 c6)
    have hp7 : PIn (w6.setCell ⟨w4.heap.size, 23, none⟩ (.slice a6 n6 c6)) w.heap.size A4.pa T.L := hj6.pin (Nat.le_refl _) hpr6 _ _
    have he7 := hj6.err he6 23 (.slice a6 n6 c6)
    have hci : CIn (w6.setCell ⟨w4.heap.size, 23, none⟩ (.slice a6 n6 c6)) w.heap.size 58 a6 (P.flatMap SV.cells) := (hr6.cin (B' := w.heap.size)).cell hj6.box (by have := hj6.low; omega) (by decide) 23 _
    obtain ⟨y, hy⟩ : ∃ y, y = c4.setIfInBounds 23 (.slice a6 n6 c6) := ⟨_, rfl⟩
    rw [← hy] at hj7
    have hq := HQ2.out
    unfold dcS_a at hq
    by_cases h1 : pe.no = 0
    · rw [if_pos h1] at hq
      unfold ErrOf at he6
      rw [if_pos h1] at he6
      subst he6
      have ey : y = Q.2.cells ⟨A4.pa, A4.pc, A4.wa, A4.wc, a6, c6, A4.fa, A4.fc, A4.ca, A4.cc⟩ := by rw [hy, HCC.out, hq, hnn6]; rfl
      have hX := hj7.inn.good (p := Q.2) (A := ⟨A4.pa, A4.pc, A4.wa, A4.wc, a6, c6, A4.fa, A4.fc, A4.ca, A4.cc⟩) (by
        rw [hq]
        exact ⟨hp7, HPK.out.2, PIn.nil _ _ _, Nat.zero_le _, hci, CIn.nil _ _ _ _, CIn.nil _ _ _ _⟩) ey
      rw [show (e00, Q.2) = Q from by rw [hq]] at hX
      have HX := Lib.hid hX
      have HYS := Lib.hid (show y.size = 26 by rw [ey]; rfl)
      have HY1 := Lib.hid (show y.all (·.oneCell') = true by rw [ey]; exact pk_one _ _)
      have HBX := Lib.hid hj7.box
      have HRX := Lib.hid hj7.inn.res
      clear hr6 hn6 hj6 hpr6 hj7 hp7 he7 hci hy hq ey hX hnn6 hcc6 HPT HQ2
      go_wp2_with (first | refine wpk_load HBX.out HYS.out _ rfl rfl rfl ?_ | refine wpk_store HRX.out HZS.out HYS.out HY1.out _ _ rfl rfl rfl rfl ?_)
      exact bodyPost_ret (v := .tuple #[.agg y, .nilIface]) (res_pkt (i := 2) (j := 3) rfl rfl rfl HX.out.1 HYS.out) rfl HX.out.2
    · rw [if_neg h1] at hq
      obtain ⟨t6, u6, rfl⟩ := err_iface he6 h1
      have hX := hj7.inn.bad HZ.out (q := Q) (by rw [hq]) (e := .iface t6 u6) (by rw [hq]; exact he7)
      have HRX := Lib.hid hj7.inn.res
      have HX := Lib.hid hX
      clear hr6 hn6 hj6 hpr6 hj7 hp7 he7 he6 hci hy hq hX hnn6 hcc6 HPT HQ2
      go_wp2_with (first | refine wpk_build HZ.out rfl rfl ?_ | refine wpk_store HRX.out HZS.out HZS.out HZ1.out _ _ rfl rfl rfl rfl ?_)
      exact bodyPost_ret (v := .tuple #[.agg z, .iface t6 u6]) (res_pkt (i := 2) (j := 3) rfl rfl rfl HX.out.1 HZS.out) rfl HX.out.2
  · rw [if_neg h0] at hq
    obtain ⟨t4, u4, rfl⟩ := err_iface he4 h0
    have hX := HJ.out.inn.bad HZ.out (q := Q) (by rw [hq]) (e := .iface t4 u4) (by rw [hq]; exact HE5.out)
    have HRX := Lib.hid HJ.out.inn.res
    have HX := Lib.hid hX
    clear hX he4 hq HQ HE5 HP5
    go_wp2_with (first | refine wpk_alloc HZ.out rfl rfl ?_ | refine wpk_store_new HZS.out (c := c4) HCS.out HC1.out _ _ rfl rfl rfl rfl ?_ | refine wpk_build HZ.out rfl rfl ?_ | refine wpk_store (show Blk (w4.alloc (.cells c4 29)) (w.heap.size + 1) 29 z from by rw [← HW5.out]; exact HRX.out) HZS.out HZS.out HZ1.out _ _ rfl rfl rfl rfl ?_)
    rw [← HW5.out]
    exact bodyPost_ret (v := .tuple #[.agg z, .iface t4 u4]) (res_pkt (i := 2) (j := 3) rfl rfl rfl HX.out.1 HZS.out) rfl HX.out.2
set_option maxHeartbeats 16000000 in
theorem dec12_144 (hE : Env w S) (hs : s.size ≤ 900000) : Calls Tryz.prog 32 #[.agg #[.int .i64 144, .string s]] w (DcSays w S (dcS 144 s)) := by
  have HE := Lib.hid hE
  have HSZ := Lib.hid hs
  obtain ⟨z, hz⟩ : ∃ z, z = pk0.cells pa0 := ⟨_, rfl⟩
  have HZ := Lib.hid hz
  have HZS := Lib.hid (show z.size = 26 by rw [hz]; rfl)
  have HZ1 := Lib.hid (show z.all (·.oneCell') = true by rw [hz]; exact pk_one _ _)
  obtain ⟨Q, hQ⟩ : ∃ Q, Q = dcS 144 s := ⟨_, rfl⟩
  rw [← hQ]
  unfold dcS at hQ
  rw [show kS 144 = 9 from rfl, if_neg (by decide), if_neg (show ¬ (9 : Int) = 8 by decide)] at hQ
  obtain ⟨W2, hW2⟩ : ∃ W, W = (w.alloc (.cells #[.int .i64 144, .string s] 33)).alloc (.cells z 29) := ⟨_, rfl⟩
  have a1 : Below w.heap.size w (w.alloc (.cells #[.int .i64 144, .string s] 33)) := (Below.refl _ _).alloc (Nat.le_refl _) _
  have hb2 : Below w.heap.size w W2 := by rw [hW2]; exact a1.trans (((Below.refl (w.alloc (.cells #[.int .i64 144, .string s] 33)).heap.size _).alloc (Nat.le_refl _) (.cells z 29)).mono a1.size)
  have r1 : Blk W2 (w.heap.size + 1) 29 z := by
    have h := Blk.made (w.alloc (.cells #[.int .i64 144, .string s] 33)) 29 z
    rw [World.size_alloc] at h
    rw [hW2]; exact h
  have HSZ2 := Lib.hid (show W2.heap.size = w.heap.size + 1 + 1 by rw [hW2, World.size_alloc, World.size_alloc])
  have hb3 : Below W2.heap.size W2 (W2.alloc (.cells #[.string s, .int .i64 0, .nilIface] 151)) := (Below.refl _ _).alloc (Nat.le_refl _) _
  have HI := Lib.hid (show DcI w (W2.alloc (.cells #[.string s, .int .i64 0, .nilIface] 151)) S W2.heap.size s ⟨0, 0, 0⟩ z from ⟨hb2.trans (hb3.mono hb2.size), r1.below hb3 r1.lt, RObj.made W2 S s, hb2.size⟩)
  have HW2 := Lib.hid hW2
  have hth := th_any hE HI.out.bel HI.out.low HI.out.rd hs 9
  have hthn := fun hh => th_ok (k := 9) (s := s) hh
  obtain ⟨T, hT⟩ : ∃ T, T = thF 9 s := ⟨_, rfl⟩
  have hTP := fun hh => (hthn hh).no
  rw [← hT] at hth hQ hTP
  have HTH := Lib.hid hth
  have HTP := Lib.hid hTP
  have HQ := Lib.hid hQ
  clear hE hz hs hQ a1 hb2 r1 hb3 hW2 hth hthn hT hTP
  go_enter Tryz.func32, Tryz.ntmps32
  go_wp2_with (first | refine wpk_alloc HZ.out rfl rfl ?_)
  rw [← HW2.out]
  refine (rnew_any s W2).mono ?_
  rintro x w3 ⟨rfl, hw3⟩
  rw [← hw3] at HI HTH
  have HS3 := Lib.hid (show w3.heap.size = w.heap.size + 1 + 1 + 1 by rw [hw3, World.size_alloc, HSZ2.out])
  clear hw3
  go_wp2_with fail
  refine HTH.out.mono ?_
  rintro x w4 ⟨A4, e4, rfl, hp4, he4, hn4⟩
  have hsz4 := hn4.fr.size
  obtain ⟨c4, hc4⟩ : ∃ c, c = (thP 9 T).cells A4 := ⟨_, rfl⟩
  rw [show (thP 9 T).agg A4 = .agg c4 from by rw [hc4]; rfl]
  have HC4 := Lib.hid hc4
  have HCS := Lib.hid (show c4.size = 26 by rw [hc4]; rfl)
  have HC1 := Lib.hid (show c4.all (·.oneCell') = true by rw [hc4]; exact pk_one _ _)
  have hi4 := HI.out.step hn4
  obtain ⟨W5, hW5⟩ : ∃ W, W = w4.alloc (.cells c4 29) := ⟨_, rfl⟩
  have hb5 : Below w4.heap.size w4 W5 := by rw [hW5]; exact (Below.refl _ _).alloc (Nat.le_refl _) _
  have HJ := Lib.hid (show DcJ w W5 S W2.heap.size s T.R z w4.heap.size c4 from ⟨hi4.below hb5, by rw [hW5]; exact Blk.made _ _ _, by have := HS3.out; omega⟩)
  have HP5 := Lib.hid ((hp4 w.heap.size (by have := HS3.out; omega)).below hb5)
  have HE5 := Lib.hid (he4.later hb5)
  have HHI := Lib.hid (show w.heap.size ≤ w3.heap.size by have := HS3.out; omega)
  have HW5 := Lib.hid hW5
  clear hn4 hi4 hb5 hp4 hW5 hc4 HTH HI
  have hq := HQ.out
  by_cases h0 : T.e.no = 0
  · rw [if_pos h0] at hq
    unfold ErrOf at he4
    rw [if_pos h0] at he4
    subst he4
    have hp5 := HP5.out
    have hcc := HC4.out
    have eth : thP 9 T = pkS 9 T.id T.L [] [] [] := by unfold thP; rw [if_pos h0]
    rw [eth] at hp5 hcc
    have hpt := tc_any (z' := w) HE.out HJ.out.inn.bel HJ.out.inn.low HJ.out.inn.rd (HTP.out h0) HSZ.out 9
    obtain ⟨⟨pe, P⟩, hpp⟩ : ∃ V, V = ptL (rdC 9 s) s 32 [] T.R := ⟨_, rfl⟩
    rw [← hpp] at hpt hq
    have HPT := Lib.hid hpt
    have HQ2 := Lib.hid hq
    have HPK := Lib.hid (And.intro hp5.pr hp5.pc)
    have HCC := Lib.hid hcc
    clear hp5 hcc eth hpt hpp hq HP5 HC4 HQ HE5 h0 HTP
    go_wp2_with (first | refine wpk_alloc HZ.out rfl rfl ?_ | refine wpk_store_new HZS.out (c := c4) HCS.out HC1.out _ _ rfl rfl rfl rfl ?_)
    rw [← HW5.out]
    refine HPT.out.mono ?_
    rintro x w6 ⟨v6, e6, rfl, hr6, he6, R6, hn6⟩
    simp only at hr6 he6
    obtain ⟨a6, n6, c6, rfl, hnn6, hcc6⟩ := hr6.some_form
    have hsz5 := HJ.out.inn.bel.size
    have hj6 := HJ.out.step hn6
    have hpr6 := HPK.out.1.rnext HJ.out.inn.low HJ.out.inn.rd hn6
    have cX : w6.cell? ⟨w4.heap.size, 25, none⟩ = some (.slice A4.ca 0 A4.cc) := hj6.get (by rw [HCC.out]; rfl)
    have fX := hj6.box.frozen 25
    have hj7 := hj6.cell 25 (.slice a6 n6 c6)
    have hp7 : PIn (w6.setCell ⟨w4.heap.size, 25, none⟩ (.slice a6 n6 c6)) w.heap.size A4.pa T.L := hj6.pin (Nat.le_refl _) hpr6 _ _
    have he7 := hj6.err he6 25 (.slice a6 n6 c6)
    have hci : CIn (w6.setCell ⟨w4.heap.size, 25, none⟩ (.slice a6 n6 c6)) w.heap.size 3 a6 (P.flatMap iCell) := (hr6.cin (B' := w.heap.size)).cell hj6.box (by have := hj6.low; omega) (by decide) 25 _
    obtain ⟨y, hy⟩ : ∃ y, y = c4.setIfInBounds 25 (.slice a6 n6 c6) := ⟨_, rfl⟩
    rw [← hy] at hj7
    have hq := HQ2.out
    unfold dcS_b at hq
    by_cases h1 : pe.no = 0
    · rw [if_pos h1] at hq
      unfold ErrOf at he6
      rw [if_pos h1] at he6
      subst he6
      have ey : y = Q.2.cells ⟨A4.pa, A4.pc, A4.wa, A4.wc, A4.sa, A4.sc, A4.fa, A4.fc, a6, c6⟩ := by rw [hy, HCC.out, hq, hnn6]; rfl
      have hX := hj7.inn.good (p := Q.2) (A := ⟨A4.pa, A4.pc, A4.wa, A4.wc, A4.sa, A4.sc, A4.fa, A4.fc, a6, c6⟩) (by
        rw [hq]
        exact ⟨hp7, HPK.out.2, PIn.nil _ _ _, Nat.zero_le _, CIn.nil _ _ _ _, CIn.nil _ _ _ _, hci⟩) ey
      rw [show (e00, Q.2) = Q from by rw [hq]] at hX
      have HX := Lib.hid hX
      have HYS := Lib.hid (show y.size = 26 by rw [ey]; rfl)
      have HY1 := Lib.hid (show y.all (·.oneCell') = true by rw [ey]; exact pk_one _ _)
      have HBX := Lib.hid hj7.box
      have HRX := Lib.hid hj7.inn.res
      clear hr6 hn6 hj6 hpr6 hj7 hp7 he7 hci hy hq ey hX hnn6 hcc6 HPT HQ2
      go_wp2_with (first | refine wpk_load HBX.out HYS.out _ rfl rfl rfl ?_ | refine wpk_store HRX.out HZS.out HYS.out HY1.out _ _ rfl rfl rfl rfl ?_)
      exact bodyPost_ret (v := .tuple #[.agg y, .nilIface]) (res_pkt (i := 2) (j := 3) rfl rfl rfl HX.out.1 HYS.out) rfl HX.out.2
    · rw [if_neg h1] at hq
      obtain ⟨t6, u6, rfl⟩ := err_iface he6 h1
      have hX := hj7.inn.bad HZ.out (q := Q) (by rw [hq]) (e := .iface t6 u6) (by rw [hq]; exact he7)
      have HRX := Lib.hid hj7.inn.res
      have HX := Lib.hid hX
      clear hr6 hn6 hj6 hpr6 hj7 hp7 he7 he6 hci hy hq hX hnn6 hcc6 HPT HQ2
      go_wp2_with (first | refine wpk_build HZ.out rfl rfl ?_ | refine wpk_store HRX.out HZS.out HZS.out HZ1.out _ _ rfl rfl rfl rfl ?_)
      exact bodyPost_ret (v := .tuple #[.agg z, .iface t6 u6]) (res_pkt (i := 2) (j := 3) rfl rfl rfl HX.out.1 HZS.out) rfl HX.out.2
  · rw [if_neg h0] at hq
    obtain ⟨t4, u4, rfl⟩ := err_iface he4 h0
    have hX := HJ.out.inn.bad HZ.out (q := Q) (by rw [hq]) (e := .iface t4 u4) (by rw [hq]; exact HE5.out)
    have HRX := Lib.hid HJ.out.inn.res
    have HX := Lib.hid hX
    clear hX he4 hq HQ HE5 HP5
    go_wp2_with (first | refine wpk_alloc HZ.out rfl rfl ?_ | refine wpk_store_new HZS.out (c := c4) HCS.out HC1.out _ _ rfl rfl rfl rfl ?_ | refine wpk_build HZ.out rfl rfl ?_ | refine wpk_store (show Blk (w4.alloc (.cells c4 29)) (w.heap.size + 1) 29 z from by rw [← HW5.out]; exact HRX.out) HZS.out HZS.out HZ1.out _ _ rfl rfl rfl rfl ?_)
    rw [← HW5.out]
    exact bodyPost_ret (v := .tuple #[.agg z, .iface t4 u4]) (res_pkt (i := 2) (j := 3) rfl rfl rfl HX.out.1 HZS.out) rfl HX.out.2
theorem dec12 (hE : Env w S) (first : Int) (hs : s.size ≤ 900000) : Calls Tryz.prog 32 #[.agg #[.int .i64 first, .string s]] w (DcSays w S (dcS first s)) := by
  by_cases h1 : first = 130
  · subst h1; exact dec12_130 hE hs
  · by_cases h2 : first = 144
    · subst h2; exact dec12_144 hE hs
    · exact dec12_bad hE first h1 h2
end
end Go.Proofs.YtbfbmdjnobdjpaaGreatDoor
namespace Go.Proofs.YtbfbmdjnobdjpaaGreatDoor
set_option maxRecDepth 100000
open Go.ChangeShapes Go.WideShapes Go.RowKit Go.Deep Go.Extern.Stop Go.Stop Go.Extern
/-- Of what Same takes. -/
structure SmO (p : Pk) : Prop where
  sb : p.subs.length ≤ 1000
  pr : p.props.length ≤ 1000
  wr : p.wProps.length ≤ 1000
  fl : p.filters.length ≤ 1000
  cd : p.codes.length ≤ 1000
theorem enS_backS {p : Pk} (h : SmS p) (hno : (enS p).e.no = 0) : dcS (enS p).first (enS p).s = (e00, bareS p) := enS_back (small_mem h.1).1 (small_mem h.1).2 hno
theorem enS_lenS {p : Pk} (h : SmS p) : (enS p).s.size ≤ 150000 := enS_len h
theorem bareS_ok {p : Pk} (h : SmS p) : SmO (bareS p) := by
  have h1 : (plL p.props).length ≤ 1000 := by rw [plL_len]; exact small_few h.1
  have h2 := h.2.1
  have h3 := h.2.2.1
  by_cases hk : p.kind = 8
  · rw [bareS_a hk]
    exact ⟨(by show p.subs.length ≤ 1000; omega), h1, Nat.zero_le _, Nat.zero_le _, Nat.zero_le _⟩
  · rw [bareS_b hk]
    exact ⟨Nat.zero_le _, h1, Nat.zero_le _, Nat.zero_le _, (by show p.codes.length ≤ 1000; omega)⟩
theorem deS_backS {first : Int} {s : ByteArray} (hss : s.size ≤ 2048) (h : (dcS first s).1.no = 0) : SmS (dcS first s).2 ∧ (enS (dcS first s).2).e.no = 0 ∧ dcS (enS (dcS first s).2).first (enS (dcS first s).2).s = (e00, (dcS first s).2) ∧ SmO (dcS first s).2 := by
  obtain ⟨h1, h2, h3⟩ := deS_back hss h
  obtain ⟨l1, l2⟩ := dcS_lists first s
  have h4 := h1.2.1
  have h5 := h1.2.2.1
  exact ⟨h1, h2, h3, (by omega), small_few h1.1, (by rw [l2]; exact Nat.zero_le _), (by rw [l1]; exact Nat.zero_le _), (by omega)⟩
theorem phR_ok12 {p : Pk} (h : (encR p.kind p.props).no = 0) : phR p = (e00, phW p) := by
  unfold phR
  rw [if_pos h]
theorem phR_bad12 {p : Pk} (h : ¬ (encR p.kind p.props).no = 0) : phR p = (⟨(encR p.kind p.props).no, (encR p.kind p.props).r, (encR p.kind p.props).at_⟩, w0) := by
  unfold phR
  rw [if_neg h]
theorem sv_get (L : List SV) : ∀ k, k < L.length → (L.flatMap SV.cells)[k * 5]? = some (.string (L.getD k sv0).filter) ∧ (L.flatMap SV.cells)[k * 5 + 1]? = some (.int .i64 (L.getD k sv0).qos) ∧ (L.flatMap SV.cells)[k * 5 + 2]? = some (.bool (L.getD k sv0).noLocal) ∧ (L.flatMap SV.cells)[k * 5 + 3]? = some (.bool (L.getD k sv0).asIs) ∧ (L.flatMap SV.cells)[k * 5 + 4]? = some (.int .i64 (L.getD k sv0).retain) := by
  induction L with
  | nil => intro k hk; cases hk
  | cons p L ih =>
    intro k hk
    rw [List.flatMap_cons]
    rcases k with _ | k
    · exact ⟨rfl, rfl, rfl, rfl, rfl⟩
    · rw [show (k + 1) * 5 = k * 5 + 1 + 1 + 1 + 1 + 1 by omega]
      simpa [SV.cells] using ih k (by simpa using hk)
section
variable {w w' : World} {S : Nat → Addr} {A : PkA} {p : Pk}
set_option maxHeartbeats 16000000 in
theorem enc12_8 (hE : Env w S) (h : PkIn w w.heap.size A p) (hS : SmS p) (hk : p.kind = 8) : Calls Tryz.prog 29 #[p.agg A] w (FrSays w S (enS p)) := by
  obtain ⟨q, hq⟩ : ∃ q, q = enS p := ⟨_, rfl⟩
  rw [← hq]
  have hwl := wrS_len hS
  have hwr : wrS p = p.subs.foldl stS (phW p) := wrS_a hk
  rw [hwr] at hwl
  unfold enS at hq
  rw [hwr, show fS p.kind = 130 from by rw [hk]; rfl, if_neg (by decide)] at hq
  obtain ⟨c, hc⟩ : ∃ c, c = p.cells A := ⟨_, rfl⟩
  rw [show p.agg A = .agg c from by rw [hc]; rfl]
  have HCS := Lib.hid (show c.size = 26 by rw [hc]; rfl)
  have hc0 : c[0]? = some (.int .i64 8) := by rw [hc, ← hk]; rfl
  have hcX : c[23]? = some (.slice A.sa p.subs.length A.sc) := by rw [hc]; rfl
  obtain ⟨W2, hW2⟩ : ∃ W, W = (w.alloc (.cells c 29)).alloc (.cells #[.int .i64 0, .string ⟨#[]⟩] 33) := ⟨_, rfl⟩
  have a1 : Below w.heap.size w (w.alloc (.cells c 29)) := (Below.refl _ _).alloc (Nat.le_refl _) _
  have hb2 : Below w.heap.size w W2 := by rw [hW2]; exact a1.trans (((Below.refl (w.alloc (.cells c 29)).heap.size _).alloc (Nat.le_refl _) (.cells #[.int .i64 0, .string ⟨#[]⟩] 33)).mono a1.size)
  have r0 : Blk W2 w.heap.size 29 c := by
    rw [hW2]; exact (Blk.made w 29 c).alloc (.cells #[.int .i64 0, .string ⟨#[]⟩] 33)
  have r1 : Blk W2 (w.heap.size + 1) 33 #[.int .i64 0, .string ⟨#[]⟩] := by
    have h := Blk.made (w.alloc (.cells c 29)) 33 #[.int .i64 0, .string ⟨#[]⟩]
    rw [World.size_alloc] at h
    rw [hW2]; exact h
  obtain ⟨W3, hW3⟩ : ∃ W, W = W2.alloc (.cells #[.slice none 0 0, .nilIface] 65) := ⟨_, rfl⟩
  have b3 : Below W2.heap.size W2 W3 := by rw [hW3]; exact (Below.refl _ _).alloc (Nat.le_refl _) _
  have hb3 := hb2.trans (b3.mono hb2.size)
  have ho : WObj W3 S w.heap.size (w.heap.size + 1 + 1) (.slice none 0 0) w0 := by
    rw [hW3, show w.heap.size + 1 + 1 = W2.heap.size from by rw [hW2, World.size_alloc, World.size_alloc]]
    exact WObj.made W2 S hb2.size
  have r03 := r0.below b3 r0.lt
  have k0 : W2.cell? ⟨w.heap.size, 0, none⟩ = some (.int .i64 8) := (r0.cell 0).trans hc0
  have hph := ph_any (A := A) (p := p) (hE.later hb3) ho ((h.below hb3).mono hb3.size) hS.1
  rw [show p.agg A = .agg c from by rw [hc]; rfl] at hph
  obtain ⟨⟨pe, V⟩, hpr⟩ : ∃ r, r = phR p := ⟨_, rfl⟩
  rw [← hpr] at hph
  have HPR := Lib.hid hpr
  have HPH := Lib.hid hph
  have HC0 := Lib.hid hc0
  have HCX := Lib.hid hcX
  have HW3 := Lib.hid hW3
  have HB3 := Lib.hid hb3
  have R0 := Lib.hid r03
  have R1 := Lib.hid (r1.below b3 r1.lt)
  have HO := Lib.hid ho
  have HE := Lib.hid hE
  have HQ := Lib.hid hq
  have HIN := Lib.hid (h.below hb3)
  have HSM := Lib.hid hS
  have HWL := Lib.hid hwl
  rw [hW2] at k0
  rw [hW2] at HW3
  clear hq hc hc0 hcX a1 hb2 r0 r1 hE h hS hW2 hW3 b3 hb3 ho r03 hph hk hwl hwr hpr
  go_enter Tryz.func29, Tryz.ntmps29
  go_wp2_with (first | refine wpk_box HCS.out _ rfl rfl rfl ?_ | refine wpk_load (show Blk (((w.alloc (.cells c 29)).alloc (.cells #[.int .i64 0, .string ⟨#[]⟩] 33)).alloc (.cells #[.slice none 0 0, .nilIface] 65)) w.heap.size 29 c from by rw [← HW3.out]; exact R0.out) HCS.out _ rfl rfl rfl ?_)
  rw [← HW3.out]
  refine HPH.out.mono ?_
  rintro x w4 ⟨e4, v4, rfl, he4, hn4⟩
  simp only at he4 hn4
  have r04 := hn4.blk HO.out R0.out (by decide) (by decide)
  have r14 := hn4.blk HO.out R1.out (by decide) (by decide)
  have hb4 := hn4.later HO.out HB3.out
  by_cases h0 : (encR p.kind p.props).no = 0
  · have hq := HQ.out
    rw [if_pos h0] at hq
    have hpr := HPR.out
    rw [phR_ok12 h0] at hpr
    obtain ⟨h1, h2⟩ := Prod.mk.inj hpr
    subst h1 h2
    unfold ErrOf at he4
    rw [if_pos (show e00.no = 0 from rfl)] at he4
    subst he4
    clear hpr HPR
    have HQ2 := Lib.hid hq
    have HO4 := Lib.hid hn4.obj
    have k0 : w4.cell? ⟨w.heap.size, 0, none⟩ = some (.int .i64 8) := (r04.cell 0).trans HC0.out
    have kX : w4.cell? ⟨w.heap.size, 23, none⟩ = some (.slice A.sa p.subs.length A.sc) := (r04.cell 23).trans HCX.out
    have HIN4 := Lib.hid (show CIn w4 w.heap.size 58 A.sa (p.subs.flatMap SV.cells) from HIN.out.sb.fr hn4.fr (fun g hg => by
      refine ⟨HO.out.own_ok g hg, fun xs hx => ?_⟩
      rcases List.mem_cons.1 hg with rfl | hg
      · obtain ⟨e, hb, _⟩ := HO.out.blk
        exact hb.other hx (by decide) rfl
      · cases hg))
    have R04 := Lib.hid r04
    have R14 := Lib.hid r14
    have HB4 := Lib.hid hb4
    clear hq hn4 r04 r14 hb4 HPH HO R0 R1 HB3 HW3 HIN HQ h0
    go_wp2_with fail
    obtain ⟨n, hn⟩ : ∃ n, n = p.subs.length := ⟨_, rfl⟩
    rw [← hn]
    have HN := Lib.hid hn
    have hn40 : n ≤ 40 := by have := HSM.out.2.1; omega
    clear hn kX k0
    go_loopw [30] (fun i wr => ∃ (k : Nat) (u : Value), k ≤ n ∧ i = .int .i64 k ∧ Hid (WNext w4 wr S w.heap.size (w.heap.size + 1 + 1) v4 u ((p.subs.take k).foldl stS (phW p)))) (fun i _ => n - (intOf i).toNat)
    case atStart => exact ⟨0, v4, by omega, rfl, Lib.hid (HO4.out.step (Below.refl _ _))⟩
    case round =>
      obtain ⟨k, u, hk, rfl, HJ⟩ := hrel
      by_cases hlt : k < n
      · have hkL : k < p.subs.length := by have := HN.out; omega
        obtain ⟨x, off, ex, hc, hx⟩ := HIN4.out (by rw [flat_len SV.cells 5 V8cl_len]; omega)
        have hne : x ∉ (w.heap.size + 1 + 1) :: v4.ownBlock.toList := fun hm => by
          have hB := HO4.out.own_ok x hm
          rcases hx with hx | ⟨xs, hx⟩
          · omega
          · rcases List.mem_cons.1 hm with rfl | hm
            · obtain ⟨e, hb, _⟩ := HO4.out.blk
              exact hb.other hx (by decide) rfl
            · obtain ⟨_, _, cs, hh⟩ := HO4.out.row.lt x (own_list.1 hm)
              rw [hh] at hx
              injection hx with h1
              injection h1 with h1 h2 h3
              exact absurd h2 (by decide)
        have hcl : ∀ j u, (p.subs.flatMap SV.cells)[j]? = some u → wr.cell? ⟨x, off + j, none⟩ = some u := fun j u hj => (World.cell?_of_block (HJ.out.fr.block x (lt_of_cell' (hc j u hj)) hne)).trans (hc j u hj)
        obtain ⟨g0, g1, g2, g3, g4⟩ := sv_get p.subs k hkL
        have c0 := hcl _ _ g0
        have c1 := hcl _ _ g1
        have c2 := hcl _ _ g2
        have c3 := hcl _ _ g3
        have c4 := hcl _ _ g4
        rw [← Nat.add_assoc] at c1 c2 c3 c4
        have hst : (p.subs.take (k + 1)).foldl stS (phW p) = stepW (stepW ((p.subs.take k).foldl stS (phW p)) (textE (p.subs.getD k sv0).filter)) (numE 1 (opI (p.subs.getD k sv0))) := by
          rw [List.take_succ_eq_append_getElem hkL, List.foldl_append, List.getD_eq_getElem?_getD, List.getElem?_eq_getElem hkL]
          rfl
        have hsz : (p.subs.getD k sv0).filter.size ≤ 2048 := by
          rw [List.getD_eq_getElem?_getD, List.getElem?_eq_getElem hkL]
          exact HSM.out.2.2.2 _ (List.getElem_mem hkL)
        have hlen : ((p.subs.take k).foldl stS (phW p)).L.length ≤ 700000 := by
          have h1 := foldS_len (p.subs.take k) (phW p) (fun x hx => HSM.out.2.2.2 x (List.mem_of_mem_take hx))
          have h2 := phW_len12 HSM.out.1
          have h3 : (p.subs.take k).length ≤ 40 := by rw [List.length_take]; omega
          omega
        obtain ⟨V1, hV1⟩ : ∃ V, V = (p.subs.take k).foldl stS (phW p) := ⟨_, rfl⟩
        rw [← hV1] at hst hlen
        have hj1 := HJ.out
        rw [← hV1] at hj1
        obtain ⟨⟨f1, q1, b1, d1, t1⟩, hsv⟩ : ∃ v, v = p.subs.getD k sv0 := ⟨_, rfl⟩
        rw [← hsv] at c0 c1 c2 c3 c4 hst hsz
        simp only at c0 c1 c2 c3 c4 hst hsz
        obtain ⟨W5, hW5⟩ : ∃ W, W = wr.alloc (.cells #[.string f1, .int .i64 q1, .bool b1, .bool d1, .int .i64 t1] 58) := ⟨_, rfl⟩
        have a5 : Below wr.heap.size wr W5 := by rw [hW5]; exact (Below.refl _ _).alloc (Nat.le_refl _) _
        have K5 : Blk W5 wr.heap.size 58 #[.string f1, .int .i64 q1, .bool b1, .bool d1, .int .i64 t1] := by rw [hW5]; exact Blk.made _ _ _
        have hj5 := hj1.below a5
        have hl1 := stepW_len V1 (textE f1)
        have hl2 := textE_len f1
        have HU := Lib.hid (wtext_any (HE.out.later (hj5.later HO4.out HB4.out)) hj5.obj (by omega) f1 (by omega))
        have HJ5 := Lib.hid hj5
        have HK5 := Lib.hid K5
        have HW5 := Lib.hid hW5
        have HST := Lib.hid hst
        have HL1 := Lib.hid (show (stepW V1 (textE f1)).L.length ≤ 900000 by omega)
        rw [ex]
        clear hst hlen hc hx hsz ex hne hcl g0 g1 g2 g3 g4 hV1 hsv hj1 hW5 a5 K5 hj5 hl1 hl2
        go_wp2_with fail
        rw [← HW5.out]
        refine HU.out.mono ?_
        rintro x w5 ⟨rfl, u5, hn5⟩
        have k6 := hn5.blk HJ5.out.obj HK5.out (by decide) (by decide)
        have d0 : w5.cell? ⟨wr.heap.size, 0, none⟩ = some (.string f1) := k6.cell 0
        have d1' : w5.cell? ⟨wr.heap.size, 1, none⟩ = some (.int .i64 q1) := k6.cell 1
        have d2 : w5.cell? ⟨wr.heap.size, 2, none⟩ = some (.bool b1) := k6.cell 2
        have d3 : w5.cell? ⟨wr.heap.size, 3, none⟩ = some (.bool d1) := k6.cell 3
        have d4 : w5.cell? ⟨wr.heap.size, 4, none⟩ = some (.int .i64 t1) := k6.cell 4
        have HJ6 := Lib.hid (HJ5.out.trans hn5)
        have hop := opt12 ⟨f1, q1, b1, d1, t1⟩ w5
        rw [show SV.agg ⟨f1, q1, b1, d1, t1⟩ = .agg #[.string f1, .int .i64 q1, .bool b1, .bool d1, .int .i64 t1] from rfl] at hop
        have HOP := Lib.hid hop
        clear hn5 HU k6 hop c0 c1 c2 c3 c4 HW5
        go_wp2_with fail
        refine HOP.out.mono ?_
        rintro x w6 ⟨rfl, hb6⟩
        have hj7 := HJ6.out.below hb6
        have HU8 := Lib.hid (wu8_any (HE.out.later (hj7.later HO4.out HB4.out)) hj7.obj HL1.out (opI ⟨f1, q1, b1, d1, t1⟩))
        rw [← HST.out] at HU8
        have HJ7 := Lib.hid hj7
        clear hj7 hb6 d0 d1' d2 d3 d4 HOP
        go_wp2_with fail
        refine HU8.out.mono ?_
        rintro x w7 ⟨rfl, u7, hn7⟩
        have HX := Lib.hid (HJ7.out.trans hn7)
        clear hn7 HU8
        go_wp2_with fail
        go_roundw
        case rel => exact ⟨k + 1, u7, by omega, by go_num, HX⟩
        case measure => simp [intOf]; omega
      · obtain rfl : k = n := by omega
        have hj := HJ.out
        rw [List.take_of_length_le (by have := HN.out; omega)] at hj
        have r05 := hj.blk HO4.out R04.out (by decide) (by decide)
        have R15 := Lib.hid (hj.blk HO4.out R14.out (by decide) (by decide))
        have hb5 := hj.later HO4.out HB4.out
        have hfa := frame_any12 130 hj.obj (fun W1 hb => dec12 (HE.out.later (hb5.trans (hb.mono hb5.size))) 130 (show (⟨((p.subs.foldl stS (phW p))).L.toArray⟩ : ByteArray).size ≤ 900000 from by rw [bsize]; have := HWL.out; omega))
        rw [← HQ2.out] at hfa
        have HFA := Lib.hid hfa
        have HB5 := Lib.hid hb5
        clear hj r05 hb5 hfa
        go_wp2_with fail
        refine HFA.out.mono ?_
        rintro x wA ⟨e8, rfl, he8, hb8⟩
        have r1 := R15.out.below hb8 R15.out.lt
        have hb := HB5.out.trans (hb8.mono HB5.out.size)
        obtain ⟨⟨z0, z1, y0, y1⟩, ⟨z2, y2⟩, ⟨f0, f1⟩, ferr⟩ := fr_facts (S := S) r1 (.int .i64 q.first) (.string q.s)
        have hbf := (hb.setCell (p := ⟨w.heap.size + 1, 0, none⟩) (by show w.heap.size ≤ w.heap.size + 1; omega) (.int .i64 q.first)).setCell (p := ⟨w.heap.size + 1, 1, none⟩) (by show w.heap.size ≤ w.heap.size + 1; omega) (.string q.s)
        have HX := Lib.hid (show FrSays w S q (.returned (.tuple #[.agg #[.int .i64 q.first, .string q.s], e8])) _ from ⟨e8, rfl, ferr _ _ _ _ he8, hbf⟩)
        clear hb8 r1 hb ferr hbf he8 HFA
        go_wp2
        exact bodyPost_ret (v := .tuple #[.agg #[.int .i64 q.first, .string q.s], e8]) (by simp [results, Tryz.results29, go_sem, f0, f1]) rfl HX.out
  · have hq := HQ.out
    rw [if_neg h0] at hq
    have hpr := HPR.out
    rw [phR_bad12 h0] at hpr
    obtain ⟨h1, h2⟩ := Prod.mk.inj hpr
    subst h1 h2
    obtain ⟨te, ue, rfl⟩ := err_iface he4 h0
    clear hpr HPR
    obtain ⟨⟨z0, z1, y0, y1⟩, ⟨z2, y2⟩, ⟨f0, f1⟩, ferr⟩ := fr_facts (S := S) r14 (.int .i64 0) (.string ⟨#[]⟩)
    have hbf := (hb4.setCell (p := ⟨w.heap.size + 1, 0, none⟩) (by show w.heap.size ≤ w.heap.size + 1; omega) (.int .i64 0)).setCell (p := ⟨w.heap.size + 1, 1, none⟩) (by show w.heap.size ≤ w.heap.size + 1; omega) (.string ⟨#[]⟩)
    have HX := Lib.hid (show FrSays w S q (.returned (.tuple #[.agg #[.int .i64 0, .string ⟨#[]⟩], .iface te ue])) _ from by
      rw [hq]
      exact ⟨_, rfl, ferr _ _ _ _ he4, hbf⟩)
    clear ferr hbf he4 hq hn4 r04 r14 hb4 h0 HPH HQ
    go_wp2
    exact bodyPost_ret (v := .tuple #[.agg #[.int .i64 0, .string ⟨#[]⟩], .iface te ue]) (by simp [results, Tryz.results29, go_sem, f0, f1]) rfl HX.out
set_option maxHeartbeats 16000000 in
theorem enc12_9 (hE : Env w S) (h : PkIn w w.heap.size A p) (hS : SmS p) (hk : p.kind = 9) : Calls Tryz.prog 29 #[p.agg A] w (FrSays w S (enS p)) := by
  obtain ⟨q, hq⟩ : ∃ q, q = enS p := ⟨_, rfl⟩
  rw [← hq]
  have hwl := wrS_len hS
  have hwr : wrS p = p.codes.foldl stC (phW p) := wrS_b (by rw [hk]; decide)
  rw [hwr] at hwl
  unfold enS at hq
  rw [hwr, show fS p.kind = 144 from by rw [hk]; rfl, if_neg (by decide)] at hq
  obtain ⟨c, hc⟩ : ∃ c, c = p.cells A := ⟨_, rfl⟩
  rw [show p.agg A = .agg c from by rw [hc]; rfl]
  have HCS := Lib.hid (show c.size = 26 by rw [hc]; rfl)
  have hc0 : c[0]? = some (.int .i64 9) := by rw [hc, ← hk]; rfl
  have hcX : c[25]? = some (.slice A.ca p.codes.length A.cc) := by rw [hc]; rfl
  obtain ⟨W2, hW2⟩ : ∃ W, W = (w.alloc (.cells c 29)).alloc (.cells #[.int .i64 0, .string ⟨#[]⟩] 33) := ⟨_, rfl⟩
  have a1 : Below w.heap.size w (w.alloc (.cells c 29)) := (Below.refl _ _).alloc (Nat.le_refl _) _
  have hb2 : Below w.heap.size w W2 := by rw [hW2]; exact a1.trans (((Below.refl (w.alloc (.cells c 29)).heap.size _).alloc (Nat.le_refl _) (.cells #[.int .i64 0, .string ⟨#[]⟩] 33)).mono a1.size)
  have r0 : Blk W2 w.heap.size 29 c := by
    rw [hW2]; exact (Blk.made w 29 c).alloc (.cells #[.int .i64 0, .string ⟨#[]⟩] 33)
  have r1 : Blk W2 (w.heap.size + 1) 33 #[.int .i64 0, .string ⟨#[]⟩] := by
    have h := Blk.made (w.alloc (.cells c 29)) 33 #[.int .i64 0, .string ⟨#[]⟩]
    rw [World.size_alloc] at h
    rw [hW2]; exact h
  obtain ⟨W3, hW3⟩ : ∃ W, W = W2.alloc (.cells #[.slice none 0 0, .nilIface] 65) := ⟨_, rfl⟩
  have b3 : Below W2.heap.size W2 W3 := by rw [hW3]; exact (Below.refl _ _).alloc (Nat.le_refl _) _
  have hb3 := hb2.trans (b3.mono hb2.size)
  have ho : WObj W3 S w.heap.size (w.heap.size + 1 + 1) (.slice none 0 0) w0 := by
    rw [hW3, show w.heap.size + 1 + 1 = W2.heap.size from by rw [hW2, World.size_alloc, World.size_alloc]]
    exact WObj.made W2 S hb2.size
  have r03 := r0.below b3 r0.lt
  have k0 : W2.cell? ⟨w.heap.size, 0, none⟩ = some (.int .i64 9) := (r0.cell 0).trans hc0
  have hph := ph_any (A := A) (p := p) (hE.later hb3) ho ((h.below hb3).mono hb3.size) hS.1
  rw [show p.agg A = .agg c from by rw [hc]; rfl] at hph
  obtain ⟨⟨pe, V⟩, hpr⟩ : ∃ r, r = phR p := ⟨_, rfl⟩
  rw [← hpr] at hph
  have HPR := Lib.hid hpr
  have HPH := Lib.hid hph
  have HC0 := Lib.hid hc0
  have HCX := Lib.hid hcX
  have HW3 := Lib.hid hW3
  have HB3 := Lib.hid hb3
  have R0 := Lib.hid r03
  have R1 := Lib.hid (r1.below b3 r1.lt)
  have HO := Lib.hid ho
  have HE := Lib.hid hE
  have HQ := Lib.hid hq
  have HIN := Lib.hid (h.below hb3)
  have HSM := Lib.hid hS
  have HWL := Lib.hid hwl
  rw [hW2] at k0
  rw [hW2] at HW3
  clear hq hc hc0 hcX a1 hb2 r0 r1 hE h hS hW2 hW3 b3 hb3 ho r03 hph hk hwl hwr hpr
  go_enter Tryz.func29, Tryz.ntmps29
  go_wp2_with (first | refine wpk_box HCS.out _ rfl rfl rfl ?_ | refine wpk_load (show Blk (((w.alloc (.cells c 29)).alloc (.cells #[.int .i64 0, .string ⟨#[]⟩] 33)).alloc (.cells #[.slice none 0 0, .nilIface] 65)) w.heap.size 29 c from by rw [← HW3.out]; exact R0.out) HCS.out _ rfl rfl rfl ?_)
  rw [← HW3.out]
  refine HPH.out.mono ?_
  rintro x w4 ⟨e4, v4, rfl, he4, hn4⟩
  simp only at he4 hn4
  have r04 := hn4.blk HO.out R0.out (by decide) (by decide)
  have r14 := hn4.blk HO.out R1.out (by decide) (by decide)
  have hb4 := hn4.later HO.out HB3.out
  by_cases h0 : (encR p.kind p.props).no = 0
  · have hq := HQ.out
    rw [if_pos h0] at hq
    have hpr := HPR.out
    rw [phR_ok12 h0] at hpr
    obtain ⟨h1, h2⟩ := Prod.mk.inj hpr
    subst h1 h2
    unfold ErrOf at he4
    rw [if_pos (show e00.no = 0 from rfl)] at he4
    subst he4
    clear hpr HPR
    have HQ2 := Lib.hid hq
    have HO4 := Lib.hid hn4.obj
    have k0 : w4.cell? ⟨w.heap.size, 0, none⟩ = some (.int .i64 9) := (r04.cell 0).trans HC0.out
    have kX : w4.cell? ⟨w.heap.size, 25, none⟩ = some (.slice A.ca p.codes.length A.cc) := (r04.cell 25).trans HCX.out
    have HIN4 := Lib.hid (show CIn w4 w.heap.size 3 A.ca (p.codes.flatMap iCell) from HIN.out.cd.fr hn4.fr (fun g hg => by
      refine ⟨HO.out.own_ok g hg, fun xs hx => ?_⟩
      rcases List.mem_cons.1 hg with rfl | hg
      · obtain ⟨e, hb, _⟩ := HO.out.blk
        exact hb.other hx (by decide) rfl
      · cases hg))
    have R04 := Lib.hid r04
    have R14 := Lib.hid r14
    have HB4 := Lib.hid hb4
    clear hq hn4 r04 r14 hb4 HPH HO R0 R1 HB3 HW3 HIN HQ h0
    obtain ⟨n, hn⟩ : ∃ n, n = p.codes.length := ⟨_, rfl⟩
    rw [← hn] at kX
    have hpc := pc_any (z := w) HE.out HB4.out (Nat.le_refl _) HO4.out HIN4.out n A.cc hn (by have := HSM.out.2.2.1; omega) (by have := phW_len12 HSM.out.1; omega)
    have HPC := Lib.hid hpc
    clear hpc hn
    go_wp2_with fail
    refine HPC.out.mono ?_
    rintro x w5 ⟨rfl, u5, hj⟩
    have R15 := Lib.hid (hj.blk HO4.out R14.out (by decide) (by decide))
    have hb5 := hj.later HO4.out HB4.out
    have hfa := frame_any12 144 hj.obj (fun W1 hb => dec12 (HE.out.later (hb5.trans (hb.mono hb5.size))) 144 (show (⟨((p.codes.foldl stC (phW p))).L.toArray⟩ : ByteArray).size ≤ 900000 from by rw [bsize]; have := HWL.out; omega))
    rw [← HQ2.out] at hfa
    have HFA := Lib.hid hfa
    have HB5 := Lib.hid hb5
    clear hj hb5 hfa HPC kX k0
    go_wp2_with fail
    refine HFA.out.mono ?_
    rintro x wA ⟨e8, rfl, he8, hb8⟩
    have r1 := R15.out.below hb8 R15.out.lt
    have hb := HB5.out.trans (hb8.mono HB5.out.size)
    obtain ⟨⟨z0, z1, y0, y1⟩, ⟨z2, y2⟩, ⟨f0, f1⟩, ferr⟩ := fr_facts (S := S) r1 (.int .i64 q.first) (.string q.s)
    have hbf := (hb.setCell (p := ⟨w.heap.size + 1, 0, none⟩) (by show w.heap.size ≤ w.heap.size + 1; omega) (.int .i64 q.first)).setCell (p := ⟨w.heap.size + 1, 1, none⟩) (by show w.heap.size ≤ w.heap.size + 1; omega) (.string q.s)
    have HX := Lib.hid (show FrSays w S q (.returned (.tuple #[.agg #[.int .i64 q.first, .string q.s], e8])) _ from ⟨e8, rfl, ferr _ _ _ _ he8, hbf⟩)
    clear hb8 r1 hb ferr hbf he8 HFA
    go_wp2
    exact bodyPost_ret (v := .tuple #[.agg #[.int .i64 q.first, .string q.s], e8]) (by simp [results, Tryz.results29, go_sem, f0, f1]) rfl HX.out
  · have hq := HQ.out
    rw [if_neg h0] at hq
    have hpr := HPR.out
    rw [phR_bad12 h0] at hpr
    obtain ⟨h1, h2⟩ := Prod.mk.inj hpr
    subst h1 h2
    obtain ⟨te, ue, rfl⟩ := err_iface he4 h0
    clear hpr HPR
    obtain ⟨⟨z0, z1, y0, y1⟩, ⟨z2, y2⟩, ⟨f0, f1⟩, ferr⟩ := fr_facts (S := S) r14 (.int .i64 0) (.string ⟨#[]⟩)
    have hbf := (hb4.setCell (p := ⟨w.heap.size + 1, 0, none⟩) (by show w.heap.size ≤ w.heap.size + 1; omega) (.int .i64 0)).setCell (p := ⟨w.heap.size + 1, 1, none⟩) (by show w.heap.size ≤ w.heap.size + 1; omega) (.string ⟨#[]⟩)
    have HX := Lib.hid (show FrSays w S q (.returned (.tuple #[.agg #[.int .i64 0, .string ⟨#[]⟩], .iface te ue])) _ from by
      rw [hq]
      exact ⟨_, rfl, ferr _ _ _ _ he4, hbf⟩)
    clear ferr hbf he4 hq hn4 r04 r14 hb4 h0 HPH HQ
    go_wp2
    exact bodyPost_ret (v := .tuple #[.agg #[.int .i64 0, .string ⟨#[]⟩], .iface te ue]) (by simp [results, Tryz.results29, go_sem, f0, f1]) rfl HX.out
set_option maxHeartbeats 8000000 in
theorem enc12_other (hE : Env w S) (h1 : ¬ p.kind = 8) (h2 : ¬ p.kind = 9) : Calls Tryz.prog 29 #[p.agg A] w (FrSays w S (enS p)) := by
  obtain ⟨q, hq⟩ : ∃ q, q = enS p := ⟨_, rfl⟩
  rw [← hq]
  unfold enS at hq
  rw [if_pos (by unfold fS; rw [if_neg h1, if_neg h2])] at hq
  have HQ := Lib.hid hq
  obtain ⟨c, hc⟩ : ∃ c, c = p.cells A := ⟨_, rfl⟩
  rw [show p.agg A = .agg c from by rw [hc]; rfl]
  have hcs : c.size = 26 := by rw [hc]; rfl
  have hc0 : c[0]? = some (.int .i64 p.kind) := by rw [hc]; rfl
  have HCS := Lib.hid hcs
  generalize p.kind = kd at *
  obtain ⟨W3, hW3⟩ : ∃ W, W = (w.alloc (.cells c 29)).alloc (.cells #[.int .i64 0, .string ⟨#[]⟩] 33) := ⟨_, rfl⟩
  have a1 : Below w.heap.size w (w.alloc (.cells c 29)) := (Below.refl _ _).alloc (Nat.le_refl _) _
  have hb3 : Below w.heap.size w W3 := by rw [hW3]; exact a1.trans (((Below.refl (w.alloc (.cells c 29)).heap.size _).alloc (Nat.le_refl _) (.cells #[.int .i64 0, .string ⟨#[]⟩] 33)).mono a1.size)
  have r1 : Blk W3 (w.heap.size + 1) 33 #[.int .i64 0, .string ⟨#[]⟩] := by
    have h := Blk.made (w.alloc (.cells c 29)) 33 #[.int .i64 0, .string ⟨#[]⟩]
    rw [World.size_alloc] at h
    rw [hW3]; exact h
  have kA := (hE.later hb3).kArgument
  rw [hW3] at kA
  have HN := Lib.hid (new_err (w := W3) S 6 128 0)
  have HW3 := Lib.hid hW3
  have HB3 := Lib.hid hb3
  have R1 := Lib.hid r1
  clear hq hc hcs a1 hb3 r1 hE hW3
  go_enter Tryz.func29, Tryz.ntmps29
  go_wp2_with (refine wpk_box HCS.out _ rfl rfl rfl ?_)
  rw [← HW3.out]
  refine HN.out.mono ?_
  rintro x w5 ⟨e, rfl, he, hb⟩
  obtain ⟨te, ue, rfl⟩ := he.iface
  have r1 := R1.out.below hb R1.out.lt
  have hb5 := HB3.out.trans (hb.mono HB3.out.size)
  obtain ⟨⟨z0, z1, y0, y1⟩, ⟨z2, y2⟩, ⟨f0, f1⟩, ferr⟩ := fr_facts (S := S) r1 (.int .i64 0) (.string ⟨#[]⟩)
  have hbf := (hb5.setCell (p := ⟨w.heap.size + 1, 0, none⟩) (by show w.heap.size ≤ w.heap.size + 1; omega) (.int .i64 0)).setCell (p := ⟨w.heap.size + 1, 1, none⟩) (by show w.heap.size ≤ w.heap.size + 1; omega) (.string ⟨#[]⟩)
  have HX := Lib.hid (show FrSays w S q (.returned (.tuple #[.agg #[.int .i64 0, .string ⟨#[]⟩], .iface te ue])) _ from by
    rw [HQ.out]
    exact ⟨_, rfl, ferr _ _ _ _ (ErrOf.some (no := 7) (by decide) (by decide) he), hbf⟩)
  clear hb5 r1 ferr hbf he hb hc0 kA
  go_wp2
  exact bodyPost_ret (v := .tuple #[.agg #[.int .i64 0, .string ⟨#[]⟩], .iface te ue]) (by simp [results, Tryz.results29, go_sem, f0, f1]) rfl HX.out
theorem enc12 (hE : Env w S) (h : PkIn w w.heap.size A p) (hS : SmS p) : Calls Tryz.prog 29 #[p.agg A] w (FrSays w S (enS p)) := by
  by_cases h1 : p.kind = 8
  · exact enc12_8 hE h hS h1
  · by_cases h2 : p.kind = 9
    · exact enc12_9 hE h hS h2
    · exact enc12_other hE h1 h2
end
end Go.Proofs.YtbfbmdjnobdjpaaGreatDoor
namespace Go.Proofs.YtbfbmdjnobdjpaaGreatDoor
set_option maxRecDepth 100000
open Go.ChangeShapes Go.WideShapes Go.RowKit Go.Deep Go.Extern.Stop Go.Stop Go.Extern
section
variable {w w' : World} {A : PkA} {p : Pk}
set_option maxHeartbeats 16000000 in
theorem bare12 {B : Nat} (h : PkIn w B A p) (hBw : B ≤ w.heap.size) (hS : SmS p) : Calls Tryz.prog 33 #[p.agg A] w (BrSays w (bareS p)) := by
  have hm : p.props.length ≤ 1000 := small_few hS.1
  obtain ⟨q, hq⟩ : ∃ q, q = bareS p := ⟨_, rfl⟩
  rw [← hq]
  unfold bareS at hq
  obtain ⟨z, hz⟩ : ∃ z, z = pk0.cells pa0 := ⟨_, rfl⟩
  have HZ := Lib.hid hz
  have HZS := Lib.hid (show z.size = 26 by rw [hz]; rfl)
  obtain ⟨c, hc⟩ : ∃ c, c = p.cells A := ⟨_, rfl⟩
  rw [show p.agg A = .agg c from by rw [hc]; rfl]
  have hcs : c.size = 26 := by rw [hc]; rfl
  have hc0 : c[0]? = some (.int .i64 p.kind) := by rw [hc]; rfl
  have hc1 : c[1]? = some (.int .i64 p.id) := by rw [hc]; rfl
  have hc3 : c[3]? = some (.slice A.pa p.props.length A.pc) := by rw [hc]; rfl
  have hc23 : c[23]? = some (.slice A.sa p.subs.length A.sc) := by rw [hc]; rfl
  have hc25 : c[25]? = some (.slice A.ca p.codes.length A.cc) := by rw [hc]; rfl
  have HCS := Lib.hid hcs
  have a1 : Below w.heap.size w (w.alloc (.cells c 29)) := (Below.refl _ _).alloc (Nat.le_refl _) _
  obtain ⟨W2, hW2⟩ : ∃ W, W = (w.alloc (.cells c 29)).alloc (.cells z 29) := ⟨_, rfl⟩
  have hb2 : Below w.heap.size w W2 := by rw [hW2]; exact a1.trans (((Below.refl (w.alloc (.cells c 29)).heap.size _).alloc (Nat.le_refl _) (.cells z 29)).mono a1.size)
  have r0 : Blk W2 w.heap.size 29 c := by rw [hW2]; exact (Blk.made w 29 c).alloc (.cells z 29)
  have r1 : Blk W2 (w.heap.size + 1) 29 z := by
    have h := Blk.made (w.alloc (.cells c 29)) 29 z
    rw [World.size_alloc] at h
    rw [hW2]; exact h
  have HI := Lib.hid (show BrIn w c W2 from ⟨hb2, r0, z, r1, HZS.out⟩)
  have HW2 := Lib.hid hW2
  have HP := Lib.hid h
  have HC0 := Lib.hid hc0
  have HC1 := Lib.hid hc1
  have HC3 := Lib.hid hc3
  have HC23 := Lib.hid hc23
  have HC25 := Lib.hid hc25
  have HQ := Lib.hid hq
  clear hz hc hcs hc0 hc1 hc3 hc23 hc25 a1 hb2 r0 r1 hW2 h hq
  obtain ⟨kd, hkd⟩ : ∃ x, x = p.kind := ⟨_, rfl⟩
  rw [← hkd] at HC0
  have HKD := Lib.hid hkd
  clear hkd
  obtain ⟨id, hid⟩ : ∃ x, x = p.id := ⟨_, rfl⟩
  rw [← hid] at HC1
  have HID := Lib.hid hid
  clear hid
  go_enter Tryz.func33, Tryz.ntmps33
  go_wp2_with (first | refine wpk_box HCS.out _ rfl rfl rfl ?_ | refine wpk_alloc HZ.out rfl rfl ?_)
  rw [← HW2.out]
  refine wp_region_held_drew (S := fun W => BrIn w c W) (by kernel_rfl) ?_ (fun hHeld => ?_)
  · first | exact HI.out | exact HI.out.drewN 1
  refine wpAnyH_take (i := 0) (oi := { dst := some 4, op := Op.fieldAddr 29 (Operand.tmp 1) 0, type := 0, pos := _, after := _, guard := none }) (v := .pointer (some ⟨w.heap.size, 0, none⟩)) rfl (by kernel_rfl) (by kernel_rfl) (by kernel_rfl) (fun _ _ _ h => h) (Or.inl ⟨by rfl, fun w' hs => ?_⟩) (by assumption) ?_
  · go_simp
  simp only [Act.put, List.setIfInBounds_toArray, List.set_cons_zero, List.set_cons_succ]
  refine wpAnyH_take (i := 1) (oi := { dst := some 5, op := Op.load 3 (Operand.tmp 4), type := 3, pos := _, after := _, guard := none }) (v := .int .i64 kd) rfl (by kernel_rfl) (by kernel_rfl) (by kernel_rfl) (fun _ _ _ h => h) (Or.inl ⟨by rfl, fun w' hs => ?_⟩) (by assumption) ?_
  · have hh : w'.cell? ⟨w.heap.size, 0, none⟩ = some (.int .i64 kd) := (hs.box.cell 0).trans HC0.out
    go_simp
  simp only [Act.put, List.setIfInBounds_toArray, List.set_cons_zero, List.set_cons_succ]
  refine wpAnyH_take (i := 2) (oi := { dst := some 6, op := Op.fieldAddr 29 (Operand.tmp 1) 1, type := 0, pos := _, after := _, guard := none }) (v := .pointer (some ⟨w.heap.size, 1, none⟩)) rfl (by kernel_rfl) (by kernel_rfl) (by kernel_rfl) (fun _ _ _ h => h) (Or.inl ⟨by rfl, fun w' hs => ?_⟩) (by assumption) ?_
  · go_simp
  simp only [Act.put, List.setIfInBounds_toArray, List.set_cons_zero, List.set_cons_succ]
  refine wpAnyH_take (i := 3) (oi := { dst := some 7, op := Op.load 3 (Operand.tmp 6), type := 3, pos := _, after := _, guard := none }) (v := .int .i64 id) rfl (by kernel_rfl) (by kernel_rfl) (by kernel_rfl) (fun _ _ _ h => h) (Or.inl ⟨by rfl, fun w' hs => ?_⟩) (by assumption) ?_
  · have hh : w'.cell? ⟨w.heap.size, 1, none⟩ = some (.int .i64 id) := (hs.box.cell 1).trans HC1.out
    go_simp
  simp only [Act.put, List.setIfInBounds_toArray, List.set_cons_zero, List.set_cons_succ]
  refine wpAnyH_take (i := 4) (oi := { dst := some 8, op := Op.fieldAddr 29 (Operand.tmp 1) 3, type := 0, pos := _, after := _, guard := none }) (v := .pointer (some ⟨w.heap.size, 3, none⟩)) rfl (by kernel_rfl) (by kernel_rfl) (by kernel_rfl) (fun _ _ _ h => h) (Or.inl ⟨by rfl, fun w' hs => ?_⟩) (by assumption) ?_
  · go_simp
  simp only [Act.put, List.setIfInBounds_toArray, List.set_cons_zero, List.set_cons_succ]
  refine wpAnyH_take (i := 5) (oi := { dst := some 9, op := Op.load 22 (Operand.tmp 8), type := 22, pos := _, after := _, guard := none }) (v := .slice A.pa p.props.length A.pc) rfl (by kernel_rfl) (by kernel_rfl) (by kernel_rfl) (fun _ _ _ h => h) (Or.inl ⟨by rfl, fun w' hs => ?_⟩) (by assumption) ?_
  · have hh : w'.cell? ⟨w.heap.size, 3, none⟩ = some (.slice A.pa p.props.length A.pc) := (hs.box.cell 3).trans HC3.out
    go_simp
  simp only [Act.put, List.setIfInBounds_toArray, List.set_cons_zero, List.set_cons_succ]
  refine wpAnyH_ready (rs := [6, 8]) (by kernel_rfl) (by simp) ?_
  refine AllReadyH.cons (o := { dst := some 10, op := Op.call { callee := Callee.value (Operand.func 79), args := #[Operand.tmp 9], argTypes := #[22] }, type := 22, pos := _, after := _, guard := none }) rfl (fun K hK => ?_) (AllReadyH.cons (o := { dst := some 3, op := Op.alloc 29, type := 0, pos := _, after := _, guard := none }) rfl (fun K hK => ?_) AllReadyH.nil)
  case' refine_1 =>
    go_simp
    refine (rplain_any p.props.length A.pc rfl (HP.out.pr.below hHeld.bel) hm).mono ?_
    rintro x w5 ⟨a5, n5, c5, rfl, hn5, hr5, hb5⟩
    have hi5 := hHeld.below hb5
    have HR5 := Lib.hid hr5
    have HN5 := Lib.hid hn5
    clear hb5
    clear hn5 hr5
    go_wp2_with fail
    refine hK.out _ _ ?_ (fun hHeld6 => ?_)
    · exact hi5
    clear hK K
    try simp only [Act.put, List.setIfInBounds_toArray, List.set_cons_zero, List.set_cons_succ]
    refine wpAnyH_take (i := 7) (oi := { dst := some 11, op := Op.build 29 #[(0, Operand.tmp 5), (1, Operand.tmp 7), (3, Operand.tmp 10)], type := 29, pos := _, after := _, guard := none }) (v := .agg #[.int .i64 kd, .int .i64 id, .int .i64 0, .slice a5 n5 c5, .bool false, .int .i64 0, .string ⟨#[]⟩, .bool false, .string ⟨#[]⟩, .string ⟨#[]⟩, .int .i64 0, .bool false, .slice none 0 0, .bool false, .string ⟨#[]⟩, .bool false, .string ⟨#[]⟩, .bool false, .string ⟨#[]⟩, .string ⟨#[]⟩, .int .i64 0, .bool false, .bool false, .slice none 0 0, .slice none 0 0, .slice none 0 0]) rfl (by kernel_rfl) (by kernel_rfl) (by kernel_rfl) (fun _ _ _ h => h) (Or.inl ⟨by rfl, fun w' hs => ?_⟩) (by assumption) ?_
    · go_simp
    simp only [Act.put, List.setIfInBounds_toArray, List.set_cons_zero, List.set_cons_succ]
    refine wpAnyH_ready (rs := [8]) (by kernel_rfl) (by simp) ?_
    refine AllReadyH.cons (o := { dst := some 3, op := Op.alloc 29, type := 0, pos := _, after := _, guard := none }) rfl (fun K hK => ?_) AllReadyH.nil
    rw [if_pos (by kernel_rfl)]
    unfold Oper.wp execOp
    simp only [Instr.alloc, Sem.run_bind, zv_pkt, Result.andThen_ok, newVar, nr_pkt, Value.cells, Sem.run_pure]
    rw [← HZ.out]
    obtain ⟨k, hk, hk2, hi6, bk⟩ := hi5.made z
    refine hK _ _ ?_ (fun hHeld7 => ?_)
    · exact hi6
    clear hK K
    try simp only [Act.put, List.setIfInBounds_toArray, List.set_cons_zero, List.set_cons_succ]
    refine wpAnyH_ready (rs := [9]) (by kernel_rfl) (by simp) ?_
    refine AllReadyH.cons (o := { dst := none, op := Op.store 29 (Operand.tmp 3) (Operand.tmp 11), type := 0, pos := _, after := _, guard := none }) rfl (fun K hK => ?_) AllReadyH.nil
    rw [if_pos (by kernel_rfl)]
    obtain ⟨y, hy⟩ : ∃ y : Array Value, y = #[.int .i64 kd, .int .i64 id, .int .i64 0, .slice a5 n5 c5, .bool false, .int .i64 0, .string ⟨#[]⟩, .bool false, .string ⟨#[]⟩, .string ⟨#[]⟩, .int .i64 0, .bool false, .slice none 0 0, .bool false, .string ⟨#[]⟩, .bool false, .string ⟨#[]⟩, .bool false, .string ⟨#[]⟩, .string ⟨#[]⟩, .int .i64 0, .bool false, .bool false, .slice none 0 0, .slice none 0 0, .slice none 0 0] := ⟨_, rfl⟩
    have hys : y.size = 26 := by rw [hy]; rfl
    have hy1 : y.all (·.oneCell') = true := by rw [hy]; simp [Value.oneCell']
    refine wp_store_row 29 (Operand.tmp 3) (Operand.tmp 11) rfl k y (by rw [hk]; rfl) (by rw [hy]; rfl) 29 z bk (by rw [hys]; exact ip_pkt) (by rw [HZS.out, hys]) hy1 ?_
    have hi8 := hi6.far hk2 y
    refine hK _ _ ?_ (fun hHeld8 => ?_)
    · exact hi8
    have r3 := setRow_blk bk y
    have hpi := ((HR5.out.pin (B' := w.heap.size)).below ((Below.refl _ _).alloc (Nat.le_refl _) (.cells z 29))).row bk (by omega) y
    have HIF := Lib.hid hi8
    have HRF := Lib.hid r3
    have HPF := Lib.hid hpi
    have HKF := Lib.hid hk2
    have HYF := Lib.hid hy
    refine wpAnyH_done (by kernel_rfl) ?_ _
    generalize hWF : World.setRow _ k y = WF at HIF HRF HPF ⊢
    first | rw [← hk] | rw [show W2.heap.size = k from hk.symm]
    clear hK K hpi r3 hi8 hi5 hHeld hHeld6 hHeld7 hHeld8 bk hi6 hk2 hWF hk hy
  case' refine_2 =>
    rw [if_pos (by kernel_rfl)]
    unfold Oper.wp execOp
    simp only [Instr.alloc, Sem.run_bind, zv_pkt, Result.andThen_ok, newVar, nr_pkt, Value.cells, Sem.run_pure]
    rw [← HZ.out]
    obtain ⟨k, hk, hk2, hi6, bk⟩ := hHeld.made z
    refine hK _ _ ?_ (fun hHeld7 => ?_)
    · exact hi6
    clear hK K
    try simp only [Act.put, List.setIfInBounds_toArray, List.set_cons_zero, List.set_cons_succ]
    refine wpAnyH_ready (rs := [6]) (by kernel_rfl) (by simp) ?_
    refine AllReadyH.cons (o := { dst := some 10, op := Op.call { callee := Callee.value (Operand.func 79), args := #[Operand.tmp 9], argTypes := #[22] }, type := 22, pos := _, after := _, guard := none }) rfl (fun K hK => ?_) AllReadyH.nil
    go_simp
    refine (rplain_any p.props.length A.pc rfl (HP.out.pr.below hi6.bel) hm).mono ?_
    rintro x w5 ⟨a5, n5, c5, rfl, hn5, hr5, hb5⟩
    have hi5 := hi6.below hb5
    have HR5 := Lib.hid hr5
    have HN5 := Lib.hid hn5
    have bk5 := bk.below hb5 bk.lt
    clear hb5
    clear hn5 hr5
    go_wp2_with fail
    refine hK.out _ _ ?_ (fun hHeld6 => ?_)
    · exact hi5
    clear hK K
    try simp only [Act.put, List.setIfInBounds_toArray, List.set_cons_zero, List.set_cons_succ]
    refine wpAnyH_take (i := 7) (oi := { dst := some 11, op := Op.build 29 #[(0, Operand.tmp 5), (1, Operand.tmp 7), (3, Operand.tmp 10)], type := 29, pos := _, after := _, guard := none }) (v := .agg #[.int .i64 kd, .int .i64 id, .int .i64 0, .slice a5 n5 c5, .bool false, .int .i64 0, .string ⟨#[]⟩, .bool false, .string ⟨#[]⟩, .string ⟨#[]⟩, .int .i64 0, .bool false, .slice none 0 0, .bool false, .string ⟨#[]⟩, .bool false, .string ⟨#[]⟩, .bool false, .string ⟨#[]⟩, .string ⟨#[]⟩, .int .i64 0, .bool false, .bool false, .slice none 0 0, .slice none 0 0, .slice none 0 0]) rfl (by kernel_rfl) (by kernel_rfl) (by kernel_rfl) (fun _ _ _ h => h) (Or.inl ⟨by rfl, fun w' hs => ?_⟩) (by assumption) ?_
    · go_simp
    simp only [Act.put, List.setIfInBounds_toArray, List.set_cons_zero, List.set_cons_succ]
    refine wpAnyH_ready (rs := [9]) (by kernel_rfl) (by simp) ?_
    refine AllReadyH.cons (o := { dst := none, op := Op.store 29 (Operand.tmp 3) (Operand.tmp 11), type := 0, pos := _, after := _, guard := none }) rfl (fun K hK => ?_) AllReadyH.nil
    rw [if_pos (by kernel_rfl)]
    obtain ⟨y, hy⟩ : ∃ y : Array Value, y = #[.int .i64 kd, .int .i64 id, .int .i64 0, .slice a5 n5 c5, .bool false, .int .i64 0, .string ⟨#[]⟩, .bool false, .string ⟨#[]⟩, .string ⟨#[]⟩, .int .i64 0, .bool false, .slice none 0 0, .bool false, .string ⟨#[]⟩, .bool false, .string ⟨#[]⟩, .bool false, .string ⟨#[]⟩, .string ⟨#[]⟩, .int .i64 0, .bool false, .bool false, .slice none 0 0, .slice none 0 0, .slice none 0 0] := ⟨_, rfl⟩
    have hys : y.size = 26 := by rw [hy]; rfl
    have hy1 : y.all (·.oneCell') = true := by rw [hy]; simp [Value.oneCell']
    refine wp_store_row 29 (Operand.tmp 3) (Operand.tmp 11) rfl k y (by rw [hk]; rfl) (by rw [hy]; rfl) 29 z bk5 (by rw [hys]; exact ip_pkt) (by rw [HZS.out, hys]) hy1 ?_
    have hi8 := hi5.far hk2 y
    refine hK _ _ ?_ (fun hHeld8 => ?_)
    · exact hi8
    have r3 := setRow_blk bk5 y
    have hpi := (HR5.out.pin (B' := w.heap.size)).row bk5 (by omega) y
    have HIF := Lib.hid hi8
    have HRF := Lib.hid r3
    have HPF := Lib.hid hpi
    have HKF := Lib.hid hk2
    have HYF := Lib.hid hy
    refine wpAnyH_done (by kernel_rfl) ?_ _
    generalize hWF : World.setRow _ k y = WF at HIF HRF HPF ⊢
    first | rw [← hk] | rw [show W2.heap.size = k from hk.symm]
    clear hK K hpi r3 hi8 hi5 hHeld hHeld6 hHeld7 hHeld8 bk bk5 hi6 hk2 hWF hk hy
  all_goals
    have hlen : (plL p.props).length ≤ c5 := by
      obtain ⟨a', n', c', e', hn', hc'⟩ := HR5.out.some_form
      injection e' with e1 e2 e3
      omega
    have HLN := Lib.hid hlen
    have k0 : WF.cell? ⟨w.heap.size, 0, none⟩ = some (.int .i64 kd) := (HIF.out.box.cell 0).trans HC0.out
    clear hlen HI
    have hq := HQ.out
    rw [← HKD.out] at hq
    have hfl := HP.out.sb
    have hcd := HP.out.cd
    by_cases h10 : kd = 8
    · rw [if_pos h10] at hq
      have k23 : WF.cell? ⟨w.heap.size, 23, none⟩ = some (.slice A.sa p.subs.length A.sc) := (HIF.out.box.cell 23).trans HC23.out
      have x23 : WF.cell? ⟨k, 23, none⟩ = some (.slice none 0 0) := (HRF.out.cell 23).trans (by rw [HYF.out]; rfl)
      have f23 := HRF.out.frozen 23
      have hi9 := HIF.out.farc HKF.out 23 (.slice A.sa p.subs.length A.sc)
      have hr9 := HRF.out.store 23 (.slice A.sa p.subs.length A.sc)
      have hp9 := HPF.out.cell HRF.out (by have := HKF.out; omega) 23 (.slice A.sa p.subs.length A.sc)
      have hf9 : CIn (WF.setCell ⟨k, 23, none⟩ (.slice A.sa p.subs.length A.sc)) w.heap.size 58 A.sa (p.subs.flatMap SV.cells) := (((HP.out.sb.mono hBw).below HIF.out.bel)).cell HRF.out (by have := HKF.out; omega) (by decide) 23 _
      obtain ⟨y2, hy2⟩ : ∃ y2, y2 = y.setIfInBounds 23 (.slice A.sa p.subs.length A.sc) := ⟨_, rfl⟩
      rw [← hy2] at hr9
      have ey : y2 = q.cells ⟨a5, c5, none, 0, A.sa, A.sc, none, 0, none, 0⟩ := by rw [hy2, HYF.out, hq, ← HID.out, HN5.out]; rfl
      have hX := hi9.good (r := q) (A' := ⟨a5, c5, none, 0, A.sa, A.sc, none, 0, none, 0⟩) (by
        rw [hq]
        exact ⟨hp9, HLN.out, PIn.nil _ _ _, Nat.le_refl _, hf9, CIn.nil _ _ _ _, CIn.nil _ _ _ _⟩) ey
      obtain ⟨o, ho, hos⟩ := hi9.res
      have HO := Lib.hid ho
      have HOS := Lib.hid hos
      have HX := Lib.hid hX
      have HBX := Lib.hid hr9
      have HYS := Lib.hid (show y2.size = 26 by rw [ey]; rfl)
      have HY1 := Lib.hid (show y2.all (·.oneCell') = true by rw [ey]; exact pk_one _ _)
      clear hi9 hr9 hp9 hf9 hy2 ey hX ho hos hq hfl hcd HPF HRF HIF
      go_wp2_with (first | refine wpk_load HBX.out HYS.out _ rfl rfl rfl ?_ | refine wpk_store HO.out HOS.out HYS.out HY1.out _ _ rfl rfl rfl rfl ?_)
      exact bodyPost_ret (v := .agg y2) (res_pkt1 (i := 2) rfl rfl HX.out.1 HYS.out) rfl HX.out.2
    · rw [if_neg h10] at hq
      have k25 : WF.cell? ⟨w.heap.size, 25, none⟩ = some (.slice A.ca p.codes.length A.cc) := (HIF.out.box.cell 25).trans HC25.out
      have x25 : WF.cell? ⟨k, 25, none⟩ = some (.slice none 0 0) := (HRF.out.cell 25).trans (by rw [HYF.out]; rfl)
      have f25 := HRF.out.frozen 25
      have hi9 := HIF.out.farc HKF.out 25 (.slice A.ca p.codes.length A.cc)
      have hr9 := HRF.out.store 25 (.slice A.ca p.codes.length A.cc)
      have hp9 := HPF.out.cell HRF.out (by have := HKF.out; omega) 25 (.slice A.ca p.codes.length A.cc)
      have hf9 : CIn (WF.setCell ⟨k, 25, none⟩ (.slice A.ca p.codes.length A.cc)) w.heap.size 3 A.ca (p.codes.flatMap iCell) := (((HP.out.cd.mono hBw).below HIF.out.bel)).cell HRF.out (by have := HKF.out; omega) (by decide) 25 _
      obtain ⟨y2, hy2⟩ : ∃ y2, y2 = y.setIfInBounds 25 (.slice A.ca p.codes.length A.cc) := ⟨_, rfl⟩
      rw [← hy2] at hr9
      have ey : y2 = q.cells ⟨a5, c5, none, 0, none, 0, none, 0, A.ca, A.cc⟩ := by rw [hy2, HYF.out, hq, ← HID.out, HN5.out]; rfl
      have hX := hi9.good (r := q) (A' := ⟨a5, c5, none, 0, none, 0, none, 0, A.ca, A.cc⟩) (by
        rw [hq]
        exact ⟨hp9, HLN.out, PIn.nil _ _ _, Nat.le_refl _, CIn.nil _ _ _ _, CIn.nil _ _ _ _, hf9⟩) ey
      obtain ⟨o, ho, hos⟩ := hi9.res
      have HO := Lib.hid ho
      have HOS := Lib.hid hos
      have HX := Lib.hid hX
      have HBX := Lib.hid hr9
      have HYS := Lib.hid (show y2.size = 26 by rw [ey]; rfl)
      have HY1 := Lib.hid (show y2.all (·.oneCell') = true by rw [ey]; exact pk_one _ _)
      clear hi9 hr9 hp9 hf9 hy2 ey hX ho hos hq hfl hcd HPF HRF HIF
      go_wp2_with (first | refine wpk_load HBX.out HYS.out _ rfl rfl rfl ?_ | refine wpk_store HO.out HOS.out HYS.out HY1.out _ _ rfl rfl rfl rfl ?_)
      exact bodyPost_ret (v := .agg y2) (res_pkt1 (i := 2) rfl rfl HX.out.1 HYS.out) rfl HX.out.2
end
end Go.Proofs.YtbfbmdjnobdjpaaGreatDoor
namespace Go.Proofs.YtbfbmdjnobdjpaaGreatDoor
set_option maxRecDepth 100000
open Go.ChangeShapes Go.WideShapes Go.RowKit Go.Deep Go.Extern.Stop Go.Stop Go.Extern
theorem ssame_any {w : World} {B B2 : Nat} {A A2 : Option Addr} {L : List SV} (h : CIn w B 58 A (L.flatMap SV.cells)) (h2 : CIn w B2 58 A2 (L.flatMap SV.cells)) (n c c2 : Nat) (hn : n = L.length) (hm : n ≤ 1000) : Calls Tryz.prog 76 #[.slice A n c, .slice A2 n c2] w fun x w' => x = .returned (.bool true) ∧ ∃ d : Nat, w' = w.drewN d := by
  by_cases hp : n = 0
  · subst hp
    clear h h2 hm hn
    go_enter Tryz.func76, Tryz.ntmps76
    go_wp2_with fail
    go_loop [5] (fun i => i = .int .i64 0) (fun _ => 0)
    case atStart => rfl
    case round =>
      subst hrel
      go_wp2_with fail
      go_ret
      exact ⟨rfl, 0, rfl⟩
  · have hl : 0 < (L.flatMap SV.cells).length := by rw [flat_len SV.cells 5 (fun _ => rfl)]; omega
    obtain ⟨g, off, rfl, hc, _⟩ := h hl
    obtain ⟨g2, off2, rfl, hc2, _⟩ := h2 hl
    have HC := Lib.hid hc
    have HC2 := Lib.hid hc2
    have HN := Lib.hid hn
    clear hc hc2 h h2 hn hl
    go_enter Tryz.func76, Tryz.ntmps76
    go_wp2_with fail
    go_loopw [5] (fun i wr => ∃ k d : Nat, k ≤ n ∧ i = .int .i64 k ∧ wr = w.drewN d) (fun i _ => n - (intOf i).toNat)
    case atStart => exact ⟨0, 0, by omega, rfl, rfl⟩
    case round =>
      obtain ⟨k, d, hk, rfl, hwr⟩ := hrel
      have HW := Lib.hid hwr
      by_cases hlt : k < n
      · obtain ⟨g0, g1, g2', g3, g4⟩ := sv_get L k (by have := HN.out; omega)
        have hcl : ∀ j u, (L.flatMap SV.cells)[j]? = some u → wr.cell? ⟨g, off + j, none⟩ = some u := fun j u hj => (World.cell?_of_block (w := w) (w' := wr) (a := ⟨g, off + j, none⟩) (by rw [hwr]; rfl)).trans (HC.out j u hj)
        have hcl2 : ∀ j u, (L.flatMap SV.cells)[j]? = some u → wr.cell? ⟨g2, off2 + j, none⟩ = some u := fun j u hj => (World.cell?_of_block (w := w) (w' := wr) (a := ⟨g2, off2 + j, none⟩) (by rw [hwr]; rfl)).trans (HC2.out j u hj)
        have a0 := hcl _ _ g0
        have a1 := hcl _ _ g1
        have a2 := hcl _ _ g2'
        have a3 := hcl _ _ g3
        have a4 := hcl _ _ g4
        have b0 := hcl2 _ _ g0
        have b1 := hcl2 _ _ g1
        have b2 := hcl2 _ _ g2'
        have b3 := hcl2 _ _ g3
        have b4 := hcl2 _ _ g4
        rw [← Nat.add_assoc] at a1 a2 a3 a4 b1 b2 b3 b4
        obtain ⟨p, hp'⟩ : ∃ p, p = L.getD k sv0 := ⟨_, rfl⟩
        rw [← hp'] at a0 a1 a2 a3 a4 b0 b1 b2 b3 b4
        clear hp' hwr g0 g1 g2' g3 g4 hcl hcl2
        go_wp2_with fail
        go_quiet (fail)
        go_wp2_with fail
        go_roundw
        case rel => exact ⟨k + 1, _, by omega, by go_num, drew_on HW.out _⟩
        case measure => simp [intOf]; omega
      · clear hwr
        go_wp2_with fail
        go_ret
        exact ⟨rfl, d, HW.out⟩
set_option maxHeartbeats 16000000 in
theorem same12 {w : World} {B B2 : Nat} {A A2 : PkA} {p : Pk} (h : PkIn w B A p) (h2 : PkIn w B2 A2 p) (hs : p.subs.length ≤ 1000) (hL : p.props.length ≤ 1000) (hM : p.wProps.length ≤ 1000) (hF : p.filters.length ≤ 1000) (hC : p.codes.length ≤ 1000) :
    Calls Tryz.prog 18 #[p.agg A, p.agg A2] w fun x w' => x = .returned (.bool true) ∧ Below w.heap.size w w' := by
  obtain ⟨kd, id, rs, L, cl, kp, ct, wh, wt, wp, wq, wr, M, hu, us, hp, ps, pr, tp, pl, qs, rt, dp, sb, fl, cd⟩ := p
  obtain ⟨xp, xpc, xw, xwc, xs, xsc, xf, xfc, xc, xcc⟩ := A
  obtain ⟨yp, ypc, yw, ywc, ys, ysc, yf, yfc, yc, ycc⟩ := A2
  simp only at hs hL hM hF hC
  obtain ⟨nL, hnL⟩ : ∃ n, n = L.length := ⟨_, rfl⟩
  obtain ⟨nM, hnM⟩ : ∃ n, n = M.length := ⟨_, rfl⟩
  obtain ⟨nF, hnF⟩ : ∃ n, n = fl.length := ⟨_, rfl⟩
  obtain ⟨nC, hnC⟩ : ∃ n, n = cd.length := ⟨_, rfl⟩
  obtain ⟨nS, hnS⟩ : ∃ n, n = sb.length := ⟨_, rfl⟩
  unfold Pk.agg Pk.cells
  dsimp only
  rw [← hnL, ← hnM, ← hnF, ← hnC, ← hnS]
  have b1 : Below w.heap.size w (w.alloc (.cells #[.int .i64 kd, .int .i64 id, .int .i64 rs, .slice xp nL xpc, .bool cl, .int .i64 kp, .string ct, .bool wh, .string wt, .string wp, .int .i64 wq, .bool wr, .slice xw nM xwc, .bool hu, .string us, .bool hp, .string ps, .bool pr, .string tp, .string pl, .int .i64 qs, .bool rt, .bool dp, .slice xs nS xsc, .slice xf nF xfc, .slice xc nC xcc] 29)) := (Below.refl _ _).alloc (Nat.le_refl _) _
  have b2 : Below (w.alloc (.cells #[.int .i64 kd, .int .i64 id, .int .i64 rs, .slice xp nL xpc, .bool cl, .int .i64 kp, .string ct, .bool wh, .string wt, .string wp, .int .i64 wq, .bool wr, .slice xw nM xwc, .bool hu, .string us, .bool hp, .string ps, .bool pr, .string tp, .string pl, .int .i64 qs, .bool rt, .bool dp, .slice xs nS xsc, .slice xf nF xfc, .slice xc nC xcc] 29)).heap.size (w.alloc (.cells #[.int .i64 kd, .int .i64 id, .int .i64 rs, .slice xp nL xpc, .bool cl, .int .i64 kp, .string ct, .bool wh, .string wt, .string wp, .int .i64 wq, .bool wr, .slice xw nM xwc, .bool hu, .string us, .bool hp, .string ps, .bool pr, .string tp, .string pl, .int .i64 qs, .bool rt, .bool dp, .slice xs nS xsc, .slice xf nF xfc, .slice xc nC xcc] 29)) ((w.alloc (.cells #[.int .i64 kd, .int .i64 id, .int .i64 rs, .slice xp nL xpc, .bool cl, .int .i64 kp, .string ct, .bool wh, .string wt, .string wp, .int .i64 wq, .bool wr, .slice xw nM xwc, .bool hu, .string us, .bool hp, .string ps, .bool pr, .string tp, .string pl, .int .i64 qs, .bool rt, .bool dp, .slice xs nS xsc, .slice xf nF xfc, .slice xc nC xcc] 29)).alloc (.cells #[.int .i64 kd, .int .i64 id, .int .i64 rs, .slice yp nL ypc, .bool cl, .int .i64 kp, .string ct, .bool wh, .string wt, .string wp, .int .i64 wq, .bool wr, .slice yw nM ywc, .bool hu, .string us, .bool hp, .string ps, .bool pr, .string tp, .string pl, .int .i64 qs, .bool rt, .bool dp, .slice ys nS ysc, .slice yf nF yfc, .slice yc nC ycc] 29)) := (Below.refl _ _).alloc (Nat.le_refl _) _
  have K1 := (Blk.made w 29 #[.int .i64 kd, .int .i64 id, .int .i64 rs, .slice xp nL xpc, .bool cl, .int .i64 kp, .string ct, .bool wh, .string wt, .string wp, .int .i64 wq, .bool wr, .slice xw nM xwc, .bool hu, .string us, .bool hp, .string ps, .bool pr, .string tp, .string pl, .int .i64 qs, .bool rt, .bool dp, .slice xs nS xsc, .slice xf nF xfc, .slice xc nC xcc]).below b2 (by rw [World.size_alloc]; omega)
  have K2 := Blk.made (w.alloc (.cells #[.int .i64 kd, .int .i64 id, .int .i64 rs, .slice xp nL xpc, .bool cl, .int .i64 kp, .string ct, .bool wh, .string wt, .string wp, .int .i64 wq, .bool wr, .slice xw nM xwc, .bool hu, .string us, .bool hp, .string ps, .bool pr, .string tp, .string pl, .int .i64 qs, .bool rt, .bool dp, .slice xs nS xsc, .slice xf nF xfc, .slice xc nC xcc] 29)) 29 #[.int .i64 kd, .int .i64 id, .int .i64 rs, .slice yp nL ypc, .bool cl, .int .i64 kp, .string ct, .bool wh, .string wt, .string wp, .int .i64 wq, .bool wr, .slice yw nM ywc, .bool hu, .string us, .bool hp, .string ps, .bool pr, .string tp, .string pl, .int .i64 qs, .bool rt, .bool dp, .slice ys nS ysc, .slice yf nF yfc, .slice yc nC ycc]
  rw [World.size_alloc] at K2
  have hb2 := b1.trans (b2.mono b1.size)
  have H1 := (h.below b1).below b2
  have H2 := (h2.below b1).below b2
  have HB2 := Lib.hid hb2
  have HS := Lib.hid (psame_any H1.pr H2.pr nL xpc ypc hnL (by omega))
  have HK1 := Lib.hid K1
  have HK2 := Lib.hid K2
  have HP1 := Lib.hid H1
  have HP2 := Lib.hid H2
  have HN := Lib.hid (And.intro hnL (And.intro hnM (And.intro hnF hnC)))
  have HM := Lib.hid hM
  have HF := Lib.hid hF
  have HC := Lib.hid hC
  have HSB := Lib.hid (And.intro hnS hs)
  clear b1 b2 K1 K2 hb2 H1 H2 h h2 hL hM hF hC hnL hnM hnF hnC hnS hs
  go_enter Tryz.func18, Tryz.ntmps18
  go_wp2_with fail
  refine HS.out.mono ?_
  rintro x w3 ⟨rfl, d, hd⟩
  have hb3 := below_drew hd
  have k1 := HK1.out.below hb3 HK1.out.lt
  have k2 := HK2.out.below hb3 HK2.out.lt
  have HQ1 := Lib.hid (HP1.out.below hb3)
  have HQ2 := Lib.hid (HP2.out.below hb3)
  have HB3 := Lib.hid (HB2.out.trans (hb3.mono HB2.out.size))
  have HWS := Lib.hid (wsame_any HQ1.out.wr HQ2.out.wr (by have := HM.out; omega) wh wt wp wq wr xwc ywc)
  rw [← HN.out.2.1] at HWS
  have HL1 := Lib.hid k1
  have HL2 := Lib.hid k2
  have c7 : w3.cell? ⟨w.heap.size, 7, none⟩ = some (.bool wh) := k1.cell 7
  have c8 : w3.cell? ⟨w.heap.size, 8, none⟩ = some (.string wt) := k1.cell 8
  have c9 : w3.cell? ⟨w.heap.size, 9, none⟩ = some (.string wp) := k1.cell 9
  have c10 : w3.cell? ⟨w.heap.size, 10, none⟩ = some (.int .i64 wq) := k1.cell 10
  have c11 : w3.cell? ⟨w.heap.size, 11, none⟩ = some (.bool wr) := k1.cell 11
  have c12 : w3.cell? ⟨w.heap.size, 12, none⟩ = some (.slice xw nM xwc) := k1.cell 12
  have d7 : w3.cell? ⟨w.heap.size + 1, 7, none⟩ = some (.bool wh) := k2.cell 7
  have d8 : w3.cell? ⟨w.heap.size + 1, 8, none⟩ = some (.string wt) := k2.cell 8
  have d9 : w3.cell? ⟨w.heap.size + 1, 9, none⟩ = some (.string wp) := k2.cell 9
  have d10 : w3.cell? ⟨w.heap.size + 1, 10, none⟩ = some (.int .i64 wq) := k2.cell 10
  have d11 : w3.cell? ⟨w.heap.size + 1, 11, none⟩ = some (.bool wr) := k2.cell 11
  have d12 : w3.cell? ⟨w.heap.size + 1, 12, none⟩ = some (.slice yw nM ywc) := k2.cell 12
  clear hd hb3 k1 k2 HS HK1 HK2 HP1 HP2 HB2
  go_wp2_with fail
  refine HWS.out.mono ?_
  rintro x w4 ⟨rfl, hb4⟩
  have k1 := HL1.out.below hb4 HL1.out.lt
  have k2 := HL2.out.below hb4 HL2.out.lt
  have HR1 := Lib.hid (HQ1.out.below hb4)
  have HR2 := Lib.hid (HQ2.out.below hb4)
  have HB4 := Lib.hid (HB3.out.trans (hb4.mono HB3.out.size))
  have e23 : w4.cell? ⟨w.heap.size, 23, none⟩ = some (.slice xs nS xsc) := k1.cell 23
  have f23 : w4.cell? ⟨w.heap.size + 1, 23, none⟩ = some (.slice ys nS ysc) := k2.cell 23
  have HSS := Lib.hid (ssame_any HR1.out.sb HR2.out.sb nS xsc ysc HSB.out.1 (by have := HSB.out.1; have := HSB.out.2; omega))
  have HM1 := Lib.hid k1
  have HM2 := Lib.hid k2
  clear c7 c8 c9 c10 c11 c12 d7 d8 d9 d10 d11 d12 hb4 k1 k2 HWS HL1 HL2 HQ1 HQ2 HB3
  go_wp2_with fail
  refine HSS.out.mono ?_
  rintro x w5 ⟨rfl, d5, hd5⟩
  have hb5 := below_drew hd5
  have k1 := HM1.out.below hb5 HM1.out.lt
  have k2 := HM2.out.below hb5 HM2.out.lt
  have HB5 := Lib.hid (HB4.out.trans (hb5.mono HB4.out.size))
  have HT1 := Lib.hid (HR1.out.below hb5)
  have HT2 := Lib.hid (HR2.out.below hb5)
  have e24 : w5.cell? ⟨w.heap.size, 24, none⟩ = some (.slice xf nF xfc) := k1.cell 24
  have f24 : w5.cell? ⟨w.heap.size + 1, 24, none⟩ = some (.slice yf nF yfc) := k2.cell 24
  have HT := Lib.hid (tsame_any HT1.out.fl HT2.out.fl nF xfc yfc HN.out.2.2.1 (by have := HN.out.2.2.1; have := HF.out; omega))
  have HN1 := Lib.hid k1
  have HN2 := Lib.hid k2
  clear e23 f23 hd5 hb5 k1 k2 HSS HM1 HM2 HR1 HR2 HB4
  go_wp2_with fail
  refine HT.out.mono ?_
  rintro x w6 ⟨rfl, d, hd⟩
  have hb6 := below_drew hd
  have k1 := HN1.out.below hb6 HN1.out.lt
  have k2 := HN2.out.below hb6 HN2.out.lt
  have HB6 := Lib.hid (HB5.out.trans (hb6.mono HB5.out.size))
  have e25 : w6.cell? ⟨w.heap.size, 25, none⟩ = some (.slice xc nC xcc) := k1.cell 25
  have f25 : w6.cell? ⟨w.heap.size + 1, 25, none⟩ = some (.slice yc nC ycc) := k2.cell 25
  have HI := Lib.hid (isame_any (HT1.out.below hb6).cd (HT2.out.below hb6).cd nC xcc ycc HN.out.2.2.2 (by have := HN.out.2.2.2; have := HC.out; omega))
  clear e24 f24 hd hb6 k1 k2 HT HN1 HN2 HT1 HT2 HB5
  go_wp2_with fail
  refine HI.out.mono ?_
  rintro x w7 ⟨rfl, d, hd⟩
  have HB7 := Lib.hid (HB6.out.trans ((below_drew hd).mono HB6.out.size))
  clear hd HI
  go_wp2_with fail
  go_ret
  exact ⟨rfl, HB7.out⟩
theorem same_ok12 {w : World} {B B2 : Nat} {A A2 : PkA} {p : Pk} (h : PkIn w B A p) (h2 : PkIn w B2 A2 p) (hk : SmO p) :
    Calls Tryz.prog 18 #[p.agg A, p.agg A2] w fun x w' => x = .returned (.bool true) ∧ Below w.heap.size w w' := same12 h h2 hk.sb hk.pr hk.wr hk.fl hk.cd
theorem smO_zero : SmO pk0 := ⟨Nat.zero_le _, Nat.zero_le _, Nat.zero_le _, Nat.zero_le _, Nat.zero_le _⟩
end Go.Proofs.YtbfbmdjnobdjpaaGreatDoor
namespace Go.Proofs.YtbfbmdjnobdjpaaGreatDoor
set_option maxRecDepth 100000
open Go.ChangeShapes Go.WideShapes Go.RowKit Go.Deep Go.Extern.Stop Go.Stop Go.Extern
def sAw12 : SV := ⟨⟨#[97, 47, 35]⟩, 1, true, false, 2⟩
def awS12 : Pk := pkS 8 7 [] [sAw12] [] []
def awT12 : Pk := pkS 9 1 [] [] [] [2]
theorem aw12_e : enS awS12 = ⟨e00, 130, ⟨#[0, 7, 0, 0, 3, 97, 47, 35, 37]⟩⟩ := by kernel_rfl
theorem aw12_d : dcS 130 ⟨#[0, 7, 0, 0, 3, 97, 47, 35, 37]⟩ = (e00, awS12) := by kernel_rfl
theorem aw12_h : dcS 144 ⟨#[0, 1, 0, 2]⟩ = (e00, awT12) := by kernel_rfl
theorem smS_aw : SmS awS12 := ⟨small_of8 (fun p hp => by cases hp) (by decide) (by decide), by decide, by decide, fun x hx => by obtain rfl := List.mem_singleton.mp (show x ∈ [sAw12] from hx); decide⟩
theorem okS_aw : SmO awS12 := ⟨by decide, Nat.zero_le _, Nat.zero_le _, Nat.zero_le _, Nat.zero_le _⟩
def paS (k : Nat) : PkA := ⟨none, 0, none, 0, some ⟨k, 0, none⟩, 1, none, 0, none, 0⟩
theorem pkS_in {w : World} {k : Nat} (h : Blk w k 58 #[.string ⟨#[97, 47, 35]⟩, .int .i64 1, .bool true, .bool false, .int .i64 2]) (B : Nat) : PkIn w B (paS k) awS12 := by
  refine ⟨PIn.nil _ _ _, Nat.zero_le _, PIn.nil _ _ _, Nat.zero_le _, ?_, CIn.nil _ _ _ _, CIn.nil _ _ _ _⟩
  intro _
  refine ⟨k, 0, rfl, fun j u hj => ?_, .inr ⟨_, h⟩⟩
  rw [Nat.zero_add]
  have hj' : ([Value.string ⟨#[97, 47, 35]⟩, .int .i64 1, .bool true, .bool false, .int .i64 2] : List Value)[j]? = some u := hj
  rw [← List.getElem?_toArray] at hj'
  exact (h.cell j).trans hj'
section
variable {w w' : World} {S : Nat → Addr}
set_option maxHeartbeats 8000000 in
theorem awake12 (hE : Env w S) : Calls Tryz.prog 28 #[] w fun x w' => x = .returned (.bool true) ∧ Below w.heap.size w w' := by
  have HE := Lib.hid hE
  obtain ⟨z, hz⟩ : ∃ z, z = pk0.cells pa0 := ⟨_, rfl⟩
  have HZ := Lib.hid hz
  have HZS := Lib.hid (show z.size = 26 by rw [hz]; rfl)
  obtain ⟨w0', hw0⟩ : ∃ W, W = w.alloc (.cells #[.string ⟨#[97, 47, 35]⟩, .int .i64 1, .bool true, .bool false, .int .i64 2] 58) := ⟨_, rfl⟩
  have b0 : Below w.heap.size w w0' := by rw [hw0]; exact (Below.refl _ _).alloc (Nat.le_refl _) _
  have rs : Blk w0' w.heap.size 58 #[.string ⟨#[97, 47, 35]⟩, .int .i64 1, .bool true, .bool false, .int .i64 2] := by rw [hw0]; exact Blk.made _ _ _
  have hs0 : w0'.heap.size = w.heap.size + 1 := by rw [hw0, World.size_alloc]
  obtain ⟨c1, hc1⟩ : ∃ c, c = awS12.cells (paS w.heap.size) := ⟨_, rfl⟩
  have HC1 := Lib.hid hc1
  have HS1 := Lib.hid (show c1.size = 26 by rw [hc1]; rfl)
  have HO1 := Lib.hid (show c1.all (·.oneCell') = true by rw [hc1]; exact pk_one _ _)
  obtain ⟨W1, hW1⟩ : ∃ W, W = w0'.alloc (.cells c1 29) := ⟨_, rfl⟩
  have b01 : Below w0'.heap.size w0' W1 := by rw [hW1]; exact (Below.refl _ _).alloc (Nat.le_refl _) _
  have b1 := b0.trans (b01.mono b0.size)
  have RS := Lib.hid (rs.below b01 rs.lt)
  have hen := enc12 (p := awS12) (A := paS w.heap.size) (hE.later b1) (pkS_in RS.out _) smS_aw
  rw [aw12_e, show awS12.agg (paS w.heap.size) = .agg c1 from by rw [hc1]; rfl] at hen
  have HEN := Lib.hid hen
  have HB1 := Lib.hid b1
  have HW1 := Lib.hid hW1
  have K1 := Lib.hid (show Blk W1 (w.heap.size + 1) 29 c1 from by rw [hW1, ← hs0]; exact Blk.made w0' 29 c1)
  rw [hw0] at HW1
  have HL1 := Lib.hid (show Blk ((w.alloc (.cells #[.string ⟨#[97, 47, 35]⟩, .int .i64 1, .bool true, .bool false, .int .i64 2] 58)).alloc (.cells c1 29)) (w.heap.size + 1) 29 c1 from by rw [← HW1.out]; exact K1.out)
  have HL2 := Lib.hid (show Blk ((w.alloc (.cells #[.string ⟨#[97, 47, 35]⟩, .int .i64 1, .bool true, .bool false, .int .i64 2] 58)).alloc (.cells c1 29)) (w.alloc (.cells #[.string ⟨#[97, 47, 35]⟩, .int .i64 1, .bool true, .bool false, .int .i64 2] 58)).heap.size 29 c1 from by rw [World.size_alloc]; exact HL1.out)
  clear hE hz hc1 b0 rs hs0 b01 b1 hen hW1 hw0
  go_enter Tryz.func28, Tryz.ntmps28
  go_wp2_with (first | refine wpk_alloc HZ.out rfl rfl ?_ | refine wpk_store_new HZS.out (c := c1) HS1.out HO1.out _ _ rfl rfl rfl (by rw [HC1.out]; rfl) ?_ | refine wpk_load HL1.out HS1.out _ rfl rfl rfl ?_ | refine wpk_load HL2.out HS1.out _ rfl rfl rfl ?_)
  rw [← HW1.out]
  refine HEN.out.mono ?_
  rintro x w2 ⟨e2, rfl, he2, hb2⟩
  obtain rfl := err_zero8 he2 rfl
  simp only
  obtain ⟨W2, hW2⟩ : ∃ W, W = w2.alloc (.cells #[.int .i64 130, .string ⟨#[0, 7, 0, 0, 3, 97, 47, 35, 37]⟩] 33) := ⟨_, rfl⟩
  have hb2' : Below w2.heap.size w2 W2 := by rw [hW2]; exact (Below.refl _ _).alloc (Nat.le_refl _) _
  have HB2 := Lib.hid ((HB1.out.trans (hb2.mono HB1.out.size)).trans (hb2'.mono (HB1.out.trans (hb2.mono HB1.out.size)).size))
  have K12 := Lib.hid ((K1.out.below hb2 K1.out.lt).below hb2' (K1.out.below hb2 K1.out.lt).lt)
  have K22 := Lib.hid (show Blk W2 w2.heap.size 33 #[.int .i64 130, .string ⟨#[0, 7, 0, 0, 3, 97, 47, 35, 37]⟩] from by rw [hW2]; exact Blk.made _ _ _)
  have RS2 := Lib.hid ((RS.out.below hb2 RS.out.lt).below hb2' (RS.out.below hb2 RS.out.lt).lt)
  have hde := dec12 (HE.out.later HB2.out) (s := ⟨#[0, 7, 0, 0, 3, 97, 47, 35, 37]⟩) 130 (by decide)
  rw [aw12_d] at hde
  have HDE := Lib.hid hde
  have HW2 := Lib.hid hW2
  clear hb2 hb2' hde hW2 HEN HB1 K1
  go_wp2_with fail
  rw [← HW2.out]
  refine HDE.out.mono ?_
  rintro x w3 ⟨A3, e3, rfl, hp3, he3, hb3⟩
  obtain rfl := err_zero8 he3 rfl
  simp only at hp3 ⊢
  obtain ⟨c3, hc3⟩ : ∃ c, c = awS12.cells A3 := ⟨_, rfl⟩
  rw [show awS12.agg A3 = .agg c3 from by rw [hc3]; rfl]
  have HC3 := Lib.hid hc3
  have HS3 := Lib.hid (show c3.size = 26 by rw [hc3]; rfl)
  have HO3 := Lib.hid (show c3.all (·.oneCell') = true by rw [hc3]; exact pk_one _ _)
  obtain ⟨W3, hW3⟩ : ∃ W, W = w3.alloc (.cells c3 29) := ⟨_, rfl⟩
  have hb3' : Below w3.heap.size w3 W3 := by rw [hW3]; exact (Below.refl _ _).alloc (Nat.le_refl _) _
  have HB3 := Lib.hid ((HB2.out.trans (hb3.mono HB2.out.size)).trans (hb3'.mono (HB2.out.trans (hb3.mono HB2.out.size)).size))
  have K13 := Lib.hid ((K12.out.below hb3 K12.out.lt).below hb3' (K12.out.below hb3 K12.out.lt).lt)
  have K23 := Lib.hid ((K22.out.below hb3 K22.out.lt).below hb3' (K22.out.below hb3 K22.out.lt).lt)
  have K33 := Lib.hid (show Blk W3 w3.heap.size 29 c3 from by rw [hW3]; exact Blk.made _ _ _)
  have P3 := Lib.hid (hp3.below hb3')
  have RS3 := Lib.hid ((RS2.out.below hb3 RS2.out.lt).below hb3' (RS2.out.below hb3 RS2.out.lt).lt)
  have hde := dec12 (HE.out.later HB3.out) (s := ⟨#[0, 1, 0, 2]⟩) 144 (by decide)
  rw [aw12_h] at hde
  have HDE := Lib.hid hde
  have HW3 := Lib.hid hW3
  clear hb3 hb3' hde hW3 hp3 HB2 K12 K22 hc3
  go_wp2_with (first | refine wpk_alloc HZ.out rfl rfl ?_ | refine wpk_store_new HZS.out (c := c3) HS3.out HO3.out _ _ rfl rfl rfl rfl ?_)
  rw [← HW3.out]
  refine HDE.out.mono ?_
  rintro x w5 ⟨A5, e5, rfl, hp5, he5, hb5⟩
  obtain rfl := err_zero8 he5 rfl
  simp only
  obtain ⟨c5, hc5⟩ : ∃ c, c = awT12.cells A5 := ⟨_, rfl⟩
  rw [show awT12.agg A5 = .agg c5 from by rw [hc5]; rfl]
  have HC50 := Lib.hid (show c5[0]? = some (.int .i64 9) by rw [hc5]; rfl)
  have HC55 := Lib.hid (show c5[25]? = some (.slice A5.ca 1 A5.cc) by rw [hc5]; rfl)
  have HS5 := Lib.hid (show c5.size = 26 by rw [hc5]; rfl)
  have HO5 := Lib.hid (show c5.all (·.oneCell') = true by rw [hc5]; exact pk_one _ _)
  obtain ⟨W5, hW5⟩ : ∃ W, W = w5.alloc (.cells c5 29) := ⟨_, rfl⟩
  have hb5' : Below w5.heap.size w5 W5 := by rw [hW5]; exact (Below.refl _ _).alloc (Nat.le_refl _) _
  have HB5 := Lib.hid ((HB3.out.trans (hb5.mono HB3.out.size)).trans (hb5'.mono (HB3.out.trans (hb5.mono HB3.out.size)).size))
  have K15 := Lib.hid ((K13.out.below hb5 K13.out.lt).below hb5' (K13.out.below hb5 K13.out.lt).lt)
  have k25 := (K23.out.below hb5 K23.out.lt).below hb5' (K23.out.below hb5 K23.out.lt).lt
  have K35 := Lib.hid ((K33.out.below hb5 K33.out.lt).below hb5' (K33.out.below hb5 K33.out.lt).lt)
  have P5 := Lib.hid ((P3.out.below hb5).below hb5')
  have RS5 := Lib.hid ((RS3.out.below hb5 RS3.out.lt).below hb5' (RS3.out.below hb5 RS3.out.lt).lt)
  have K55 := Lib.hid (show Blk W5 w5.heap.size 29 c5 from by rw [hW5]; exact Blk.made _ _ _)
  have f0 : (w5.alloc (.cells c5 29)).cell? ⟨w2.heap.size, 0, none⟩ = some (.int .i64 130) := by rw [← hW5]; exact k25.cell 0
  have f1 : (w5.alloc (.cells c5 29)).cell? ⟨w2.heap.size, 1, none⟩ = some (.string ⟨#[0, 7, 0, 0, 3, 97, 47, 35, 37]⟩) := by rw [← hW5]; exact k25.cell 1
  have KX3 := Lib.hid (show Blk (w5.alloc (.cells c5 29)) w3.heap.size 29 c3 from by rw [← hW5]; exact K35.out)
  have KX1 := Lib.hid (show Blk (w5.alloc (.cells c5 29)) (w.heap.size + 1) 29 c1 from by rw [← hW5]; exact K15.out)
  have hsm := same_ok12 (p := awS12) (A2 := paS w.heap.size) P5.out (pkS_in RS5.out W5.heap.size) okS_aw
  rw [show awS12.agg A3 = .agg c3 from by rw [HC3.out]; rfl, show awS12.agg (paS w.heap.size) = .agg c1 from by rw [HC1.out]; rfl] at hsm
  have HSM := Lib.hid hsm
  have HW5 := Lib.hid hW5
  clear hb5 hb5' hW5 hp5 HB3 K13 K23 K33 P3 hc5 k25 hsm HDE
  go_wp2_with (first | refine wpk_alloc HZ.out rfl rfl ?_ | refine wpk_store_new HZS.out (c := c5) HS5.out HO5.out _ _ rfl rfl rfl rfl ?_ | refine wpk_load_g KX3.out HS3.out _ rfl rfl rfl ?_ | refine wpk_load_g KX1.out HS1.out _ rfl rfl rfl ?_)
  rw [← HW5.out]
  refine HSM.out.mono ?_
  rintro x w6 ⟨rfl, hb6⟩
  have HB6 := Lib.hid (HB5.out.trans (hb6.mono HB5.out.size))
  have k56 := K55.out.below hb6 K55.out.lt
  have g0 : w6.cell? ⟨w5.heap.size, 0, none⟩ = some (.int .i64 9) := (k56.cell 0).trans HC50.out
  have g25 : w6.cell? ⟨w5.heap.size, 25, none⟩ = some (.slice A5.ca 1 A5.cc) := (k56.cell 25).trans HC55.out
  clear hb6 f0 f1 HSM k56
  go_wp2_with fail
  go_ret
  exact ⟨rfl, HB6.out⟩
end
end Go.Proofs.YtbfbmdjnobdjpaaGreatDoor
